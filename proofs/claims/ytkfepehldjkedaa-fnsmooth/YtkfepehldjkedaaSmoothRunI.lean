/-
  A run of the richest, by impl: impl.SmoothRun.
-/
import Derived.Test.YtkfepehldjkedaaSmoothNextI
import Derived.Test.YtkfepehldjkedaaSmoothRunS
namespace Go.Proofs.Ytkfepehldjkedaa.Crew
open Go.ChangeShapes Go.WideShapes Go.ChangeAt Go.RowKit

attribute [local go_sem ↓] Go.wp_at_zero Go.wp_at_succ

theorem Lr.set {w : World} {s bx : Nat} {b d : Option Addr} {lb cb ld cd g c : Nat} {cs rs tk : List Int} {wr : World} (h : Lr w s bx b lb cb d ld cd g c cs rs tk wr) (j : Nat) (v : Int) (hxg : bx ≠ g) : Lr w s bx b lb cb d ld cd g c cs rs (tk.set j v) (wr.setCell ⟨g, j, none⟩ (.int .i64 v)) := by
  have gs := h.gs
  have key : ∀ {a : Option Addr} {l k : Nat} {xs : List Int}, Fit wr (s + 2) a l k xs → Apart a (some ⟨g, 0, none⟩) → Fit (wr.setCell ⟨g, j, none⟩ (.int .i64 v)) (s + 2) a l k xs := fun hf ha => hf.other (grown_at wr g j _) (fun x hx => by have := ha x ⟨g, 0, none⟩ hx rfl; simpa using this)
  exact ⟨h.var.past hxg _, key h.crew h.a1, key h.rich h.a2, h.apart, h.row.set j v, h.a1, h.a2, h.gs, h.res.past (by omega) _, below_set h.bel (by omega) _⟩

theorem set_getD (l : List Int) (j : Nat) (v : Int) (h : j < l.length) : (l.set j v).getD j 0 = v := by
  simp [List.getD, h]

theorem taken_set (cs rs : List Int) {j N : Nat} (h : j < N) : (takenTo cs rs j ++ List.replicate (N - j) 0).set j (best cs (richAt cs rs j) : Int) = takenTo cs rs (j + 1) ++ List.replicate (N - (j + 1)) 0 := by
  rw [show N - j = (N - (j + 1)) + 1 by omega, List.replicate_succ, List.set_append_right _ _ (by rw [taken_length]; omega), taken_length, Nat.sub_self, List.set_cons_zero, taken_succ, List.append_assoc]
  rfl

/-- What is laid ahead of the loop. -/
structure L0 (w : World) (s bo gC gR len len' : Nat) (cs rs : List Int) (wr : World) : Prop where
  var : Pair wr bo (.slice (some ⟨gC, 0, none⟩) len len) (.slice (some ⟨gR, 0, none⟩) len' len')
  crew : Row wr gC len cs
  rich : Row wr gR len' rs
  res : Pair wr (s + 1) (.slice none 0 0) (.slice none 0 0)
  bel : Below s w wr
  h1 : s + 1 < bo
  h2 : s + 1 < gC
  h3 : s + 1 < gR
  h4 : gC ≠ gR
  h5 : bo ≠ gC
  h6 : bo ≠ gR

theorem L0.start {w : World} {s bo gC gR len len' N : Nat} {cs rs : List Int} {wr : World} (h : L0 w s bo gC gR len len' cs rs wr) (hN : (N : Int) ≤ 1048576) (hc : cs.length = len) (hr : rs.length = len') :
    Lr w s bo (some ⟨gC, 0, none⟩) len len (some ⟨gR, 0, none⟩) len' len' wr.heap.size N cs rs (takenTo cs rs 0 ++ List.replicate (N - 0) 0) (wr.alloc (.cells (zeros N) 2)) := by
  have l1 := h.crew.lt
  have l2 := h.rich.lt
  have l3 := h.res.lt
  refine ⟨h.var.alloc _, (h.crew.alloc _).fit h.h2 hc, (h.rich.alloc _).fit h.h3 hr, ?_, ?_, ?_, ?_, by omega, h.res.alloc _, h.bel.alloc (by omega) _⟩
  · exact fun x y hx hy => by cases hx; cases hy; exact h.h4
  · simpa [takenTo] using row_zeros_at (X := wr) rfl N hN
  · exact fun x y hx hy => by cases hx; cases hy; exact (by simp; omega)
  · exact fun x y hx hy => by cases hx; cases hy; exact (by simp; omega)

set_option maxHeartbeats 4000000 in
/-- impl.SmoothRun at every two slices and number. -/
theorem implRun (a : Option Addr) (len cap : Nat) (cs : List Int) (a' : Option Addr) (len' cap' : Nat) (rs : List Int) (n : Int) (w : World) (I : Ints w a len cs) (J : Ints w a' len' rs) :
    Calls Try.prog 14 #[sm (.slice a len cap) (.slice a' len' cap'), .int .i64 n] w (RunPost cs rs n w) := by
  have HI : Hid (Ints w a len cs ∧ Ints w a' len' rs) := ⟨I, J⟩
  have hl := I.1
  have hl' := J.1
  clear I J
  obtain ⟨W0, hW0⟩ : ∃ W0, W0 = (w.alloc (.cells #[.slice a len cap, .slice a' len' cap'] 31)).alloc (.cells #[.slice none 0 0, .slice none 0 0] 31) := ⟨_, rfl⟩
  have hz : W0.heap.size = w.heap.size + 2 := by rw [hW0]; simp
  have H0 : Hid (Two W0 w.heap.size (.slice a len cap) (.slice a' len' cap') ∧ Pair W0 (w.heap.size + 1) (.slice none 0 0) (.slice none 0 0) ∧ Below w.heap.size w W0) := by
    rw [hW0]
    exact ⟨(two_new _ _ _ _).alloc _, pair_at (by simp) _ _, (below_new _ _).alloc (by simp) _⟩
  cases hk : smoothOk cs rs
  · have HK : Hid (smoothOk cs rs = false) := hk
    have HN : Hid (runOk cs rs n = false) := by
      show _ = _
      rw [runOk, okTo_false (k := 0) hk (Nat.zero_le _), Bool.and_false]
    clear hk
    go_enter Try.func14, Try.ntmps14
    go_wp2_with fail
    rw [← hW0]
    clear hW0
    refine (implSmooth a len cap cs a' len' cap' rs _ (HI.out.1.kept H0.out.2.2) (HI.out.2.kept H0.out.2.2)).mono ?_
    rw [HK.out]
    rintro e w1 ⟨rfl, B1⟩
    have H1 : Hid (Below w.heap.size w w1 ∧ Pair w1 (w.heap.size + 1) (.slice none 0 0) (.slice none 0 0)) := ⟨below_call H0.out.2.2 H0.out.2.2.size B1, H0.out.2.1.all B1⟩
    have l1 := H1.out.2.lt
    have n1 : ¬ w.heap.size + 1 = w1.heap.size := by omega
    have n2 : ¬ w1.heap.size = w.heap.size + 1 := by omega
    clear B1
    have p0 := H1.out.2.c0
    have p1 := H1.out.2.c1
    have f0 := H1.out.2.fr 0
    have f1 := H1.out.2.fr 1
    go_wp2_with fail
    refine bodyPost_ret (ret_pair2 rfl rfl rfl (((H1.out.2.set0 _).set1 _).alloc _)) rfl ?_
    exact run_end HN.out (by simp) (below_set (below_set H1.out.1 (by omega) _) (by omega) _)
  · cases hn : within n 0 3000
    · have HK : Hid (smoothOk cs rs = true) := hk
      have HN : Hid (runOk cs rs n = false ∧ within n 0 3000 = false) := ⟨by rw [runOk, hn, Bool.false_and], hn⟩
      clear hk hn
      go_enter Try.func14, Try.ntmps14
      go_wp2_with fail
      rw [← hW0]
      clear hW0
      refine (implSmooth a len cap cs a' len' cap' rs _ (HI.out.1.kept H0.out.2.2) (HI.out.2.kept H0.out.2.2)).mono ?_
      rw [HK.out]
      rintro e w1 ⟨rfl, B1⟩
      have H1 : Hid (Below w.heap.size w w1 ∧ Pair w1 (w.heap.size + 1) (.slice none 0 0) (.slice none 0 0)) := ⟨below_call H0.out.2.2 H0.out.2.2.size B1, H0.out.2.1.all B1⟩
      have l1 := H1.out.2.lt
      have n1 : ¬ w.heap.size + 1 = w1.heap.size := by omega
      have n2 : ¬ w1.heap.size = w.heap.size + 1 := by omega
      clear B1
      go_wp2_with fail
      refine (steps_any n _).mono ?_
      rw [HN.out.2]
      rintro e w2 ⟨rfl, rfl⟩
      have p0 := H1.out.2.c0
      have p1 := H1.out.2.c1
      have f0 := H1.out.2.fr 0
      have f1 := H1.out.2.fr 1
      go_wp2_with fail
      refine bodyPost_ret (ret_pair2 rfl rfl rfl (((H1.out.2.set0 _).set1 _).alloc _)) rfl ?_
      exact run_end HN.out.1 (by simp) (below_set (below_set H1.out.1 (by omega) _) (by omega) _)
    · have bn := within_yes hn
      obtain ⟨N, hN⟩ : ∃ N : Nat, n = (N : Int) := ⟨n.toNat, by omega⟩
      subst hN
      have HK : Hid (smoothOk cs rs = true ∧ within (N : Int) 0 3000 = true) := ⟨hk, hn⟩
      have h24 := crew_len (smooth_parts hk).1
      have h25 := (smooth_parts hk).2.1
      have hs : (len : Int) ≤ 1048576 := by omega
      have hs' : (len' : Int) ≤ 1048576 := by omega
      clear hk hn
      have hm := made_ints N (by omega)
      go_enter Try.func14, Try.ntmps14
      go_wp2_with fail
      rw [← hW0]
      clear hW0
      refine (implSmooth a len cap cs a' len' cap' rs _ (HI.out.1.kept H0.out.2.2) (HI.out.2.kept H0.out.2.2)).mono ?_
      rw [HK.out.1]
      rintro e w1 ⟨rfl, B1⟩
      have T : Two w1 w.heap.size (.slice a len cap) (.slice a' len' cap') := H0.out.1.all B1
      have P : Pair w1 (w.heap.size + 1) (.slice none 0 0) (.slice none 0 0) := H0.out.2.1.all B1
      have C : Below w.heap.size w w1 := below_call H0.out.2.2 H0.out.2.2.size B1
      have lP := P.lt
      clear B1 H0
      go_upto_region 3 with (go_at_call 41; refine (steps_any (N : Int) _).mono ?_; rw [HK.out.2]; rintro e w2 ⟨rfl, rfl⟩)
      have t0 := T.2.1
      have t1 := T.2.2
      have n1 : ¬ w.heap.size = w2.heap.size := by omega
      have n2 : ¬ w2.heap.size = w.heap.size := by omega
      have n0 : w.heap.size < w2.heap.size := by omega
      have PN0 : Pair (w2.alloc (.cells #[.slice none 0 0, .slice none 0 0] 31)) w2.heap.size (.slice none 0 0) (.slice none 0 0) := pair_new _ _ _
      go_cut [6] from 19 to 25 (fun q wx => ∃ bo gC gR : Nat, q = .pointer (some ⟨bo, 0, none⟩) ∧ Hid (L0 w w.heap.size bo gC gR len len' cs rs wx))
      case first =>
        go_region_held3 (fun w' => w'.cell? ⟨w.heap.size, 0, none⟩ = some (.slice a len cap) ∧ w'.cell? ⟨w.heap.size, 1, none⟩ = some (.slice a' len' cap')) (go_keep) (first | (go_at_call_of 40 (Value.slice a len cap); refine (copied_any _ _ _ cs _ ?_ hs).mono ?_; (first | (exact HI.out.1.kept C) | (exact HI.out.1.kept C.drew) | (exact (HI.out.1.kept C).alloc _) | (exact ((HI.out.1.kept C).alloc _).drew)); rintro e u1 ⟨rfl, R1, B1⟩; have T : Two u1 w.heap.size (.slice a len cap) (.slice a' len' cap') := (by first | (with_reducible exact Two.all T B1) | (with_reducible exact Two.all T.drew B1) | (with_reducible exact Two.all (T.alloc _) B1) | (with_reducible exact Two.all (T.alloc _).drew B1)); have P : Pair u1 (w.heap.size + 1) (.slice none 0 0) (.slice none 0 0) := (by first | (with_reducible exact Pair.all P B1) | (with_reducible exact Pair.all P.drew B1) | (with_reducible exact Pair.all (P.alloc _) B1) | (with_reducible exact Pair.all (P.alloc _).drew B1)); have C : Below w.heap.size w u1 := (by first | (with_reducible exact below_call C C.size B1) | (with_reducible exact below_call C.drew C.drew.size B1) | (with_reducible exact below_call (C.alloc C.size _) (C.alloc C.size _).size B1) | (with_reducible exact below_call (C.alloc C.size _).drew (C.alloc C.size _).drew.size B1)); have t0 := T.2.1; have t1 := T.2.2; have n1 : ¬ w.heap.size = u1.heap.size := Nat.ne_of_lt T.1; have n2 : ¬ u1.heap.size = w.heap.size := Nat.ne_of_gt T.1; have n0 := T.1; (first | ((with_reducible have q := Pair.all PN0.drew B1); have q0 := q.c0; have q1 := q.c1; have q2 := q.fr 0; have q3 := q.fr 1; have q4 := q.lt; have q5 := Nat.ne_of_lt q4; have q6 := Nat.ne_of_gt q4) | skip)) | (go_at_call_of 40 (Value.slice a' len' cap'); refine (copied_any _ _ _ rs _ ?_ hs').mono ?_; (first | (exact HI.out.2.kept C) | (exact HI.out.2.kept C.drew) | (exact (HI.out.2.kept C).alloc _) | (exact ((HI.out.2.kept C).alloc _).drew)); rintro e u2 ⟨rfl, R2, B2⟩; have T : Two u2 w.heap.size (.slice a len cap) (.slice a' len' cap') := (by first | (with_reducible exact Two.all T B2) | (with_reducible exact Two.all T.drew B2) | (with_reducible exact Two.all (T.alloc _) B2) | (with_reducible exact Two.all (T.alloc _).drew B2)); have P : Pair u2 (w.heap.size + 1) (.slice none 0 0) (.slice none 0 0) := (by first | (with_reducible exact Pair.all P B2) | (with_reducible exact Pair.all P.drew B2) | (with_reducible exact Pair.all (P.alloc _) B2) | (with_reducible exact Pair.all (P.alloc _).drew B2)); have C : Below w.heap.size w u2 := (by first | (with_reducible exact below_call C C.size B2) | (with_reducible exact below_call C.drew C.drew.size B2) | (with_reducible exact below_call (C.alloc C.size _) (C.alloc C.size _).size B2) | (with_reducible exact below_call (C.alloc C.size _).drew (C.alloc C.size _).drew.size B2)); have t0 := T.2.1; have t1 := T.2.2; have n1 : ¬ w.heap.size = u2.heap.size := Nat.ne_of_lt T.1; have n2 : ¬ u2.heap.size = w.heap.size := Nat.ne_of_gt T.1; have n0 := T.1; (first | ((with_reducible have q := Pair.all q B2); have q0 := q.c0; have q1 := q.c1; have q2 := q.fr 0; have q3 := q.fr 1; have q4 := q.lt; have q5 := Nat.ne_of_lt q4; have q6 := Nat.ne_of_gt q4) | ((with_reducible have q := Pair.all (pair_new u1 (.slice none 0 0) (.slice none 0 0)) B2); have q0 := q.c0; have q1 := q.c1; have q2 := q.fr 0; have q3 := q.fr 1; have q4 := q.lt; have q5 := Nat.ne_of_lt q4; have q6 := Nat.ne_of_gt q4) | skip)))
        · have RA : Row u2 w2.heap.size len cs := Row.all R1 B2
          have l1 := R1.lt
          have l2 := R2.lt
          have l3 : w2.heap.size < u1.heap.size := l1
          have HX : Hid (Row u2 w2.heap.size len cs ∧ Row u2 u1.heap.size len' rs ∧ Pair u2 (w.heap.size + 1) (.slice none 0 0) (.slice none 0 0) ∧ Below w.heap.size w u2) := ⟨RA, R2, P, C⟩
          clear RA R1 R2 B1 B2 l1 T P C t0 t1 n0 n1 n2 PN0
          go_wp2_with fail
          go_meet
          exact ⟨_, _, _, rfl, ⟨pair_at rfl _ _, HX.out.1.alloc _, HX.out.2.1.alloc _, HX.out.2.2.1.alloc _, HX.out.2.2.2.alloc HX.out.2.2.2.size _, by omega, by omega, by omega, by omega, by omega, by omega⟩⟩
        · have hz2 : (u1.alloc (.cells #[.slice none 0 0, .slice none 0 0] 31)).heap.size = u1.heap.size + 1 := by simp
          have RA : Row u2 w2.heap.size len cs := Row.all (R1.alloc _) B2
          have l1 := R1.lt
          rw [hz2] at R2
          have l2 := R2.lt
          have l3 : w2.heap.size < u1.heap.size := l1
          have HX : Hid (Row u2 w2.heap.size len cs ∧ Row u2 (u1.heap.size + 1) len' rs ∧ Pair u2 (w.heap.size + 1) (.slice none 0 0) (.slice none 0 0) ∧ Below w.heap.size w u2 ∧ Pair u2 u1.heap.size (.slice none 0 0) (.slice none 0 0)) := ⟨RA, R2, P, C, q⟩
          clear RA R1 R2 B1 B2 l1 T P C t0 t1 n0 n1 n2 PN0 q q0 q1 q2 q3
          go_wp2_with fail
          go_meet
          exact ⟨_, _, _, rfl, ⟨(HX.out.2.2.2.2.set0 _).set1 _, (HX.out.1.past (by omega) _).past (by omega) _, (HX.out.2.1.past (by omega) _).past (by omega) _, (HX.out.2.2.1.past (by omega) _).past (by omega) _, below_set (below_set HX.out.2.2.2.1 (by omega) _) (by omega) _, by omega, by omega, by omega, by omega, by omega, by omega⟩⟩
        · have hz1 : (w2.alloc (.cells #[.slice none 0 0, .slice none 0 0] 31)).drew.heap.size = w2.heap.size + 1 := by simp
          rw [hz1] at R1
          have RA : Row u2 (w2.heap.size + 1) len cs := Row.all R1 B2
          have l1 := R1.lt
          have l2 := R2.lt
          have HX : Hid (Row u2 (w2.heap.size + 1) len cs ∧ Row u2 u1.heap.size len' rs ∧ Pair u2 (w.heap.size + 1) (.slice none 0 0) (.slice none 0 0) ∧ Below w.heap.size w u2 ∧ Pair u2 w2.heap.size (.slice none 0 0) (.slice none 0 0)) := ⟨RA, R2, P, C, q⟩
          clear RA R1 R2 B1 B2 T P C t0 t1 n0 n1 n2 PN0 q q0 q1 q2 q3
          go_wp2_with fail
          go_meet
          exact ⟨_, _, _, rfl, ⟨(HX.out.2.2.2.2.set0 _).set1 _, (HX.out.1.past (by omega) _).past (by omega) _, (HX.out.2.1.past (by omega) _).past (by omega) _, (HX.out.2.2.1.past (by omega) _).past (by omega) _, below_set (below_set HX.out.2.2.2.1 (by omega) _) (by omega) _, by omega, by omega, by omega, by omega, by omega, by omega⟩⟩
      case rest =>
        obtain ⟨bo, gC, gR, rfl, L⟩ := hcut
        clear T P C lP t0 t1 n0 n1 n2 PN0
        have hb1 := L.out.h1
        have hb2 := L.out.var.lt
        have LS : Hid (Lr w w.heap.size bo (some ⟨gC, 0, none⟩) len len (some ⟨gR, 0, none⟩) len' len' wc.heap.size N cs rs (takenTo cs rs 0 ++ List.replicate (N - 0) 0) (wc.alloc (.cells (zeros N) 2))) := L.out.start (by omega) hl hl'
        go_wp2_with fail
        generalize wc.alloc (.cells (zeros N) 2) = W3 at *
        generalize wc.heap.size = gt at *
        clear L
        go_loopw [8, 30] (fun _ ii wr => ∃ (j : Nat) (b : Option Addr) (lb cb : Nat) (d : Option Addr) (ld cd : Nat), j ≤ N ∧ ii = .int .i64 (j : Int) ∧ Hid (Lr w w.heap.size bo b lb cb d ld cd gt N cs (richAt cs rs j) (takenTo cs rs j ++ List.replicate (N - j) 0) wr ∧ okTo cs rs j = true)) (fun _ ii _ => N - (intOf ii).toNat)
        case atStart => exact ⟨0, _, _, _, _, _, _, Nat.zero_le _, rfl, LS.out, HK.out.1⟩
        case round =>
          obtain ⟨j, b, lb, cb, d, ld, cd, hj, rfl, L⟩ := hrel
          have lv := L.out.1.res.lt
          have gs := L.out.1.gs
          by_cases hlt : j < N
          · have hlt' : (j : Int) < (N : Int) := by omega
            have hj0 : (0 : Int) ≤ (j : Int) := by omega
            have v0 := L.out.1.var.c0
            have v1 := L.out.1.var.c1
            go_wp2_with fail
            clear v0 v1
            refine (implNext b lb cb cs d ld cd (richAt cs rs j) _ L.out.1.crew.ints L.out.1.rich.ints).mono ?_
            have tl : (takenTo cs rs j ++ List.replicate (N - j) 0).length = N := by rw [List.length_append, taken_length, List.length_replicate]; omega
            cases hn : nextOk cs (richAt cs rs j)
            · rw [(next_no hn).1, (next_no hn).2.1, (next_no hn).2.2]
              have HN : Hid (runOk cs rs (N : Int) = false) := by
                show _ = _
                have h1 : okTo cs rs (j + 1) = false := (okTo_next L.out.2).trans hn
                rw [runOk, Int.toNat_natCast, okTo_false h1 (by omega), Bool.and_false]
              clear hn
              rintro e w4 ⟨b4, lb4, cb4, d4, ld4, cd4, rfl, F4, G4, D4, B4⟩
              have LN := L.out.1.next B4 F4 G4 D4 (by omega) (by omega) (by omega)
              have L5 : Hid (Lr w w.heap.size bo b4 lb4 cb4 d4 ld4 cd4 gt N [] [] ((takenTo cs rs j ++ List.replicate (N - j) 0).set j (-1)) (((w4.setCell ⟨bo, 0, none⟩ (.slice b4 lb4 cb4)).setCell ⟨bo, 1, none⟩ (.slice d4 ld4 cd4)).setCell ⟨gt, j, none⟩ (.int .i64 (-1)))) := LN.set j (-1) (by omega)
              clear LN
              have V4 := L.out.1.var.all B4
              have R4 := L.out.1.row.all B4
              have l4 := B4.size
              have v0 := V4.c0
              have v1 := V4.c1
              have f0 := V4.fr 0
              have f1 := V4.fr 1
              have f2 := R4.frozen j
              obtain ⟨y, c2⟩ : ∃ y, w4.cell? ⟨gt, j, none⟩ = some (.int .i64 y) := ⟨_, R4.cell (j := j) (by rw [tl]; exact hlt)⟩
              have m1 : ¬ bo = gt := by omega
              have m2 : ¬ gt = bo := by omega
              clear F4 G4 D4 B4 V4 R4
              go_upto_region 9 with fail
              generalize ((w4.setCell ⟨bo, 0, none⟩ (.slice b4 lb4 cb4)).setCell ⟨bo, 1, none⟩ (.slice d4 ld4 cd4)).setCell ⟨gt, j, none⟩ (.int .i64 (-1)) = w5 at *
              clear v0 v1 f0 f1 f2 c2
              have c5 := L5.out.row.cell (j := j) (by rw [List.length_set, tl]; exact hlt)
              rw [set_getD _ _ _ (by rw [tl]; exact hlt)] at c5
              have l5 := L5.out.res.lt
              have n0 : w.heap.size + 1 < w5.heap.size := l5
              have n1 : ¬ w.heap.size + 1 = w5.heap.size := by omega
              have n2 : ¬ w5.heap.size = w.heap.size + 1 := by omega
              have p0 := L5.out.res.c0
              have p1 := L5.out.res.c1
              have f0 := L5.out.res.fr 0
              have f1 := L5.out.res.fr 1
              go_wp2_with fail
              refine bodyPost_ret (ret_pair2 rfl rfl rfl (((L5.out.res.set0 _).set1 _).alloc _)) rfl ?_
              exact run_end HN.out (by simp) (below_set (below_set L5.out.bel (by omega) _) (by omega) _)
            · rw [(next_yes hn).1, (next_yes hn).2.1, (next_yes hn).2.2]
              have HN : Hid (okTo cs rs (j + 1) = true) := (okTo_next L.out.2).trans hn
              clear hn
              obtain ⟨k, hk⟩ : ∃ k, k = best cs (richAt cs rs j) := ⟨_, rfl⟩
              rw [← hk]
              have HB : Hid (k = best cs (richAt cs rs j)) := hk
              clear hk
              rintro e w4 ⟨b4, lb4, cb4, d4, ld4, cd4, rfl, F4, G4, D4, B4⟩
              have LN := L.out.1.next B4 F4 G4 D4 (by omega) (by omega) (by omega)
              have L5 : Hid (Lr w w.heap.size bo b4 lb4 cb4 d4 ld4 cd4 gt N cs (richAt cs rs (j + 1)) ((takenTo cs rs j ++ List.replicate (N - j) 0).set j (k : Int)) (((w4.setCell ⟨bo, 0, none⟩ (.slice b4 lb4 cb4)).setCell ⟨bo, 1, none⟩ (.slice d4 ld4 cd4)).setCell ⟨gt, j, none⟩ (.int .i64 (k : Int)))) := LN.set j (k : Int) (by omega)
              clear LN
              have V4 := L.out.1.var.all B4
              have R4 := L.out.1.row.all B4
              have l4 := B4.size
              have v0 := V4.c0
              have v1 := V4.c1
              have f0 := V4.fr 0
              have f1 := V4.fr 1
              have f2 := R4.frozen j
              obtain ⟨y, c2⟩ : ∃ y, w4.cell? ⟨gt, j, none⟩ = some (.int .i64 y) := ⟨_, R4.cell (j := j) (by rw [tl]; exact hlt)⟩
              have m1 : ¬ bo = gt := by omega
              have m2 : ¬ gt = bo := by omega
              clear F4 G4 D4 B4 V4 R4
              go_upto_region 9 with fail
              generalize ((w4.setCell ⟨bo, 0, none⟩ (.slice b4 lb4 cb4)).setCell ⟨bo, 1, none⟩ (.slice d4 ld4 cd4)).setCell ⟨gt, j, none⟩ (.int .i64 (k : Int)) = w5 at *
              clear v0 v1 f0 f1 f2 c2
              have c5 := L5.out.row.cell (j := j) (by rw [List.length_set, tl]; exact hlt)
              rw [set_getD _ _ _ (by rw [tl]; exact hlt)] at c5
              have hk0 : ¬ ((k : Nat) : Int) < 0 := by omega
              have L6 : Hid (Lr w w.heap.size bo b4 lb4 cb4 d4 ld4 cd4 gt N cs (richAt cs rs (j + 1)) (takenTo cs rs (j + 1) ++ List.replicate (N - (j + 1)) 0) w5 ∧ okTo cs rs (j + 1) = true) := by
                have h := L5.out
                rw [HB.out, taken_set cs rs hlt] at h
                exact ⟨h, HN.out⟩
              go_wp2_with fail
              go_roundw
              case rel => exact ⟨j + 1, b4, lb4, cb4, d4, ld4, cd4, by omega, by go_num, L6⟩
              case measure => simp [intOf]; omega
          · have hjN : j = N := by omega
            subst hjN
            have hd : ¬ (j : Int) < (j : Int) := by omega
            have e0 : takenTo cs rs j ++ List.replicate (j - j) 0 = takenTo cs rs j := by simp
            rw [e0] at L
            clear e0
            have v0 := L.out.1.var.c0
            have v1 := L.out.1.var.c1
            have p0 := L.out.1.res.c0
            have p1 := L.out.1.res.c1
            have f0 := L.out.1.res.fr 0
            have f1 := L.out.1.res.fr 1
            go_wp2_with fail
            refine bodyPost_ret (ret_pair2 rfl rfl rfl ((L.out.1.res.set0 _).set1 _)) rfl ?_
            exact L.out.1.answer HK.out.2 L.out.2

end Go.Proofs.Ytkfepehldjkedaa.Crew
