/-
  A run of the richest, by spec: spec.SmoothRun.
-/
import Derived.Test.YtkfepehldjkedaaSmoothNextT
import Derived.Test.YtkfepehldjkedaaSmoothRunMath
namespace Go.Proofs.Ytkfepehldjkedaa.Crew
open Go.ChangeShapes Go.WideShapes Go.ChangeAt Go.RowKit

/-- What the loop of a run knows: the Smooth in the variable at bx, those taken in block g, the result's variable. -/
structure Lr (w : World) (s bx : Nat) (b : Option Addr) (lb cb : Nat) (d : Option Addr) (ld cd g c : Nat) (cs rs tk : List Int) (wr : World) : Prop where
  var : Pair wr bx (.slice b lb cb) (.slice d ld cd)
  crew : Fit wr (s + 2) b lb cb cs
  rich : Fit wr (s + 2) d ld cd rs
  apart : Apart b d
  row : Row wr g c tk
  a1 : Apart b (some ⟨g, 0, none⟩)
  a2 : Apart d (some ⟨g, 0, none⟩)
  gs : s + 2 ≤ g
  res : Pair wr (s + 1) (.slice none 0 0) (.slice none 0 0)
  bel : Below s w wr

theorem ints_one_at {X : World} {n : Nat} (h : X.heap.size = n) (x : Int) (t : TypeId) : Ints (X.alloc (.cells #[.int .i64 x] t)) (some ⟨n, 0, none⟩) 1 [x] := by
  subst h
  exact ints_one X x t

theorem pair_at {X : World} {n : Nat} (h : X.heap.size = n) (x y : Value) : Pair (X.alloc (.cells #[x, y] 31)) n x y := by
  subst h
  exact pair_new X x y

/-- What a run answers. -/
def RunPost (cs rs : List Int) (n : Int) (w : World) (e : Ending) (w' : World) : Prop :=
  ∃ b lb cb d ld cd l ll cl, e = .returned (.tuple #[sm (.slice b lb cb) (.slice d ld cd), .slice l ll cl]) ∧ Fit w' w.heap.size b lb cb (runC cs rs n) ∧ Fit w' w.heap.size d ld cd (runR cs rs n) ∧ Fit w' w.heap.size l ll cl (runL cs rs n) ∧ Apart b d ∧ Apart b l ∧ Apart d l ∧ Below w.heap.size w w'

/-- Where it cannot be run. -/
theorem run_end {cs rs : List Int} {n : Int} (h : runOk cs rs n = false) {w X : World} {g : Nat} (hX : X.heap.size = g) (B : Below w.heap.size w X) :
    RunPost cs rs n w (.returned (.tuple #[sm (.slice none 0 0) (.slice none 0 0), .slice (some ⟨g, 0, none⟩) 0 0])) (X.alloc (.cells #[] 2)) := by
  subst hX
  have hs := B.size
  refine ⟨_, _, _, _, _, _, _, _, _, rfl, ?_, ?_, ?_, apart_none _, apart_none _, apart_none _, B.alloc hs _⟩
  · rw [(run_no h).1]; exact fit_nil _ _
  · rw [(run_no h).2.1]; exact fit_nil _ _
  · rw [(run_no h).2.2]; exact (row_nil X).fit hs rfl

/-- Behind a store into the variable, and a new variable. -/
theorem Lr.next {w : World} {s bx : Nat} {b d : Option Addr} {lb cb ld cd g c : Nat} {cs rs tk : List Int} {wr : World} (h : Lr w s bx b lb cb d ld cd g c cs rs tk wr)
    {w2 : World} (B : Below wr.heap.size wr w2) {b2 d2 : Option Addr} {lb2 cb2 ld2 cd2 : Nat} {cs2 rs2 : List Int} (F : Fit w2 wr.heap.size b2 lb2 cb2 cs2) (G : Fit w2 wr.heap.size d2 ld2 cd2 rs2) (D : Apart b2 d2) (hx : s ≤ bx) (hx1 : bx ≠ s + 1) (hxg : bx ≠ g) :
    Lr w s bx b2 lb2 cb2 d2 ld2 cd2 g c cs2 rs2 tk ((w2.setCell ⟨bx, 0, none⟩ (.slice b2 lb2 cb2)).setCell ⟨bx, 1, none⟩ (.slice d2 ld2 cd2)) := by
  have hv := h.var.lt
  have hr := h.row.lt
  have hp := h.res.lt
  have gs := h.gs
  have past : ∀ {a : Option Addr} {l k : Nat} {xs : List Int} (w' : World), Fit w' wr.heap.size a l k xs → ∀ j v, Fit (w'.setCell ⟨bx, j, none⟩ v) wr.heap.size a l k xs := fun w' hf j v => hf.other (grown_at w' bx j v) (fun x hx' => by have := (hf.ge hx').1; simp; omega)
  refine ⟨((h.var.all B).set0 _).set1 _, (past _ (past _ F _ _) _ _).mono (by omega), (past _ (past _ G _ _) _ _).mono (by omega), D, ((h.row.all B).past (Ne.symm hxg) _).past (Ne.symm hxg) _, ?_, ?_, gs, ((h.res.all B).past (Ne.symm hx1) _).past (Ne.symm hx1) _, below_set (below_set (below_call h.bel (by omega) B) hx _) hx _⟩
  · exact fun x y hx' hy e => by cases hy; have := (F.ge hx').1; simp at e; omega
  · exact fun x y hx' hy e => by cases hy; have := (G.ge hx').1; simp at e; omega

theorem Lr.alloc {w : World} {s bx : Nat} {b d : Option Addr} {lb cb ld cd g c : Nat} {cs rs tk : List Int} {wr : World} (h : Lr w s bx b lb cb d ld cd g c cs rs tk wr) (o : Obj) : Lr w s bx b lb cb d ld cd g c cs rs tk (wr.alloc o) :=
  ⟨h.var.alloc _, h.crew.all (below_new _ _), h.rich.all (below_new _ _), h.apart, h.row.alloc _, h.a1, h.a2, h.gs, h.res.alloc _, below_call h.bel (Nat.le_of_lt (Nat.lt_of_succ_lt h.res.lt)) (below_new _ _)⟩

/-- Behind an append to those taken. -/
theorem Lr.append {w : World} {s bx : Nat} {b d : Option Addr} {lb cb ld cd g c : Nat} {cs rs tk tk' : List Int} {wr : World} (h : Lr w s bx b lb cb d ld cd g c cs rs tk wr) {g' c' : Nat} {w' : World} (R : Row w' g' c' tk') (G : wr.grownBy w' (some g)) (D : g' = g ∨ g' = wr.heap.size) (hxg : bx ≠ g) :
    Lr w s bx b lb cb d ld cd g' c' cs rs tk' w' := by
  have hp := h.res.lt
  have gs := h.gs
  have key : ∀ {a : Option Addr} {l k : Nat} {xs : List Int}, Fit wr (s + 2) a l k xs → Apart a (some ⟨g, 0, none⟩) → Fit w' (s + 2) a l k xs ∧ Apart a (some ⟨g', 0, none⟩) := by
    intro a l k xs hf ha
    refine ⟨hf.other G (fun x hx => by have := ha x ⟨g, 0, none⟩ hx rfl; simpa using this), fun x y hx hy e => ?_⟩
    cases hy
    rcases D with rfl | rfl
    · exact ha x _ hx rfl e
    · have := (hf.ge hx).2; simp at e; omega
  exact ⟨h.var.other G (by simpa using hxg), (key h.crew h.a1).1, (key h.rich h.a2).1, h.apart, R, (key h.crew h.a1).2, (key h.rich h.a2).2, by rcases D with rfl | rfl <;> omega, h.res.other G (by simp; omega), h.bel.grown G (Nat.le_of_lt (Nat.lt_of_succ_lt hp)) (fun i e => by cases e; omega)⟩

theorem Fit.past {w : World} {base : Nat} {a : Option Addr} {len cap : Nat} {xs : List Int} (h : Fit w base a len cap xs) {b j : Nat} (hb : b < base) (v : Value) : Fit (w.setCell ⟨b, j, none⟩ v) base a len cap xs :=
  h.other (grown_at w b j v) (fun x hx => by have := (h.ge hx).1; simp; omega)

/-- What is answered once it was run. -/
theorem Lr.answer {w : World} {bx : Nat} {b d : Option Addr} {lb cb ld cd g c N : Nat} {cs rs : List Int} {wr : World} (h : Lr w w.heap.size bx b lb cb d ld cd g c cs (richAt cs rs N) (takenTo cs rs N) wr) (hN : within (N : Int) 0 3000 = true) (ho : okTo cs rs N = true) :
    RunPost cs rs (N : Int) w (.returned (.tuple #[sm (.slice b lb cb) (.slice d ld cd), .slice (some ⟨g, 0, none⟩) N c])) ((wr.setCell ⟨w.heap.size + 1, 0, none⟩ (.slice b lb cb)).setCell ⟨w.heap.size + 1, 1, none⟩ (.slice d ld cd)) := by
  have hk : runOk cs rs (N : Int) = true := by rw [runOk, hN, Bool.true_and, Int.toNat_natCast, ho]
  have gs := h.gs
  refine ⟨_, _, _, _, _, _, _, _, _, rfl, ?_, ?_, ?_, h.apart, h.a1, h.a2, below_set (below_set h.bel (by omega) _) (by omega) _⟩
  · rw [(run_yes hk).1]; exact ((h.crew.past (by omega) _).past (by omega) _).mono (by omega)
  · rw [(run_yes hk).2.1, Int.toNat_natCast]; exact ((h.rich.past (by omega) _).past (by omega) _).mono (by omega)
  · rw [(run_yes hk).2.2, Int.toNat_natCast]; exact ((h.row.past (by omega) _).past (by omega) _).fit (by omega) (taken_length _ _ _)

set_option maxHeartbeats 2000000 in
/-- spec.SmoothRun at every two slices and number. -/
theorem specRun (a : Option Addr) (len cap : Nat) (cs : List Int) (a' : Option Addr) (len' cap' : Nat) (rs : List Int) (n : Int) (w : World) (I : Ints w a len cs) (J : Ints w a' len' rs) (hs : (len : Int) ≤ 1048576) (hs' : (len' : Int) ≤ 1048576) :
    Calls Try.prog 26 #[sm (.slice a len cap) (.slice a' len' cap'), .int .i64 n] w (RunPost cs rs n w) := by
  obtain ⟨i0, hi, hz0, hz1, hz2⟩ := info_parts info_int
  have HI : Hid (Ints w a len cs ∧ Ints w a' len' rs) := ⟨I, J⟩
  clear I J
  obtain ⟨W0, hW0⟩ : ∃ W0, W0 = (w.alloc (.cells #[.slice a len cap, .slice a' len' cap'] 31)).alloc (.cells #[.slice none 0 0, .slice none 0 0] 31) := ⟨_, rfl⟩
  have hz : W0.heap.size = w.heap.size + 2 := by rw [hW0]; simp
  have H0 : Hid (Pair W0 w.heap.size (.slice a len cap) (.slice a' len' cap') ∧ Pair W0 (w.heap.size + 1) (.slice none 0 0) (.slice none 0 0) ∧ Below w.heap.size w W0) := by
    rw [hW0]
    exact ⟨(pair_new _ _ _).alloc _, pair_at (by simp) _ _, (below_new _ _).alloc (by simp) _⟩
  cases hk : smoothOk cs rs
  · have HK : Hid (smoothOk cs rs = false) := hk
    have HN : Hid (runOk cs rs n = false) := by
      show _ = _
      rw [runOk, okTo_false (k := 0) hk (Nat.zero_le _), Bool.and_false]
    clear hk
    go_enter Try.func26, Try.ntmps26
    go_wp2_with fail
    rw [← hW0]
    clear hW0
    refine (specSmooth a len cap cs a' len' cap' rs _ (HI.out.1.kept H0.out.2.2) (HI.out.2.kept H0.out.2.2) hs).mono ?_
    rw [HK.out]
    rintro e w1 ⟨rfl, B1⟩
    have H1 : Hid (Below w.heap.size w w1 ∧ Pair w1 (w.heap.size + 1) (.slice none 0 0) (.slice none 0 0)) := ⟨below_call H0.out.2.2 H0.out.2.2.size B1, H0.out.2.1.all B1⟩
    have l1 := H1.out.2.lt
    have n1 : ¬ w.heap.size + 1 = w1.heap.size := by omega
    have n2 : ¬ w1.heap.size = w.heap.size + 1 := by omega
    clear B1
    have p0 := H1.out.2.c0
    have p1 := H1.out.2.c1
    have f0 := H1.out.2.fr 0
    have f1 := H1.out.2.fr 1
    go_wp2_with fail
    refine bodyPost_ret (ret_pair2 rfl rfl rfl (((H1.out.2.set0 _).set1 _).alloc _)) rfl ?_
    exact run_end HN.out (by simp) (below_set (below_set H1.out.1 (by omega) _) (by omega) _)
  · cases hn : within n 0 3000
    · have HK : Hid (smoothOk cs rs = true) := hk
      have HN : Hid (runOk cs rs n = false ∧ within n 0 3000 = false) := ⟨by rw [runOk, hn, Bool.false_and], hn⟩
      clear hk hn
      go_enter Try.func26, Try.ntmps26
      go_wp2_with fail
      rw [← hW0]
      clear hW0
      refine (specSmooth a len cap cs a' len' cap' rs _ (HI.out.1.kept H0.out.2.2) (HI.out.2.kept H0.out.2.2) hs).mono ?_
      rw [HK.out]
      rintro e w1 ⟨rfl, B1⟩
      have H1 : Hid (Below w.heap.size w w1 ∧ Pair w1 (w.heap.size + 1) (.slice none 0 0) (.slice none 0 0)) := ⟨below_call H0.out.2.2 H0.out.2.2.size B1, H0.out.2.1.all B1⟩
      have l1 := H1.out.2.lt
      have n1 : ¬ w.heap.size + 1 = w1.heap.size := by omega
      have n2 : ¬ w1.heap.size = w.heap.size + 1 := by omega
      clear B1
      go_wp2_with fail
      refine (specSteps_any n _).mono ?_
      rw [HN.out.2]
      rintro e w2 ⟨rfl, rfl⟩
      have p0 := H1.out.2.c0
      have p1 := H1.out.2.c1
      have f0 := H1.out.2.fr 0
      have f1 := H1.out.2.fr 1
      go_wp2_with fail
      refine bodyPost_ret (ret_pair2 rfl rfl rfl (((H1.out.2.set0 _).set1 _).alloc _)) rfl ?_
      exact run_end HN.out.1 (by simp) (below_set (below_set H1.out.1 (by omega) _) (by omega) _)
    · have bn := within_yes hn
      obtain ⟨N, hN⟩ : ∃ N : Nat, n = (N : Int) := ⟨n.toNat, by omega⟩
      subst hN
      have HK : Hid (smoothOk cs rs = true ∧ within (N : Int) 0 3000 = true) := ⟨hk, hn⟩
      clear hk hn
      go_enter Try.func26, Try.ntmps26
      go_wp2_with fail
      rw [← hW0]
      clear hW0
      refine (specSmooth a len cap cs a' len' cap' rs _ (HI.out.1.kept H0.out.2.2) (HI.out.2.kept H0.out.2.2) hs).mono ?_
      rw [HK.out.1]
      rintro e w1 ⟨rfl, B1⟩
      have H1 : Hid (Below w.heap.size w w1 ∧ Pair w1 (w.heap.size + 1) (.slice none 0 0) (.slice none 0 0) ∧ Pair w1 w.heap.size (.slice a len cap) (.slice a' len' cap')) := ⟨below_call H0.out.2.2 H0.out.2.2.size B1, H0.out.2.1.all B1, H0.out.1.all B1⟩
      have l1 := H1.out.2.1.lt
      clear B1 H0
      go_wp2_with fail
      refine (specSteps_any (N : Int) _).mono ?_
      rw [HK.out.2]
      rintro e w2 ⟨rfl, rfl⟩
      have p0 := H1.out.2.2.c0
      have p1 := H1.out.2.2.c1
      go_wp2_with fail
      clear p0 p1
      refine (copy6_any a len cap cs a' len' cap' rs _ (HI.out.1.kept H1.out.1) (HI.out.2.kept H1.out.1) hs hs').mono ?_
      rintro e w3 ⟨gC, cC, gR, cR, rfl, RC, RR, hgC, hgR, hne, B3⟩
      have hlC : cs.length = len := HI.out.1.1
      have hlR : rs.length = len' := HI.out.2.1
      have H3 : Hid (Below w.heap.size w w3 ∧ Pair w3 (w.heap.size + 1) (.slice none 0 0) (.slice none 0 0) ∧ Pair w3 w.heap.size (.slice a len cap) (.slice a' len' cap') ∧ Fit w3 (w.heap.size + 2) (some ⟨gC, 0, none⟩) len cC cs ∧ Fit w3 (w.heap.size + 2) (some ⟨gR, 0, none⟩) len' cR rs) := ⟨below_call H1.out.1 H1.out.1.size B3, H1.out.2.1.all B3, H1.out.2.2.all B3, RC.fit (by omega) hlC, RR.fit (by omega) hlR⟩
      have lC := RC.lt
      have lR := RR.lt
      have l3 := B3.size
      clear RC RR H1 B3
      have p0 := H3.out.2.2.1.c0
      have p1 := H3.out.2.2.1.c1
      have f0 := H3.out.2.2.1.fr 0
      have f1 := H3.out.2.2.1.fr 1
      go_wp2_with fail
      clear p0 p1 f0 f1
      have LS : Hid (Lr w w.heap.size w.heap.size (some ⟨gC, 0, none⟩) len cC (some ⟨gR, 0, none⟩) len' cR w3.heap.size 0 cs rs [] (((w3.setCell ⟨w.heap.size, 0, none⟩ (.slice (some ⟨gC, 0, none⟩) len cC)).setCell ⟨w.heap.size, 1, none⟩ (.slice (some ⟨gR, 0, none⟩) len' cR)).alloc (.cells #[] 2))) := by
        refine ⟨((H3.out.2.2.1.set0 _).set1 _).alloc _, ((H3.out.2.2.2.1.past (by omega) _).past (by omega) _).all (below_new _ _), ((H3.out.2.2.2.2.past (by omega) _).past (by omega) _).all (below_new _ _), ?_, ?_, ?_, ?_, by omega, ((H3.out.2.1.past (by omega) _).past (by omega) _).alloc _, (below_set (below_set H3.out.1 (by omega) _) (by omega) _).alloc (by simp; omega) _⟩
        · exact fun x y hx hy => by cases hx; cases hy; exact hne
        · have := row_nil ((w3.setCell ⟨w.heap.size, 0, none⟩ (.slice (some ⟨gC, 0, none⟩) len cC)).setCell ⟨w.heap.size, 1, none⟩ (.slice (some ⟨gR, 0, none⟩) len' cR))
          simpa using this
        · exact fun x y hx hy => by cases hx; cases hy; exact (by simp; omega)
        · exact fun x y hx hy => by cases hx; cases hy; exact (by simp; omega)
      generalize ((w3.setCell ⟨w.heap.size, 0, none⟩ (.slice (some ⟨gC, 0, none⟩) len cC)).setCell ⟨w.heap.size, 1, none⟩ (.slice (some ⟨gR, 0, none⟩) len' cR)).alloc (.cells #[] 2) = W3 at *
      generalize w3.heap.size = g0 at *
      clear H3
      go_loopw [1, 6, 7, 8] (fun nn oo _ _ wr => ∃ (j g c : Nat) (b : Option Addr) (lb cb : Nat) (d : Option Addr) (ld cd : Nat), j ≤ N ∧ nn = .int .i64 ((N : Int) - (j : Int)) ∧ oo = .slice (some ⟨g, 0, none⟩) j c ∧ Hid (Lr w w.heap.size w.heap.size b lb cb d ld cd g c cs (richAt cs rs j) (takenTo cs rs j) wr ∧ okTo cs rs j = true)) (fun nn _ _ _ _ => (intOf nn).toNat)
      case atStart => exact ⟨0, g0, 0, _, _, _, _, _, _, Nat.zero_le _, by simp, rfl, LS.out, HK.out.1⟩
      case round =>
        obtain ⟨j, g, c, b, lb, cb, d, ld, cd, hj, rfl, rfl, L⟩ := hrel
        have lv := L.out.1.res.lt
        have gs := L.out.1.gs
        have hb24 : (lb : Int) ≤ 24 := by have := L.out.1.crew.1; have := crew_len (smooth_parts HK.out.1).1; omega
        by_cases hlt : j < N
        · have hpos : (0 : Int) < (N : Int) - (j : Int) := by omega
          have v0 := L.out.1.var.c0
          have v1 := L.out.1.var.c1
          go_wp2_with fail
          clear v0 v1
          refine (specNext b lb cb cs d ld cd (richAt cs rs j) _ L.out.1.crew.ints L.out.1.rich.ints (by omega)).mono ?_
          cases hn : nextOk cs (richAt cs rs j)
          · rw [(next_no hn).1, (next_no hn).2.1, (next_no hn).2.2]
            have HN : Hid (runOk cs rs (N : Int) = false) := by
              show _ = _
              have h1 : okTo cs rs (j + 1) = false := (okTo_next L.out.2).trans hn
              rw [runOk, Int.toNat_natCast, okTo_false h1 (by omega), Bool.and_false]
            clear hn
            rintro e w4 ⟨b4, lb4, cb4, d4, ld4, cd4, rfl, F4, G4, D4, B4⟩
            have H4 : Hid (Below w.heap.size w w4 ∧ Pair w4 (w.heap.size + 1) (.slice none 0 0) (.slice none 0 0)) := ⟨below_call L.out.1.bel (by omega) B4, L.out.1.res.all B4⟩
            have l4 := B4.size
            have n0 : w.heap.size + 1 < w4.heap.size := by omega
            have n5 : w.heap.size < w4.heap.size := by omega
            have n6 : ¬ w.heap.size = w4.heap.size := by omega
            have n7 : ¬ w4.heap.size = w.heap.size := by omega
            have n1 : ¬ w.heap.size + 1 = w4.heap.size := by omega
            have n2 : ¬ w4.heap.size = w.heap.size + 1 := by omega
            have p0 := H4.out.2.c0
            have p1 := H4.out.2.c1
            have f0 := H4.out.2.fr 0
            have f1 := H4.out.2.fr 1
            clear F4 G4 D4 B4
            go_wp2_with fail
            refine bodyPost_ret (ret_pair2 rfl rfl rfl ((((H4.out.2.set0 _).set1 _).alloc _).alloc _)) rfl ?_
            exact run_end HN.out (by simp) ((below_set (below_set H4.out.1 (by omega) _) (by omega) _).alloc (by simp; omega) _)
          · rw [(next_yes hn).1, (next_yes hn).2.1, (next_yes hn).2.2]
            have HN : Hid (okTo cs rs (j + 1) = true) := (okTo_next L.out.2).trans hn
            clear hn
            obtain ⟨k, hk⟩ : ∃ k, k = best cs (richAt cs rs j) := ⟨_, rfl⟩
            rw [← hk]
            have HB : Hid (k = best cs (richAt cs rs j)) := hk
            clear hk
            rintro e w4 ⟨b4, lb4, cb4, d4, ld4, cd4, rfl, F4, G4, D4, B4⟩
            have LN : Hid (Lr w w.heap.size w.heap.size b4 lb4 cb4 d4 ld4 cd4 g c cs (stepR cs (richAt cs rs j)) (takenTo cs rs j) ((w4.setCell ⟨w.heap.size, 0, none⟩ (.slice b4 lb4 cb4)).setCell ⟨w.heap.size, 1, none⟩ (.slice d4 ld4 cd4))) := L.out.1.next B4 F4 G4 D4 (Nat.le_refl _) (by omega) (by omega)
            have V4 := L.out.1.var.all B4
            have l4 := B4.size
            have n0 : w.heap.size < w4.heap.size := by omega
            have n1 : ¬ w.heap.size = w4.heap.size := by omega
            have n2 : ¬ w4.heap.size = w.heap.size := by omega
            have v0 := V4.c0
            have v1 := V4.c1
            have f0 := V4.fr 0
            have f1 := V4.fr 1
            have hk0 : ¬ ((k : Nat) : Int) < 0 := by omega
            clear F4 G4 D4 B4 V4
            go_wp2_with (at_builtin; refine wpList_append_ints rfl (.tmp 36) (.tmp 38) 27 rfl i0 Try.underlying27 hi hz0 hz1 hz2 _ _ _ (takenTo cs rs j) rfl (taken_length _ _ _).symm ((LN.out.row.alloc _).alloc _) _ _ _ [(k : Int)] rfl (ints_one_at (by simp) _ _) (by rw [taken_length]; omega) ?_)
            intro g5 c5 w5 R5 G5 D5
            have L5 : Hid (Lr w w.heap.size w.heap.size b4 lb4 cb4 d4 ld4 cd4 g5 c5 cs (richAt cs rs (j + 1)) (takenTo cs rs (j + 1)) w5 ∧ okTo cs rs (j + 1) = true) := by
              rw [HB.out, ← taken_succ] at R5
              exact ⟨((LN.out.alloc _).alloc _).append R5 G5 (by simpa using D5) (by omega), HN.out⟩
            clear R5 G5 D5 LN v0 v1 f0 f1
            go_wp2_with fail
            go_roundw
            case rel => exact ⟨j + 1, g5, c5, b4, lb4, cb4, d4, ld4, cd4, by omega, by go_num, rfl, L5⟩
            case measure => simp [intOf]; omega
        · have hjN : j = N := by omega
          subst hjN
          have hd : decide ((0 : Int) < (j : Int) - (j : Int)) = false := by simp
          have hz' : ¬ (0 : Int) < (j : Int) - (j : Int) := by omega
          have v0 := L.out.1.var.c0
          have v1 := L.out.1.var.c1
          have p0 := L.out.1.res.c0
          have p1 := L.out.1.res.c1
          have f0 := L.out.1.res.fr 0
          have f1 := L.out.1.res.fr 1
          go_wp2_with fail
          refine bodyPost_ret (ret_pair2 rfl rfl rfl ((L.out.1.res.set0 _).set1 _)) rfl ?_
          exact L.out.1.answer HK.out.2 L.out.2

end Go.Proofs.Ytkfepehldjkedaa.Crew
