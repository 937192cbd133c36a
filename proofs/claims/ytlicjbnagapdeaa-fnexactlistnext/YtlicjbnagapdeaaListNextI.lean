/-
  The next one down the list, and what is left, by impl.
-/
import Derived.Test.YtlicjbnagapdeaaListWalkOf
import Derived.Test.YtlicjbnagapdeaaListOkI
namespace Go.Proofs.Ytlicjbnagapdeaa.Crew
open Go.ChangeShapes Go.WideShapes Go.ChangeAt Go.RowKit

/-- The two blocks with which a function begins that is given a List and answers one. -/
structure Begun (w u : World) (x y : Value) (t p : Int) : Prop where
  arg : Four u w.heap.size x y t p
  res : Quad u (w.heap.size + 1) (.slice none 0 0) (.slice none 0 0) 0 0
  bel : Below w.heap.size w u

theorem begun_new (w : World) (x y : Value) (t p : Int) : Begun w ((w.alloc (.cells #[x, y, .int .i64 t, .int .i64 p] 31)).alloc (.cells #[.slice none 0 0, .slice none 0 0, .int .i64 0, .int .i64 0] 31)) x y t p := by
  refine ⟨(four_new _ _ _ _ _ _).alloc _, ?_, (below_new _ _).alloc (by simp) _⟩
  have := quad_new (w.alloc (.cells #[x, y, .int .i64 t, .int .i64 p] 31)) (.slice none 0 0) (.slice none 0 0) 0 0
  simpa using this

theorem Begun.all {w u u' : World} {x y : Value} {t p : Int} (h : Begun w u x y t p) (k : Below u.heap.size u u') : Begun w u' x y t p := ⟨h.arg.all k, h.res.all k, below_call h.bel h.bel.size k⟩

/-- What ListNext answers, and leaves. -/
def NextPost (w : World) (cs hs : List Int) (t p : Int) (e : Ending) (w' : World) : Prop :=
  ∃ b lb cb d ld cd, e = .returned (.tuple #[lv (.slice b lb cb) (.slice d ld cd) (lnT cs hs t p) (lnP cs hs t p), .int .i64 (lnK cs hs t p)]) ∧ Fit w' w.heap.size b lb cb (lnC cs hs t p) ∧ Fit w' w.heap.size d ld cd (lnH cs hs t p) ∧ Apart b d ∧ Below w.heap.size w w'

theorem next_none {w u : World} {cs hs : List Int} {t p : Int} {x y : Value} (h : lnOk cs hs t p = false) (B : Begun w u x y t p) : NextPost w cs hs t p (.returned (.tuple #[lv (.slice none 0 0) (.slice none 0 0) 0 0, .int .i64 (-1)])) ((((u.setCell ⟨w.heap.size + 1, 0, none⟩ (.slice none 0 0)).setCell ⟨w.heap.size + 1, 1, none⟩ (.slice none 0 0)).setCell ⟨w.heap.size + 1, 2, none⟩ (.int .i64 0)).setCell ⟨w.heap.size + 1, 3, none⟩ (.int .i64 0)) := by
  obtain ⟨e1, e2, e3, e4, e5⟩ := ln_no h
  unfold NextPost
  rw [e1, e2, e3, e4, e5]
  exact ⟨_, _, _, _, _, _, rfl, fit_nil _ _, fit_nil _ _, apart_none _, below_sets4 B.bel (Nat.le_succ _) _ _ _ _⟩

theorem implListNext (a : Option Addr) (len cap : Nat) (cs : List Int) (a' : Option Addr) (len' cap' : Nat) (hs : List Int) (t p : Int) (w : World) (I : Ints w a len cs) (J : Ints w a' len' hs) :
    Calls Try.prog 15 #[lv (.slice a len cap) (.slice a' len' cap') t p] w (NextPost w cs hs t p) := by
  obtain ⟨W0, hW0⟩ : ∃ W0, W0 = (w.alloc (.cells #[.slice a len cap, .slice a' len' cap', .int .i64 t, .int .i64 p] 31)).alloc (.cells #[.slice none 0 0, .slice none 0 0, .int .i64 0, .int .i64 0] 31) := ⟨_, rfl⟩
  have H0 : Hid (Begun w W0 (.slice a len cap) (.slice a' len' cap') t p) := by rw [hW0]; exact begun_new w _ _ t p
  have HI : Hid (Ints w a len cs ∧ Ints w a' len' hs) := ⟨I, J⟩
  clear I J
  cases hk : listOk cs hs t p
  · have HK : Hid (listOk cs hs t p = false) := hk
    clear hk
    go_enter Try.func15, Try.ntmps15
    go_wp2_with fail
    rw [← hW0]
    clear hW0
    refine (implListX a len cap cs a' len' cap' hs t p _ (HI.out.1.kept H0.out.bel) (HI.out.2.kept H0.out.bel)).mono ?_
    rw [HK.out]
    rintro e w1 ⟨rfl, B1⟩
    have H1 : Hid (Begun w w1 (.slice a len cap) (.slice a' len' cap') t p) := H0.out.all B1
    clear H0 B1
    have q0 := H1.out.res.c0
    have q1 := H1.out.res.c1
    have q2 := H1.out.res.c2
    have q3 := H1.out.res.c3
    have f0 := H1.out.res.fr 0
    have f1 := H1.out.res.fr 1
    have f2 := H1.out.res.fr 2
    have f3 := H1.out.res.fr 3
    go_wp2_with fail
    exact bodyPost_ret (ret_quad2 rfl rfl rfl ((((H1.out.res.set0 _).set1 _).set2 _).set3 _)) rfl (next_none (by rw [lnOk, HK.out]; rfl) H1.out)
  · obtain ⟨n, rfl, R⟩ := right_of hk
    have HK : Hid (listOk cs hs t (n : Int) = true ∧ Right cs ⟨hs, t, n⟩ ∧ lnOk cs hs t (n : Int) = lsCan cs ⟨hs, t, n⟩) := ⟨hk, R, ln_right R⟩
    cases hc : lsCan cs ⟨hs, t, n⟩
    · have HC : Hid (lsCan cs ⟨hs, t, n⟩ = false) := hc
      clear hk R hc
      go_enter Try.func15, Try.ntmps15
      go_wp2_with fail
      rw [← hW0]
      clear hW0
      refine (implListX a len cap cs a' len' cap' hs t n _ (HI.out.1.kept H0.out.bel) (HI.out.2.kept H0.out.bel)).mono ?_
      rw [HK.out.1]
      rintro e w1 ⟨rfl, B1⟩
      have H1 : Hid (Begun w w1 (.slice a len cap) (.slice a' len' cap') t n) := H0.out.all B1
      clear H0 B1
      have t0 := H1.out.arg.c0
      have t1 := H1.out.arg.c1
      have t2 := H1.out.arg.c2
      have t3 := H1.out.arg.c3
      go_wp2_with fail
      clear t0 t1 t2 t3
      refine (walkOf_any a len cap cs a' len' cap' hs t n _ (HI.out.1.kept H1.out.bel) (HI.out.2.kept H1.out.bel) HK.out.2.1).mono ?_
      rintro e w2 ⟨l, rfl, K2⟩
      have H2 : Hid (Begun w w2 (.slice a len cap) (.slice a' len' cap') t n ∧ Wk w1 w2 l cs ⟨hs, t, n⟩) := ⟨H1.out.all K2.bel, K2⟩
      clear H1 K2
      go_wp2_with fail
      refine (takeTurn_no w1 l cs _ _ H2.out.2 HK.out.2.1 HC.out).mono ?_
      rintro e w3 ⟨rfl, B3⟩
      have H3 : Hid (Begun w w3 (.slice a len cap) (.slice a' len' cap') t n) := H2.out.1.all B3
      clear H2 B3
      have q0 := H3.out.res.c0
      have q1 := H3.out.res.c1
      have q2 := H3.out.res.c2
      have q3 := H3.out.res.c3
      have f0 := H3.out.res.fr 0
      have f1 := H3.out.res.fr 1
      have f2 := H3.out.res.fr 2
      have f3 := H3.out.res.fr 3
      go_wp2_with fail
      exact bodyPost_ret (ret_quad2 rfl rfl rfl ((((H3.out.res.set0 _).set1 _).set2 _).set3 _)) rfl (next_none (by rw [HK.out.2.2, HC.out]) H3.out)
    · have HC : Hid (lsCan cs ⟨hs, t, n⟩ = true) := hc
      obtain ⟨k, hkk⟩ : ∃ k, k = lsWho cs (lsFresh cs ⟨hs, t, n⟩) := ⟨_, rfl⟩
      obtain ⟨s, hss⟩ : ∃ s, s = lsStep cs ⟨hs, t, n⟩ := ⟨_, rfl⟩
      have HS : Hid (k = lsWho cs (lsFresh cs ⟨hs, t, n⟩) ∧ s = lsStep cs ⟨hs, t, n⟩ ∧ Right cs s) := ⟨hkk, hss, by rw [hss]; exact R.step hc⟩
      clear hk R hc hkk hss
      go_enter Try.func15, Try.ntmps15
      go_wp2_with fail
      rw [← hW0]
      clear hW0
      refine (implListX a len cap cs a' len' cap' hs t n _ (HI.out.1.kept H0.out.bel) (HI.out.2.kept H0.out.bel)).mono ?_
      rw [HK.out.1]
      rintro e w1 ⟨rfl, B1⟩
      have H1 : Hid (Begun w w1 (.slice a len cap) (.slice a' len' cap') t n) := H0.out.all B1
      clear H0 B1
      have t0 := H1.out.arg.c0
      have t1 := H1.out.arg.c1
      have t2 := H1.out.arg.c2
      have t3 := H1.out.arg.c3
      go_wp2_with fail
      clear t0 t1 t2 t3
      refine (walkOf_any a len cap cs a' len' cap' hs t n _ (HI.out.1.kept H1.out.bel) (HI.out.2.kept H1.out.bel) HK.out.2.1).mono ?_
      rintro e w2 ⟨l, rfl, K2⟩
      go_wp2_with fail
      refine (takeTurn_yes w1 l cs _ _ K2 HK.out.2.1 HC.out).mono ?_
      rw [← HS.out.1, ← HS.out.2.1]
      rintro e w3 ⟨rfl, l', G⟩
      have H3 : Hid (Begun w w3 (.slice a len cap) (.slice a' len' cap') t n ∧ Wk w1 w3 l' cs s ∧ w.heap.size + 1 < w1.heap.size) := ⟨H1.out.all G.wk.bel, G.wk, H1.out.res.lt⟩
      have eb : l'.b = l.b := G.b
      clear H1 K2 G
      go_wp2_with fail
      rw [← eb]
      refine (list_at w1 l' cs s _ H3.out.2.1).mono ?_
      rintro e w4 ⟨rfl, B4⟩
      have H4 : Hid (Begun w w4 (.slice a len cap) (.slice a' len' cap') t n ∧ Wk w1 w4 l' cs s ∧ w.heap.size + 1 < w1.heap.size) := ⟨H3.out.1.all B4, H3.out.2.1.all B4, H3.out.2.2⟩
      clear H3 B4
      have q0 := H4.out.1.res.c0
      have q1 := H4.out.1.res.c1
      have q2 := H4.out.1.res.c2
      have q3 := H4.out.1.res.c3
      have f0 := H4.out.1.res.fr 0
      have f1 := H4.out.1.res.fr 1
      have f2 := H4.out.1.res.fr 2
      have f3 := H4.out.1.res.fr 3
      go_wp2_with fail
      refine bodyPost_ret (ret_quad2 rfl rfl rfl ((((H4.out.1.res.set0 _).set1 _).set2 _).set3 _)) rfl ?_
      obtain ⟨e1, e2, e3, e4, e5⟩ := ln_yes (cs := cs) (hs := hs) (t := t) (p := (n : Int)) (by rw [HK.out.2.2, HC.out])
      rw [Int.toNat_natCast] at e2 e3 e4 e5
      unfold NextPost
      rw [e1, e2, e3, e4, e5, ← HS.out.1, ← HS.out.2.1]
      have h1 := H4.out.2.1.loC
      have h2 := H4.out.2.1.loH
      have h3 := H4.out.2.2
      refine ⟨_, _, _, _, _, _, rfl, ?_, ?_, ?_, ?_⟩
      · exact (H4.out.2.1.crew.sets4 (by omega) _ _ _ _).fit (by omega) H4.out.2.1.len
      · exact (H4.out.2.1.had.sets4 (by omega) _ _ _ _).fit (by omega) (by rw [HS.out.2.2.len]; exact H4.out.2.1.len)
      · exact fun x y hx hy => by cases hx; cases hy; exact H4.out.2.1.CH
      · exact below_sets4 H4.out.1.bel (Nat.le_succ _) _ _ _ _

/-- A store elsewhere leaves a walk. -/
theorem Wk.past {w0 w : World} {l : Wl} {cs : List Int} {s : Ls} (h : Wk w0 w l cs s) {g : Nat} (hg : w0.heap.size ≤ g) (h1 : l.b ≠ g) (h2 : l.gC ≠ g) (h3 : l.gH ≠ g) (h4 : l.gO ≠ g) (j : Nat) (v : Value) : Wk w0 (w.setCell ⟨g, j, none⟩ v) l cs s :=
  ⟨below_set h.bel hg _, h.wlk.past h1 _, h.crew.past h2 _, h.had.past h3 _, h.ord.past h4 _, h.len, h.lob, h.loC, h.loH, h.bC, h.bH, h.bO, h.CH, h.HO⟩

/-- impl.LeftOf. -/
theorem implLeft (a : Option Addr) (len cap : Nat) (cs : List Int) (a' : Option Addr) (len' cap' : Nat) (hs : List Int) (t p : Int) (w : World) (I : Ints w a len cs) (J : Ints w a' len' hs) :
    Calls Try.prog 17 #[lv (.slice a len cap) (.slice a' len' cap') t p] w fun e w' => ∃ g cp, e = .returned (.slice (some ⟨g, 0, none⟩) (leftOf cs hs t p).length cp) ∧ Row w' g cp (leftOf cs hs t p) ∧ w.heap.size ≤ g ∧ Below w.heap.size w w' := by
  obtain ⟨W0, hW0⟩ : ∃ W0, W0 = w.alloc (.cells #[.slice a len cap, .slice a' len' cap', .int .i64 t, .int .i64 p] 31) := ⟨_, rfl⟩
  have H0 : Hid (Four W0 w.heap.size (.slice a len cap) (.slice a' len' cap') t p ∧ Below w.heap.size w W0) := by rw [hW0]; exact ⟨four_new _ _ _ _ _ _, below_new _ _⟩
  have HI : Hid (Ints w a len cs ∧ Ints w a' len' hs) := ⟨I, J⟩
  clear I J
  cases hk : listOk cs hs t p
  · have HK : Hid (listOk cs hs t p = false) := hk
    have e : leftOf cs hs t p = [] := by simp [leftOf, hk]
    rw [e]
    clear hk e
    go_enter Try.func17, Try.ntmps17
    go_wp2_with fail
    rw [← hW0]
    clear hW0
    refine (implListX a len cap cs a' len' cap' hs t p _ (HI.out.1.kept H0.out.2) (HI.out.2.kept H0.out.2)).mono ?_
    rw [HK.out]
    rintro e w1 ⟨rfl, B1⟩
    have H1 : Hid (Below w.heap.size w w1) := below_call H0.out.2 H0.out.2.size B1
    clear H0 B1
    go_wp2_with fail
    go_ret
    exact ⟨_, 0, rfl, row_nil _, H1.out.size, H1.out.alloc H1.out.size _⟩
  · obtain ⟨n, rfl, R⟩ := right_of hk
    have e : leftOf cs hs t n = leftL cs hs := by simp [leftOf, hk]
    rw [e, leftL_length]
    have h24 := crew_len R.crew
    have hl := HI.out.1.1
    have HK : Hid (listOk cs hs t (n : Int) = true ∧ Right cs ⟨hs, t, n⟩ ∧ cs.length = len) := ⟨hk, R, hl⟩
    have n24 : (len : Int) ≤ 24 := by omega
    rw [hl]
    clear hk R e h24 hl
    have hm := made_ints len (by omega)
    go_enter Try.func17, Try.ntmps17
    go_wp2_with fail
    rw [← hW0]
    clear hW0
    refine (implListX a len cap cs a' len' cap' hs t n _ (HI.out.1.kept H0.out.2) (HI.out.2.kept H0.out.2)).mono ?_
    rw [HK.out.1]
    rintro e w1 ⟨rfl, B1⟩
    have H1 : Hid (Four w1 w.heap.size (.slice a len cap) (.slice a' len' cap') t n ∧ Below w.heap.size w w1) := ⟨H0.out.1.all B1, below_call H0.out.2 H0.out.2.size B1⟩
    clear H0 B1
    have t0 := H1.out.1.c0
    have t1 := H1.out.1.c1
    have t2 := H1.out.1.c2
    have t3 := H1.out.1.c3
    go_wp2_with fail
    clear t0 t1 t2 t3
    refine (walkOf_any a len cap cs a' len' cap' hs t n _ (HI.out.1.kept H1.out.2) (HI.out.2.kept H1.out.2) HK.out.2.1).mono ?_
    rintro e w2 ⟨l, rfl, K2⟩
    have en : l.n = len := by rw [← K2.len]; exact HK.out.2.2
    have H2 : Hid (Wk w1 w2 l cs ⟨hs, t, n⟩ ∧ Below w.heap.size w w2 ∧ l.n = len) := ⟨K2, below_call H1.out.2 H1.out.2.size K2.bel, en⟩
    have c4 := K2.wlk.c4
    rw [en] at c4
    clear H1 K2 en
    have l4 : l.b < w2.heap.size := H2.out.1.wlk.lt
    go_wp2_with fail
    obtain ⟨W3, hW3⟩ : ∃ W3, W3 = w2.alloc (.cells (zeros len) 2) := ⟨_, rfl⟩
    rw [← hW3]
    have H3 : Hid (Wk w1 W3 l cs ⟨hs, t, n⟩ ∧ Below w.heap.size w W3 ∧ l.n = len ∧ Row W3 w2.heap.size len (List.replicate len 0) ∧ w.heap.size ≤ w2.heap.size ∧ l.b < w2.heap.size ∧ l.gC < w2.heap.size ∧ l.gH < w2.heap.size ∧ l.gO < w2.heap.size ∧ w1.heap.size ≤ w2.heap.size) := by
      rw [hW3]
      exact ⟨H2.out.1.all (below_new _ _), H2.out.2.1.alloc H2.out.2.1.size _, H2.out.2.2, row_zeros w2 len (by omega), H2.out.2.1.size, H2.out.1.wlk.lt, H2.out.1.crew.lt, H2.out.1.had.lt, H2.out.1.ord.lt, H2.out.1.bel.size⟩
    clear hW3 H2 c4 l4
    generalize w2.heap.size = g at *
    have hL : Hid ((leftL cs hs).length = len) := by
      show _ = _
      rw [leftL_length]; exact HK.out.2.2
    go_loopw [5, 6, 24] (fun _ _ i wr => ∃ k : Nat, k ≤ len ∧ i = .int .i64 k ∧ Hid (Wk w1 wr l cs ⟨hs, t, n⟩ ∧ Below w.heap.size w wr ∧ Row wr g len ((leftL cs hs).take k ++ List.replicate ((leftL cs hs).length - k) 0))) (fun _ _ i _ => len - (intOf i).toNat)
    case atStart => exact ⟨0, Nat.zero_le _, rfl, H3.out.1, H3.out.2.1, by rw [hL.out]; simpa using H3.out.2.2.2.1⟩
    case round =>
      obtain ⟨k, hk, rfl, Q⟩ := hrel
      by_cases hlt : k < len
      · obtain ⟨j, hj⟩ : ∃ j, j = ordN cs k := ⟨_, rfl⟩
        have hkc : k < cs.length := by have := HK.out.2.2; omega
        have hjn : j < l.n := by rw [hj, ← Q.out.1.len]; exact ordN_lt hkc
        have d0 := Q.out.1.ord.cell (j := k) (by rw [byW_length]; exact hkc)
        rw [ordN_get hkc, ← hj] at d0
        have hlt' : (k : Int) < (len : Int) := by omega
        have HJ : Hid (j = ordN cs k ∧ k < cs.length) := ⟨hj, hkc⟩
        clear hj hkc
        go_wp2_with fail
        refine (left_at w1 l cs ⟨hs, t, n⟩ _ Q.out.1 HK.out.2.1 j hjn).mono ?_
        obtain ⟨x, hx⟩ : ∃ x, x = lef cs hs j := ⟨_, rfl⟩
        have HX := hid hx
        rw [← hx]
        clear hx d0
        rintro e w4 ⟨rfl, m, rfl⟩
        have H4 : Hid (Wk w1 (wr.drewN m) l cs ⟨hs, t, n⟩ ∧ Below w.heap.size w (wr.drewN m) ∧ Row (wr.drewN m) g len ((leftL cs hs).take k ++ List.replicate ((leftL cs hs).length - k) 0)) := ⟨Q.out.1.drewN _, below_drewN Q.out.2.1 _, row_drewN Q.out.2.2 _⟩
        have d1 := H4.out.2.2.cell (j := k) (by have := hL.out; simp; omega)
        have f1 := H4.out.2.2.frozen k
        clear Q
        generalize wr.drewN m = w4 at *
        go_wp2_with fail
        go_roundw
        case rel =>
          refine ⟨k + 1, by omega, by go_num, ?_, ?_, ?_⟩
          · have h := H3.out.2.2.2.2
            exact H4.out.1.past (by omega) (by omega) (by omega) (by omega) (by omega) _ _
          · exact below_set H4.out.2.1 H3.out.2.2.2.2.1 _
          · have h := H4.out.2.2.set k x
            have e : x = (leftL cs hs).getD k 0 := by rw [leftL_get cs hs HJ.out.2, HX.out, HJ.out.1]
            rw [e, take_step (by rw [leftL_length]; exact HJ.out.2), ← e] at h
            exact h
        case measure => simp [intOf]; omega
      · have hlt' : ¬ (k : Int) < (len : Int) := by omega
        go_wp2_with fail
        go_ret
        refine ⟨_, _, rfl, ?_, H3.out.2.2.2.2.1, Q.out.2.1⟩
        have h := Q.out.2.2
        rw [List.take_of_length_le (by rw [hL.out]; omega), show (leftL cs hs).length - k = 0 by rw [hL.out]; omega] at h
        simpa using h

end Go.Proofs.Ytlicjbnagapdeaa.Crew
