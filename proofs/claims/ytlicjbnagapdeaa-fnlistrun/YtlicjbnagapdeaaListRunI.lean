/-
  A run down the list, by impl.
-/
import Derived.Test.YtlicjbnagapdeaaListNextI
namespace Go.Proofs.Ytlicjbnagapdeaa.Crew
open Go.ChangeShapes Go.WideShapes Go.ChangeAt Go.RowKit

/-- What ListRun answers, and leaves. -/
def RunPostL (w : World) (cs hs : List Int) (t p n : Int) (e : Ending) (w' : World) : Prop :=
  ∃ b lb cb d ld cd f lf cf, e = .returned (.tuple #[lv (.slice b lb cb) (.slice d ld cd) (lrT cs hs t p n) (lrP cs hs t p n), .slice f lf cf]) ∧ Fit w' w.heap.size b lb cb (lrC cs hs t p n) ∧ Fit w' w.heap.size d ld cd (lrH cs hs t p n) ∧ Fit w' w.heap.size f lf cf (lrL cs hs t p n) ∧ Apart b d ∧ Apart b f ∧ Apart d f ∧ Below w.heap.size w w'

/-- Nothing: stores into the answer's block, and an empty list behind them. -/
theorem run_none {w u : World} {cs hs : List Int} {t p n : Int} {x y : Value} {t' p' : Int} (h : lrOk cs hs t p n = false) (B : Begun w u x y t' p') : RunPostL w cs hs t p n (.returned (.tuple #[lv (.slice none 0 0) (.slice none 0 0) 0 0, .slice (some ⟨u.heap.size, 0, none⟩) 0 0])) (((((u.setCell ⟨w.heap.size + 1, 0, none⟩ (.slice none 0 0)).setCell ⟨w.heap.size + 1, 1, none⟩ (.slice none 0 0)).setCell ⟨w.heap.size + 1, 2, none⟩ (.int .i64 0)).setCell ⟨w.heap.size + 1, 3, none⟩ (.int .i64 0)).alloc (.cells #[] 2)) := by
  obtain ⟨e1, e2, e3, e4, e5⟩ := lr_no h
  unfold RunPostL
  rw [e1, e2, e3, e4, e5]
  have hn := row_nil ((((u.setCell ⟨w.heap.size + 1, 0, none⟩ (.slice none 0 0)).setCell ⟨w.heap.size + 1, 1, none⟩ (.slice none 0 0)).setCell ⟨w.heap.size + 1, 2, none⟩ (.int .i64 0)).setCell ⟨w.heap.size + 1, 3, none⟩ (.int .i64 0))
  have b1 := B.bel.size
  refine ⟨_, _, _, _, _, _, _, _, _, rfl, fit_nil _ _, fit_nil _ _, ?_, apart_none _, apart_none _, apart_none _, (below_sets4 B.bel (Nat.le_succ _) _ _ _ _).alloc (by simpa using b1) _⟩
  have := hn.fit (base := w.heap.size) (len := 0) (by simpa using b1) rfl
  simpa using this

/-- A List and a list are answered. -/
theorem run_some {w u : World} {cs hs : List Int} {t p n : Int} {x y : Value} {t' p' : Int} (h : lrOk cs hs t p n = true) (B : Begun w u x y t' p') {gC cC gH cH gT cT m k : Nat} (RC : Row u gC cC cs) (RH : Row u gH cH (lsAt cs ⟨hs, t, p.toNat⟩ n.toNat).had) (RT : Row u gT cT (lsTaken cs ⟨hs, t, p.toNat⟩ n.toNat))
    (lC : w.heap.size + 1 < gC) (lH : w.heap.size + 1 < gH) (lT : w.heap.size + 1 < gT) (CH : gC ≠ gH) (CT : gC ≠ gT) (HT : gH ≠ gT) (hl : cs.length = m) (hl' : (lsAt cs ⟨hs, t, p.toNat⟩ n.toNat).had.length = m) (hk : n.toNat = k) :
    RunPostL w cs hs t p n (.returned (.tuple #[lv (.slice (some ⟨gC, 0, none⟩) m cC) (.slice (some ⟨gH, 0, none⟩) m cH) (lsAt cs ⟨hs, t, p.toNat⟩ n.toNat).turns ((lsAt cs ⟨hs, t, p.toNat⟩ n.toNat).pos : Int), .slice (some ⟨gT, 0, none⟩) k cT])) ((((u.setCell ⟨w.heap.size + 1, 0, none⟩ (.slice (some ⟨gC, 0, none⟩) m cC)).setCell ⟨w.heap.size + 1, 1, none⟩ (.slice (some ⟨gH, 0, none⟩) m cH)).setCell ⟨w.heap.size + 1, 2, none⟩ (.int .i64 (lsAt cs ⟨hs, t, p.toNat⟩ n.toNat).turns)).setCell ⟨w.heap.size + 1, 3, none⟩ (.int .i64 ((lsAt cs ⟨hs, t, p.toNat⟩ n.toNat).pos : Int))) := by
  obtain ⟨e1, e2, e3, e4, e5⟩ := lr_yes h
  unfold RunPostL
  rw [e1, e2, e3, e4, e5]
  refine ⟨_, _, _, _, _, _, _, _, _, rfl, (RC.sets4 (by omega) _ _ _ _).fit (by omega) hl, (RH.sets4 (by omega) _ _ _ _).fit (by omega) hl', (RT.sets4 (by omega) _ _ _ _).fit (by omega) (by rw [lsTaken_length]; exact hk), ?_, ?_, ?_, below_sets4 B.bel (Nat.le_succ _) _ _ _ _⟩
  · exact fun x y hx hy => by cases hx; cases hy; exact CH
  · exact fun x y hx hy => by cases hx; cases hy; exact CT
  · exact fun x y hx hy => by cases hx; cases hy; exact HT

/-- impl.ListRun where it cannot be. -/
theorem implRun_off (a : Option Addr) (len cap : Nat) (cs : List Int) (a' : Option Addr) (len' cap' : Nat) (hs : List Int) (t p n : Int) (w : World) (I : Ints w a len cs) (J : Ints w a' len' hs) (hk : (listOk cs hs t p && within n 0 3000) = false) :
    Calls Try.prog 20 #[lv (.slice a len cap) (.slice a' len' cap') t p, .int .i64 n] w (RunPostL w cs hs t p n) := by
  obtain ⟨W0, hW0⟩ : ∃ W0, W0 = (w.alloc (.cells #[.slice a len cap, .slice a' len' cap', .int .i64 t, .int .i64 p] 31)).alloc (.cells #[.slice none 0 0, .slice none 0 0, .int .i64 0, .int .i64 0] 31) := ⟨_, rfl⟩
  have H0 : Hid (Begun w W0 (.slice a len cap) (.slice a' len' cap') t p) := by rw [hW0]; exact begun_new w _ _ t p
  have HI : Hid (Ints w a len cs ∧ Ints w a' len' hs ∧ lrOk cs hs t p n = false) := ⟨I, J, by rw [lrOk, hk]; rfl⟩
  clear I J
  cases hc : listOk cs hs t p
  · have HC : Hid (listOk cs hs t p = false) := hc
    clear hc hk
    go_enter Try.func20, Try.ntmps20
    go_wp2_with fail
    rw [← hW0]
    clear hW0
    refine (implListX a len cap cs a' len' cap' hs t p _ (HI.out.1.kept H0.out.bel) (HI.out.2.1.kept H0.out.bel)).mono ?_
    rw [HC.out]
    rintro e w1 ⟨rfl, B1⟩
    have H1 : Hid (Begun w w1 (.slice a len cap) (.slice a' len' cap') t p) := H0.out.all B1
    clear H0 B1
    have q0 := H1.out.res.c0
    have q1 := H1.out.res.c1
    have q2 := H1.out.res.c2
    have q3 := H1.out.res.c3
    have f0 := H1.out.res.fr 0
    have f1 := H1.out.res.fr 1
    have f2 := H1.out.res.fr 2
    have f3 := H1.out.res.fr 3
    have n1 := H1.out.res.lt
    have n2 := Nat.ne_of_lt n1
    have n3 := Nat.ne_of_gt n1
    go_wp2_with fail
    refine bodyPost_ret (ret_quad2 rfl rfl rfl (((((H1.out.res.set0 _).set1 _).set2 _).set3 _).alloc _)) rfl ?_
    exact run_none HI.out.2.2 H1.out
  · have hw : within n 0 3000 = false := by rw [hc] at hk; simpa using hk
    have HC : Hid (listOk cs hs t p = true ∧ within n 0 3000 = false) := ⟨hc, hw⟩
    clear hc hk hw
    go_enter Try.func20, Try.ntmps20
    go_wp2_with fail
    rw [← hW0]
    clear hW0
    refine (implListX a len cap cs a' len' cap' hs t p _ (HI.out.1.kept H0.out.bel) (HI.out.2.1.kept H0.out.bel)).mono ?_
    rw [HC.out.1]
    rintro e w1 ⟨rfl, B1⟩
    have H1 : Hid (Begun w w1 (.slice a len cap) (.slice a' len' cap') t p) := H0.out.all B1
    clear H0 B1
    go_wp2_with fail
    refine (steps_any n _).mono ?_
    rw [HC.out.2]
    rintro e w2 ⟨rfl, rfl⟩
    have q0 := H1.out.res.c0
    have q1 := H1.out.res.c1
    have q2 := H1.out.res.c2
    have q3 := H1.out.res.c3
    have f0 := H1.out.res.fr 0
    have f1 := H1.out.res.fr 1
    have f2 := H1.out.res.fr 2
    have f3 := H1.out.res.fr 3
    have n1 := H1.out.res.lt
    have n2 := Nat.ne_of_lt n1
    have n3 := Nat.ne_of_gt n1
    go_wp2_with fail
    refine bodyPost_ret (ret_quad2 rfl rfl rfl (((((H1.out.res.set0 _).set1 _).set2 _).set3 _).alloc _)) rfl ?_
    exact run_none HI.out.2.2 H1.out

/-- What the loop of impl.ListRun knows. -/
structure Ru (w w1 wr : World) (x y : Value) (t p : Int) (b g : Nat) (m : Nat) (row : List Int) (l : Wl) (cs : List Int) (s : Ls) : Prop where
  beg : Begun w wr x y t p
  wk : Wk w1 wr l cs s
  row : Row wr g m row
  b : l.b = b
  lo : w1.heap.size ≤ g
  gb : g ≠ l.b
  gC : g ≠ l.gC
  gH : g ≠ l.gH

theorem Ru.all {w w1 wr wr' : World} {x y : Value} {t p : Int} {b g : Nat} {m : Nat} {row : List Int} {l : Wl} {cs : List Int} {s : Ls} (h : Ru w w1 wr x y t p b g m row l cs s) (k : Below wr.heap.size wr wr') : Ru w w1 wr' x y t p b g m row l cs s :=
  ⟨h.beg.all k, h.wk.all k, h.row.all k, h.b, h.lo, h.gb, h.gC, h.gH⟩

theorem Begun.mine {w u u' : World} {x y : Value} {t p : Int} {b g B : Nat} (h : Begun w u x y t p) (k : Mine b g u u') (hb : w.heap.size + 1 < b) (hg : w.heap.size + 1 < g) (k2 : Below B w u') (hB : w.heap.size ≤ B) : Begun w u' x y t p :=
  ⟨h.arg.same k.size (k.block _ h.arg.lt (by omega) (by omega)), by
    unfold Quad
    rw [k.block _ h.res.lt (by omega) (by omega)]
    exact h.res, k2.mono hB⟩

theorem Ru.turn {w w1 wr wr' : World} {x y : Value} {t p : Int} {b g : Nat} {m : Nat} {row : List Int} {l l' : Wl} {cs : List Int} {s s' : Ls} (h : Ru w w1 wr x y t p b g m row l cs s) (hw : w.heap.size + 1 < w1.heap.size) (k : Gone w1 wr wr' l cs s' l') (k2 : Below w.heap.size w w1) : Ru w w1 wr' x y t p b g m row l' cs s' := by
  have h1 := h.wk.lob
  have h2 := h.wk.loH
  have h3 := h.row.lt
  refine ⟨h.beg.mine k.mine (by omega) (by omega) (below_call k2 k2.size k.wk.bel) (Nat.le_refl _), k.wk, h.row.mine k.mine h.gb h.gH, by rw [k.b]; exact h.b, h.lo, by rw [k.b]; exact h.gb, by rw [k.gC]; exact h.gC, ?_⟩
  rcases k.gH with e | e
  · rw [e]; exact h.gH
  · omega

/-- impl.ListRun where it may be. -/
theorem implRun_on (a : Option Addr) (len cap : Nat) (cs : List Int) (a' : Option Addr) (len' cap' : Nat) (hs : List Int) (t p n : Int) (w : World) (I : Ints w a len cs) (J : Ints w a' len' hs) (hk : listOk cs hs t p = true) (hw : within n 0 3000 = true) :
    Calls Try.prog 20 #[lv (.slice a len cap) (.slice a' len' cap') t p, .int .i64 n] w (RunPostL w cs hs t p n) := by
  obtain ⟨W0, hW0⟩ : ∃ W0, W0 = (w.alloc (.cells #[.slice a len cap, .slice a' len' cap', .int .i64 t, .int .i64 p] 31)).alloc (.cells #[.slice none 0 0, .slice none 0 0, .int .i64 0, .int .i64 0] 31) := ⟨_, rfl⟩
  have H0 : Hid (Begun w W0 (.slice a len cap) (.slice a' len' cap') t p) := by rw [hW0]; exact begun_new w _ _ t p
  have hn := within_yes hw
  obtain ⟨m, rfl⟩ := Int.eq_ofNat_of_zero_le hn.1
  obtain ⟨q, rfl, R⟩ := right_of hk
  have hr : lrOk cs hs t q m = lsOkTo cs ⟨hs, t, q⟩ m := by rw [lrOk, hk, hw, Int.toNat_natCast, Int.toNat_natCast]; rfl
  have HI : Hid (Ints w a len cs ∧ Ints w a' len' hs ∧ listOk cs hs t q = true ∧ within (m : Int) 0 3000 = true ∧ Right cs ⟨hs, t, q⟩ ∧ lrOk cs hs t q m = lsOkTo cs ⟨hs, t, q⟩ m) := ⟨I, J, hk, hw, R, hr⟩
  have m3 : (m : Int) ≤ 3000 := hn.2
  have hm := made_ints m (by omega)
  clear I J hk hw hn R hr
  go_enter Try.func20, Try.ntmps20
  go_wp2_with fail
  rw [← hW0]
  clear hW0
  refine (implListX a len cap cs a' len' cap' hs t q _ (HI.out.1.kept H0.out.bel) (HI.out.2.1.kept H0.out.bel)).mono ?_
  rw [HI.out.2.2.1]
  rintro e w1 ⟨rfl, B1⟩
  have H1 : Hid (Begun w w1 (.slice a len cap) (.slice a' len' cap') t q) := H0.out.all B1
  clear H0 B1
  go_wp2_with fail
  refine (steps_any m _).mono ?_
  rw [HI.out.2.2.2.1]
  rintro e w1' ⟨rfl, rfl⟩
  have t0 := H1.out.arg.c0
  have t1 := H1.out.arg.c1
  have t2 := H1.out.arg.c2
  have t3 := H1.out.arg.c3
  go_wp2_with fail
  clear t0 t1 t2 t3
  refine (walkOf_any a len cap cs a' len' cap' hs t q _ (HI.out.1.kept H1.out.bel) (HI.out.2.1.kept H1.out.bel) HI.out.2.2.2.2.1).mono ?_
  rintro e w2 ⟨l, rfl, K2⟩
  have hz : w.heap.size + 1 < w1'.heap.size := H1.out.res.lt
  have HB : Hid (Below w.heap.size w w1') := H1.out.bel
  have H2 : Hid (Ru w w1' (w2.alloc (.cells (zeros m) 2)) (.slice a len cap) (.slice a' len' cap') t q l.b w2.heap.size m (List.replicate m 0) l cs ⟨hs, t, q⟩) :=
    ⟨(H1.out.all K2.bel).all (below_new _ _), K2.all (below_new _ _), row_zeros w2 m (by omega), rfl, K2.bel.size, Nat.ne_of_gt K2.wlk.lt, Nat.ne_of_gt K2.crew.lt, Nat.ne_of_gt K2.had.lt⟩
  have hO : Hid (l.gO ≠ w2.heap.size) := Nat.ne_of_lt K2.ord.lt
  have eO : l.gO = l.gO := rfl
  obtain ⟨gO, hgO⟩ : ∃ gO, gO = l.gO := ⟨_, rfl⟩
  have HO : Hid (gO ≠ w2.heap.size ∧ l.gO = gO) := ⟨by rw [hgO]; exact hO.out, hgO.symm⟩
  clear K2 H1 hO eO hgO
  go_wp2_with fail
  generalize w2.alloc (.cells (zeros m) 2) = w3 at *
  generalize w2.heap.size = g at *
  obtain ⟨b, hb⟩ : ∃ b, b = l.b := ⟨_, rfl⟩
  rw [← hb] at H2 ⊢
  clear hb
  go_loopw [8, 9, 10, 27] (fun _ _ _ i wr => ∃ k : Nat, ∃ l : Wl, k ≤ m ∧ i = .int .i64 k ∧ Hid (lsOkTo cs ⟨hs, t, q⟩ k = true ∧ Ru w w1' wr (.slice a len cap) (.slice a' len' cap') t q b g m (lsTaken cs ⟨hs, t, q⟩ k ++ List.replicate (m - k) 0) l cs (lsAt cs ⟨hs, t, q⟩ k) ∧ l.gO = gO)) (fun _ _ _ i _ => m - (intOf i).toNat)
  case atStart => exact ⟨0, l, Nat.zero_le _, rfl, rfl, by have h := H2.out; simpa [lsTaken, lsAt] using h, HO.out.2⟩
  case round =>
    obtain ⟨k, l, hk, rfl, Q⟩ := hrel
    by_cases hlt : k < m
    · have hlt' : (k : Int) < (m : Int) := by omega
      have eb := Q.out.2.1.b
      cases hc : lsCan cs (lsAt cs ⟨hs, t, q⟩ k)
      · have HC : Hid (lsCan cs (lsAt cs ⟨hs, t, q⟩ k) = false) := hc
        clear hc
        have HE := hid eb
        clear eb
        go_wp2_with fail
        rw [← HE.out]
        refine (takeTurn_no w1' l cs _ _ Q.out.2.1.wk (HI.out.2.2.2.2.1.at Q.out.1) HC.out).mono ?_
        rintro e w4 ⟨rfl, B4⟩
        have H4 : Hid (Begun w w4 (.slice a len cap) (.slice a' len' cap') t q) := Q.out.2.1.beg.all B4
        have HN : Hid (lrOk cs hs t q m = false) := by
          show _ = _
          rw [HI.out.2.2.2.2.2]
          exact lsOkTo_false (k := k + 1) (by rw [lsOkTo, Q.out.1, HC.out]; rfl) (by omega)
        clear B4 Q
        have q0 := H4.out.res.c0
        have q1 := H4.out.res.c1
        have q2 := H4.out.res.c2
        have q3 := H4.out.res.c3
        have f0 := H4.out.res.fr 0
        have f1 := H4.out.res.fr 1
        have f2 := H4.out.res.fr 2
        have f3 := H4.out.res.fr 3
        have n1 := H4.out.res.lt
        have n2 := Nat.ne_of_lt n1
        have n3 := Nat.ne_of_gt n1
        go_wp2_with fail
        refine bodyPost_ret (ret_quad2 rfl rfl rfl (((((H4.out.res.set0 _).set1 _).set2 _).set3 _).alloc _)) rfl ?_
        exact run_none HN.out H4.out
      · have HC : Hid (lsCan cs (lsAt cs ⟨hs, t, q⟩ k) = true) := hc
        clear hc
        have HE := hid eb
        clear eb
        obtain ⟨v, hv⟩ : ∃ v, v = lsWho cs (lsFresh cs (lsAt cs ⟨hs, t, q⟩ k)) := ⟨_, rfl⟩
        have HV := hid hv
        clear hv
        go_wp2_with fail
        have T := takeTurn_yes w1' l cs _ _ Q.out.2.1.wk (HI.out.2.2.2.2.1.at Q.out.1) HC.out
        rw [HE.out] at T
        refine Calls.mono T ?_
        clear T
        rw [← HV.out]
        rintro e w4 ⟨rfl, l', G⟩
        have H4 : Hid (Ru w w1' w4 (.slice a len cap) (.slice a' len' cap') t q b g m (lsTaken cs ⟨hs, t, q⟩ k ++ List.replicate (m - k) 0) l' cs (lsAt cs ⟨hs, t, q⟩ (k + 1)) ∧ lsOkTo cs ⟨hs, t, q⟩ (k + 1) = true ∧ l'.gO = gO) :=
          ⟨Q.out.2.1.turn hz G HB.out, by rw [lsOkTo, Q.out.1, HC.out]; rfl, by rw [G.gO]; exact Q.out.2.2⟩
        clear G Q HE
        have d1 := H4.out.1.row.cell (j := k) (by rw [List.length_append, lsTaken_length, List.length_replicate]; omega)
        have f1 := H4.out.1.row.frozen k
        go_wp2_with fail
        go_roundw
        case rel =>
          refine ⟨k + 1, l', by omega, by go_num, H4.out.2.1, ?_, H4.out.2.2⟩
          have h := H4.out.1
          have e : (lsTaken cs ⟨hs, t, q⟩ k ++ List.replicate (m - k) 0).set k (v : Int) = lsTaken cs ⟨hs, t, q⟩ (k + 1) ++ List.replicate (m - (k + 1)) 0 := by
            rw [lsTaken, ← HV.out, List.set_append_right _ _ (by rw [lsTaken_length]; exact Nat.le_refl _), lsTaken_length, Nat.sub_self, show m - k = (m - (k + 1)) + 1 by omega, List.replicate_succ, List.set_cons_zero, List.append_assoc]
            rfl
          have hr := h.row.set k (v : Int)
          rw [e] at hr
          have hl1 := h.lo
          refine ⟨⟨h.beg.arg.past (by omega) _, h.beg.res.past (by omega) _, below_set h.beg.bel (by omega) _⟩, h.wk.past h.lo (Ne.symm h.gb) (Ne.symm h.gC) (Ne.symm h.gH) (by rw [H4.out.2.2]; exact HO.out.1) _ _, hr, h.b, h.lo, h.gb, h.gC, h.gH⟩
        case measure => simp [intOf]; omega
    · have hlt' : ¬ (k : Int) < (m : Int) := by omega
      have e : k = m := by omega
      subst e
      have HE := hid Q.out.2.1.b
      obtain ⟨s, hs'⟩ : ∃ s, s = lsAt cs ⟨hs, t, q⟩ k := ⟨_, rfl⟩
      have HS := hid hs'
      clear hs'
      go_wp2_with fail
      rw [← HE.out]
      refine (list_at w1' l cs s _ (by rw [HS.out]; exact Q.out.2.1.wk)).mono ?_
      rintro e w5 ⟨rfl, B5⟩
      have H5 : Hid (Ru w w1' w5 (.slice a len cap) (.slice a' len' cap') t q b g k (lsTaken cs ⟨hs, t, q⟩ k) l cs s ∧ lsOkTo cs ⟨hs, t, q⟩ k = true) := by
        refine ⟨?_, Q.out.1⟩
        have h := Q.out.2.1.all B5
        rw [← HS.out, Nat.sub_self, List.replicate_zero, List.append_nil] at h
        exact h
      clear B5 Q
      have q0 := H5.out.1.beg.res.c0
      have q1 := H5.out.1.beg.res.c1
      have q2 := H5.out.1.beg.res.c2
      have q3 := H5.out.1.beg.res.c3
      have f0 := H5.out.1.beg.res.fr 0
      have f1 := H5.out.1.beg.res.fr 1
      have f2 := H5.out.1.beg.res.fr 2
      have f3 := H5.out.1.beg.res.fr 3
      go_wp2_with fail
      refine bodyPost_ret (ret_quad2 rfl rfl rfl ((((H5.out.1.beg.res.set0 _).set1 _).set2 _).set3 _)) rfl ?_
      have h := H5.out.1
      have h1 := h.wk.loC
      have h2 := h.wk.loH
      have h3 := h.lo
      have hr := run_some (n := (k : Int)) (p := (q : Int)) (hs := hs) (t := t) (m := l.n) (k := k) (by rw [HI.out.2.2.2.2.2]; exact H5.out.2) h.beg h.wk.crew (by rw [Int.toNat_natCast, Int.toNat_natCast, ← HS.out]; exact h.wk.had) (by rw [Int.toNat_natCast, Int.toNat_natCast]; exact h.row) (by omega) (by omega) (by omega) h.wk.CH (Ne.symm h.gC) (Ne.symm h.gH) h.wk.len (by rw [Int.toNat_natCast, Int.toNat_natCast, (HI.out.2.2.2.2.1.at H5.out.2).len]; exact h.wk.len) (Int.toNat_natCast k)
      rw [Int.toNat_natCast, Int.toNat_natCast, ← HS.out] at hr
      exact hr

theorem implListRun (a : Option Addr) (len cap : Nat) (cs : List Int) (a' : Option Addr) (len' cap' : Nat) (hs : List Int) (t p n : Int) (w : World) (I : Ints w a len cs) (J : Ints w a' len' hs) :
    Calls Try.prog 20 #[lv (.slice a len cap) (.slice a' len' cap') t p, .int .i64 n] w (RunPostL w cs hs t p n) := by
  cases h : (listOk cs hs t p && within n 0 3000)
  · exact implRun_off a len cap cs a' len' cap' hs t p n w I J h
  · rw [Bool.and_eq_true] at h
    exact implRun_on a len cap cs a' len' cap' hs t p n w I J h.1 h.2

end Go.Proofs.Ytlicjbnagapdeaa.Crew
