/-
  A walk down the list takes a turn, and is told as a List.
-/
import Derived.Test.YtlicjbnagapdeaaListGoOn
namespace Go.Proofs.Ytlicjbnagapdeaa.Crew
open Go.ChangeShapes Go.WideShapes Go.ChangeAt Go.RowKit

/-- A cycle that begins has somebody to take. -/
theorem new_free {cs : List Int} (h : crewOk cs = true) : lsStuck cs ⟨List.replicate cs.length 0, 0, 0⟩ = false := by
  have h1 := crew_len h
  have h2 : ordN cs 0 < cs.length := ordN_lt (by omega)
  have h3 := get_within (fun n hn => crew_mem h hn) h2
  refine decide_eq_false ?_
  show ¬ cs.getD (ordN cs 0) 0 - (List.replicate cs.length (0 : Int)).getD (ordN cs 0) 0 = 0
  rw [replicate_get]
  omega

theorem over_can {cs : List Int} {s : Ls} (h : crewOk cs = true) (ho : s.turns = sumI cs) : lsCan cs s = true := by
  rw [lsCan, lsFresh, if_pos ho, new_free h]; rfl

/-- What a turn leaves of a walk. -/
structure Gone (w0 w w' : World) (l : Wl) (cs : List Int) (s : Ls) (l' : Wl) : Prop where
  wk : Wk w0 w' l' cs s
  mine : Mine l.b l.gH w w'
  b : l'.b = l.b
  gC : l'.gC = l.gC
  gO : l'.gO = l.gO
  n : l'.n = l.n
  gH : l'.gH = l.gH ∨ w.heap.size ≤ l'.gH

/-- What a turn knows when it stands at whom it takes. -/
structure Stand (w0 w w' : World) (l : Wl) (cs : List Int) (s : Ls) (l' : Wl) : Prop extends Gone w0 w w' l cs s l' where
  right : Right cs s
  free : lsStuck cs s = false

theorem Gone.all {w0 w w' w'' : World} {l l' : Wl} {cs : List Int} {s : Ls} (h : Gone w0 w w' l cs s l') (k : Below w'.heap.size w' w'') : Gone w0 w w'' l cs s l' :=
  ⟨h.wk.all k, h.mine.trans (mine_below k), h.b, h.gC, h.gO, h.n, h.gH⟩

/-- A walk's own stores. -/
theorem Gone.on {w0 w w1 w2 : World} {l l' : Wl} {cs : List Int} {s s2 : Ls} (h : Gone w0 w w1 l cs s l') (k : Wk w0 w2 l' cs s2) (m : Mine l'.b l'.gH w1 w2) : Gone w0 w w2 l cs s2 l' := by
  refine ⟨k, ⟨Nat.le_trans h.mine.size m.size, fun i hi h1 h2 => ?_⟩, h.b, h.gC, h.gO, h.n, h.gH⟩
  refine (m.block i (Nat.lt_of_lt_of_le hi h.mine.size) (by rw [h.b]; exact h1) ?_).trans (h.mine.block i hi h1 h2)
  rcases h.gH with e | e
  · rw [e]; exact h2
  · omega

theorem Stand.all {w0 w w' w'' : World} {l l' : Wl} {cs : List Int} {s : Ls} (h : Stand w0 w w' l cs s l') (k : Below w'.heap.size w' w'') : Stand w0 w w'' l cs s l' := ⟨h.toGone.all k, h.right, h.free⟩

/-- impl's walk: a turn is taken. -/
theorem takeTurn_yes (w0 : World) (l : Wl) (cs : List Int) (s : Ls) (w : World) (K : Wk w0 w l cs s) (R : Right cs s) (hc : lsCan cs s = true) :
    Calls Try.prog 43 #[.pointer (some ⟨l.b, 0, none⟩)] w fun e w' => e = .returned (.tuple #[.int .i64 (lsWho cs (lsFresh cs s) : Nat), .bool true]) ∧ ∃ l', Gone w0 w w' l cs (lsStep cs s) l' := by
  have HI : Hid (Wk w0 w l cs s ∧ Right cs s ∧ lsCan cs s = true) := ⟨K, R, hc⟩
  by_cases ho : s.turns = sumI cs
  · have hn : (l.n : Int) ≤ 1048576 := by have := K.len; have := crew_len R.crew; omega
    obtain ⟨s1, hs1⟩ : ∃ s1 : Ls, s1 = ⟨List.replicate cs.length 0, 0, 0⟩ := ⟨_, rfl⟩
    have HS : Hid (lsFresh cs s = s1) := by
      show _ = _
      rw [lsFresh, if_pos ho, hs1]
    have HO : Hid (decide (s.turns = sumI cs) = true) := by
      show _ = _
      simp [ho]
    have HS1 := hid hs1
    clear K R hc ho hs1
    go_enter Try.func43, Try.ntmps43
    go_wp2_with fail
    refine (isOver_at w0 l cs s _ HI.out.1).mono ?_
    rw [HO.out]
    rintro e1 w1 ⟨rfl, m1, rfl⟩
    have H1 : Hid (Gone w0 w (w.drewN m1) l cs s l) := ⟨HI.out.1.drewN _, mine_below (below_drewN (Below.refl _ _) _), rfl, rfl, rfl, rfl, .inl rfl⟩
    have s1z : w.heap.size ≤ (w.drewN m1).heap.size := Nat.le_refl _
    generalize w.drewN m1 = w1 at *
    go_wp2_with fail
    refine (begin_at w0 l cs s _ H1.out.wk hn).mono ?_
    rintro e2 w2 ⟨rfl, K2, M2⟩
    have H2 : Hid (Gone w0 w w2 l cs ⟨List.replicate cs.length 0, 0, s.pos⟩ ⟨l.b, l.gC, w1.heap.size, l.gO, l.cO, l.n⟩) :=
      ⟨K2, H1.out.mine.trans M2, rfl, rfl, rfl, rfl, .inr H1.out.mine.size⟩
    clear K2 M2 H1 s1z
    generalize w1.heap.size = g1 at *
    have c5 : w2.cell? ⟨l.b, 5, none⟩ = some (.int .i64 (s.pos : Int)) := H2.out.wk.wlk.c5
    have f5 : w2.frozen? ⟨l.b, 5, none⟩ = false := H2.out.wk.wlk.fr 5
    go_wp2_with fail
    have HT : Hid (Stand w0 w (w2.setCell ⟨l.b, 5, none⟩ (.int .i64 0)) l cs s1 ⟨l.b, l.gC, g1, l.gO, l.cO, l.n⟩) := by
      have h := H2.out.on (s2 := s1) (w2 := w2.setCell ⟨l.b, 5, none⟩ (.int .i64 0)) (by rw [HS1.out]; exact H2.out.wk.go 0) (mine_b _)
      refine ⟨h, ?_, ?_⟩
      · rw [HS1.out]; exact right_new HI.out.2.1.crew
      · rw [HS1.out]; exact new_free HI.out.2.1.crew
    clear H2 c5 f5
    generalize w2.setCell ⟨l.b, 5, none⟩ (.int .i64 0) = wv at *
    have hl : cs.length = l.n := HT.out.wk.len
    have h24 := (crew_len HT.out.right.crew).2
    have hp := HT.out.right.lt
    have c4 : wv.cell? ⟨l.b, 4, none⟩ = some (.slice (some ⟨l.gO, 0, none⟩) l.n l.cO) := HT.out.wk.wlk.c4
    have c5 : wv.cell? ⟨l.b, 5, none⟩ = some (.int .i64 (s1.pos : Int)) := HT.out.wk.wlk.c5
    have d0 : wv.cell? ⟨l.gO, s1.pos, none⟩ = some (.int .i64 ((byW cs cs.length).getD s1.pos 0)) := HT.out.wk.ord.cell (j := s1.pos) (by rw [byW_length]; exact hp)
    rw [ordN_get hp] at d0
    obtain ⟨k, hk⟩ : ∃ k, k = ordN cs s1.pos := ⟨_, rfl⟩
    rw [← hk] at d0
    have hkn : k < l.n := by rw [hk, ← hl]; exact ordN_lt hp
    have hp' : (s1.pos : Int) < (l.n : Int) := by omega
    have hx : lef cs s1.had k ≠ 0 := by
      have h := HT.out.free
      rw [lsStuck, lsWho, ← hk] at h
      simpa using h
    obtain ⟨x, hxx⟩ : ∃ x, x = lef cs s1.had k := ⟨_, rfl⟩
    rw [← hxx] at hx
    have hx0 : (x == 0) = false := by simpa using hx
    have HK : Hid (k = lsWho cs s1 ∧ x = lef cs s1.had k) := ⟨hk, hxx⟩
    clear hl h24 hp hk hxx hx
    go_wp2_with fail
    go_quiet (fail)
    have HU : Hid (Stand w0 w (wv.drewN nq) l cs s1 ⟨l.b, l.gC, g1, l.gO, l.cO, l.n⟩) := HT.out.all (below_drewN (Below.refl _ _) _)
    clear c4 c5 d0 HT
    generalize wv.drewN nq = w2 at *
    go_wp2_with fail
    refine (left_at w0 ⟨l.b, l.gC, g1, l.gO, l.cO, l.n⟩ cs s1 _ HU.out.wk HU.out.right k hkn).mono ?_
    rw [← HK.out.2]
    rintro e3 w3 ⟨rfl, m3, rfl⟩
    have HV : Hid (Stand w0 w (w2.drewN m3) l cs s1 ⟨l.b, l.gC, g1, l.gO, l.cO, l.n⟩) := HU.out.all (below_drewN (Below.refl _ _) _)
    clear HU
    generalize w2.drewN m3 = w3 at *
    go_wp2_with fail
    refine (giveTurn_at w0 ⟨l.b, l.gC, g1, l.gO, l.cO, l.n⟩ cs s1 _ HV.out.wk HV.out.right k hkn).mono ?_
    rintro e4 w4 ⟨rfl, K4, M4⟩
    have HW : Hid (Gone w0 w w4 l cs ⟨lsHad cs s1, s1.turns + 1, s1.pos⟩ ⟨l.b, l.gC, g1, l.gO, l.cO, l.n⟩ ∧ Right cs ⟨lsHad cs s1, s1.turns + 1, s1.pos⟩) := by
      have e : s1.had.set k (s1.had.getD k 0 + 1) = lsHad cs s1 := by rw [lsHad, ← HK.out.1]
      rw [e] at K4
      exact ⟨HV.out.toGone.on K4 M4, (HV.out.right.took HV.out.free).moved HV.out.right.lt⟩
    clear K4 M4 HV
    go_wp2_with fail
    refine (goOn_at w0 ⟨l.b, l.gC, g1, l.gO, l.cO, l.n⟩ cs ⟨lsHad cs s1, s1.turns + 1, s1.pos⟩ _ HW.out.1.wk HW.out.2).mono ?_
    rintro e5 w5 ⟨rfl, K5, M5⟩
    have HX : Hid (Gone w0 w w5 l cs (lsTook cs s1) ⟨l.b, l.gC, g1, l.gO, l.cO, l.n⟩) := HW.out.1.on K5 M5
    clear K5 M5 HW
    go_wp2_with fail
    go_ret2
    exact ⟨by rw [HS.out, ← HK.out.1]; rfl, ⟨l.b, l.gC, g1, l.gO, l.cO, l.n⟩, by rw [lsStep, HS.out]; exact HX.out⟩
  · have HS : Hid (lsFresh cs s = s) := by
      show _ = _
      rw [lsFresh, if_neg ho]
    have HO : Hid (decide (s.turns = sumI cs) = false) := by
      show _ = _
      simp [ho]
    clear K R hc ho
    go_enter Try.func43, Try.ntmps43
    go_wp2_with fail
    refine (isOver_at w0 l cs s _ HI.out.1).mono ?_
    rw [HO.out]
    rintro e1 w1 ⟨rfl, m1, rfl⟩
    have HT : Hid (Stand w0 w (w.drewN m1) l cs s l) := by
      refine ⟨⟨HI.out.1.drewN _, mine_below (below_drewN (Below.refl _ _) _), rfl, rfl, rfl, rfl, .inl rfl⟩, HI.out.2.1, ?_⟩
      have h := HI.out.2.2
      rw [lsCan, HS.out] at h
      simpa using h
    generalize w.drewN m1 = wv at *
    have hl : cs.length = l.n := HT.out.wk.len
    have h24 := (crew_len HT.out.right.crew).2
    have hp := HT.out.right.lt
    have c4 : wv.cell? ⟨l.b, 4, none⟩ = some (.slice (some ⟨l.gO, 0, none⟩) l.n l.cO) := HT.out.wk.wlk.c4
    have c5 : wv.cell? ⟨l.b, 5, none⟩ = some (.int .i64 (s.pos : Int)) := HT.out.wk.wlk.c5
    have d0 : wv.cell? ⟨l.gO, s.pos, none⟩ = some (.int .i64 ((byW cs cs.length).getD s.pos 0)) := HT.out.wk.ord.cell (j := s.pos) (by rw [byW_length]; exact hp)
    rw [ordN_get hp] at d0
    obtain ⟨k, hk⟩ : ∃ k, k = ordN cs s.pos := ⟨_, rfl⟩
    rw [← hk] at d0
    have hkn : k < l.n := by rw [hk, ← hl]; exact ordN_lt hp
    have hp' : (s.pos : Int) < (l.n : Int) := by omega
    have hx : lef cs s.had k ≠ 0 := by
      have h := HT.out.free
      rw [lsStuck, lsWho, ← hk] at h
      simpa using h
    obtain ⟨x, hxx⟩ : ∃ x, x = lef cs s.had k := ⟨_, rfl⟩
    rw [← hxx] at hx
    have hx0 : (x == 0) = false := by simpa using hx
    have HK : Hid (k = lsWho cs s ∧ x = lef cs s.had k) := ⟨hk, hxx⟩
    clear hl h24 hp hk hxx hx
    go_wp2_with fail
    go_quiet (fail)
    have HU : Hid (Stand w0 w (wv.drewN nq) l cs s l) := HT.out.all (below_drewN (Below.refl _ _) _)
    clear c4 c5 d0 HT
    generalize wv.drewN nq = w2 at *
    go_wp2_with fail
    refine (left_at w0 l cs s _ HU.out.wk HU.out.right k hkn).mono ?_
    rw [← HK.out.2]
    rintro e3 w3 ⟨rfl, m3, rfl⟩
    have HV : Hid (Stand w0 w (w2.drewN m3) l cs s l) := HU.out.all (below_drewN (Below.refl _ _) _)
    clear HU
    generalize w2.drewN m3 = w3 at *
    go_wp2_with fail
    refine (giveTurn_at w0 l cs s _ HV.out.wk HV.out.right k hkn).mono ?_
    rintro e4 w4 ⟨rfl, K4, M4⟩
    have HW : Hid (Gone w0 w w4 l cs ⟨lsHad cs s, s.turns + 1, s.pos⟩ l ∧ Right cs ⟨lsHad cs s, s.turns + 1, s.pos⟩) := by
      have e : s.had.set k (s.had.getD k 0 + 1) = lsHad cs s := by rw [lsHad, ← HK.out.1]
      rw [e] at K4
      exact ⟨HV.out.toGone.on K4 M4, (HV.out.right.took HV.out.free).moved HV.out.right.lt⟩
    clear K4 M4 HV
    go_wp2_with fail
    refine (goOn_at w0 l cs ⟨lsHad cs s, s.turns + 1, s.pos⟩ _ HW.out.1.wk HW.out.2).mono ?_
    rintro e5 w5 ⟨rfl, K5, M5⟩
    have HX : Hid (Gone w0 w w5 l cs (lsTook cs s) l) := HW.out.1.on K5 M5
    clear K5 M5 HW
    go_wp2_with fail
    go_ret2
    exact ⟨by rw [HS.out, ← HK.out.1]; rfl, l, by rw [lsStep, HS.out]; exact HX.out⟩

/-- impl's walk: nobody is left to take. -/
theorem takeTurn_no (w0 : World) (l : Wl) (cs : List Int) (s : Ls) (w : World) (K : Wk w0 w l cs s) (R : Right cs s) (hc : lsCan cs s = false) :
    Calls Try.prog 43 #[.pointer (some ⟨l.b, 0, none⟩)] w fun e w' => e = .returned (.tuple #[.int .i64 (-1), .bool false]) ∧ Below w.heap.size w w' := by
  have ho : ¬ s.turns = sumI cs := fun h => by rw [over_can R.crew h] at hc; cases hc
  have hstuck : lsStuck cs s = true := by
    rw [lsCan, lsFresh, if_neg ho] at hc
    simpa using hc
  have HI : Hid (Wk w0 w l cs s ∧ Right cs s) := ⟨K, R⟩
  have HO : Hid (decide (s.turns = sumI cs) = false) := by
    show _ = _
    simp [ho]
  have hl := K.len
  have h24 := (crew_len R.crew).2
  have hp := R.lt
  obtain ⟨k, hk⟩ : ∃ k, k = ordN cs s.pos := ⟨_, rfl⟩
  have hkn : k < l.n := by rw [hk, ← hl]; exact ordN_lt hp
  have hp' : (s.pos : Int) < (l.n : Int) := by omega
  have hx : Hid (lef cs s.had k = 0) := by
    rw [lsStuck, lsWho, ← hk] at hstuck
    show _ = _
    exact of_decide_eq_true hstuck
  have HK : Hid (k = ordN cs s.pos ∧ s.pos < cs.length) := ⟨hk, hp⟩
  clear K R hc ho hstuck hl h24 hp hk
  go_enter Try.func43, Try.ntmps43
  go_wp2_with fail
  refine (isOver_at w0 l cs s _ HI.out.1).mono ?_
  rw [HO.out]
  rintro e1 w1 ⟨rfl, m1, rfl⟩
  have HT : Hid (Wk w0 (w.drewN m1) l cs s ∧ Below w.heap.size w (w.drewN m1)) := ⟨HI.out.1.drewN _, below_drewN (Below.refl _ _) _⟩
  generalize w.drewN m1 = wv at *
  have c4 := HT.out.1.wlk.c4
  have c5 := HT.out.1.wlk.c5
  have d0 := HT.out.1.ord.cell (j := s.pos) (by rw [byW_length]; exact HK.out.2)
  rw [ordN_get HK.out.2, ← HK.out.1] at d0
  go_wp2_with fail
  go_quiet (fail)
  have HU : Hid (Wk w0 (wv.drewN nq) l cs s ∧ Below w.heap.size w (wv.drewN nq)) := ⟨HT.out.1.drewN _, below_drewN HT.out.2 _⟩
  clear c4 c5 d0 HT
  generalize wv.drewN nq = w2 at *
  go_wp2_with fail
  refine (left_at w0 l cs s _ HU.out.1 HI.out.2 k hkn).mono ?_
  rw [hx.out]
  rintro e3 w3 ⟨rfl, m3, rfl⟩
  go_wp2_with fail
  go_ret2
  exact ⟨rfl, below_drewN HU.out.2 _⟩

/-- impl's walk: told as a List. -/
theorem list_at (w0 : World) (l : Wl) (cs : List Int) (s : Ls) (w : World) (K : Wk w0 w l cs s) :
    Calls Try.prog 44 #[.pointer (some ⟨l.b, 0, none⟩)] w fun e w' => e = .returned (lv (.slice (some ⟨l.gC, 0, none⟩) l.n l.n) (.slice (some ⟨l.gH, 0, none⟩) l.n l.n) s.turns s.pos) ∧ Below w.heap.size w w' := by
  obtain ⟨W0, hW0⟩ : ∃ W0, W0 = w.alloc (.cells #[.slice none 0 0, .slice none 0 0, .int .i64 0, .int .i64 0] 31) := ⟨_, rfl⟩
  have K0 := K.all (below_new w (.cells #[.slice none 0 0, .slice none 0 0, .int .i64 0, .int .i64 0] 31))
  rw [← hW0] at K0
  have Q0 : Quad W0 w.heap.size (.slice none 0 0) (.slice none 0 0) 0 0 := by rw [hW0]; exact quad_new _ _ _ _ _
  have B0 : Below w.heap.size w W0 := by rw [hW0]; exact below_new _ _
  have lb := K.wlk.lt
  have H : Hid (Quad W0 w.heap.size (.slice none 0 0) (.slice none 0 0) 0 0 ∧ Below w.heap.size w W0) := ⟨Q0, B0⟩
  have c0 := K0.wlk.c0
  have c1 := K0.wlk.c1
  have c3 := K0.wlk.c3
  have c5 := K0.wlk.c5
  have q0 := Q0.c0
  have q1 := Q0.c1
  have q2 := Q0.c2
  have q3 := Q0.c3
  have f0 := Q0.fr 0
  have f1 := Q0.fr 1
  have f2 := Q0.fr 2
  have f3 := Q0.fr 3
  clear K K0 Q0 B0
  go_enter Try.func44, Try.ntmps44
  go_wp2_with fail
  rw [← hW0]
  clear hW0
  go_region
  all_goals (try go_wp2)
  all_goals refine bodyPost_ret (ret_quad rfl rfl (((((H.out.1.set0 _).set1 _).set2 _).set3 _).drew)) rfl ⟨rfl, ?_⟩
  all_goals exact (below_set (below_set (below_set (below_set H.out.2 (Nat.le_refl _) _) (Nat.le_refl _) _) (Nat.le_refl _) _) (Nat.le_refl _) _).drew

end Go.Proofs.Ytlicjbnagapdeaa.Crew
