/-
  spec's ranks, at every argument.
-/
import Derived.Test.YtjhenfdmbagaiaaGreatRankMath
namespace Go.Proofs.YtjhenfdmbagaiaaGreat.Win
open Go.ChangeShapes Go.WideShapes Go.ChangeAt Go.RowKit Go.Proofs.YtjhenfdmbagaiaaGreat.Crew

theorem two_boxes (w : World) (n d m e : Int) (t : TypeId) : Box ((w.alloc (.cells #[.int .i64 n, .int .i64 d] t)).alloc (.cells #[.int .i64 m, .int .i64 e] t)) w.heap.size n d ∧ Box ((w.alloc (.cells #[.int .i64 n, .int .i64 d] t)).alloc (.cells #[.int .i64 m, .int .i64 e] t)) (w.heap.size + 1) m e ∧ Below w.heap.size w ((w.alloc (.cells #[.int .i64 n, .int .i64 d] t)).alloc (.cells #[.int .i64 m, .int .i64 e] t)) :=
  ⟨(box_new w n d t).alloc _, box_at _ m e t (by simp), ((Below.refl _ w).alloc (Nat.le_refl _) _).alloc (by simp) _⟩

/-- Two shares in blocks of the call's own. -/
structure Tw (w0 w : World) (n d m e : Int) : Prop where
  one : Box w w0.heap.size n d
  two : Box w (w0.heap.size + 1) m e
  bel : Below w0.heap.size w0 w

theorem Tw.all {w0 w w' : World} {n d m e : Int} (h : Tw w0 w n d m e) (k : Below w.heap.size w w') : Tw w0 w' n d m e :=
  ⟨h.one.kept k h.one.1, h.two.kept k h.two.1, h.bel.trans (k.mono h.bel.size)⟩

theorem tw_new (w : World) (n d m e : Int) (t : TypeId) : Tw w ((w.alloc (.cells #[.int .i64 n, .int .i64 d] t)).alloc (.cells #[.int .i64 m, .int .i64 e] t)) n d m e :=
  ⟨(two_boxes w n d m e t).1, (two_boxes w n d m e t).2.1, (two_boxes w n d m e t).2.2⟩

theorem ret_i64 {x y : Int} (h : x = y) : Ending.returned (.int .i64 x) = .returned (.int .i64 y) := by rw [h]

theorem specAheadIn (n d i m e j : Int) (h : turnOk n d i = true) (h' : turnOk m e j = true) (w : World) :
    Calls Tryz.prog 65 #[sh n d, .int .i64 i, sh m e, .int .i64 j] w fun r w' => r = .returned (.int .i64 (aheadIn n d i m e j)) ∧ Below w.heap.size w w' := by
  have H : Hid (turnOk n d i = true ∧ turnOk m e j = true) := ⟨h, h'⟩
  clear h h'
  have T0 := hide (tw_new w n d m e 63)
  unfold aheadIn
  obtain ⟨p, hp⟩ : ∃ p, p = dueV n d i := ⟨_, rfl⟩
  obtain ⟨q, hq⟩ : ∃ q, q = dueV m e j := ⟨_, rfl⟩
  rw [← hp, ← hq]
  have D1 : Hid (∀ w, Calls Tryz.prog 85 #[sh n d, .int .i64 i] w fun e w' => e = .returned (.int .i64 p) ∧ Below w.heap.size w w') := by rw [hp]; exact specDueIn n d i H.out.1
  have D2 : Hid (∀ w, Calls Tryz.prog 85 #[sh m e, .int .i64 j] w fun e w' => e = .returned (.int .i64 q) ∧ Below w.heap.size w w') := by rw [hq]; exact specDueIn m e j H.out.2
  clear hp hq
  obtain ⟨o, ho⟩ : ∃ o, o = overB n d i := ⟨_, rfl⟩
  obtain ⟨u, hu⟩ : ∃ u, u = overB m e j := ⟨_, rfl⟩
  have O1 : Hid (∀ w, Calls Tryz.prog 86 #[sh n d, .int .i64 i] w fun e w' => e = .returned (.int .i64 (if o then 1 else 0)) ∧ Below w.heap.size w w') := by rw [ho, ← overV_B H.out.1]; exact specOver n d i
  have O2 : Hid (∀ w, Calls Tryz.prog 86 #[sh m e, .int .i64 j] w fun e w' => e = .returned (.int .i64 (if u then 1 else 0)) ∧ Below w.heap.size w w') := by rw [hu, ← overV_B H.out.2]; exact specOver m e j
  obtain ⟨x, hx⟩ : ∃ x, x = chainIn n d i := ⟨_, rfl⟩
  obtain ⟨y, hy⟩ : ∃ y, y = chainIn m e j := ⟨_, rfl⟩
  have C1 : Hid (∀ w, Calls Tryz.prog 87 #[sh n d, .int .i64 i] w fun e w' => e = .returned (.int .i64 x) ∧ Below w.heap.size w w') := by rw [hx]; exact specChainIn n d i H.out.1
  have C2 : Hid (∀ w, Calls Tryz.prog 87 #[sh m e, .int .i64 j] w fun e w' => e = .returned (.int .i64 y) ∧ Below w.heap.size w w') := by rw [hy]; exact specChainIn m e j H.out.2
  have E : Hid (rankC n d i = (if o then x else 0) ∧ rankC m e j = (if u then y else 0)) := by
    refine ⟨?_, ?_⟩
    · rw [rankC, ho, hx]
    · rw [rankC, hu, hy]
  rw [E.out.1, E.out.2, ← ho, ← hu]
  clear ho hu hx hy E H
  by_cases h1 : p = q
  · subst h1
    rw [cmp_eq]
    cases o <;> cases u
    · have e0 : (if false && !false then (1 : Int) else if !false && false then -1 else if (if false = true then y else 0) < (if false = true then x else 0) then 1 else if (if false = true then x else 0) < (if false = true then y else 0) then -1 else 0) = 0 := by simp
      rw [e0]
      clear e0
      go_enter Tryz.func65, Tryz.ntmps65
      go_wp2_with fail
      refine (D1.out _).mono ?_
      rintro r w1 ⟨rfl, b1⟩
      have T1 := hide (T0.out.all b1)
      clear b1 T0
      obtain ⟨_, c0, c1⟩ := T1.out.one
      obtain ⟨_, c2, c3⟩ := T1.out.two
      go_wp2_with fail
      refine (D2.out _).mono ?_
      rintro r w2 ⟨rfl, b2⟩
      have T2 := hide (T1.out.all b2)
      clear b2 T1 c0 c1 c2 c3
      obtain ⟨_, c0, c1⟩ := T2.out.one
      obtain ⟨_, c2, c3⟩ := T2.out.two
      go_wp2_with fail
      refine (O1.out _).mono ?_
      rintro r w3 ⟨rfl, b3⟩
      have T3 := hide (T2.out.all b3)
      clear b3 T2 c0 c1 c2 c3
      obtain ⟨_, c0, c1⟩ := T3.out.one
      obtain ⟨_, c2, c3⟩ := T3.out.two
      go_wp2_with fail
      refine (O2.out _).mono ?_
      rintro r w4 ⟨rfl, b4⟩
      have T4 := hide (T3.out.all b4)
      clear b4 T3 c0 c1 c2 c3
      go_wp2_with fail
      go_ret
      exact ⟨rfl, T4.out.bel⟩
    · have e0 : (if false && !true then (1 : Int) else if !false && true then -1 else if (if true = true then y else 0) < (if false = true then x else 0) then 1 else if (if false = true then x else 0) < (if true = true then y else 0) then -1 else 0) = -1 := by simp
      rw [e0]
      clear e0
      go_enter Tryz.func65, Tryz.ntmps65
      go_wp2_with fail
      refine (D1.out _).mono ?_
      rintro r w1 ⟨rfl, b1⟩
      have T1 := hide (T0.out.all b1)
      clear b1 T0
      obtain ⟨_, c0, c1⟩ := T1.out.one
      obtain ⟨_, c2, c3⟩ := T1.out.two
      go_wp2_with fail
      refine (D2.out _).mono ?_
      rintro r w2 ⟨rfl, b2⟩
      have T2 := hide (T1.out.all b2)
      clear b2 T1 c0 c1 c2 c3
      obtain ⟨_, c0, c1⟩ := T2.out.one
      obtain ⟨_, c2, c3⟩ := T2.out.two
      go_wp2_with fail
      refine (O1.out _).mono ?_
      rintro r w3 ⟨rfl, b3⟩
      have T3 := hide (T2.out.all b3)
      clear b3 T2 c0 c1 c2 c3
      obtain ⟨_, c0, c1⟩ := T3.out.one
      obtain ⟨_, c2, c3⟩ := T3.out.two
      go_wp2_with fail
      refine (O2.out _).mono ?_
      rintro r w4 ⟨rfl, b4⟩
      have T4 := hide (T3.out.all b4)
      clear b4 T3 c0 c1 c2 c3
      go_wp2_with fail
      go_ret
      exact ⟨rfl, T4.out.bel⟩
    · have e0 : (if true && !false then (1 : Int) else if !true && false then -1 else if (if false = true then y else 0) < (if true = true then x else 0) then 1 else if (if true = true then x else 0) < (if false = true then y else 0) then -1 else 0) = 1 := by simp
      rw [e0]
      clear e0
      go_enter Tryz.func65, Tryz.ntmps65
      go_wp2_with fail
      refine (D1.out _).mono ?_
      rintro r w1 ⟨rfl, b1⟩
      have T1 := hide (T0.out.all b1)
      clear b1 T0
      obtain ⟨_, c0, c1⟩ := T1.out.one
      obtain ⟨_, c2, c3⟩ := T1.out.two
      go_wp2_with fail
      refine (D2.out _).mono ?_
      rintro r w2 ⟨rfl, b2⟩
      have T2 := hide (T1.out.all b2)
      clear b2 T1 c0 c1 c2 c3
      obtain ⟨_, c0, c1⟩ := T2.out.one
      obtain ⟨_, c2, c3⟩ := T2.out.two
      go_wp2_with fail
      refine (O1.out _).mono ?_
      rintro r w3 ⟨rfl, b3⟩
      have T3 := hide (T2.out.all b3)
      clear b3 T2 c0 c1 c2 c3
      obtain ⟨_, c0, c1⟩ := T3.out.one
      obtain ⟨_, c2, c3⟩ := T3.out.two
      go_wp2_with fail
      refine (O2.out _).mono ?_
      rintro r w4 ⟨rfl, b4⟩
      have T4 := hide (T3.out.all b4)
      clear b4 T3 c0 c1 c2 c3
      go_wp2_with fail
      go_ret
      exact ⟨rfl, T4.out.bel⟩
    · obtain ⟨z, hz⟩ : ∃ z : Int, z = if y < x then 1 else if x < y then -1 else 0 := ⟨_, rfl⟩
      have e0 : (if true && !true then (1 : Int) else if !true && true then -1 else if (if true = true then y else 0) < (if true = true then x else 0) then 1 else if (if true = true then x else 0) < (if true = true then y else 0) then -1 else 0) = z := by rw [hz]; simp
      rw [e0]
      clear e0
      by_cases g1 : y < x
      · obtain rfl : z = 1 := by rw [hz, if_pos g1]
        clear hz
        go_enter Tryz.func65, Tryz.ntmps65
        go_wp2_with fail
        refine (D1.out _).mono ?_
        rintro r w1 ⟨rfl, b1⟩
        have T1 := hide (T0.out.all b1)
        clear b1 T0
        obtain ⟨_, c0, c1⟩ := T1.out.one
        obtain ⟨_, c2, c3⟩ := T1.out.two
        go_wp2_with fail
        refine (D2.out _).mono ?_
        rintro r w2 ⟨rfl, b2⟩
        have T2 := hide (T1.out.all b2)
        clear b2 T1 c0 c1 c2 c3
        obtain ⟨_, c0, c1⟩ := T2.out.one
        obtain ⟨_, c2, c3⟩ := T2.out.two
        go_wp2_with fail
        refine (O1.out _).mono ?_
        rintro r w3 ⟨rfl, b3⟩
        have T3 := hide (T2.out.all b3)
        clear b3 T2 c0 c1 c2 c3
        obtain ⟨_, c0, c1⟩ := T3.out.one
        obtain ⟨_, c2, c3⟩ := T3.out.two
        go_wp2_with fail
        refine (O2.out _).mono ?_
        rintro r w4 ⟨rfl, b4⟩
        have T4 := hide (T3.out.all b4)
        clear b4 T3 c0 c1 c2 c3
        obtain ⟨_, c0, c1⟩ := T4.out.one
        obtain ⟨_, c2, c3⟩ := T4.out.two
        go_wp2_with fail
        refine (C1.out _).mono ?_
        rintro r w5 ⟨rfl, b5⟩
        have T5 := hide (T4.out.all b5)
        clear b5 T4 c0 c1 c2 c3
        obtain ⟨_, c0, c1⟩ := T5.out.one
        obtain ⟨_, c2, c3⟩ := T5.out.two
        go_wp2_with fail
        refine (C2.out _).mono ?_
        rintro r w6 ⟨rfl, b6⟩
        have T6 := hide (T5.out.all b6)
        clear b6 T5 c0 c1 c2 c3
        go_wp2_with fail
        go_ret
        exact ⟨rfl, T6.out.bel⟩
      · have d1 : decide (y < x) = false := by simp; omega
        rw [if_neg g1] at hz
        clear g1
        have hz' : (x < y ∧ z = -1) ∨ (decide (x < y) = false ∧ z = 0) := by
          by_cases g2 : x < y
          · rw [if_pos g2] at hz
            exact .inl ⟨g2, hz⟩
          · rw [if_neg g2] at hz
            exact .inr ⟨decide_eq_false g2, hz⟩
        clear hz
        rcases hz' with ⟨g2, rfl⟩ | ⟨g2, rfl⟩
        all_goals
          go_enter Tryz.func65, Tryz.ntmps65
          go_wp2_with fail
          refine (D1.out _).mono ?_
          rintro r w1 ⟨rfl, b1⟩
          have T1 := hide (T0.out.all b1)
          clear b1 T0
          obtain ⟨_, c0, c1⟩ := T1.out.one
          obtain ⟨_, c2, c3⟩ := T1.out.two
          go_wp2_with fail
          refine (D2.out _).mono ?_
          rintro r w2 ⟨rfl, b2⟩
          have T2 := hide (T1.out.all b2)
          clear b2 T1 c0 c1 c2 c3
          obtain ⟨_, c0, c1⟩ := T2.out.one
          obtain ⟨_, c2, c3⟩ := T2.out.two
          go_wp2_with fail
          refine (O1.out _).mono ?_
          rintro r w3 ⟨rfl, b3⟩
          have T3 := hide (T2.out.all b3)
          clear b3 T2 c0 c1 c2 c3
          obtain ⟨_, c0, c1⟩ := T3.out.one
          obtain ⟨_, c2, c3⟩ := T3.out.two
          go_wp2_with fail
          refine (O2.out _).mono ?_
          rintro r w4 ⟨rfl, b4⟩
          have T4 := hide (T3.out.all b4)
          clear b4 T3 c0 c1 c2 c3
          obtain ⟨_, c0, c1⟩ := T4.out.one
          obtain ⟨_, c2, c3⟩ := T4.out.two
          go_wp2_with fail
          refine (C1.out _).mono ?_
          rintro r w5 ⟨rfl, b5⟩
          have T5 := hide (T4.out.all b5)
          clear b5 T4 c0 c1 c2 c3
          obtain ⟨_, c0, c1⟩ := T5.out.one
          obtain ⟨_, c2, c3⟩ := T5.out.two
          go_wp2_with fail
          refine (C2.out _).mono ?_
          rintro r w6 ⟨rfl, b6⟩
          have T6 := hide (T5.out.all b6)
          clear b6 T5 c0 c1 c2 c3
          go_wp2_with fail
          go_ret
          exact ⟨rfl, T6.out.bel⟩
  · by_cases h2 : p < q
    · rw [cmp_due _ _ _ _ h2]
      go_enter Tryz.func65, Tryz.ntmps65
      go_wp2_with fail
      refine (D1.out _).mono ?_
      rintro r w1 ⟨rfl, b1⟩
      have T1 := hide (T0.out.all b1)
      clear b1 T0
      obtain ⟨_, c0, c1⟩ := T1.out.one
      obtain ⟨_, c2, c3⟩ := T1.out.two
      go_wp2_with fail
      refine (D2.out _).mono ?_
      rintro r w2 ⟨rfl, b2⟩
      have T2 := hide (T1.out.all b2)
      clear b2 T1 c0 c1 c2 c3
      go_wp2_with fail
      go_ret
      exact ⟨rfl, T2.out.bel⟩
    · rw [cmp_gt _ _ _ _ (by omega)]
      have hd : decide (p < q) = false := by simp; omega
      go_enter Tryz.func65, Tryz.ntmps65
      go_wp2_with fail
      refine (D1.out _).mono ?_
      rintro r w1 ⟨rfl, b1⟩
      have T1 := hide (T0.out.all b1)
      clear b1 T0
      obtain ⟨_, c0, c1⟩ := T1.out.one
      obtain ⟨_, c2, c3⟩ := T1.out.two
      go_wp2_with fail
      refine (D2.out _).mono ?_
      rintro r w2 ⟨rfl, b2⟩
      have T2 := hide (T1.out.all b2)
      clear b2 T1 c0 c1 c2 c3
      go_wp2_with fail
      go_ret
      exact ⟨rfl, T2.out.bel⟩

end Go.Proofs.YtjhenfdmbagaiaaGreat.Win
