/-
  impl's chains: what is rounded up is told by closures.
-/
import Derived.Test.YtjhenfdmbagaiaaGreatRankMath
import Derived.BigRegion
namespace Go.Proofs.YtjhenfdmbagaiaaGreat.Win
open Go.ChangeShapes Go.WideShapes Go.ChangeAt Go.RowKit Go.Proofs.YtjhenfdmbagaiaaGreat.Crew

/-- A variable of its own. -/
def One (w : World) (b : Nat) (v : Value) : Prop := b < w.heap.size ∧ w.cell? ⟨b, 0, none⟩ = some v

theorem One.kept {w w' : World} {b B : Nat} {v : Value} (h : One w b v) (k : Below B w w') (hb : b < B) : One w' b v :=
  ⟨Nat.lt_of_lt_of_le h.1 k.size, (k.cell hb).trans h.2⟩

/-- A window in a block of its own. -/
def Win (w : World) (b g : Nat) (j : Int) : Prop := b < w.heap.size ∧ w.cell? ⟨b, 0, none⟩ = some (.pointer (some ⟨g, 0, none⟩)) ∧ w.cell? ⟨b, 1, none⟩ = some (.int .i64 j)

theorem Win.kept {w w' : World} {b B g : Nat} {j : Int} (h : Win w b g j) (k : Below B w w') (hb : b < B) : Win w' b g j :=
  ⟨Nat.lt_of_lt_of_le h.1 k.size, (k.cell hb).trans h.2.1, (k.cell hb).trans h.2.2⟩

theorem told_due (n d j : Int) (h : turnOk n d j = true) (q g a b : Nat) (f : Int) (w : World) (W : Win w q g j) (B : Box w g n d) (F : One w a (.int .i64 f)) (D : One w b (.int .i64 d)) :
    Calls Tryz.prog 114 #[.pointer (some ⟨q, 0, none⟩), .pointer (some ⟨a, 0, none⟩), .pointer (some ⟨b, 0, none⟩)] w fun e w' => e = .returned (.tuple #[.int .i64 (dueV n d j), .int .i64 f, .int .i64 d]) ∧ Below w.heap.size w w' := by
  obtain ⟨u, hu⟩ : ∃ u, u = dueV n d j := ⟨_, rfl⟩
  rw [← hu]
  have H : Hid (turnOk n d j = true ∧ u = dueV n d j ∧ Win w q g j ∧ Box w g n d ∧ One w a (.int .i64 f) ∧ One w b (.int .i64 d)) := ⟨h, hu, W, B, F, D⟩
  clear h hu W B F D
  have DD : Hid (∀ x : Kin w, Calls Tryz.prog 96 #[.agg #[.pointer (some ⟨g, 0, none⟩), .int .i64 j]] x.u fun e w' => e = .returned (.int .i64 u) ∧ Below x.u.heap.size x.u w') := by
    intro x
    have T := turn_yes H.out.1
    refine (due_at n d j g T.1 T.2.1 T.2.2.1 T.2.2.2.1 T.2.2.2.2 x.u (H.out.2.2.2.1.kept x.b H.out.2.2.2.1.1)).mono ?_
    rintro e w' ⟨rfl, b⟩
    exact ⟨ret_i (by rw [H.out.2.1, dueV_yes H.out.1]), b⟩
  have c0 : ∀ x : Kin w, x.u.cell? ⟨q, 0, none⟩ = some (.pointer (some ⟨g, 0, none⟩)) := fun x => x.cell H.out.2.2.1.1 H.out.2.2.1.2.1
  have c1 : ∀ x : Kin w, x.u.cell? ⟨q, 1, none⟩ = some (.int .i64 j) := fun x => x.cell H.out.2.2.1.1 H.out.2.2.1.2.2
  have c2 : ∀ x : Kin w, x.u.cell? ⟨a, 0, none⟩ = some (.int .i64 f) := fun x => x.cell H.out.2.2.2.2.1.1 H.out.2.2.2.2.1.2
  have c3 : ∀ x : Kin w, x.u.cell? ⟨b, 0, none⟩ = some (.int .i64 d) := fun x => x.cell H.out.2.2.2.2.2.1 H.out.2.2.2.2.2.2
  go_enter Tryz.func114, Tryz.ntmps114
  go_wp2_with fail
  refine wp_region_kin (by kernel_rfl) (by kernel_rfl) (fun hne => ?_)
  repeat (go_big_quiet_step ((go_at_call 96; exact kin_calls (DD.out _))))
  refine wpQuiet_nil ?_
  rintro _ ⟨x, rfl⟩
  have bx := x.b
  clear c0 c1 c2 c3 hne DD
  go_wp2_with fail
  go_ret3
  exact ⟨rfl, bx⟩

theorem told_three (q a b : Nat) (x d f : Int) (w : World) (X : One w q (.int .i64 x)) (D : One w a (.int .i64 d)) (F : One w b (.int .i64 f)) :
    Calls Tryz.prog 115 #[.pointer (some ⟨q, 0, none⟩), .pointer (some ⟨a, 0, none⟩), .pointer (some ⟨b, 0, none⟩)] w fun e w' => e = .returned (.tuple #[.int .i64 x, .int .i64 d, .int .i64 f]) ∧ Below w.heap.size w w' := by
  have H : Hid (One w q (.int .i64 x) ∧ One w a (.int .i64 d) ∧ One w b (.int .i64 f)) := ⟨X, D, F⟩
  clear X D F
  have c0 : ∀ y : Kin w, y.u.cell? ⟨q, 0, none⟩ = some (.int .i64 x) := fun y => y.cell H.out.1.1 H.out.1.2
  have c1 : ∀ y : Kin w, y.u.cell? ⟨a, 0, none⟩ = some (.int .i64 d) := fun y => y.cell H.out.2.1.1 H.out.2.1.2
  have c2 : ∀ y : Kin w, y.u.cell? ⟨b, 0, none⟩ = some (.int .i64 f) := fun y => y.cell H.out.2.2.1 H.out.2.2.2
  go_enter Tryz.func115, Tryz.ntmps115
  go_wp2_with fail
  refine wp_region_kin (by kernel_rfl) (by kernel_rfl) (fun hne => ?_)
  repeat (go_big_quiet_step (fail))
  refine wpQuiet_nil ?_
  rintro _ ⟨y, rfl⟩
  have bx := y.b
  clear c0 c1 c2 hne
  go_wp2_with fail
  go_ret3
  exact ⟨rfl, bx⟩

theorem rounded_due (n d j : Int) (h : turnOk n d j = true) (q g a b : Nat) (f : Int) (w : World) (W : Win w q g j) (B : Box w g n d) (F : One w a (.int .i64 f)) (D : One w b (.int .i64 d)) :
    Calls Tryz.prog 113 #[.func (.func 114) #[] #[.pointer (some ⟨q, 0, none⟩), .pointer (some ⟨a, 0, none⟩), .pointer (some ⟨b, 0, none⟩)]] w fun e w' => e = .returned (.int .i64 (Ratio.ceilV (dueV n d j) f d)) ∧ Below w.heap.size w w' := by
  have C : Hid _ := told_due n d j h q g a b f w W B F D
  clear h W B F D
  go_enter Tryz.func113, Tryz.ntmps113
  go_wp2_with fail
  refine Calls.mono C.out ?_
  rintro e w1 ⟨rfl, b1⟩
  go_wp2_with fail
  refine (Ratio.implCeil _ _ _ _).mono ?_
  rintro e w2 ⟨rfl, b2⟩
  go_wp2_with fail
  go_ret
  exact ⟨rfl, b1.trans (b2.mono b1.size)⟩

theorem rounded_three (q a b : Nat) (x d f : Int) (w : World) (X : One w q (.int .i64 x)) (D : One w a (.int .i64 d)) (F : One w b (.int .i64 f)) :
    Calls Tryz.prog 113 #[.func (.func 115) #[] #[.pointer (some ⟨q, 0, none⟩), .pointer (some ⟨a, 0, none⟩), .pointer (some ⟨b, 0, none⟩)]] w fun e w' => e = .returned (.int .i64 (Ratio.ceilV x d f)) ∧ Below w.heap.size w w' := by
  have C : Hid _ := told_three q a b x d f w X D F
  clear X D F
  go_enter Tryz.func113, Tryz.ntmps113
  go_wp2_with fail
  refine Calls.mono C.out ?_
  rintro e w1 ⟨rfl, b1⟩
  go_wp2_with fail
  refine (Ratio.implCeil _ _ _ _).mono ?_
  rintro e w2 ⟨rfl, b2⟩
  go_wp2_with fail
  go_ret
  exact ⟨rfl, b1.trans (b2.mono b1.size)⟩

theorem one_two (w : World) (u v : Value) (t t' : TypeId) : One ((w.alloc (.cells #[u] t)).alloc (.cells #[v] t')).drew w.heap.size u ∧ One ((w.alloc (.cells #[u] t)).alloc (.cells #[v] t')).drew (w.heap.size + 1) v ∧ Below w.heap.size w ((w.alloc (.cells #[u] t)).alloc (.cells #[v] t')).drew := by
  have e : (w.alloc (.cells #[u] t)).heap.size = w.heap.size + 1 := by simp
  refine ⟨⟨by simp; omega, ?_⟩, ⟨by simp, ?_⟩, (((Below.refl _ w).alloc (Nat.le_refl _) _).alloc (by simp) _).drew⟩
  · show ((w.alloc (.cells #[u] t)).alloc (.cells #[v] t')).cell? _ = _
    rw [World.cell?_alloc_past _ _ _ (by simp), World.cell?_alloc_at _ _ _ _ rfl]; rfl
  · show ((w.alloc (.cells #[u] t)).alloc (.cells #[v] t')).cell? _ = _
    rw [← e, World.cell?_alloc_at _ _ _ _ rfl]; rfl

theorem one_new (w : World) (u : Value) (t : TypeId) : One (w.alloc (.cells #[u] t)) w.heap.size u :=
  ⟨by simp, by rw [World.cell?_alloc_at _ _ _ _ rfl]; rfl⟩

set_option maxHeartbeats 8000000 in
theorem chain_at (n d j : Int) (h : turnOk n d j = true) (hh : heavyOk n d = true) (g : Nat) (w : World) (B : Box w g n d) :
    Calls Tryz.prog 95 #[.agg #[.pointer (some ⟨g, 0, none⟩), .int .i64 j]] w fun e w' => e = .returned (.int .i64 (chainIn n d j)) ∧ Below w.heap.size w w' := by
  rw [chainIn_yes hh]
  obtain ⟨hs, h1, h2⟩ := heavy_yes hh
  obtain ⟨n1, n2, d2⟩ := share_yes hs
  have H : Hid (turnOk n d j = true ∧ Box (w.alloc (.cells #[.pointer (some ⟨g, 0, none⟩), .int .i64 j] 101)) g n d ∧ Win (w.alloc (.cells #[.pointer (some ⟨g, 0, none⟩), .int .i64 j] 101)) w.heap.size g j ∧ Below w.heap.size w (w.alloc (.cells #[.pointer (some ⟨g, 0, none⟩), .int .i64 j] 101))) :=
    ⟨h, B.alloc _, ⟨by simp, by rw [World.cell?_alloc_at _ _ _ _ rfl]; rfl, by rw [World.cell?_alloc_at _ _ _ _ rfl]; rfl⟩, (Below.refl _ w).alloc (Nat.le_refl _) _⟩
  have hg := B.1
  clear h hh hs B
  go_enter Tryz.func95, Tryz.ntmps95
  go_wp2_with fail
  generalize w.alloc (.cells #[.pointer (some ⟨g, 0, none⟩), .int .i64 j] 101) = wx at *
  generalize hq : w.heap.size = q at *
  have c0 := H.out.2.2.1.2.1
  have c1 := H.out.2.1.2.1
  have c2 := H.out.2.1.2.2
  have l0 := H.out.2.2.1.1
  have l1 := H.out.2.1.1
  go_region
  · obtain ⟨o1, o2, o3⟩ := one_two wx (.int .i64 d) (.int .i64 (d - n)) 2 2
    generalize ((wx.alloc (.cells #[.int .i64 d] 2)).alloc (.cells #[.int .i64 (d - n)] 2)).drew = wy at *
    have HY : Hid (One wy wx.heap.size (.int .i64 d) ∧ One wy (wx.heap.size + 1) (.int .i64 (d - n)) ∧ Win wy q g j ∧ Box wy g n d ∧ Below q w wy) :=
      ⟨o1, o2, H.out.2.2.1.kept o3 l0, H.out.2.1.kept o3 l1, H.out.2.2.2.trans (o3.mono (Nat.le_of_lt l0))⟩
    have T : Hid (turnOk n d j = true) := H.out.1
    clear o1 o2 o3 c0 c1 c2 H
    generalize wx.heap.size + 1 = b4 at *
    generalize wx.heap.size = b3 at *
    go_wp2_with fail
    refine (rounded_due n d j T.out q g b4 b3 (d - n) _ HY.out.2.2.1 HY.out.2.2.2.1 HY.out.2.1 HY.out.1).mono ?_
    rintro e w2 ⟨rfl, b2⟩
    have H2 : Hid (One w2 b3 (.int .i64 d) ∧ One w2 b4 (.int .i64 (d - n)) ∧ Below q w w2) := ⟨HY.out.1.kept b2 HY.out.1.1, HY.out.2.1.kept b2 HY.out.2.1.1, HY.out.2.2.2.2.trans (b2.mono (Nat.le_of_lt HY.out.2.2.1.1))⟩
    clear HY b2
    go_wp2_with fail
    have k2 := fun v : Value => ((Below.refl w2.heap.size w2).alloc (Nat.le_refl _) (.cells #[v] 2))
    refine (rounded_three w2.heap.size b3 b4 _ d (d - n) _ (one_new w2 _ _) (H2.out.1.kept (k2 _) H2.out.1.1) (H2.out.2.1.kept (k2 _) H2.out.2.1.1)).mono ?_
    rintro e w3 ⟨rfl, b3⟩
    have B3 : Below q w w3 := (H2.out.2.2.trans ((k2 _).mono (by have := H2.out.2.2.size; omega))).trans (b3.mono (by have := H2.out.2.2.size; simp; omega))
    clear k2 b3 H2
    go_wp2_with fail
    go_ret
    rw [hq]
    exact ⟨rfl, B3⟩
  · obtain ⟨o1, o2, o3⟩ := one_two wx (.int .i64 (d - n)) (.int .i64 d) 2 2
    generalize ((wx.alloc (.cells #[.int .i64 (d - n)] 2)).alloc (.cells #[.int .i64 d] 2)).drew = wy at *
    have HY : Hid (One wy (wx.heap.size + 1) (.int .i64 d) ∧ One wy wx.heap.size (.int .i64 (d - n)) ∧ Win wy q g j ∧ Box wy g n d ∧ Below q w wy) :=
      ⟨o2, o1, H.out.2.2.1.kept o3 l0, H.out.2.1.kept o3 l1, H.out.2.2.2.trans (o3.mono (Nat.le_of_lt l0))⟩
    have T : Hid (turnOk n d j = true) := H.out.1
    clear o1 o2 o3 c0 c1 c2 H
    generalize wx.heap.size + 1 = b3 at *
    generalize wx.heap.size = b4 at *
    go_wp2_with fail
    refine (rounded_due n d j T.out q g b4 b3 (d - n) _ HY.out.2.2.1 HY.out.2.2.2.1 HY.out.2.1 HY.out.1).mono ?_
    rintro e w2 ⟨rfl, b2⟩
    have H2 : Hid (One w2 b3 (.int .i64 d) ∧ One w2 b4 (.int .i64 (d - n)) ∧ Below q w w2) := ⟨HY.out.1.kept b2 HY.out.1.1, HY.out.2.1.kept b2 HY.out.2.1.1, HY.out.2.2.2.2.trans (b2.mono (Nat.le_of_lt HY.out.2.2.1.1))⟩
    clear HY b2
    go_wp2_with fail
    have k2 := fun v : Value => ((Below.refl w2.heap.size w2).alloc (Nat.le_refl _) (.cells #[v] 2))
    refine (rounded_three w2.heap.size b3 b4 _ d (d - n) _ (one_new w2 _ _) (H2.out.1.kept (k2 _) H2.out.1.1) (H2.out.2.1.kept (k2 _) H2.out.2.1.1)).mono ?_
    rintro e w3 ⟨rfl, b3⟩
    have B3 : Below q w w3 := (H2.out.2.2.trans ((k2 _).mono (by have := H2.out.2.2.size; omega))).trans (b3.mono (by have := H2.out.2.2.size; simp; omega))
    clear k2 b3 H2
    go_wp2_with fail
    go_ret
    rw [hq]
    exact ⟨rfl, B3⟩

end Go.Proofs.YtjhenfdmbagaiaaGreat.Win
