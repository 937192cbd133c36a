/-
  impl's windows: the share copied behind a pointer; when it is ready, when it is due, and the next one.
-/
import Derived.Test.YtjhenfdmbagaiaaGreatWinCopy
import Derived.Test.YtjhenfdmbagaiaaGreatRatioFace
import Derived.Deep.RegionWith
import Derived.Test.YtjhenfdmbagaiaaGreatKin
namespace Go.Proofs.YtjhenfdmbagaiaaGreat.Win
open Go.ChangeShapes Go.WideShapes Go.ChangeAt Go.RowKit Go.Proofs.YtjhenfdmbagaiaaGreat.Crew

theorem windowOf_not (n d j : Int) (h : shareOk n d = false) (w : World) :
    Calls Tryz.prog 79 #[sh n d, .int .i64 j] w fun e w' => e = .returned (.tuple #[.agg #[.pointer none, .int .i64 0], .bool false]) ∧ Below w.heap.size w w' := by
  go_enter Tryz.func79, Tryz.ntmps79
  go_wp2_with fail
  refine (implShareOkX n d _).mono ?_
  rintro e w1 ⟨rfl, rfl⟩
  rw [h]
  go_wp2_with fail
  go_returns
  refine ⟨rfl, ?_⟩
  go_grown

theorem windowOf_out (n d j : Int) (h : shareOk n d = true) (hj : within j 1 1000000 = false) (w : World) :
    Calls Tryz.prog 79 #[sh n d, .int .i64 j] w fun e w' => e = .returned (.tuple #[.agg #[.pointer none, .int .i64 0], .bool false]) ∧ Below w.heap.size w w' := by
  by_cases h1 : j < 1
  · go_enter Tryz.func79, Tryz.ntmps79
    go_wp2_with fail
    refine (implShareOkX n d _).mono ?_
    rintro e w1 ⟨rfl, rfl⟩
    rw [h]
    go_wp2_with fail
    go_returns
    refine ⟨rfl, ?_⟩
    go_grown
  · have h2 : 1000000 < j := by rcases within_no hj with h | h <;> omega
    have hd : decide (j < 1) = false := by simp; omega
    clear hj
    go_enter Tryz.func79, Tryz.ntmps79
    go_wp2_with fail
    refine (implShareOkX n d _).mono ?_
    rintro e w1 ⟨rfl, rfl⟩
    rw [h]
    go_wp2_with fail
    go_returns
    refine ⟨rfl, ?_⟩
    go_grown

theorem windowOf_no (n d j : Int) (h : turnOk n d j = false) (w : World) :
    Calls Tryz.prog 79 #[sh n d, .int .i64 j] w fun e w' => e = .returned (.tuple #[.agg #[.pointer none, .int .i64 0], .bool false]) ∧ Below w.heap.size w w' := by
  cases hs : shareOk n d
  · exact windowOf_not n d j hs w
  · cases hj : within j 1 1000000
    · exact windowOf_out n d j hs hj w
    · rw [turnOk, hs, hj] at h
      cases h

theorem windowOf_yes (n d j : Int) (h : turnOk n d j = true) (w : World) :
    Calls Tryz.prog 79 #[sh n d, .int .i64 j] w fun e w' => ∃ g, e = .returned (.tuple #[.agg #[.pointer (some ⟨g, 0, none⟩), .int .i64 j], .bool true]) ∧ w.heap.size ≤ g ∧ Box w' g n d ∧ Below w.heap.size w w' := by
  obtain ⟨n1, n2, d2, j1, j2⟩ := turn_yes h
  have hs : shareOk n d = true := by unfold turnOk at h; exact (Bool.and_eq_true_iff.1 h).1
  clear h
  have e1 : decide (j < 1) = false := by simp; omega
  have e2 : decide (1000000 < j) = false := by simp; omega
  go_enter Tryz.func79, Tryz.ntmps79
  go_wp2_with fail
  refine (implShareOkX n d _).mono ?_
  rintro e w1 ⟨rfl, rfl⟩
  rw [hs]
  go_wp2_with fail
  refine (copied_one n d _ _ (box_at _ n d _ (by simp))).mono ?_
  rintro e w2 ⟨rfl, rfl⟩
  go_wp2_with fail
  go_returns
  refine ⟨_, rfl, by omega, box_at _ n d _ (by simp), ?_⟩
  go_grown

theorem small_quo (a b c : Nat) (ha : a ≤ 1000000) (hb : b ≤ 100000000) : a * b / c ≤ 4611686018427387904 := by
  have h1 := Nat.mul_le_mul ha hb
  have h2 := Nat.div_le_self (a * b) c
  omega

theorem floor_small {a b c : Int} (a0 : 0 ≤ a) (a1 : a ≤ 1000000) (b0 : 0 ≤ b) (b1 : b ≤ 100000000) (c0 : 1 ≤ c) (c1 : c ≤ 100000000) : Ratio.floorV a b c = a * b / c := by
  obtain ⟨a, rfl⟩ := Int.eq_ofNat_of_zero_le a0
  obtain ⟨b, rfl⟩ := Int.eq_ofNat_of_zero_le b0
  obtain ⟨c, rfl⟩ := Int.eq_ofNat_of_zero_le (by omega : 0 ≤ c)
  obtain ⟨_, h, _⟩ := Ratio.quo_yes a b c (by omega) (by omega) (by omega) (by omega) (small_quo a b c (by omega) (by omega))
  rw [h]
  simp

theorem up_nat (x c : Nat) (hc : 0 < c) : (x + c - 1) / c = if 0 < x % c then x / c + 1 else x / c := by
  have h := Nat.div_add_mod x c
  have h2 := Nat.mod_lt x hc
  generalize x / c = q at *
  generalize x % c = r at *
  subst h
  by_cases hr : 0 < r
  · rw [if_pos hr, show c * q + r + c - 1 = c * (q + 1) + (r - 1) by rw [Nat.mul_add]; omega, Nat.mul_add_div hc, Nat.div_eq_of_lt (by omega)]
  · rw [if_neg hr, show c * q + r + c - 1 = c * q + (c - 1) by omega, Nat.mul_add_div hc, Nat.div_eq_of_lt (by omega), Nat.add_zero]

theorem ceil_small {a b c : Int} (a0 : 0 ≤ a) (a1 : a ≤ 1000000) (b0 : 0 ≤ b) (b1 : b ≤ 100000000) (c0 : 1 ≤ c) (c1 : c ≤ 100000000) : Ratio.ceilV a b c = (a * b + c - 1) / c := by
  obtain ⟨a, rfl⟩ := Int.eq_ofNat_of_zero_le a0
  obtain ⟨b, rfl⟩ := Int.eq_ofNat_of_zero_le b0
  obtain ⟨c, rfl⟩ := Int.eq_ofNat_of_zero_le (by omega : 0 ≤ c)
  have hq := small_quo a b c (by omega) (by omega)
  have h1 : a * b ≤ 1000000 * 100000000 := Nat.mul_le_mul (by omega) (by omega)
  have h2 := Nat.div_le_self (a * b) c
  obtain ⟨C1, _⟩ := Ratio.ceil_of a b c (by omega) (by omega) (by omega) (by omega)
  have hu : Ratio.up (a * b / c) (a * b % c) = (a * b + c - 1) / c := by
    rw [up_nat _ _ (by omega), Ratio.up]
    by_cases hr : 0 < a * b % c
    · rw [if_pos hr, if_pos (by omega)]
    · rw [if_neg hr, if_neg (by omega)]
  have hle : Ratio.up (a * b / c) (a * b % c) ≤ 4611686018427387904 := by
    rw [hu, up_nat _ _ (by omega)]
    split <;> omega
  rw [(C1 hle).2, hu]
  rw [Int.natCast_ediv]
  congr 1
  have : 1 ≤ c := by omega
  push_cast
  omega

end Go.Proofs.YtjhenfdmbagaiaaGreat.Win

/-
  impl's windows: when one is ready, when it is due.
  impl.ReadyAt, impl.DueAt and impl.Overlaps answer as the document says, at every argument; the laws FnExactReadyAt, FnExactDueAt.
-/
namespace Go.Proofs.YtjhenfdmbagaiaaGreat.Win
open Go.ChangeShapes Go.WideShapes Go.ChangeAt Go.RowKit Go.Proofs.YtjhenfdmbagaiaaGreat.Crew

theorem wrap_in {x : Int} (h0 : 0 ≤ x) (h1 : x ≤ 9223372036854775807) : IntKind.i64.wrap x = x := by
  simp [IntKind.wrap, IntKind.bits, IntKind.signed]; omega

theorem ret_i {x y : Int} (h : x = y) : Ending.returned (.int .i64 x) = .returned (.int .i64 y) := by rw [h]

theorem win_cells {w : World} {g : Nat} {n d j : Int} {t : TypeId} (B : Box w g n d) (x : Kin (w.alloc (.cells #[.pointer (some ⟨g, 0, none⟩), .int .i64 j] t))) :
    x.u.cell? ⟨w.heap.size, 0, none⟩ = some (.pointer (some ⟨g, 0, none⟩)) ∧ x.u.cell? ⟨w.heap.size, 1, none⟩ = some (.int .i64 j) ∧ x.u.cell? ⟨g, 0, none⟩ = some (.int .i64 n) ∧ x.u.cell? ⟨g, 1, none⟩ = some (.int .i64 d) := by
  have hg := B.1
  refine ⟨x.cell (by simp) ?_, x.cell (by simp) ?_, x.cell (by simp; omega) ?_, x.cell (by simp; omega) ?_⟩
  · rw [World.cell?_alloc_at _ _ _ _ rfl]; rfl
  · rw [World.cell?_alloc_at _ _ _ _ rfl]; rfl
  · rw [World.cell?_alloc_past _ _ _ hg]; exact B.2.1
  · rw [World.cell?_alloc_past _ _ _ hg]; exact B.2.2

theorem ready_at (n d j : Int) (g : Nat) (n1 : 1 ≤ n) (n2 : n ≤ d) (d2 : d ≤ 100000000) (j1 : 1 ≤ j) (j2 : j ≤ 1000001) (w : World) (B : Box w g n d) :
    Calls Tryz.prog 80 #[.agg #[.pointer (some ⟨g, 0, none⟩), .int .i64 j]] w fun e w' => e = .returned (.int .i64 ((j - 1) * d / n)) ∧ Below w.heap.size w w' := by
  have F : Hid (Ratio.floorV (j - 1) d n = (j - 1) * d / n) := floor_small (by omega) (by omega) (by omega) d2 n1 (by omega)
  have H : Hid (Box w g n d) := B
  clear B
  go_enter Tryz.func80, Tryz.ntmps80
  go_wp2_with fail
  have c0 := fun x => (win_cells (t := 101) (j := j) H.out x).1
  have c1 := fun x => (win_cells (t := 101) (j := j) H.out x).2.1
  have c2 := fun x => (win_cells (t := 101) (j := j) H.out x).2.2.1
  have c3 := fun x => (win_cells (t := 101) (j := j) H.out x).2.2.2
  refine wp_region_kin (by kernel_rfl) (by kernel_rfl) (fun hne => ?_)
  repeat (go_big_quiet_step ((go_at_call 92; exact kin_calls (Ratio.implFloor _ _ _ _))))
  refine wpQuiet_nil ?_
  rintro _ ⟨x, rfl⟩
  have bx : Below w.heap.size w x.u := ((Below.refl _ w).alloc (Nat.le_refl _) _).trans (x.b.mono (by simp))
  clear c0 c1 c2 c3
  go_wp2_with fail
  go_ret
  exact ⟨ret_i F.out, bx⟩

theorem due_at (n d j : Int) (g : Nat) (n1 : 1 ≤ n) (n2 : n ≤ d) (d2 : d ≤ 100000000) (j1 : 1 ≤ j) (j2 : j ≤ 1000000) (w : World) (B : Box w g n d) :
    Calls Tryz.prog 96 #[.agg #[.pointer (some ⟨g, 0, none⟩), .int .i64 j]] w fun e w' => e = .returned (.int .i64 ((j * d + n - 1) / n)) ∧ Below w.heap.size w w' := by
  have F : Hid (Ratio.ceilV j d n = (j * d + n - 1) / n) := ceil_small (by omega) (by omega) (by omega) d2 n1 (by omega)
  have H : Hid (Box w g n d) := B
  clear B
  go_enter Tryz.func96, Tryz.ntmps96
  go_wp2_with fail
  have c0 := fun x => (win_cells (t := 101) (j := j) H.out x).1
  have c1 := fun x => (win_cells (t := 101) (j := j) H.out x).2.1
  have c2 := fun x => (win_cells (t := 101) (j := j) H.out x).2.2.1
  have c3 := fun x => (win_cells (t := 101) (j := j) H.out x).2.2.2
  refine wp_region_kin (by kernel_rfl) (by kernel_rfl) (fun hne => ?_)
  repeat (go_big_quiet_step ((go_at_call 116; exact kin_calls (Ratio.implCeil _ _ _ _))))
  refine wpQuiet_nil ?_
  rintro _ ⟨x, rfl⟩
  have bx : Below w.heap.size w x.u := ((Below.refl _ w).alloc (Nat.le_refl _) _).trans (x.b.mono (by simp))
  clear c0 c1 c2 c3
  go_wp2_with fail
  go_ret
  exact ⟨ret_i F.out, bx⟩

theorem next_at (g : Nat) (j : Int) (j1 : 1 ≤ j) (j2 : j ≤ 1000000) (w : World) :
    Calls Tryz.prog 112 #[.agg #[.pointer (some ⟨g, 0, none⟩), .int .i64 j]] w fun e w' => e = .returned (.agg #[.pointer (some ⟨g, 0, none⟩), .int .i64 (j + 1)]) ∧ Below w.heap.size w w' := by
  go_enter Tryz.func112, Tryz.ntmps112
  go_wp2_with fail
  go_returns
  refine ⟨rfl, ?_⟩
  go_grown

end Go.Proofs.YtjhenfdmbagaiaaGreat.Win

namespace Go.Proofs.YtjhenfdmbagaiaaGreat.Win
open Go.ChangeShapes Go.WideShapes Go.ChangeAt Go.RowKit Go.Proofs.YtjhenfdmbagaiaaGreat.Crew

theorem Box.alloc {w : World} {g : Nat} {n d : Int} (B : Box w g n d) (o : Obj) : Box (w.alloc o) g n d := B.kept ((Below.refl w.heap.size w).alloc (Nat.le_refl _) o) B.1

end Go.Proofs.YtjhenfdmbagaiaaGreat.Win
