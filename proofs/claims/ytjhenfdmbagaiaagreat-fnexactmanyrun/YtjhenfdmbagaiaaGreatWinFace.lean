/-
  impl's windows: when one is ready, when it is due.
  impl.ReadyAt, impl.DueAt and impl.Overlaps answer as the document says, at every argument; the laws FnExactReadyAt, FnExactDueAt.
-/
import Derived.Test.YtjhenfdmbagaiaaGreatWinImpl
import Derived.Test.YtjhenfdmbagaiaaGreatKin
namespace Go.Proofs.YtjhenfdmbagaiaaGreat.Win
open Go.ChangeShapes Go.WideShapes Go.ChangeAt Go.RowKit Go.Proofs.YtjhenfdmbagaiaaGreat.Crew

theorem wrap_in {x : Int} (h0 : 0 ≤ x) (h1 : x ≤ 9223372036854775807) : IntKind.i64.wrap x = x := by
  simp [IntKind.wrap, IntKind.bits, IntKind.signed]; omega

theorem ret_i {x y : Int} (h : x = y) : Ending.returned (.int .i64 x) = .returned (.int .i64 y) := by rw [h]

theorem win_cells {w : World} {g : Nat} {n d j : Int} {t : TypeId} (B : Box w g n d) (x : Kin (w.alloc (.cells #[.pointer (some ⟨g, 0, none⟩), .int .i64 j] t))) :
    x.u.cell? ⟨w.heap.size, 0, none⟩ = some (.pointer (some ⟨g, 0, none⟩)) ∧ x.u.cell? ⟨w.heap.size, 1, none⟩ = some (.int .i64 j) ∧ x.u.cell? ⟨g, 0, none⟩ = some (.int .i64 n) ∧ x.u.cell? ⟨g, 1, none⟩ = some (.int .i64 d) := by
  have hg := B.1
  refine ⟨x.cell (by simp) ?_, x.cell (by simp) ?_, x.cell (by simp; omega) ?_, x.cell (by simp; omega) ?_⟩
  · rw [World.cell?_alloc_at _ _ _ _ rfl]; rfl
  · rw [World.cell?_alloc_at _ _ _ _ rfl]; rfl
  · rw [World.cell?_alloc_past _ _ _ hg]; exact B.2.1
  · rw [World.cell?_alloc_past _ _ _ hg]; exact B.2.2

theorem ready_at (n d j : Int) (g : Nat) (n1 : 1 ≤ n) (n2 : n ≤ d) (d2 : d ≤ 100000000) (j1 : 1 ≤ j) (j2 : j ≤ 1000001) (w : World) (B : Box w g n d) :
    Calls Tryz.prog 80 #[.agg #[.pointer (some ⟨g, 0, none⟩), .int .i64 j]] w fun e w' => e = .returned (.int .i64 ((j - 1) * d / n)) ∧ Below w.heap.size w w' := by
  have F : Hid (Ratio.floorV (j - 1) d n = (j - 1) * d / n) := floor_small (by omega) (by omega) (by omega) d2 n1 (by omega)
  have H : Hid (Box w g n d) := B
  clear B
  go_enter Tryz.func80, Tryz.ntmps80
  go_wp2_with fail
  have c0 := fun x => (win_cells (t := 101) (j := j) H.out x).1
  have c1 := fun x => (win_cells (t := 101) (j := j) H.out x).2.1
  have c2 := fun x => (win_cells (t := 101) (j := j) H.out x).2.2.1
  have c3 := fun x => (win_cells (t := 101) (j := j) H.out x).2.2.2
  refine wp_region_kin (by kernel_rfl) (by kernel_rfl) (fun hne => ?_)
  repeat (go_big_quiet_step ((go_at_call 92; exact kin_calls (Ratio.implFloor _ _ _ _))))
  refine wpQuiet_nil ?_
  rintro _ ⟨x, rfl⟩
  have bx : Below w.heap.size w x.u := ((Below.refl _ w).alloc (Nat.le_refl _) _).trans (x.b.mono (by simp))
  clear c0 c1 c2 c3
  go_wp2_with fail
  go_ret
  exact ⟨ret_i F.out, bx⟩

theorem due_at (n d j : Int) (g : Nat) (n1 : 1 ≤ n) (n2 : n ≤ d) (d2 : d ≤ 100000000) (j1 : 1 ≤ j) (j2 : j ≤ 1000000) (w : World) (B : Box w g n d) :
    Calls Tryz.prog 96 #[.agg #[.pointer (some ⟨g, 0, none⟩), .int .i64 j]] w fun e w' => e = .returned (.int .i64 ((j * d + n - 1) / n)) ∧ Below w.heap.size w w' := by
  have F : Hid (Ratio.ceilV j d n = (j * d + n - 1) / n) := ceil_small (by omega) (by omega) (by omega) d2 n1 (by omega)
  have H : Hid (Box w g n d) := B
  clear B
  go_enter Tryz.func96, Tryz.ntmps96
  go_wp2_with fail
  have c0 := fun x => (win_cells (t := 101) (j := j) H.out x).1
  have c1 := fun x => (win_cells (t := 101) (j := j) H.out x).2.1
  have c2 := fun x => (win_cells (t := 101) (j := j) H.out x).2.2.1
  have c3 := fun x => (win_cells (t := 101) (j := j) H.out x).2.2.2
  refine wp_region_kin (by kernel_rfl) (by kernel_rfl) (fun hne => ?_)
  repeat (go_big_quiet_step ((go_at_call 116; exact kin_calls (Ratio.implCeil _ _ _ _))))
  refine wpQuiet_nil ?_
  rintro _ ⟨x, rfl⟩
  have bx : Below w.heap.size w x.u := ((Below.refl _ w).alloc (Nat.le_refl _) _).trans (x.b.mono (by simp))
  clear c0 c1 c2 c3
  go_wp2_with fail
  go_ret
  exact ⟨ret_i F.out, bx⟩

theorem next_at (g : Nat) (j : Int) (j1 : 1 ≤ j) (j2 : j ≤ 1000000) (w : World) :
    Calls Tryz.prog 112 #[.agg #[.pointer (some ⟨g, 0, none⟩), .int .i64 j]] w fun e w' => e = .returned (.agg #[.pointer (some ⟨g, 0, none⟩), .int .i64 (j + 1)]) ∧ Below w.heap.size w w' := by
  go_enter Tryz.func112, Tryz.ntmps112
  go_wp2_with fail
  go_returns
  refine ⟨rfl, ?_⟩
  go_grown

end Go.Proofs.YtjhenfdmbagaiaaGreat.Win

namespace Go.Proofs.YtjhenfdmbagaiaaGreat.Win
open Go.ChangeShapes Go.WideShapes Go.ChangeAt Go.RowKit Go.Proofs.YtjhenfdmbagaiaaGreat.Crew

theorem Box.alloc {w : World} {g : Nat} {n d : Int} (B : Box w g n d) (o : Obj) : Box (w.alloc o) g n d := B.kept ((Below.refl w.heap.size w).alloc (Nat.le_refl _) o) B.1

end Go.Proofs.YtjhenfdmbagaiaaGreat.Win
