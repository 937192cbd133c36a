/-
  impl.ReadyAt, impl.DueAt and impl.Overlaps answer as the document says, at every argument; the laws FnExactReadyAt, FnExactDueAt.
-/
import Derived.Test.YtodggdgcbhmjoaaWinReady
namespace Go.Proofs.Ytodggdgcbhmjoaa.Win
open Go.ChangeShapes Go.WideShapes Go.ChangeAt Go.RowKit Go.Proofs.Ytodggdgcbhmjoaa.Crew

theorem Box.alloc {w : World} {g : Nat} {n d : Int} (B : Box w g n d) (o : Obj) : Box (w.alloc o) g n d := B.kept ((Below.refl w.heap.size w).alloc (Nat.le_refl _) o) B.1

theorem implReady (n d j : Int) (w : World) :
    Calls Try.prog 7 #[sh n d, .int .i64 j] w fun e w' => e = .returned (.int .i64 (readyV n d j)) ∧ Below w.heap.size w w' := by
  cases h : turnOk n d j
  · rw [readyV_no h]
    go_enter Try.func7, Try.ntmps7
    go_wp2_with fail
    refine (windowOf_no n d j h _).mono ?_
    rintro e w1 ⟨rfl, b1⟩
    have b1' : Below w.heap.size w w1 := ((Below.refl _ w).alloc (Nat.le_refl _) _).trans (b1.mono (by simp))
    go_wp2_with fail
    go_ret
    exact ⟨rfl, b1'.alloc b1'.size _⟩
  · rw [readyV_yes h]
    have H : Hid (turnOk n d j = true) := h
    clear h
    go_enter Try.func7, Try.ntmps7
    go_wp2_with fail
    refine (windowOf_yes n d j H.out _).mono ?_
    rintro e w1 ⟨g, rfl, hg, B, b1⟩
    have b1' : Below w.heap.size w w1 := ((Below.refl _ w).alloc (Nat.le_refl _) _).trans (b1.mono (by simp))
    have HB : Hid (Box w1 g n d) := B
    clear B
    go_wp2_with fail
    have T := turn_yes H.out
    refine (ready_at n d j g T.1 T.2.1 T.2.2.1 T.2.2.2.1 (by omega) _ (HB.out.alloc _)).mono ?_
    clear T
    rintro e w2 ⟨rfl, b2⟩
    have b2' : Below w.heap.size w w2 := (b1'.alloc b1'.size _).trans (b2.mono (Nat.le_trans b1'.size (by simp)))
    go_wp2_with fail
    go_ret
    exact ⟨rfl, b2'⟩

theorem implDue (n d j : Int) (w : World) :
    Calls Try.prog 8 #[sh n d, .int .i64 j] w fun e w' => e = .returned (.int .i64 (dueV n d j)) ∧ Below w.heap.size w w' := by
  cases h : turnOk n d j
  · rw [dueV_no h]
    go_enter Try.func8, Try.ntmps8
    go_wp2_with fail
    refine (windowOf_no n d j h _).mono ?_
    rintro e w1 ⟨rfl, b1⟩
    have b1' : Below w.heap.size w w1 := ((Below.refl _ w).alloc (Nat.le_refl _) _).trans (b1.mono (by simp))
    go_wp2_with fail
    go_ret
    exact ⟨rfl, b1'.alloc b1'.size _⟩
  · rw [dueV_yes h]
    have H : Hid (turnOk n d j = true) := h
    clear h
    go_enter Try.func8, Try.ntmps8
    go_wp2_with fail
    refine (windowOf_yes n d j H.out _).mono ?_
    rintro e w1 ⟨g, rfl, hg, B, b1⟩
    have b1' : Below w.heap.size w w1 := ((Below.refl _ w).alloc (Nat.le_refl _) _).trans (b1.mono (by simp))
    have HB : Hid (Box w1 g n d) := B
    clear B
    go_wp2_with fail
    have T := turn_yes H.out
    refine (due_at n d j g T.1 T.2.1 T.2.2.1 T.2.2.2.1 T.2.2.2.2 _ (HB.out.alloc _)).mono ?_
    clear T
    rintro e w2 ⟨rfl, b2⟩
    have b2' : Below w.heap.size w w2 := (b1'.alloc b1'.size _).trans (b2.mono (Nat.le_trans b1'.size (by simp)))
    go_wp2_with fail
    go_ret
    exact ⟨rfl, b2'⟩

end Go.Proofs.Ytodggdgcbhmjoaa.Win
