/-
  impl.ReadyAt, impl.DueAt and impl.Overlaps answer as the document says, at every argument; the laws FnExactReadyAt, FnExactDueAt.
-/
import Derived.Test.YtppcjcllffkpiaaWinReady
namespace Go.Proofs.Ytppcjcllffkpiaa.Win
open Go.ChangeShapes Go.WideShapes Go.ChangeAt Go.RowKit Go.Proofs.Ytppcjcllffkpiaa.Crew

theorem Box.alloc {w : World} {g : Nat} {n d : Int} (B : Box w g n d) (o : Obj) : Box (w.alloc o) g n d := B.kept ((Below.refl w.heap.size w).alloc (Nat.le_refl _) o) B.1

theorem implReady (n d j : Int) (w : World) :
    Calls Try.prog 9 #[sh n d, .int .i64 j] w fun e w' => e = .returned (.int .i64 (readyV n d j)) ∧ Below w.heap.size w w' := by
  cases h : turnOk n d j
  · rw [readyV_no h]
    go_enter Try.func9, Try.ntmps9
    go_wp2_with fail
    refine (windowOf_no n d j h _).mono ?_
    rintro e w1 ⟨rfl, b1⟩
    have b1' : Below w.heap.size w w1 := ((Below.refl _ w).alloc (Nat.le_refl _) _).trans (b1.mono (by simp))
    go_wp2_with fail
    go_ret
    exact ⟨rfl, b1'.alloc b1'.size _⟩
  · rw [readyV_yes h]
    have H : Hid (turnOk n d j = true) := h
    clear h
    go_enter Try.func9, Try.ntmps9
    go_wp2_with fail
    refine (windowOf_yes n d j H.out _).mono ?_
    rintro e w1 ⟨g, rfl, hg, B, b1⟩
    have b1' : Below w.heap.size w w1 := ((Below.refl _ w).alloc (Nat.le_refl _) _).trans (b1.mono (by simp))
    have HB : Hid (Box w1 g n d) := B
    clear B
    go_wp2_with fail
    have T := turn_yes H.out
    refine (ready_at n d j g T.1 T.2.1 T.2.2.1 T.2.2.2.1 (by omega) _ (HB.out.alloc _)).mono ?_
    clear T
    rintro e w2 ⟨rfl, b2⟩
    have b2' : Below w.heap.size w w2 := (b1'.alloc b1'.size _).trans (b2.mono (Nat.le_trans b1'.size (by simp)))
    go_wp2_with fail
    go_ret
    exact ⟨rfl, b2'⟩

theorem implDue (n d j : Int) (w : World) :
    Calls Try.prog 10 #[sh n d, .int .i64 j] w fun e w' => e = .returned (.int .i64 (dueV n d j)) ∧ Below w.heap.size w w' := by
  cases h : turnOk n d j
  · rw [dueV_no h]
    go_enter Try.func10, Try.ntmps10
    go_wp2_with fail
    refine (windowOf_no n d j h _).mono ?_
    rintro e w1 ⟨rfl, b1⟩
    have b1' : Below w.heap.size w w1 := ((Below.refl _ w).alloc (Nat.le_refl _) _).trans (b1.mono (by simp))
    go_wp2_with fail
    go_ret
    exact ⟨rfl, b1'.alloc b1'.size _⟩
  · rw [dueV_yes h]
    have H : Hid (turnOk n d j = true) := h
    clear h
    go_enter Try.func10, Try.ntmps10
    go_wp2_with fail
    refine (windowOf_yes n d j H.out _).mono ?_
    rintro e w1 ⟨g, rfl, hg, B, b1⟩
    have b1' : Below w.heap.size w w1 := ((Below.refl _ w).alloc (Nat.le_refl _) _).trans (b1.mono (by simp))
    have HB : Hid (Box w1 g n d) := B
    clear B
    go_wp2_with fail
    have T := turn_yes H.out
    refine (due_at n d j g T.1 T.2.1 T.2.2.1 T.2.2.2.1 T.2.2.2.2 _ (HB.out.alloc _)).mono ?_
    clear T
    rintro e w2 ⟨rfl, b2⟩
    have b2' : Below w.heap.size w w2 := (b1'.alloc b1'.size _).trans (b2.mono (Nat.le_trans b1'.size (by simp)))
    go_wp2_with fail
    go_ret
    exact ⟨rfl, b2'⟩

theorem lawReadyAt (n d j : Int) (w : World) :
    Calls Try.prog 5 #[sh n d, .int .i64 j] w fun e w' => e = .returned (.bool true) ∧ Below w.heap.size w w' := by
  have hne : (readyV n d j != readyV n d j) = false := by simp
  generalize hr : readyV n d j = r at hne
  have R : Hid (readyV n d j = r) := hr
  clear hr
  go_enter Try.func5, Try.ntmps5
  go_wp2_with fail
  refine (toShare_any n d _).mono ?_
  rintro e w1 ⟨rfl, b1⟩
  have c1 : Below w.heap.size w w1 := ((Below.refl _ w).alloc (Nat.le_refl _) _).trans (b1.mono (by simp))
  have B1 : Hid (Box w1 w.heap.size n d) := box_call b1
  go_wp2_with fail
  refine (specReady n d j _).mono ?_
  rintro e w2 ⟨rfl, b2⟩
  rw [R.out]
  have c2 := c1.trans (b2.mono c1.size)
  obtain ⟨k0, k1, k2⟩ := B1.out.kept b2 B1.out.1
  go_wp2_with fail
  refine (toShare_any n d _).mono ?_
  rintro e w3 ⟨rfl, b3⟩
  have c3 := c2.trans (b3.mono c2.size)
  go_wp2_with fail
  refine (implReady n d j _).mono ?_
  rintro e w4 ⟨rfl, b4⟩
  rw [R.out]
  have c4 := c3.trans (b4.mono c3.size)
  go_wp2_with fail
  go_ret
  exact ⟨rfl, c4⟩

theorem lawDueAt (n d j : Int) (w : World) :
    Calls Try.prog 6 #[sh n d, .int .i64 j] w fun e w' => e = .returned (.bool true) ∧ Below w.heap.size w w' := by
  have hne : (dueV n d j != dueV n d j) = false := by simp
  generalize hr : dueV n d j = r at hne
  have R : Hid (dueV n d j = r) := hr
  clear hr
  go_enter Try.func6, Try.ntmps6
  go_wp2_with fail
  refine (toShare_any n d _).mono ?_
  rintro e w1 ⟨rfl, b1⟩
  have c1 : Below w.heap.size w w1 := ((Below.refl _ w).alloc (Nat.le_refl _) _).trans (b1.mono (by simp))
  have B1 : Hid (Box w1 w.heap.size n d) := box_call b1
  go_wp2_with fail
  refine (specDue n d j _).mono ?_
  rintro e w2 ⟨rfl, b2⟩
  rw [R.out]
  have c2 := c1.trans (b2.mono c1.size)
  obtain ⟨k0, k1, k2⟩ := B1.out.kept b2 B1.out.1
  go_wp2_with fail
  refine (toShare_any n d _).mono ?_
  rintro e w3 ⟨rfl, b3⟩
  have c3 := c2.trans (b3.mono c2.size)
  go_wp2_with fail
  refine (implDue n d j _).mono ?_
  rintro e w4 ⟨rfl, b4⟩
  rw [R.out]
  have c4 := c3.trans (b4.mono c3.size)
  go_wp2_with fail
  go_ret
  exact ⟨rfl, c4⟩

end Go.Proofs.Ytppcjcllffkpiaa.Win
