/-
  The law FnExactShareOk.
-/
import Derived.Test.YtppcjcllffkpiaaWinBase
namespace Go.Proofs.Ytppcjcllffkpiaa.Win
open Go.ChangeShapes Go.WideShapes Go.ChangeAt Go.RowKit Go.Proofs.Ytppcjcllffkpiaa.Crew

theorem lawShareOk (n d : Int) (w : World) :
    Calls Try.prog 4 #[sh n d] w fun e w' => e = .returned (.bool true) ∧ Below w.heap.size w w' := by
  cases k : shareOk n d
  all_goals
    go_enter Try.func4, Try.ntmps4
    go_wp2_with fail
    refine (toShare_any n d _).mono ?_
    rintro e w1 ⟨rfl, b1⟩
    have c1 : Below w.heap.size w w1 := ((Below.refl _ w).alloc (Nat.le_refl _) _).trans (b1.mono (by simp))
    have B1 : Hid (Box w1 w.heap.size n d) := box_call b1
    go_wp2_with fail
    refine (specShareOk n d _).mono ?_
    rintro e w2 ⟨rfl, b2⟩
    rw [k]
    have c2 := c1.trans (b2.mono c1.size)
    obtain ⟨k0, k1, k2⟩ := B1.out.kept b2 B1.out.1
    go_wp2_with fail
    refine (toShare_any n d _).mono ?_
    rintro e w3 ⟨rfl, b3⟩
    have c3 := c2.trans (b3.mono c2.size)
    go_wp2_with fail
    refine (implShareOk n d _).mono ?_
    rintro e w4 ⟨rfl, b4⟩
    rw [k]
    have c4 := c3.trans (b4.mono c3.size)
    go_wp2_with fail
    go_ret
    exact ⟨rfl, c4⟩

end Go.Proofs.Ytppcjcllffkpiaa.Win
