/-
  The law FnExactLessFrac: whatever the four numbers, it answers true and nothing that was there is written.
-/
import Derived.Test.YtajnmmcgocfjlaaRatioLess
namespace Go.Proofs.Ytajnmmcgocfjlaa.Ratio
open Go.ChangeShapes Go.WideShapes Go.ChangeAt Go.RowKit

theorem lawLess (a b c d : Int) (w : World) :
    Calls Try.prog 5 #[.int .i64 a, .int .i64 b, .int .i64 c, .int .i64 d] w fun e w' => e = .returned (.bool true) ∧ Below w.heap.size w w' := by
  have hn : (fracLess a b c d != fracLess a b c d) = false := by simp
  go_enter Try.func5, Try.ntmps5
  go_wp2_with fail
  refine (specLess a b c d _).mono ?_
  rintro e w1 ⟨rfl, rfl⟩
  go_wp2_with fail
  refine (implLess a b c d _).mono ?_
  rintro e w2 ⟨rfl, q⟩
  go_wp2_with fail
  go_ret
  exact ⟨rfl, q⟩

end Go.Proofs.Ytajnmmcgocfjlaa.Ratio
