/-
  laws.big: is a code too long.
-/
import Derived.Test.YtlmlgidfgjejpaaDrawNums
namespace Go.Proofs.Ytlmlgidfgjejpaa.Draw
open Go.ChangeShapes Go.WideShapes Go.ChangeAt Go.RowKit

theorem big_any (a : Option Addr) (len cap : Nat) (w : World) :
    Calls Try.prog 7 #[.slice a len cap] w fun e w' => e = .returned (.bool (decide (4096 < (len : Int)))) ∧ w' = w := by
  by_cases h : (4096 : Int) < (len : Int)
  all_goals
    go_enter Try.func7, Try.ntmps7
    go_wp2_with fail
    go_ret
    exact ⟨by first | rfl | simp [h] | (simp; omega), rfl⟩

end Go.Proofs.Ytlmlgidfgjejpaa.Draw
