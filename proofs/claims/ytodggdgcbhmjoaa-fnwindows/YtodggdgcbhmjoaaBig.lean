/-
  laws.big: is a code too long.
-/
import Derived.Test.YtodggdgcbhmjoaaDrawNums
namespace Go.Proofs.Ytodggdgcbhmjoaa.Draw
open Go.ChangeShapes Go.WideShapes Go.ChangeAt Go.RowKit

theorem big_any (a : Option Addr) (len cap : Nat) (w : World) :
    Calls Try.prog 5 #[.slice a len cap] w fun e w' => e = .returned (.bool (decide (4096 < (len : Int)))) ∧ w' = w := by
  by_cases h : (4096 : Int) < (len : Int)
  all_goals
    go_enter Try.func5, Try.ntmps5
    go_wp2_with fail
    go_ret
    exact ⟨by first | rfl | simp [h] | (simp; omega), rfl⟩

end Go.Proofs.Ytodggdgcbhmjoaa.Draw
