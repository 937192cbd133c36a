/-
  The laws FnExactCrewOk and FnExactTotalOf: whatever the slice, each answers true and nothing that was there is written.
-/
import Derived.Test.YtapgodhbfmeidaaCrewTotal
import Derived.Test.YtapgodhbfmeidaaIntsLaws
namespace Go.Proofs.Ytapgodhbfmeidaa.Crew
open Go.ChangeShapes Go.WideShapes Go.ChangeAt Go.RowKit

theorem lawCrewOk (a : Option Addr) (len cap : Nat) (xs : List Int) (w : World) (I : Ints w a len xs) :
    Calls Try.prog 4 #[.slice a len cap] w fun e w' => e = .returned (.bool true) ∧ Below w.heap.size w w' := by
  have HI : Hid (Ints w a len xs) := I
  have hl := I.1
  clear I
  by_cases hs : (1048576 : Int) < (len : Int)
  · go_enter Try.func4, Try.ntmps4
    go_wp2_with fail
    go_ret
    exact ⟨rfl, Below.refl _ _⟩
  · have hs' : (len : Int) ≤ 1048576 := by omega
    have hb : (crewOk xs != crewOk xs) = false := by simp
    subst hl
    go_enter Try.func4, Try.ntmps4
    go_wp2_with fail
    refine (toInts_any a _ cap xs _ HI.out hs').mono ?_
    rintro e w1 ⟨rfl, R1, B1⟩
    go_wp2_with fail
    refine (specCrewOk _ _ _ xs _ R1.ints hs').mono ?_
    rintro e w2 ⟨rfl, rfl⟩
    go_wp2_with fail
    refine (toInts_any a _ cap xs _ (HI.out.kept B1) hs').mono ?_
    rintro e w3 ⟨rfl, R3, B3⟩
    have C3 := B1.trans (B3.mono B1.size)
    go_wp2_with fail
    refine (implCrewOk _ _ _ xs _ R3.ints).mono ?_
    rintro e w4 ⟨rfl, rfl⟩
    go_wp2_with fail
    refine (toInts_any a _ cap xs _ (HI.out.kept C3) hs').mono ?_
    rintro e w5 ⟨rfl, R5, B5⟩
    have C5 := C3.trans (B5.mono C3.size)
    go_wp2_with fail
    refine (eqInts_same _ _ _ xs _ _ _ _ (R3.all B5).ints R5.ints hs').mono ?_
    rintro e w6 ⟨rfl, B6⟩
    go_wp2_with fail
    go_ret
    exact ⟨rfl, C5.trans (B6.mono C5.size)⟩

theorem lawTotalOf (a : Option Addr) (len cap : Nat) (xs : List Int) (w : World) (I : Ints w a len xs) :
    Calls Try.prog 5 #[.slice a len cap] w fun e w' => e = .returned (.bool true) ∧ Below w.heap.size w w' := by
  have HI : Hid (Ints w a len xs) := I
  have hl := I.1
  clear I
  by_cases hs : (1048576 : Int) < (len : Int)
  · go_enter Try.func5, Try.ntmps5
    go_wp2_with fail
    go_ret
    exact ⟨rfl, Below.refl _ _⟩
  · have hs' : (len : Int) ≤ 1048576 := by omega
    have hb : (totalOf xs != totalOf xs) = false := by simp
    subst hl
    go_enter Try.func5, Try.ntmps5
    go_wp2_with fail
    refine (toInts_any a _ cap xs _ HI.out hs').mono ?_
    rintro e w1 ⟨rfl, R1, B1⟩
    go_wp2_with fail
    refine (specTotal _ _ _ xs _ R1.ints hs').mono ?_
    rintro e w2 ⟨rfl, rfl⟩
    go_wp2_with fail
    refine (toInts_any a _ cap xs _ (HI.out.kept B1) hs').mono ?_
    rintro e w3 ⟨rfl, R3, B3⟩
    have C3 := B1.trans (B3.mono B1.size)
    go_wp2_with fail
    refine (implTotal _ _ _ xs _ R3.ints).mono ?_
    rintro e w4 ⟨rfl, rfl⟩
    go_wp2_with fail
    refine (toInts_any a _ cap xs _ (HI.out.kept C3) hs').mono ?_
    rintro e w5 ⟨rfl, R5, B5⟩
    have C5 := C3.trans (B5.mono C3.size)
    go_wp2_with fail
    refine (eqInts_same _ _ _ xs _ _ _ _ (R3.all B5).ints R5.ints hs').mono ?_
    rintro e w6 ⟨rfl, B6⟩
    go_wp2_with fail
    go_ret
    exact ⟨rfl, C5.trans (B6.mono C5.size)⟩

end Go.Proofs.Ytapgodhbfmeidaa.Crew
