/-
  The law FnExactSingleNext: whatever the two slices, it answers true and nothing that was there is written.
-/
import Derived.Test.YtlmlgidfgjejpaaSingleNextI
import Derived.Test.YtlmlgidfgjejpaaIntsBase
namespace Go.Proofs.Ytlmlgidfgjejpaa.Crew
open Go.ChangeShapes Go.WideShapes Go.ChangeAt Go.RowKit

theorem lawSingleNext (a : Option Addr) (len cap : Nat) (cs : List Int) (a' : Option Addr) (len' cap' : Nat) (ns : List Int) (w : World) (I : Ints w a len cs) (J : Ints w a' len' ns) :
    Calls Try.prog 5 #[.slice a len cap, .slice a' len' cap'] w fun e w' => e = .returned (.bool true) ∧ Below w.heap.size w w' := by
  have HI : Hid (Ints w a len cs) := I
  have HJ : Hid (Ints w a' len' ns) := J
  have hl := I.1
  have hl' := J.1
  clear I J
  by_cases hs : (1048576 : Int) < (len : Int)
  · go_enter Try.func5, Try.ntmps5
    go_wp2_with fail
    go_ret
    exact ⟨rfl, Below.refl _ _⟩
  by_cases hs2 : (1048576 : Int) < (len' : Int)
  · have hs' : (len : Int) ≤ 1048576 := by omega
    go_enter Try.func5, Try.ntmps5
    go_wp2_with fail
    go_ret
    exact ⟨rfl, Below.refl _ _⟩
  have hs' : (len : Int) ≤ 1048576 := by omega
  have hs2' : (len' : Int) ≤ 1048576 := by omega
  have hb : (singleNext cs ns != singleNext cs ns) = false := by simp
  subst hl
  subst hl'
  go_enter Try.func5, Try.ntmps5
  go_wp2_with fail
  refine (toInts_any a _ cap cs _ HI.out hs').mono ?_
  rintro e w1 ⟨rfl, R1, B1⟩
  go_wp2_with fail
  refine (toInts_any a' _ cap' ns _ (HJ.out.kept B1) hs2').mono ?_
  rintro e w2 ⟨rfl, R2, B2⟩
  have C2 := B1.trans (B2.mono B1.size)
  go_wp2_with fail
  refine (specSingleNext _ _ _ cs _ _ _ ns _ (R1.all B2).ints R2.ints hs').mono ?_
  rintro e w3 ⟨rfl, B3⟩
  have C3 := C2.trans (B3.mono C2.size)
  go_wp2_with fail
  refine (toInts_any a _ cap cs _ (HI.out.kept C3) hs').mono ?_
  rintro e w4 ⟨rfl, R4, B4⟩
  have C4 := C3.trans (B4.mono C3.size)
  go_wp2_with fail
  refine (toInts_any a' _ cap' ns _ (HJ.out.kept C4) hs2').mono ?_
  rintro e w5 ⟨rfl, R5, B5⟩
  have C5 := C4.trans (B5.mono C4.size)
  have R45 := R4.all B5
  go_wp2_with fail
  refine (implSingleNext _ _ _ cs _ _ _ ns _ R45.ints R5.ints).mono ?_
  rintro e w6 ⟨rfl, B6⟩
  have C6 := C5.trans (B6.mono C5.size)
  have R46 := R45.all B6
  have R56 := R5.all B6
  go_wp2_with fail
  refine (toInts_any a _ cap cs _ (HI.out.kept C6) hs').mono ?_
  rintro e w7 ⟨rfl, R7, B7⟩
  have C7 := C6.trans (B7.mono C6.size)
  go_wp2_with fail
  refine (eqInts_same _ _ _ cs _ _ _ _ (R46.all B7).ints R7.ints hs').mono ?_
  rintro e w8 ⟨rfl, B8⟩
  have C8 := C7.trans (B8.mono C7.size)
  go_wp2_with fail
  refine (toInts_any a' _ cap' ns _ (HJ.out.kept C8) hs2').mono ?_
  rintro e w9 ⟨rfl, R9, B9⟩
  have C9 := C8.trans (B9.mono C8.size)
  have R59 := ((R56.all B7).all B8).all B9
  go_wp2_with fail
  refine (eqInts_same _ _ _ ns _ _ _ _ R59.ints R9.ints hs2').mono ?_
  rintro e w10 ⟨rfl, B10⟩
  have C10 := C9.trans (B10.mono C9.size)
  go_wp2_with fail
  go_ret
  exact ⟨rfl, C10⟩

end Go.Proofs.Ytlmlgidfgjejpaa.Crew
