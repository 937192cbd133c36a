/-
  The law FnExactAdjusted: whatever the slice and the number, it answers true and nothing that was there is written.
-/
import Derived.Test.YtidmpcnjhpnlcaaAdjSpec
namespace Go.Proofs.Ytidmpcnjhpnlcaa.Crew
open Go.ChangeShapes Go.WideShapes Go.ChangeAt Go.RowKit

theorem lawAdjusted (a : Option Addr) (len cap : Nat) (xs : List Int) (n : Int) (w : World) (I : Ints w a len xs) :
    Calls Try.prog 4 #[.slice a len cap, .int .i64 n] w fun e w' => e = .returned (.bool true) ∧ Below w.heap.size w w' := by
  have HI : Hid (Ints w a len xs) := I
  have hl := I.1
  clear I
  by_cases hs : (1048576 : Int) < (len : Int)
  · go_enter Try.func4, Try.ntmps4
    go_wp2_with fail
    go_ret
    exact ⟨rfl, Below.refl _ _⟩
  · have hs' : (len : Int) ≤ 1048576 := by omega
    subst hl
    obtain ⟨m, hm⟩ : ∃ m, m = (adjusted xs n).length := ⟨_, rfl⟩
    have hm24 : (m : Int) ≤ 24 := by have := adjusted_len xs n; omega
    have HM : Hid (m = (adjusted xs n).length) := hm
    clear hm
    go_enter Try.func4, Try.ntmps4
    go_wp2_with fail
    refine (toInts_any a _ cap xs _ HI.out hs').mono ?_
    rintro e w1 ⟨rfl, R1, B1⟩
    go_wp2_with fail
    refine (specAdj _ _ _ xs n _ R1.ints hs').mono ?_
    rw [← HM.out]
    rintro e w2 ⟨gw, cw, rfl, Rw, hgw, B2⟩
    have C2 := B1.trans (B2.mono B1.size)
    have hgw2 := Rw.lt
    clear R1
    go_wp2_with fail
    refine (toInts_any a _ cap xs _ (HI.out.kept C2) hs').mono ?_
    rintro e w3 ⟨rfl, Rx, B3⟩
    have C3 := C2.trans (B3.mono C2.size)
    have Rw3 := Rw.all B3
    have hx3 := Rx.lt
    clear B1 B2 Rw
    go_wp2_with fail
    refine (implAdj _ _ _ xs n _ Rx.ints).mono ?_
    rw [← HM.out]
    rintro e w4 ⟨gg, cg, rfl, Rg, hgg, B4⟩
    have C4 := C3.trans (B4.mono C3.size)
    have Rw4 := Rw3.all B4
    have Rx4 := Rx.all B4
    have hg4 := Rg.lt
    clear B3 Rw3 Rx
    have J1 := Rg.shs
    have J2 := Rw4.shs
    rw [← HM.out] at J1 J2
    go_wp2_with fail
    refine (eqShares_same _ _ _ _ _ _ _ _ J1 J2 (by omega)).mono ?_
    rintro e w5 ⟨rfl, B5⟩
    clear J1 J2
    have C5 := C4.trans (B5.mono C4.size)
    have Rw5 := Rw4.all B5
    have Rx5 := Rx4.all B5
    have Rg5 := Rg.all B5
    clear B4 Rw4 Rx4 Rg
    go_wp2_with fail
    refine (toInts_any a _ cap xs _ (HI.out.kept C5) hs').mono ?_
    rintro e w6 ⟨rfl, Ry, B6⟩
    have C6 := C5.trans (B6.mono C5.size)
    have Rw6 := Rw5.all B6
    have Rx6 := Rx5.all B6
    have Rg6 := Rg5.all B6
    clear B5 Rw5 Rx5 Rg5
    go_wp2_with fail
    refine (eqInts_same _ _ _ xs _ _ _ _ Rx6.ints Ry.ints hs').mono ?_
    rintro e w7 ⟨rfl, B7⟩
    have C7 := C6.trans (B7.mono C6.size)
    have Rw7 := Rw6.all B7
    have Rx7 := Rx6.all B7
    have Rg7 := Rg6.all B7
    clear B6 Rw6 Rx6 Rg6 Ry
    go_wp2_with fail
    refine (markInts_any _ _ xs 1 _ Rx7 hs' (by omega) (by omega)).mono ?_
    rintro e w8 ⟨rfl, _, G8⟩
    have C8 := C7.grown G8 C7.size (fun k hk => by cases hk; exact C2.size)
    have Rw8 := Rw7.other G8 (by simp; omega)
    have Rg8 := Rg7.other G8 (by simp; omega)
    clear G8 B7 Rw7 Rx7 Rg7
    have J1 := Rg8.shs
    have J2 := Rw8.shs
    rw [← HM.out] at J1 J2
    go_wp2_with fail
    refine (eqShares_same _ _ _ _ _ _ _ _ J1 J2 (by omega)).mono ?_
    rintro e w9 ⟨rfl, B9⟩
    clear J1 J2
    have C9 := C8.trans (B9.mono C8.size)
    have Rw9 := Rw8.all B9
    have Rg9 := Rg8.all B9
    clear B9 Rw8 Rg8
    have MK := markShares_any _ _ _ 1 _ Rg9 (by rw [← HM.out]; omega) (by omega) (by omega)
    rw [← HM.out] at MK
    go_wp2_with fail
    refine MK.mono ?_
    rintro e w10 ⟨rfl, Rm, G10⟩
    have C10 := C9.grown G10 C9.size (fun k hk => by cases hk; have := C3.size; omega)
    have Rw10 := Rw9.other G10 (by simp; omega)
    clear MK G10 Rw9 Rg9
    have J3 := Rm.shs
    rw [smarks_length] at J3
    go_wp2_with fail
    refine (heldShares_any _ m _ 1 _ J3 (by omega) (by omega) (by omega)).mono ?_
    rintro e w11 ⟨rfl, B11⟩
    clear J3
    have C11 := C10.trans (B11.mono C10.size)
    have Rw11 := Rw10.all B11
    have Rm11 := Rm.all B11
    clear B11 Rw10 Rm
    have hqm : ((1 : Int) + 2 * (m : Int) != 1 + 2 * (m : Int)) = false := by simp
    go_wp2_with fail
    refine (toInts_any a _ cap xs _ (HI.out.kept C11) hs').mono ?_
    rintro e w12 ⟨rfl, Rz, B12⟩
    have C12 := C11.trans (B12.mono C11.size)
    have Rw12 := Rw11.all B12
    have Rm12 := Rm11.all B12
    clear B12 Rw11 Rm11
    go_wp2_with fail
    refine (implAdj _ _ _ xs n _ Rz.ints).mono ?_
    rw [← HM.out]
    rintro e w13 ⟨gh, ch, rfl, Rh, hgh, B13⟩
    have C13 := C12.trans (B13.mono C12.size)
    have Rw13 := Rw12.all B13
    have Rm13 := Rm12.all B13
    clear B13 Rw12 Rm12 Rz
    have J1 := Rh.shs
    have J2 := Rw13.shs
    rw [← HM.out] at J1 J2
    go_wp2_with fail
    refine (eqShares_same _ _ _ _ _ _ _ _ J1 J2 (by omega)).mono ?_
    rintro e w14 ⟨rfl, B14⟩
    clear J1 J2
    have C14 := C13.trans (B14.mono C13.size)
    have Rm14 := Rm13.all B14
    clear B14 Rm13 Rw13 Rh
    have J3 := Rm14.shs
    rw [smarks_length] at J3
    go_wp2_with fail
    refine (heldShares_any _ m _ 1 _ J3 (by omega) (by omega) (by omega)).mono ?_
    rintro e w15 ⟨rfl, B15⟩
    clear J3
    have C15 := C14.trans (B15.mono C14.size)
    go_wp2_with fail
    go_ret
    exact ⟨rfl, C15⟩

end Go.Proofs.Ytidmpcnjhpnlcaa.Crew
