/-
  The law FnExactCreated: whatever the arguments, it answers true and nothing that was there is written. (Written by wip/tools/genlaw7.py.)
-/
import Derived.Test.YtfmcnamjhnnimaaTaskI
namespace Go.Proofs.Ytfmcnamjhnnimaa.Crew
open Go.ChangeShapes Go.WideShapes Go.ChangeAt Go.RowKit

set_option maxRecDepth 100000 in
set_option maxHeartbeats 8000000 in
theorem lawCreated (a : Option Addr) (len cap : Nat) (xs : List Tsk) (id : Int) (wt : Int) (w : World) (I : Tsks w a len xs) (hm : (len : Int) ≤ 9223372036854775807) :
    Calls Try.prog 5 #[.slice a len cap, .int .i64 id, .int .i64 wt] w fun e w' => e = .returned (.bool true) ∧ Below w.heap.size w w' := by
  have HI : Hid (Tsks w a len xs ∧ xs.length = len) := ⟨I, I.1⟩
  have hx0 := I.1
  clear I
  by_cases hs : ¬ (len : Int) ≤ 1048576
  · clear hx0
    go_enter Try.func5, Try.ntmps5
    go_wp2_with fail
    refine (szTasks_bn a len cap _ hm (by omega)).mono ?_
    rintro e w1 ⟨rfl, B1⟩
    have H1 : Hid (Below w.heap.size w w1) := B1
    clear B1
    go_wp2_with fail
    go_ret
    exact ⟨rfl, H1.out⟩
  · have h1 : (len : Int) ≤ 1048576 := by omega
    have h3 : ¬ (1048576 - (len : Int)) < 0 := by omega
    have hx1 : (xs.length : Int) ≤ 1048576 := by omega
    clear hm hs hx0
    obtain ⟨D0, hD0⟩ : ∃ D, D = crL xs id wt := ⟨_, rfl⟩
    obtain ⟨D1, hD1⟩ : ∃ D, D = crC xs id wt := ⟨_, rfl⟩
    have SM := cr_small xs id wt
    rw [← hD0] at SM
    have HD : Hid (D0 = crL xs id wt ∧ D1 = crC xs id wt) := ⟨hD0, hD1⟩
    obtain ⟨z1, z2⟩ := SM
    have hne1 : (D1 != D1) = false := by simp
    clear hD0 hD1
    go_enter Try.func5, Try.ntmps5
    have H0 : Hid (Below w.heap.size w w) := Below.refl _ _
    go_wp2_with fail
    refine (szTasks_b a len cap _ h1).mono ?_
    rintro e w1 ⟨rfl, B1⟩
    have H1 : Hid (Below w.heap.size w w1) := below_call H0.out H0.out.size B1
    clear H0 B1
    go_wp2_with fail
    refine (tsks_to a len cap xs _ (HI.out.1.kept H1.out) h1).mono ?_
    rintro e w2 ⟨v2, X2, rfl, R2, f2, B2⟩
    have H2 : Hid (Below w.heap.size w w2 ∧ tsksK.rep w2 X2 v2 xs) := ⟨below_call H1.out H1.out.size B2, R2⟩
    clear H1 R2 B2 f2
    go_wp2_with fail
    refine (specCreatedK id wt H2.out.2 hx1).mono ?_
    rw [← HD.out.1, ← HD.out.2]
    rintro e w3 ⟨vw0, W0, rfl, Rw0, fw0, Bw3⟩
    have zB3 := Bw3.size
    have H3 : Hid (Below w.heap.size w w3 ∧ tsksK.rep w3 W0 vw0 D0) := ⟨below_call H2.out.1 H2.out.1.size Bw3, Rw0⟩
    clear H2 Bw3 Rw0 fw0
    go_wp2_with fail
    refine (tsks_to a len cap xs _ (HI.out.1.kept H3.out.1) h1).mono ?_
    rintro e w5 ⟨v5, X5, rfl, R5, f5, B5⟩
    have JX5 : Hid ((∀ j, X5 j → w.heap.size ≤ j) ∧ Dj W0 X5) := ⟨(fun j hj => Nat.le_trans H3.out.1.size (f5 j hj)), dj_new H3.out.2 f5⟩
    have H4 : Hid (Below w.heap.size w w5 ∧ tsksK.rep w5 W0 vw0 D0 ∧ tsksK.rep w5 X5 v5 xs) := ⟨below_call H3.out.1 H3.out.1.size B5, Knd.all H3.out.2 B5, R5⟩
    clear H3 R5 B5 f5
    go_wp2_with fail
    refine (implCreatedK id wt H4.out.2.2 hx1).mono ?_
    rw [← HD.out.1, ← HD.out.2]
    rintro e w7 ⟨vg0, G0, rfl, Rg0, fg0, Bw7⟩
    have JG0 : Hid ((∀ j, G0 j → w.heap.size ≤ j) ∧ Dj W0 G0 ∧ Dj X5 G0) := ⟨(fun j hj => Nat.le_trans H4.out.1.size (fg0 j hj)), dj_new H4.out.2.1 fg0, dj_new H4.out.2.2 fg0⟩
    have H5 : Hid (Below w.heap.size w w7 ∧ tsksK.rep w7 W0 vw0 D0 ∧ tsksK.rep w7 X5 v5 xs ∧ tsksK.rep w7 G0 vg0 D0) := ⟨below_call H4.out.1 H4.out.1.size Bw7, Knd.all H4.out.2.1 Bw7, Knd.all H4.out.2.2 Bw7, Rg0⟩
    clear H4 Bw7 Rg0 fg0
    go_wp2_with fail
    refine (tsks_eq H5.out.2.2.2 H5.out.2.1 (by omega)).mono ?_
    rintro e w9 ⟨rfl, Bw9⟩
    have H6 : Hid (Below w.heap.size w w9 ∧ tsksK.rep w9 W0 vw0 D0 ∧ tsksK.rep w9 X5 v5 xs ∧ tsksK.rep w9 G0 vg0 D0) := ⟨below_call H5.out.1 H5.out.1.size Bw9, Knd.all H5.out.2.1 Bw9, Knd.all H5.out.2.2.1 Bw9, Knd.all H5.out.2.2.2 Bw9⟩
    clear H5 Bw9
    go_wp2_with fail
    refine (tsks_to a len cap xs _ (HI.out.1.kept H6.out.1) h1).mono ?_
    rintro e w90 ⟨v90, X90, rfl, R90, f90, B90⟩
    have H7 : Hid (Below w.heap.size w w90 ∧ tsksK.rep w90 W0 vw0 D0 ∧ tsksK.rep w90 X5 v5 xs ∧ tsksK.rep w90 G0 vg0 D0 ∧ tsksK.rep w90 X90 v90 xs) := ⟨below_call H6.out.1 H6.out.1.size B90, Knd.all H6.out.2.1 B90, Knd.all H6.out.2.2.1 B90, Knd.all H6.out.2.2.2 B90, R90⟩
    clear H6 R90 B90 f90
    go_wp2_with fail
    refine (tsks_eq H7.out.2.2.1 H7.out.2.2.2.2 hx1).mono ?_
    rintro e w91 ⟨rfl, B91⟩
    have H8 : Hid (Below w.heap.size w w91 ∧ tsksK.rep w91 W0 vw0 D0 ∧ tsksK.rep w91 X5 v5 xs ∧ tsksK.rep w91 G0 vg0 D0) := ⟨below_call H7.out.1 H7.out.1.size B91, Knd.all H7.out.2.1 B91, Knd.all H7.out.2.2.1 B91, Knd.all H7.out.2.2.2.1 B91⟩
    clear H7 B91
    go_wp2_with fail
    refine (tsks_mark H8.out.2.2.1 1 hx1 (by omega) (by omega)).mono ?_
    rintro e w92 ⟨rfl, _, C92⟩
    have H9 : Hid (Below w.heap.size w w92 ∧ tsksK.rep w92 W0 vw0 D0 ∧ tsksK.rep w92 G0 vg0 D0) := ⟨Chg.under C92 H8.out.1 JX5.out.1 H8.out.1.size, Knd.past H8.out.2.1 C92 JX5.out.2, Knd.past H8.out.2.2.2 C92 JG0.out.2.2.symm⟩
    clear H8 C92
    have hk : ¬ (1 + ((tsksK.slots xs : Nat) : Int)) < 0 := by omega
    go_wp2_with fail
    refine (tsks_eq H9.out.2.2 H9.out.2.1 (by omega)).mono ?_
    rintro e w10 ⟨rfl, Bw10⟩
    have H10 : Hid (Below w.heap.size w w10 ∧ tsksK.rep w10 W0 vw0 D0 ∧ tsksK.rep w10 G0 vg0 D0) := ⟨below_call H9.out.1 H9.out.1.size Bw10, Knd.all H9.out.2.1 Bw10, Knd.all H9.out.2.2 Bw10⟩
    clear H9 Bw10
    go_wp2_with fail
    refine (tsks_mark H10.out.2.2 (1) (by omega) (by omega) (by omega)).mono ?_
    rintro e w11 ⟨rfl, Mw11, Cw11⟩
    have H11 : Hid (Below w.heap.size w w11 ∧ tsksK.rep w11 W0 vw0 D0 ∧ tsksK.hld w11 G0 vg0 D0 (1)) := ⟨Chg.under Cw11 H10.out.1 JG0.out.1 H10.out.1.size, Knd.past H10.out.2.1 Cw11 JG0.out.2.1, Mw11⟩
    clear H10 Cw11 Mw11
    go_wp2_with fail
    refine (tsks_held H11.out.2.2 (by omega) (by omega) (by omega)).mono ?_
    rintro e w12 ⟨rfl, Bw12⟩
    have H12 : Hid (Below w.heap.size w w12 ∧ tsksK.rep w12 W0 vw0 D0 ∧ tsksK.hld w12 G0 vg0 D0 (1)) := ⟨below_call H11.out.1 H11.out.1.size Bw12, Knd.all H11.out.2.1 Bw12, Knd.hall H11.out.2.2 Bw12⟩
    clear H11 Bw12
    have hq0 : ¬ (1 + ((tsksK.slots D0 : Nat) : Int)) < 0 := by omega
    have hqe : ((1 + ((tsksK.slots D0 : Nat) : Int)) != (1 + ((tsksK.slots D0 : Nat) : Int))) = false := by simp
    go_wp2_with fail
    refine (tsks_to a len cap xs _ (HI.out.1.kept H12.out.1) h1).mono ?_
    rintro e w95 ⟨v95, X95, rfl, R95, f95, B95⟩
    have H13 : Hid (Below w.heap.size w w95 ∧ tsksK.rep w95 W0 vw0 D0 ∧ tsksK.hld w95 G0 vg0 D0 (1) ∧ tsksK.rep w95 X95 v95 xs) := ⟨below_call H12.out.1 H12.out.1.size B95, Knd.all H12.out.2.1 B95, Knd.hall H12.out.2.2 B95, R95⟩
    clear H12 R95 B95 f95
    go_wp2_with fail
    refine (implCreatedK id wt H13.out.2.2.2 hx1).mono ?_
    rw [← HD.out.1, ← HD.out.2]
    rintro e w96 ⟨vh0, H0, rfl, Rh0, fh0, Bw96⟩
    have H14 : Hid (Below w.heap.size w w96 ∧ tsksK.rep w96 W0 vw0 D0 ∧ tsksK.hld w96 G0 vg0 D0 (1) ∧ tsksK.rep w96 H0 vh0 D0) := ⟨below_call H13.out.1 H13.out.1.size Bw96, Knd.all H13.out.2.1 Bw96, Knd.hall H13.out.2.2.1 Bw96, Rh0⟩
    clear H13 Bw96 Rh0 fh0
    go_wp2_with fail
    refine (tsks_eq H14.out.2.2.2 H14.out.2.1 (by omega)).mono ?_
    rintro e w13 ⟨rfl, Bw13⟩
    have H15 : Hid (Below w.heap.size w w13 ∧ tsksK.rep w13 W0 vw0 D0 ∧ tsksK.hld w13 G0 vg0 D0 (1) ∧ tsksK.rep w13 H0 vh0 D0) := ⟨below_call H14.out.1 H14.out.1.size Bw13, Knd.all H14.out.2.1 Bw13, Knd.hall H14.out.2.2.1 Bw13, Knd.all H14.out.2.2.2 Bw13⟩
    clear H14 Bw13
    go_wp2_with fail
    refine (tsks_held H15.out.2.2.1 (by omega) (by omega) (by omega)).mono ?_
    rintro e w14 ⟨rfl, Bw14⟩
    have H16 : Hid (Below w.heap.size w w14 ∧ tsksK.rep w14 W0 vw0 D0 ∧ tsksK.hld w14 G0 vg0 D0 (1) ∧ tsksK.rep w14 H0 vh0 D0) := ⟨below_call H15.out.1 H15.out.1.size Bw14, Knd.all H15.out.2.1 Bw14, Knd.hall H15.out.2.2.1 Bw14, Knd.all H15.out.2.2.2 Bw14⟩
    clear H15 Bw14
    go_wp2_with fail
    go_ret
    exact ⟨rfl, H16.out.1⟩

end Go.Proofs.Ytfmcnamjhnnimaa.Crew
