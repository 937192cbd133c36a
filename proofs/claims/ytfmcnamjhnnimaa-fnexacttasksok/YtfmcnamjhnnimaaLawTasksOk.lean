/-
  The law FnExactTasksOk: whatever the arguments, it answers true and nothing that was there is written. (Written by wip/tools/genlaw7.py.)
-/
import Derived.Test.YtfmcnamjhnnimaaTaskI
namespace Go.Proofs.Ytfmcnamjhnnimaa.Crew
open Go.ChangeShapes Go.WideShapes Go.ChangeAt Go.RowKit

set_option maxRecDepth 100000 in
set_option maxHeartbeats 8000000 in
theorem lawTasksOk (a : Option Addr) (len cap : Nat) (xs : List Tsk) (w : World) (I : Tsks w a len xs) (hm : (len : Int) ≤ 9223372036854775807) :
    Calls Try.prog 3 #[.slice a len cap] w fun e w' => e = .returned (.bool true) ∧ Below w.heap.size w w' := by
  have HI : Hid (Tsks w a len xs ∧ xs.length = len) := ⟨I, I.1⟩
  have hx0 := I.1
  clear I
  by_cases hs : ¬ (len : Int) ≤ 1048576
  · clear hx0
    go_enter Try.func3, Try.ntmps3
    go_wp2_with fail
    refine (szTasks_bn a len cap _ hm (by omega)).mono ?_
    rintro e w1 ⟨rfl, B1⟩
    have H1 : Hid (Below w.heap.size w w1) := B1
    clear B1
    go_wp2_with fail
    go_ret
    exact ⟨rfl, H1.out⟩
  · have h1 : (len : Int) ≤ 1048576 := by omega
    have h3 : ¬ (1048576 - (len : Int)) < 0 := by omega
    have hx1 : (xs.length : Int) ≤ 1048576 := by omega
    clear hm hs hx0
    obtain ⟨D0, hD0⟩ : ∃ D, D = tasksOk xs := ⟨_, rfl⟩
    have HD : Hid (D0 = tasksOk xs) := hD0
    have hne0 : (D0 != D0) = false := by simp
    clear hD0
    go_enter Try.func3, Try.ntmps3
    have H0 : Hid (Below w.heap.size w w) := Below.refl _ _
    go_wp2_with fail
    refine (szTasks_b a len cap _ h1).mono ?_
    rintro e w1 ⟨rfl, B1⟩
    have H1 : Hid (Below w.heap.size w w1) := below_call H0.out H0.out.size B1
    clear H0 B1
    go_wp2_with fail
    refine (tsks_to a len cap xs _ (HI.out.1.kept H1.out) h1).mono ?_
    rintro e w2 ⟨v2, X2, rfl, R2, f2, B2⟩
    have H2 : Hid (Below w.heap.size w w2 ∧ tsksK.rep w2 X2 v2 xs) := ⟨below_call H1.out H1.out.size B2, R2⟩
    clear H1 R2 B2 f2
    go_wp2_with fail
    refine (specTasksOkK  H2.out.2 hx1).mono ?_
    rw [← HD.out]
    rintro e w3 ⟨rfl, Bw3⟩
    have H3 : Hid (Below w.heap.size w w3) := below_call H2.out.1 H2.out.1.size Bw3
    clear H2 Bw3
    go_wp2_with fail
    refine (tsks_to a len cap xs _ (HI.out.1.kept H3.out) h1).mono ?_
    rintro e w5 ⟨v5, X5, rfl, R5, f5, B5⟩
    have H4 : Hid (Below w.heap.size w w5 ∧ tsksK.rep w5 X5 v5 xs) := ⟨below_call H3.out H3.out.size B5, R5⟩
    clear H3 R5 B5 f5
    go_wp2_with fail
    refine (implTasksOkK  H4.out.2 hx1).mono ?_
    rw [← HD.out]
    rintro e w7 ⟨rfl, Bw7⟩
    have H5 : Hid (Below w.heap.size w w7 ∧ tsksK.rep w7 X5 v5 xs) := ⟨below_call H4.out.1 H4.out.1.size Bw7, Knd.all H4.out.2 Bw7⟩
    clear H4 Bw7
    go_wp2_with fail
    refine (tsks_to a len cap xs _ (HI.out.1.kept H5.out.1) h1).mono ?_
    rintro e w90 ⟨v90, X90, rfl, R90, f90, B90⟩
    have H6 : Hid (Below w.heap.size w w90 ∧ tsksK.rep w90 X5 v5 xs ∧ tsksK.rep w90 X90 v90 xs) := ⟨below_call H5.out.1 H5.out.1.size B90, Knd.all H5.out.2 B90, R90⟩
    clear H5 R90 B90 f90
    go_wp2_with fail
    refine (tsks_eq H6.out.2.1 H6.out.2.2 hx1).mono ?_
    rintro e w91 ⟨rfl, B91⟩
    have H7 : Hid (Below w.heap.size w w91 ∧ tsksK.rep w91 X5 v5 xs) := ⟨below_call H6.out.1 H6.out.1.size B91, Knd.all H6.out.2.1 B91⟩
    clear H6 B91
    go_wp2_with fail
    go_ret
    exact ⟨rfl, H7.out.1⟩

end Go.Proofs.Ytfmcnamjhnnimaa.Crew
