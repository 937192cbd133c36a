/-
  The law FnQuotients: whatever the code, it answers true and nothing that was there is written.
-/
import Derived.Test.YtajnmmcgocfjlaaRatioFace
import Derived.Test.YtajnmmcgocfjlaaDice
namespace Go.Proofs.Ytajnmmcgocfjlaa.Ratio
open Go.ChangeShapes Go.WideShapes Go.ChangeAt Go.RowKit
open Go.Proofs.Ytajnmmcgocfjlaa.Draw

/-- What is rounded down is at most what is rounded up, and one less at most. -/
theorem up_down (a b c : Int) : ceilFits a b c = true → 0 ≤ ceilV a b c - floorV a b c ∧ ceilV a b c - floorV a b c ≤ 1 := by
  intro h
  unfold ceilV
  rw [h, if_pos rfl]
  cases overV a b c <;> simp <;> omega

/-- A product by its second is the first. -/
theorem by_second (n m : Int) (n0 : 0 ≤ n) (n1 : n ≤ 4611686018427387904) (m0 : 0 < m) (m1 : m ≤ 4611686018427387904) :
    fits n m m = true ∧ floorV n m m = n ∧ ceilFits n m m = true ∧ ceilV n m m = n := by
  obtain ⟨n, rfl⟩ := Int.eq_ofNat_of_zero_le n0
  obtain ⟨m, rfl⟩ := Int.eq_ofNat_of_zero_le (Int.le_of_lt m0)
  have hq : n * m / m = n := Nat.mul_div_cancel n (by omega)
  have hr : n * m % m = 0 := Nat.mul_mod_left n m
  obtain ⟨f1, f2, f3⟩ := quo_yes n m m (by omega) (by omega) (by omega) (by omega) (by rw [hq]; omega)
  rw [hq] at f2
  rw [hr] at f3
  have f3' : overV (n : Int) (m : Int) (m : Int) = false := by rw [f3]; rfl
  have g1 : ceilFits (n : Int) (m : Int) (m : Int) = true := by rw [ceilFits, f1, f3']; rfl
  refine ⟨f1, f2, g1, ?_⟩
  rw [ceilV, g1, f3', if_pos rfl, if_neg (by simp), f2]

theorem quot_short (a : Option Addr) (len cap : Nat) (w : World) (B : Bytes w a len) (hb : ¬ (4096 : Int) < (len : Int)) :
    Calls Try.prog 4 #[.slice a len cap] w fun e w' => e = .returned (.bool true) ∧ Below w.heap.size w w' := by
  have ht : len ≤ 9223372036854775806 := by omega
  have hd : decide (4096 < (len : Int)) = false := by simp; omega
  go_enter Try.func4, Try.ntmps4
  go_wp2_with fail
  refine (big_any a len cap _).mono ?_
  rintro e w1 ⟨rfl, rfl⟩
  rw [hd]
  clear hd
  go_wp2_with fail
  refine (drawFloor_any a len cap _ B ht).mono ?_
  rintro e w2 ⟨x, y, z, rfl, q2⟩
  have B2 := B.grown q2
  go_wp2_with fail
  refine (implFloor x y z _).mono ?_
  rintro e w3 ⟨rfl, q3⟩
  have B3 := B2.grown q3
  go_wp2_with fail
  refine (specFloor x y z _).mono ?_
  rintro e w3' ⟨rfl, rfl⟩
  go_wp2_with fail
  refine (implCeil x y z _).mono ?_
  rintro e w4 ⟨rfl, q4⟩
  have B4 := B3.grown q4
  go_wp2_with fail
  refine (specCeil x y z _).mono ?_
  rintro e w4' ⟨rfl, rfl⟩
  go_wp2_with fail
  refine (roll_any a len cap _ _ B4 ht).mono ?_
  rintro e w5 ⟨rfl, h, L5⟩
  have C5 := L5.cur (cur_new (cap := cap) B4 ht h)
  have q5 := new_below L5
  have hlt := C5.lt
  clear B B2 B3 B4
  go_wp2_with fail
  refine (dice_any _ _ a len cap _ _ C5 (by omega)).mono ?_
  rintro e w6 ⟨n, rfl, n0, n1, n2, L6⟩
  have C6 := L6.cur C5
  go_wp2_with fail
  refine (dice_any _ _ a len cap _ _ C6 (by omega)).mono ?_
  rintro e w7 ⟨m, rfl, m0, m1, m2, L7⟩
  have q7 : Below w1.heap.size w1 w7 := by
    have e3 := q2.trans (q3.mono q2.size)
    have e4 := e3.trans (q4.mono e3.size)
    have e5 := e4.trans (q5.mono e4.size)
    have hs := e4.size
    have e6 := e5.trans (left_below L6 hs hlt)
    exact e6.trans (left_below L7 hs C6.lt)
  clear C5 C6 L5 L6 L7 q2 q3 q4 q5 hlt n1 m1
  obtain ⟨f1, f2, f3, f4⟩ := by_second (n * 1000003) (1 + m * 1000003) (by omega) (by omega) (by omega) (by omega)
  have F : Hid (fits (n * 1000003) (1 + m * 1000003) (1 + m * 1000003) = true ∧ floorV (n * 1000003) (1 + m * 1000003) (1 + m * 1000003) = n * 1000003 ∧ ceilFits (n * 1000003) (1 + m * 1000003) (1 + m * 1000003) = true ∧ ceilV (n * 1000003) (1 + m * 1000003) (1 + m * 1000003) = n * 1000003) := ⟨f1, f2, f3, f4⟩
  clear f1 f2 f3 f4
  go_wp2_with fail
  refine (implFloor _ _ _ _).mono ?_
  rw [F.out.1, F.out.2.1]
  rintro e w8 ⟨rfl, q8⟩
  go_wp2_with fail
  refine (implCeil _ _ _ _).mono ?_
  rw [F.out.2.2.1, F.out.2.2.2]
  rintro e w9 ⟨rfl, q9⟩
  have hud := up_down x y z
  obtain ⟨c0, c1⟩ := floorV_bd x y z
  generalize floorV x y z = qv at *
  generalize fits x y z = fv at *
  generalize ceilV x y z = cv at *
  have b1 : (qv == qv) = true := by simp
  have b2 : (fv == fv) = true := by simp
  have b3 : (cv == cv) = true := by simp
  have b4 : (n * 1000003 == n * 1000003) = true := by simp
  cases hcf : ceilFits x y z
  · rw [hcf] at hud
    clear hud
    go_wp2_with fail
    go_ret
    have e8 := q7.trans (q8.mono q7.size)
    exact ⟨rfl, e8.trans (q9.mono e8.size)⟩
  · rw [hcf] at hud
    obtain ⟨u0, u1⟩ := hud rfl
    go_wp2_with fail
    go_ret
    have e8 := q7.trans (q8.mono q7.size)
    exact ⟨rfl, e8.trans (q9.mono e8.size)⟩

theorem quot_long (a : Option Addr) (len cap : Nat) (w : World) (hb : (4096 : Int) < (len : Int)) :
    Calls Try.prog 4 #[.slice a len cap] w fun e w' => e = .returned (.bool true) ∧ Below w.heap.size w w' := by
  have hd : decide (4096 < (len : Int)) = true := by simp; omega
  go_enter Try.func4, Try.ntmps4
  go_wp2_with fail
  refine (big_any a len cap _).mono ?_
  rintro e w1 ⟨rfl, rfl⟩
  rw [hd]
  clear hd
  go_wp2_with fail
  go_ret
  exact ⟨rfl, Below.refl _ _⟩

/-- The law FnQuotients. -/
theorem lawQuotients (a : Option Addr) (len cap : Nat) (w : World) (B : Bytes w a len) :
    Calls Try.prog 4 #[.slice a len cap] w fun e w' => e = .returned (.bool true) ∧ Below w.heap.size w w' := by
  by_cases hb : (4096 : Int) < (len : Int)
  · exact quot_long a len cap w hb
  · exact quot_short a len cap w B hb

end Go.Proofs.Ytajnmmcgocfjlaa.Ratio
