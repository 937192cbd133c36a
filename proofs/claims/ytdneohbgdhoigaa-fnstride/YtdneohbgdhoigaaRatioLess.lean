/-
  Is one ratio less than the other: spec.LessFrac and impl.LessFrac answer alike, at every argument.
-/
import Derived.Test.YtdneohbgdhoigaaRatioBase
namespace Go.Proofs.Ytdneohbgdhoigaa.Ratio
open Go.ChangeShapes Go.WideShapes Go.ChangeAt Go.RowKit

/-- a by b is less than c by d; all in range, b and d not 0. -/
def fracLess (a b c d : Int) : Bool := inR a && inR b && inR c && inR d && !(b == 0) && !(d == 0) && decide (a * d < c * b)

theorem ret_bool {a b : Bool} (h : a = b) : Ending.returned (.bool a) = .returned (.bool b) := by rw [h]

theorem specLess_yes (a b c d : Nat) (ha : a ≤ 4611686018427387904) (hb : b ≤ 4611686018427387904) (hc : c ≤ 4611686018427387904) (hd : d ≤ 4611686018427387904)
    (hb0 : ((b : Int) == 0) = false) (hd0 : ((d : Int) == 0) = false) (w : World) :
    Calls Try.prog 55 #[.int .i64 a, .int .i64 b, .int .i64 c, .int .i64 d] w fun e w' => e = .returned (.bool (decide ((a : Int) * d < (c : Int) * b))) ∧ w' = w := by
  have ka : inR a = true := by simp [inR]; omega
  have kb : inR b = true := by simp [inR]; omega
  have kc : inR c = true := by simp [inR]; omega
  have kd : inR d = true := by simp [inR]; omega
  go_enter Try.func55, Try.ntmps55
  go_wp2_with (first
    | (go_at_call 63; refine (specOk_any _ _).mono ?_; rintro e w' ⟨rfl, rfl⟩)
    | (go_at_call 64; refine (l1Mul_any _ _ (by omega) (by omega) _).mono ?_; rintro e w' ⟨rfl, rfl⟩))
  all_goals (go_ret; refine ⟨ret_bool ?_, rfl⟩; generalize (a : Int) * d = x at *; generalize (c : Int) * b = y at *; rw [Bool.eq_iff_iff]; simp; omega)

theorem productOf_any (a b : Nat) (ha : a ≤ 4611686018427387904) (hb : b ≤ 4611686018427387904) (w : World) :
    Calls Try.prog 31 #[.int .i64 a, .int .i64 b] w fun e w' => e = .returned (.agg #[.int .u64 ((a : Int) * b / 18446744073709551616), .int .u64 ((a : Int) * b % 18446744073709551616)]) ∧ Below w.heap.size w w' := by
  go_enter Try.func31, Try.ntmps31
  go_wp2_with (go_at_call 49; refine (Mul64_any _ _ (by omega) (by omega) _).mono ?_; rintro e w' ⟨rfl, rfl⟩)
  exact bodyPost_ret (v := .agg #[.int .u64 ((a : Int) * b / 18446744073709551616), .int .u64 ((a : Int) * b % 18446744073709551616)]) (by simp [results, Try.results31, go_sem]) rfl ⟨rfl, (Below.refl _ _).alloc (Nat.le_refl _) _⟩

theorem less_any (h1 l1 h2 l2 : Int) (w : World) :
    Calls Try.prog 32 #[.agg #[.int .u64 h1, .int .u64 l1], .agg #[.int .u64 h2, .int .u64 l2]] w fun e w' => e = .returned (.bool (decide (h1 < h2) || (h1 == h2) && decide (l1 < l2))) ∧ Below w.heap.size w w' := by
  cases hh : h1 != h2
  all_goals
    go_enter Try.func32, Try.ntmps32
    go_wp2
    go_ret
    refine ⟨ret_bool ?_, ((Below.refl _ _).alloc (Nat.le_refl _) _).alloc (by simp) _⟩
    simp at hh
    rw [Bool.eq_iff_iff]
    simp
    omega

theorem less_of (x y : Int) (w : World) :
    Calls Try.prog 32 #[.agg #[.int .u64 (x / 18446744073709551616), .int .u64 (x % 18446744073709551616)], .agg #[.int .u64 (y / 18446744073709551616), .int .u64 (y % 18446744073709551616)]] w fun e w' => e = .returned (.bool (decide (x < y))) ∧ Below w.heap.size w w' := by
  have e : (decide (x / 18446744073709551616 < y / 18446744073709551616) || (x / 18446744073709551616 == y / 18446744073709551616) && decide (x % 18446744073709551616 < y % 18446744073709551616)) = decide (x < y) := by
    rw [Bool.eq_iff_iff]; simp; omega
  rw [← e]
  exact less_any _ _ _ _ w

theorem implLess_yes (a b c d : Nat) (ha : a ≤ 4611686018427387904) (hb : b ≤ 4611686018427387904) (hc : c ≤ 4611686018427387904) (hd : d ≤ 4611686018427387904)
    (hb0 : ((b : Int) == 0) = false) (hd0 : ((d : Int) == 0) = false) (w : World) :
    Calls Try.prog 14 #[.int .i64 a, .int .i64 b, .int .i64 c, .int .i64 d] w fun e w' => e = .returned (.bool (decide ((a : Int) * d < (c : Int) * b))) ∧ Below w.heap.size w w' := by
  have ka : inR a = true := by simp [inR]; omega
  have kb : inR b = true := by simp [inR]; omega
  have kc : inR c = true := by simp [inR]; omega
  have kd : inR d = true := by simp [inR]; omega
  go_enter Try.func14, Try.ntmps14
  go_wp2_with (first
    | (go_at_call 30; refine (inRange_any _ _).mono ?_; rintro e w' ⟨rfl, rfl⟩)
    | (go_at_call 31; fail))
  refine (productOf_any a d ha hd _).mono ?_
  rintro e w1 ⟨rfl, q1⟩
  go_wp2_with fail
  refine (productOf_any c b hc hb _).mono ?_
  rintro e w2 ⟨rfl, q2⟩
  go_wp2_with fail
  refine (less_of _ _ w2).mono ?_
  rintro e w3 ⟨rfl, q3⟩
  go_wp2_with fail
  go_ret
  exact ⟨rfl, (q1.trans (q2.mono q1.size)).trans (q3.mono (Nat.le_trans q1.size q2.size))⟩

theorem no_cases (a b c d : Int) (h : (inR a && inR b && inR c && inR d && !(b == 0) && !(d == 0)) = false) :
    inR a = false ∨ (inR a = true ∧ inR b = false) ∨ (inR a = true ∧ inR b = true ∧ inR c = false) ∨ (inR a = true ∧ inR b = true ∧ inR c = true ∧ inR d = false) ∨
    (inR a = true ∧ inR b = true ∧ inR c = true ∧ inR d = true ∧ (b == 0) = true) ∨ (inR a = true ∧ inR b = true ∧ inR c = true ∧ inR d = true ∧ (b == 0) = false ∧ (d == 0) = true) := by
  revert h
  cases inR a <;> cases inR b <;> cases inR c <;> cases inR d <;> cases (b == 0) <;> cases (d == 0) <;> simp

theorem specLess_no (a b c d : Int) (h : (inR a && inR b && inR c && inR d && !(b == 0) && !(d == 0)) = false) (w : World) :
    Calls Try.prog 55 #[.int .i64 a, .int .i64 b, .int .i64 c, .int .i64 d] w fun e w' => e = .returned (.bool false) ∧ w' = w := by
  rcases no_cases a b c d h with k | ⟨k1, k⟩ | ⟨k1, k2, k⟩ | ⟨k1, k2, k3, k⟩ | ⟨k1, k2, k3, k4, k⟩ | ⟨k1, k2, k3, k4, k5, k⟩
  all_goals
    clear h
    go_enter Try.func55, Try.ntmps55
    go_wp2_with (go_at_call 63; refine (specOk_any _ _).mono ?_; rintro e w' ⟨rfl, rfl⟩)
    go_ret
    exact ⟨rfl, rfl⟩

theorem implLess_no (a b c d : Int) (h : (inR a && inR b && inR c && inR d && !(b == 0) && !(d == 0)) = false) (w : World) :
    Calls Try.prog 14 #[.int .i64 a, .int .i64 b, .int .i64 c, .int .i64 d] w fun e w' => e = .returned (.bool false) ∧ w' = w := by
  rcases no_cases a b c d h with k | ⟨k1, k⟩ | ⟨k1, k2, k⟩ | ⟨k1, k2, k3, k⟩ | ⟨k1, k2, k3, k4, k⟩ | ⟨k1, k2, k3, k4, k5, k⟩
  all_goals
    clear h
    go_enter Try.func14, Try.ntmps14
    go_wp2_with (go_at_call 30; refine (inRange_any _ _).mono ?_; rintro e w' ⟨rfl, rfl⟩)
    go_ret
    exact ⟨rfl, rfl⟩

/-- spec.LessFrac at every argument. -/
theorem specLess (a b c d : Int) (w : World) :
    Calls Try.prog 55 #[.int .i64 a, .int .i64 b, .int .i64 c, .int .i64 d] w fun e w' => e = .returned (.bool (fracLess a b c d)) ∧ w' = w := by
  cases h : (inR a && inR b && inR c && inR d && !(b == 0) && !(d == 0))
  · rw [fracLess, h]
    exact specLess_no a b c d h w
  · rw [fracLess, h]
    simp only [Bool.and_eq_true, Bool.not_eq_true'] at h
    obtain ⟨⟨⟨⟨⟨ka, kb⟩, kc⟩, kd⟩, hb0⟩, hd0⟩ := h
    obtain ⟨a0, a1⟩ := inR_yes ka
    obtain ⟨b0, b1⟩ := inR_yes kb
    obtain ⟨c0, c1⟩ := inR_yes kc
    obtain ⟨d0, d1⟩ := inR_yes kd
    obtain ⟨a, rfl⟩ := Int.eq_ofNat_of_zero_le a0
    obtain ⟨b, rfl⟩ := Int.eq_ofNat_of_zero_le b0
    obtain ⟨c, rfl⟩ := Int.eq_ofNat_of_zero_le c0
    obtain ⟨d, rfl⟩ := Int.eq_ofNat_of_zero_le d0
    rw [Bool.true_and]
    exact specLess_yes a b c d (by omega) (by omega) (by omega) (by omega) hb0 hd0 w

/-- impl.LessFrac at every argument. -/
theorem implLess (a b c d : Int) (w : World) :
    Calls Try.prog 14 #[.int .i64 a, .int .i64 b, .int .i64 c, .int .i64 d] w fun e w' => e = .returned (.bool (fracLess a b c d)) ∧ Below w.heap.size w w' := by
  cases h : (inR a && inR b && inR c && inR d && !(b == 0) && !(d == 0))
  · rw [fracLess, h]
    refine (implLess_no a b c d h w).mono ?_
    rintro e w' ⟨rfl, rfl⟩
    exact ⟨rfl, Below.refl _ _⟩
  · rw [fracLess, h]
    simp only [Bool.and_eq_true, Bool.not_eq_true'] at h
    obtain ⟨⟨⟨⟨⟨ka, kb⟩, kc⟩, kd⟩, hb0⟩, hd0⟩ := h
    obtain ⟨a0, a1⟩ := inR_yes ka
    obtain ⟨b0, b1⟩ := inR_yes kb
    obtain ⟨c0, c1⟩ := inR_yes kc
    obtain ⟨d0, d1⟩ := inR_yes kd
    obtain ⟨a, rfl⟩ := Int.eq_ofNat_of_zero_le a0
    obtain ⟨b, rfl⟩ := Int.eq_ofNat_of_zero_le b0
    obtain ⟨c, rfl⟩ := Int.eq_ofNat_of_zero_le c0
    obtain ⟨d, rfl⟩ := Int.eq_ofNat_of_zero_le d0
    rw [Bool.true_and]
    exact implLess_yes a b c d (by omega) (by omega) (by omega) (by omega) hb0 hd0 w

end Go.Proofs.Ytdneohbgdhoigaa.Ratio
