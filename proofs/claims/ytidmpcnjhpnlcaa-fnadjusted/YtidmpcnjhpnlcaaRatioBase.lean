/-
  The small functions under the ratios: in range or not; a product in two words (spec.l1Mul and math/bits.Mul64 alike). Each contract holds at every argument of its kind.
  Is one ratio less than the other: spec.LessFrac and impl.LessFrac answer alike, at every argument.
-/
import Derived.Test.YtidmpcnjhpnlcaaRows
import Derived.Test.YtidmpcnjhpnlcaaRatioMath
import Derived.WalkKit
import Derived.ProofKit
import Derived.OpenShut
import Derived.Below
namespace Go.Proofs.Ytidmpcnjhpnlcaa.Ratio
open Go.ChangeShapes Go.WideShapes Go.ChangeAt Go.RowKit

/-- From 0 to MaxNum. -/
def inR (x : Int) : Bool := decide (0 ≤ x ∧ x ≤ 4611686018427387904)
theorem inR_yes {x : Int} (h : inR x = true) : 0 ≤ x ∧ x ≤ 4611686018427387904 := by simpa [inR] using h
theorem inR_no {x : Int} (h : inR x = false) : x < 0 ∨ 4611686018427387904 < x := by
  have : ¬ (0 ≤ x ∧ x ≤ 4611686018427387904) := by simpa [inR] using h
  omega

theorem inRange_any (x : Int) (w : World) :
    Calls Try.prog 45 #[.int .i64 x] w fun e w' => e = .returned (.bool (inR x)) ∧ w' = w := by
  cases h : inR x
  · rcases inR_no h with h | h
    · go_enter Try.func45, Try.ntmps45
      go_wp2
      go_ret
      exact ⟨rfl, rfl⟩
    · have h' : ¬ x < 0 := by omega
      have hd : decide (x ≤ 4611686018427387904) = false := by simp; omega
      go_enter Try.func45, Try.ntmps45
      go_wp2
      go_ret
      exact ⟨rfl, rfl⟩
  · obtain ⟨h1, h2⟩ := inR_yes h
    go_enter Try.func45, Try.ntmps45
    go_wp2
    go_ret
    exact ⟨rfl, rfl⟩

theorem Mul64_any (x y : Nat) (hx : x < 18446744073709551616) (hy : y < 18446744073709551616) (w : World) :
    Calls Try.prog 62 #[.int .u64 x, .int .u64 y] w fun e w' => e = .returned (.tuple #[.int .u64 ((x * y / 18446744073709551616 : Nat) : Int), .int .u64 ((x * y % 18446744073709551616 : Nat) : Int)]) ∧ w' = w := by
  obtain ⟨ba, bb, bc, bd, bt, bz, hhi, hlo⟩ := school x y hx hy
  have bh1 : x / 4294967296 * (y / 4294967296) + (x / 4294967296 * (y % 4294967296) + x % 4294967296 * (y % 4294967296) / 4294967296) / 4294967296 < 18446744073709551616 := by
    have hp : x * y < 18446744073709551616 * 18446744073709551616 := Nat.mul_lt_mul'' hx hy; omega
  have bh : x * y / 18446744073709551616 < 18446744073709551616 := by
    have hp : x * y < 18446744073709551616 * 18446744073709551616 := Nat.mul_lt_mul'' hx hy; omega
  rw [Nat.add_comm (x % 4294967296 * (y / 4294967296))] at bz hhi
  clear hlo
  go_enter Try.func62, Try.ntmps62
  go_wp2
  simp only [maskN x hx, maskN y hy, divN, mulN, addN, wrapN _ bd, wrapN _ bb, wrapN _ bt, maskN _ bt, wrapN _ bc, wrapN _ bz, wrapN _ ba, wrapN _ bh1, wrapM (x * y)]
  rw [hhi, wrapN _ bh]
  go_ret2
  exact ⟨rfl, rfl⟩

end Go.Proofs.Ytidmpcnjhpnlcaa.Ratio

namespace Go.Proofs.Ytidmpcnjhpnlcaa.Ratio
open Go.ChangeShapes Go.WideShapes Go.ChangeAt Go.RowKit

/-- a by b is less than c by d; all in range, b and d not 0. -/
def fracLess (a b c d : Int) : Bool := inR a && inR b && inR c && inR d && !(b == 0) && !(d == 0) && decide (a * d < c * b)

theorem ret_bool {a b : Bool} (h : a = b) : Ending.returned (.bool a) = .returned (.bool b) := by rw [h]

theorem productOf_any (a b : Nat) (ha : a ≤ 4611686018427387904) (hb : b ≤ 4611686018427387904) (w : World) :
    Calls Try.prog 46 #[.int .i64 a, .int .i64 b] w fun e w' => e = .returned (.agg #[.int .u64 ((a : Int) * b / 18446744073709551616), .int .u64 ((a : Int) * b % 18446744073709551616)]) ∧ Below w.heap.size w w' := by
  go_enter Try.func46, Try.ntmps46
  go_wp2_with (go_at_call 62; refine (Mul64_any _ _ (by omega) (by omega) _).mono ?_; rintro e w' ⟨rfl, rfl⟩)
  exact bodyPost_ret (v := .agg #[.int .u64 ((a : Int) * b / 18446744073709551616), .int .u64 ((a : Int) * b % 18446744073709551616)]) (by simp [results, Try.results46, go_sem]) rfl ⟨rfl, (Below.refl _ _).alloc (Nat.le_refl _) _⟩

theorem less_any (h1 l1 h2 l2 : Int) (w : World) :
    Calls Try.prog 47 #[.agg #[.int .u64 h1, .int .u64 l1], .agg #[.int .u64 h2, .int .u64 l2]] w fun e w' => e = .returned (.bool (decide (h1 < h2) || (h1 == h2) && decide (l1 < l2))) ∧ Below w.heap.size w w' := by
  cases hh : h1 != h2
  all_goals
    go_enter Try.func47, Try.ntmps47
    go_wp2
    go_ret
    refine ⟨ret_bool ?_, ((Below.refl _ _).alloc (Nat.le_refl _) _).alloc (by simp) _⟩
    simp at hh
    rw [Bool.eq_iff_iff]
    simp
    omega

theorem less_of (x y : Int) (w : World) :
    Calls Try.prog 47 #[.agg #[.int .u64 (x / 18446744073709551616), .int .u64 (x % 18446744073709551616)], .agg #[.int .u64 (y / 18446744073709551616), .int .u64 (y % 18446744073709551616)]] w fun e w' => e = .returned (.bool (decide (x < y))) ∧ Below w.heap.size w w' := by
  have e : (decide (x / 18446744073709551616 < y / 18446744073709551616) || (x / 18446744073709551616 == y / 18446744073709551616) && decide (x % 18446744073709551616 < y % 18446744073709551616)) = decide (x < y) := by
    rw [Bool.eq_iff_iff]; simp; omega
  rw [← e]
  exact less_any _ _ _ _ w

theorem implLess_yes (a b c d : Nat) (ha : a ≤ 4611686018427387904) (hb : b ≤ 4611686018427387904) (hc : c ≤ 4611686018427387904) (hd : d ≤ 4611686018427387904)
    (hb0 : ((b : Int) == 0) = false) (hd0 : ((d : Int) == 0) = false) (w : World) :
    Calls Try.prog 18 #[.int .i64 a, .int .i64 b, .int .i64 c, .int .i64 d] w fun e w' => e = .returned (.bool (decide ((a : Int) * d < (c : Int) * b))) ∧ Below w.heap.size w w' := by
  have ka : inR a = true := by simp [inR]; omega
  have kb : inR b = true := by simp [inR]; omega
  have kc : inR c = true := by simp [inR]; omega
  have kd : inR d = true := by simp [inR]; omega
  go_enter Try.func18, Try.ntmps18
  go_wp2_with (first
    | (go_at_call 45; refine (inRange_any _ _).mono ?_; rintro e w' ⟨rfl, rfl⟩)
    | (go_at_call 46; fail))
  refine (productOf_any a d ha hd _).mono ?_
  rintro e w1 ⟨rfl, q1⟩
  go_wp2_with fail
  refine (productOf_any c b hc hb _).mono ?_
  rintro e w2 ⟨rfl, q2⟩
  go_wp2_with fail
  refine (less_of _ _ w2).mono ?_
  rintro e w3 ⟨rfl, q3⟩
  go_wp2_with fail
  go_ret
  exact ⟨rfl, (q1.trans (q2.mono q1.size)).trans (q3.mono (Nat.le_trans q1.size q2.size))⟩

theorem no_cases (a b c d : Int) (h : (inR a && inR b && inR c && inR d && !(b == 0) && !(d == 0)) = false) :
    inR a = false ∨ (inR a = true ∧ inR b = false) ∨ (inR a = true ∧ inR b = true ∧ inR c = false) ∨ (inR a = true ∧ inR b = true ∧ inR c = true ∧ inR d = false) ∨
    (inR a = true ∧ inR b = true ∧ inR c = true ∧ inR d = true ∧ (b == 0) = true) ∨ (inR a = true ∧ inR b = true ∧ inR c = true ∧ inR d = true ∧ (b == 0) = false ∧ (d == 0) = true) := by
  revert h
  cases inR a <;> cases inR b <;> cases inR c <;> cases inR d <;> cases (b == 0) <;> cases (d == 0) <;> simp

theorem implLess_no (a b c d : Int) (h : (inR a && inR b && inR c && inR d && !(b == 0) && !(d == 0)) = false) (w : World) :
    Calls Try.prog 18 #[.int .i64 a, .int .i64 b, .int .i64 c, .int .i64 d] w fun e w' => e = .returned (.bool false) ∧ w' = w := by
  rcases no_cases a b c d h with k | ⟨k1, k⟩ | ⟨k1, k2, k⟩ | ⟨k1, k2, k3, k⟩ | ⟨k1, k2, k3, k4, k⟩ | ⟨k1, k2, k3, k4, k5, k⟩
  all_goals
    clear h
    go_enter Try.func18, Try.ntmps18
    go_wp2_with (go_at_call 45; refine (inRange_any _ _).mono ?_; rintro e w' ⟨rfl, rfl⟩)
    go_ret
    exact ⟨rfl, rfl⟩

/-- impl.LessFrac at every argument. -/
theorem implLess (a b c d : Int) (w : World) :
    Calls Try.prog 18 #[.int .i64 a, .int .i64 b, .int .i64 c, .int .i64 d] w fun e w' => e = .returned (.bool (fracLess a b c d)) ∧ Below w.heap.size w w' := by
  cases h : (inR a && inR b && inR c && inR d && !(b == 0) && !(d == 0))
  · rw [fracLess, h]
    refine (implLess_no a b c d h w).mono ?_
    rintro e w' ⟨rfl, rfl⟩
    exact ⟨rfl, Below.refl _ _⟩
  · rw [fracLess, h]
    simp only [Bool.and_eq_true, Bool.not_eq_true'] at h
    obtain ⟨⟨⟨⟨⟨ka, kb⟩, kc⟩, kd⟩, hb0⟩, hd0⟩ := h
    obtain ⟨a0, a1⟩ := inR_yes ka
    obtain ⟨b0, b1⟩ := inR_yes kb
    obtain ⟨c0, c1⟩ := inR_yes kc
    obtain ⟨d0, d1⟩ := inR_yes kd
    obtain ⟨a, rfl⟩ := Int.eq_ofNat_of_zero_le a0
    obtain ⟨b, rfl⟩ := Int.eq_ofNat_of_zero_le b0
    obtain ⟨c, rfl⟩ := Int.eq_ofNat_of_zero_le c0
    obtain ⟨d, rfl⟩ := Int.eq_ofNat_of_zero_le d0
    rw [Bool.true_and]
    exact implLess_yes a b c d (by omega) (by omega) (by omega) (by omega) hb0 hd0 w

end Go.Proofs.Ytidmpcnjhpnlcaa.Ratio
