/-
  Plain arithmetic under a quotient bit by bit: one step of it. No Go text is named here.
-/
import Derived.Test.YtlmlgidfgjejpaaRatioMath
namespace Go.Proofs.Ytlmlgidfgjejpaa.Ratio

/-- One bit more: what is left doubles, and the next bit comes in. -/
theorem bit_in (r l : Nat) (k : Nat) (hr : r < 9223372036854775808) (hl : l < 18446744073709551616) :
    bits .or .u64 ((r : Int) * 2) (bits .and .u64 ((l : Int) / 2 ^ k) 1) = ((2 * r + l / 2 ^ k % 2 : Nat) : Int) := by
  have e1 : (r : Int) * 2 = ((2 * r : Nat) : Int) := by omega
  have e2 : (l : Int) / 2 ^ k = ((l / 2 ^ k : Nat) : Int) := by simp
  have hlt : l / 2 ^ k < 18446744073709551616 := Nat.lt_of_le_of_lt (Nat.div_le_self _ _) hl
  have e3 := u64_and_nat (l / 2 ^ k) 1 hlt (by omega)
  rw [e1, e2, show ((1 : Int)) = ((1 : Nat) : Int) from rfl, e3, nat_mask1, u64_or_nat _ _ (by omega) (by omega), nat_join 1 _ _ (by omega) (by omega)]

theorem half_step (P k : Nat) (_hk : k < 64) : P / 2 ^ k = 2 * (P / 2 ^ (k + 1)) + P % 18446744073709551616 / 2 ^ k % 2 := by
  have e1 : P / 2 ^ (k + 1) = P / 2 ^ k / 2 := by rw [Nat.pow_succ, Nat.div_div_eq_div_mul]
  have e2 : P % 18446744073709551616 / 2 ^ k % 2 = P / 2 ^ k % 2 := by
    have hs : (18446744073709551616 : Nat) = 2 ^ k * (2 * 2 ^ (63 - k)) := by
      rw [← Nat.mul_assoc, Nat.mul_comm (2 ^ k) 2, Nat.mul_assoc, ← Nat.pow_add, show k + (63 - k) = 63 by omega]
    rw [hs, Nat.mod_mul_right_div_self, Nat.mod_mul_right_mod]
  rw [e1, e2]; omega

/-- The step: with k + 1 bits to come, the quotient q and the rest r are right; then they are with k. -/
theorem quo_step (P n k q r : Nat) (hk : k < 64) (hr : r < n) (h : P / 2 ^ (k + 1) = q * n + r) (hP : P < n * 18446744073709551616) :
    q < 9223372036854775808 ∧ (2 * r + P % 18446744073709551616 / 2 ^ k % 2 < n → P / 2 ^ k = 2 * q * n + (2 * r + P % 18446744073709551616 / 2 ^ k % 2)) ∧
    (n ≤ 2 * r + P % 18446744073709551616 / 2 ^ k % 2 → 2 * r + P % 18446744073709551616 / 2 ^ k % 2 - n < n ∧ P / 2 ^ k = (2 * q + 1) * n + (2 * r + P % 18446744073709551616 / 2 ^ k % 2 - n)) := by
  have hb := half_step P k hk
  have hq : q < 9223372036854775808 := by
    have h1 : q * n ≤ P / 2 ^ (k + 1) := by omega
    have h2 : P / 2 ^ (k + 1) ≤ P / 2 := by
      rw [Nat.pow_succ, ← Nat.div_div_eq_div_mul]
      exact Nat.div_le_div_right (Nat.div_le_self _ _)
    have h3 : P / 2 < n * 9223372036854775808 := by omega
    have h4 : q * n < 9223372036854775808 * n := by rw [Nat.mul_comm 9223372036854775808]; omega
    exact Nat.lt_of_mul_lt_mul_right h4
  refine ⟨hq, fun _ => ?_, fun hle => ⟨by omega, ?_⟩⟩
  · rw [hb, h, Nat.mul_assoc]; omega
  · rw [hb, h, Nat.add_mul, Nat.mul_assoc]; omega

theorem quo_end (P n q r : Nat) (hn : 0 < n) (hr : r < n) (h : P / 2 ^ 0 = q * n + r) : q = P / n ∧ r = P % n := by
  simp at h
  subst h
  rw [Nat.add_comm, Nat.add_mul_div_right _ _ hn, Nat.add_mul_mod_self_right, Nat.div_eq_of_lt hr, Nat.mod_eq_of_lt hr]
  omega

theorem wrap_sub (a b : Nat) (h : b ≤ a) (ha : a < 18446744073709551616) : IntKind.u64.wrap ((a : Int) - (b : Int)) = ((a - b : Nat) : Int) := by
  rw [show (a : Int) - (b : Int) = ((a - b : Nat) : Int) by omega]; exact wrapN _ (by omega)

end Go.Proofs.Ytlmlgidfgjejpaa.Ratio
