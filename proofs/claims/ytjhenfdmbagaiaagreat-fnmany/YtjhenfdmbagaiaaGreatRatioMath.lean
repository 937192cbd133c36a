/-
  Plain arithmetic under the ratios: a product in two words of 64 bits by the school method on halves of 32 bits. No Go text is named here.
  Plain arithmetic under a division of two words by one: a digit of 32 bits at a time, guessed and put right. No Go text is named here.
  Plain arithmetic under a quotient bit by bit: one step of it. No Go text is named here.
-/
import Derived.Laws.BitsAllLaws
import Derived.Lib.Mul64
namespace Go.Proofs.YtjhenfdmbagaiaaGreat.Ratio

/-- What the school method reckons, with the four products of halves: no step passes a word; the two words are the product's. -/
theorem school (x y : Nat) (hx : x < 18446744073709551616) (hy : y < 18446744073709551616) :
    x / 4294967296 * (y / 4294967296) < 18446744073709551616 ∧
    x / 4294967296 * (y % 4294967296) < 18446744073709551616 ∧
    x % 4294967296 * (y / 4294967296) < 18446744073709551616 ∧
    (x % 4294967296) * (y % 4294967296) < 18446744073709551616 ∧
    (x / 4294967296) * (y % 4294967296) + (x % 4294967296) * (y % 4294967296) / 4294967296 < 18446744073709551616 ∧
    (x % 4294967296) * (y / 4294967296) + ((x / 4294967296) * (y % 4294967296) + (x % 4294967296) * (y % 4294967296) / 4294967296) % 4294967296 < 18446744073709551616 ∧
    (x / 4294967296) * (y / 4294967296) + ((x / 4294967296) * (y % 4294967296) + (x % 4294967296) * (y % 4294967296) / 4294967296) / 4294967296 +
      ((x % 4294967296) * (y / 4294967296) + ((x / 4294967296) * (y % 4294967296) + (x % 4294967296) * (y % 4294967296) / 4294967296) % 4294967296) / 4294967296 = x * y / 18446744073709551616 ∧
    ((x % 4294967296) * (y / 4294967296) + ((x / 4294967296) * (y % 4294967296) + (x % 4294967296) * (y % 4294967296) / 4294967296) % 4294967296) * 4294967296 % 18446744073709551616 +
      (x % 4294967296) * (y % 4294967296) % 4294967296 = x * y % 18446744073709551616 := by
  have e : x * y = (x / 4294967296) * (y / 4294967296) * (4294967296 * 4294967296) + ((x / 4294967296) * (y % 4294967296) + (x % 4294967296) * (y / 4294967296)) * 4294967296 + (x % 4294967296) * (y % 4294967296) := by
    rw [← Lib.split_mul, Nat.div_add_mod' x 4294967296, Nat.div_add_mod' y 4294967296]
  have ha := Lib.half_mul_le (a := x / 4294967296) (b := y / 4294967296) (by omega) (by omega)
  have hb := Lib.half_mul_le (a := x / 4294967296) (b := y % 4294967296) (by omega) (by omega)
  have hc := Lib.half_mul_le (a := x % 4294967296) (b := y / 4294967296) (by omega) (by omega)
  have hd := Lib.half_mul_le (a := x % 4294967296) (b := y % 4294967296) (by omega) (by omega)
  rw [e]
  generalize (x / 4294967296) * (y / 4294967296) = a at *
  generalize (x / 4294967296) * (y % 4294967296) = b at *
  generalize (x % 4294967296) * (y / 4294967296) = c at *
  generalize (x % 4294967296) * (y % 4294967296) = d at *
  refine ⟨by omega, by omega, by omega, by omega, by omega, by omega, by omega, by omega⟩

/-! ### words in the walk's spelling -/
theorem maskN (a : Nat) (ha : a < 18446744073709551616) : bits .and .u64 (a : Int) 4294967295 = ((a % 4294967296 : Nat) : Int) := by
  have h := u64_and_nat a 4294967295 ha (by omega)
  rw [show a &&& 4294967295 = a % 4294967296 from Nat.and_two_pow_sub_one_eq_mod a 32] at h
  exact h
theorem divN (a : Nat) : (a : Int) / 4294967296 = ((a / 4294967296 : Nat) : Int) := by omega
theorem mulN (a b : Nat) : (a : Int) * (b : Int) = ((a * b : Nat) : Int) := (Int.natCast_mul a b).symm
theorem mulB (a : Nat) : (a : Int) * 4294967296 = ((a * 4294967296 : Nat) : Int) := by omega
theorem addN (a b : Nat) : (a : Int) + (b : Int) = ((a + b : Nat) : Int) := (Int.natCast_add a b).symm
theorem wrapN (a : Nat) (ha : a < 18446744073709551616) : IntKind.u64.wrap (a : Int) = (a : Int) := by simp [IntKind.wrap, IntKind.bits, IntKind.signed]; omega
theorem wrapM (a : Nat) : IntKind.u64.wrap (a : Int) = ((a % 18446744073709551616 : Nat) : Int) := by simp [IntKind.wrap, IntKind.bits, IntKind.signed]
theorem orN (a b : Nat) (ha : a < 18446744073709551616) (h : a % 4294967296 = 0) (hb : b < 4294967296) : bits .or .u64 (a : Int) (b : Int) = ((a + b : Nat) : Int) := by
  rw [u64_or_nat a b ha (by omega), nat_join 32 a b (by simpa using h) (by simpa using hb)]

/-- The two words compare as the numbers do. -/
theorem two_lt (x y : Nat) : (x / 18446744073709551616 < y / 18446744073709551616 ∨ x / 18446744073709551616 = y / 18446744073709551616 ∧ x % 18446744073709551616 < y % 18446744073709551616) ↔ x < y := by omega

end Go.Proofs.YtjhenfdmbagaiaaGreat.Ratio

namespace Go.Proofs.YtjhenfdmbagaiaaGreat.Ratio

/-- The digit that is sought. -/
def dig (U l Y : Nat) : Nat := (U * 4294967296 + l) / Y
def left (U l Y : Nat) : Nat := (U * 4294967296 + l) % Y

theorem mulY (q y1 y0 Y : Nat) (hY : Y = y1 * 4294967296 + y0) : q * Y = q * y1 * 4294967296 + q * y0 := by
  rw [hY, Nat.mul_add, ← Nat.mul_assoc]

theorem dig_mul (U l Y : Nat) : dig U l Y * Y + left U l Y = U * 4294967296 + l := by
  unfold dig left; rw [Nat.mul_comm]; exact Nat.div_add_mod _ _

theorem dig_lt (U l Y : Nat) (hU : U < Y) (hl : l < 4294967296) : dig U l Y < 4294967296 := by
  refine (Nat.div_lt_iff_lt_mul (by omega)).2 ?_
  rw [Nat.mul_comm]; omega

theorem left_lt (U l Y : Nat) (hU : U < Y) : left U l Y < Y := Nat.mod_lt _ (by omega)

theorem le_dig {U l Y q : Nat} (hU : U < Y) (h : q * Y ≤ U * 4294967296 + l) : q ≤ dig U l Y := (Nat.le_div_iff_mul_le (by omega)).2 h

theorem dig_lt_of {U l Y q : Nat} (hU : U < Y) (h : U * 4294967296 + l < q * Y) : dig U l Y < q := (Nat.div_lt_iff_lt_mul (by omega)).2 h

/-- The first guess: not too small, and too great by little. -/
theorem guess (U l Y y1 y0 : Nat) (hY : Y = y1 * 4294967296 + y0) (h0 : y0 < 4294967296) (h1 : 2147483648 ≤ y1) (hU : U < Y) (hl : l < 4294967296) :
    dig U l Y ≤ U / y1 ∧ U / y1 ≤ 4294967297 ∧ U / y1 * y1 + U % y1 = U ∧ U % y1 < y1 := by
  refine ⟨?_, ?_, by rw [Nat.mul_comm]; exact Nat.div_add_mod _ _, Nat.mod_lt _ (by omega)⟩
  · refine (Nat.le_div_iff_mul_le (by omega)).2 ?_
    have h := dig_mul U l Y
    rw [mulY _ y1 y0 Y hY] at h
    have : dig U l Y * y1 * 4294967296 < (U + 1) * 4294967296 := by omega
    omega
  · have : U / y1 < 4294967298 := (Nat.div_lt_iff_lt_mul (by omega)).2 (by omega)
    omega

/-- Too great still: one less is not too small. -/
theorem lower (U l Y y1 y0 q r : Nat) (hY : Y = y1 * 4294967296 + y0) (hU : U < Y) (hl : l < 4294967296)
    (e : q * y1 + r = U) (hq : dig U l Y ≤ q) (h : 4294967296 ≤ q ∨ 4294967296 * r + l < q * y0) :
    1 ≤ q ∧ dig U l Y ≤ q - 1 ∧ (q - 1) * y1 + (r + y1) = U := by
  have hlt : dig U l Y < q := by
    rcases h with h | h
    · have := dig_lt U l Y hU hl; omega
    · refine dig_lt_of hU ?_
      rw [mulY q y1 y0 Y hY]; omega
  refine ⟨by omega, by omega, ?_⟩
  have : (q - 1) * y1 = q * y1 - y1 := by rw [Nat.sub_mul, Nat.one_mul]
  have : y1 ≤ q * y1 := Nat.le_mul_of_pos_left _ (by omega)
  omega

/-- Not too great any more: it is the digit. -/
theorem found (U l Y y1 y0 q r : Nat) (hY : Y = y1 * 4294967296 + y0) (hU : U < Y)
    (e : q * y1 + r = U) (hq : dig U l Y ≤ q) (h : q * y0 ≤ 4294967296 * r + l) : q = dig U l Y := by
  have : q ≤ dig U l Y := le_dig hU (by rw [mulY q y1 y0 Y hY]; omega)
  omega

/-- The rest has passed 32 bits: it is the digit. -/
theorem found' (U l Y y1 y0 q r : Nat) (hY : Y = y1 * 4294967296 + y0) (h0 : y0 < 4294967296) (hU : U < Y)
    (e : q * y1 + r = U) (hq : dig U l Y ≤ q) (h : 4294967296 ≤ r) : q = dig U l Y := by
  have hB : q < 4294967296 := by
    have : q * y1 < 4294967296 * y1 := by omega
    exact Nat.lt_of_mul_lt_mul_right this
  have h2 : q * y0 ≤ 4294967296 * 4294967296 := Nat.mul_le_mul (by omega) (by omega)
  have : q ≤ dig U l Y := le_dig hU (by rw [mulY q y1 y0 Y hY]; omega)
  omega

/-- What is left, in a word that wraps. -/
theorem left_word (U l Y q : Nat) (hU : U < Y) (hY : Y < 18446744073709551616) (hq : q = dig U l Y) :
    IntKind.u64.wrap (IntKind.u64.wrap (IntKind.u64.wrap ((U : Int) * 4294967296) + (l : Int)) - IntKind.u64.wrap ((q : Int) * (Y : Int))) = ((left U l Y : Nat) : Int) := by
  have h := dig_mul U l Y
  have hl := left_lt U l Y hU
  subst hq
  have e : ((dig U l Y * Y : Nat) : Int) + ((left U l Y : Nat) : Int) = (U : Int) * 4294967296 + (l : Int) := by omega
  rw [Int.natCast_mul] at e
  generalize (dig U l Y : Int) * (Y : Int) = m at *
  simp only [IntKind.wrap, IntKind.bits, IntKind.signed]
  simp
  omega

/-- Two digits make the quotient, what is left the rest: all of it moved up by s bits. -/
theorem two_digits (hi lo y s Y U L l1 l0 : Nat) (hs : s ≤ 64) (eY : Y = y * 2 ^ s) (eU : U = hi * 2 ^ s + lo / 2 ^ (64 - s)) (eL : L = lo * 2 ^ s % 18446744073709551616)
    (e1 : l1 = L / 4294967296) (e0 : l0 = L % 4294967296) (hUY : U < Y) :
    dig U l1 Y * 4294967296 + dig (left U l1 Y) l0 Y = (hi * 18446744073709551616 + lo) / y ∧ left (left U l1 Y) l0 Y / 2 ^ s = (hi * 18446744073709551616 + lo) % y := by
  have p64 : (18446744073709551616 : Nat) = 2 ^ (64 - s) * 2 ^ s := by rw [← Nat.pow_add, show 64 - s + s = 64 by omega]
  have hp : 0 < 2 ^ s := Nat.pow_pos (by omega)
  have d1 : lo * 2 ^ s = lo / 2 ^ (64 - s) * 18446744073709551616 + L := by
    have h1 : lo * 2 ^ s / 18446744073709551616 = lo / 2 ^ (64 - s) := by
      rw [p64, Nat.mul_div_mul_right _ _ hp]
    have h2 := Nat.div_add_mod (lo * 2 ^ s) 18446744073709551616
    rw [h1, ← eL] at h2
    omega
  have hN : (hi * 18446744073709551616 + lo) * 2 ^ s = U * 18446744073709551616 + L := by
    rw [Nat.add_mul, d1, eU, Nat.mul_right_comm, Nat.add_mul]
    omega
  have a1 := dig_mul U l1 Y
  have a0 := dig_mul (left U l1 Y) l0 Y
  have hl := left_lt (left U l1 Y) l0 Y (left_lt U l1 Y hUY)
  have hL : L = l1 * 4294967296 + l0 := by omega
  have key : (hi * 18446744073709551616 + lo) * 2 ^ s = (dig U l1 Y * 4294967296 + dig (left U l1 Y) l0 Y) * Y + left (left U l1 Y) l0 Y := by
    rw [hN, Nat.add_mul, Nat.mul_right_comm (dig U l1 Y), hL]
    omega
  have hYp : 0 < Y := by omega
  have q1 : (hi * 18446744073709551616 + lo) * 2 ^ s / Y = dig U l1 Y * 4294967296 + dig (left U l1 Y) l0 Y := by
    rw [key, Nat.add_comm, Nat.add_mul_div_right _ _ hYp, Nat.div_eq_of_lt hl, Nat.zero_add]
  have r1 : (hi * 18446744073709551616 + lo) * 2 ^ s % Y = left (left U l1 Y) l0 Y := by
    rw [key, Nat.add_comm, Nat.add_mul_mod_self_right, Nat.mod_eq_of_lt hl]
  rw [eY, Nat.mul_div_mul_right _ _ hp] at q1
  rw [eY, Nat.mul_mod_mul_right] at r1
  rw [eY] at hYp
  subst eY
  refine ⟨q1.symm, ?_⟩
  rw [← r1, Nat.mul_div_cancel _ hp]

/-- The first word moved up, with the head of the second one, is below the divisor moved up. -/
theorem moved_lt (hi lo y s : Nat) (hs : s ≤ 64) (hy : hi < y) (hlo : lo < 18446744073709551616) : hi * 2 ^ s + lo / 2 ^ (64 - s) < y * 2 ^ s := by
  have h1 : lo / 2 ^ (64 - s) < 2 ^ s := by
    refine (Nat.div_lt_iff_lt_mul (Nat.pow_pos (by omega))).2 ?_
    rw [← Nat.pow_add, show s + (64 - s) = 64 by omega]; exact hlo
  have h2 : (hi + 1) * 2 ^ s ≤ y * 2 ^ s := Nat.mul_le_mul_right _ hy
  rw [Nat.add_mul] at h2
  omega

/-- The same, in the words of the walk. -/
theorem moved_or (hi lo y s : Nat) (hs : s ≤ 63) (hy : hi < y) (hlo : lo < 18446744073709551616) (hY : y * 2 ^ s < 18446744073709551616) :
    bits .or .u64 (IntKind.u64.wrap ((hi : Int) * 2 ^ s)) ((lo : Int) / 2 ^ (64 - s)) = ((hi * 2 ^ s + lo / 2 ^ (64 - s) : Nat) : Int) := by
  have hlt := moved_lt hi lo y s (by omega) hy hlo
  have h1 : lo / 2 ^ (64 - s) < 2 ^ s := by
    refine (Nat.div_lt_iff_lt_mul (Nat.pow_pos (by omega))).2 ?_
    rw [← Nat.pow_add, show s + (64 - s) = 64 by omega]; exact hlo
  have b1 : hi * 2 ^ s < 18446744073709551616 := Nat.lt_of_le_of_lt (Nat.le_add_right _ _) (Nat.lt_trans hlt hY)
  have b2 : lo / 2 ^ (64 - s) < 18446744073709551616 := Nat.lt_of_le_of_lt (Nat.div_le_self _ _) hlo
  have e1 : IntKind.u64.wrap ((hi : Int) * 2 ^ s) = ((hi * 2 ^ s : Nat) : Int) := by
    rw [show (hi : Int) * 2 ^ s = ((hi * 2 ^ s : Nat) : Int) by simp]; exact wrapN _ b1
  have e2 : (lo : Int) / 2 ^ (64 - s) = ((lo / 2 ^ (64 - s) : Nat) : Int) := by simp
  rw [e1, e2, u64_or_nat _ _ b1 b2, nat_join s _ _ (Nat.mul_mod_left _ _) h1]

theorem rest_word (U y1 q r : Nat) (h : q * y1 + r = U) (hU : U < 18446744073709551616) : IntKind.u64.wrap ((U : Int) - IntKind.u64.wrap ((q : Int) * (y1 : Int))) = (r : Int) := by
  have e : (q : Int) * (y1 : Int) = ((q * y1 : Nat) : Int) := by simp
  rw [e, wrapN _ (by omega), show (U : Int) - ((q * y1 : Nat) : Int) = (r : Int) by omega]
  exact wrapN _ (by omega)

end Go.Proofs.YtjhenfdmbagaiaaGreat.Ratio

namespace Go.Proofs.YtjhenfdmbagaiaaGreat.Ratio

/-- One bit more: what is left doubles, and the next bit comes in. -/
theorem bit_in (r l : Nat) (k : Nat) (hr : r < 9223372036854775808) (hl : l < 18446744073709551616) :
    bits .or .u64 ((r : Int) * 2) (bits .and .u64 ((l : Int) / 2 ^ k) 1) = ((2 * r + l / 2 ^ k % 2 : Nat) : Int) := by
  have e1 : (r : Int) * 2 = ((2 * r : Nat) : Int) := by omega
  have e2 : (l : Int) / 2 ^ k = ((l / 2 ^ k : Nat) : Int) := by simp
  have hlt : l / 2 ^ k < 18446744073709551616 := Nat.lt_of_le_of_lt (Nat.div_le_self _ _) hl
  have e3 := u64_and_nat (l / 2 ^ k) 1 hlt (by omega)
  rw [e1, e2, show ((1 : Int)) = ((1 : Nat) : Int) from rfl, e3, nat_mask1, u64_or_nat _ _ (by omega) (by omega), nat_join 1 _ _ (by omega) (by omega)]

theorem half_step (P k : Nat) (_hk : k < 64) : P / 2 ^ k = 2 * (P / 2 ^ (k + 1)) + P % 18446744073709551616 / 2 ^ k % 2 := by
  have e1 : P / 2 ^ (k + 1) = P / 2 ^ k / 2 := by rw [Nat.pow_succ, Nat.div_div_eq_div_mul]
  have e2 : P % 18446744073709551616 / 2 ^ k % 2 = P / 2 ^ k % 2 := by
    have hs : (18446744073709551616 : Nat) = 2 ^ k * (2 * 2 ^ (63 - k)) := by
      rw [← Nat.mul_assoc, Nat.mul_comm (2 ^ k) 2, Nat.mul_assoc, ← Nat.pow_add, show k + (63 - k) = 63 by omega]
    rw [hs, Nat.mod_mul_right_div_self, Nat.mod_mul_right_mod]
  rw [e1, e2]; omega

/-- The step: with k + 1 bits to come, the quotient q and the rest r are right; then they are with k. -/
theorem quo_step (P n k q r : Nat) (hk : k < 64) (hr : r < n) (h : P / 2 ^ (k + 1) = q * n + r) (hP : P < n * 18446744073709551616) :
    q < 9223372036854775808 ∧ (2 * r + P % 18446744073709551616 / 2 ^ k % 2 < n → P / 2 ^ k = 2 * q * n + (2 * r + P % 18446744073709551616 / 2 ^ k % 2)) ∧
    (n ≤ 2 * r + P % 18446744073709551616 / 2 ^ k % 2 → 2 * r + P % 18446744073709551616 / 2 ^ k % 2 - n < n ∧ P / 2 ^ k = (2 * q + 1) * n + (2 * r + P % 18446744073709551616 / 2 ^ k % 2 - n)) := by
  have hb := half_step P k hk
  have hq : q < 9223372036854775808 := by
    have h1 : q * n ≤ P / 2 ^ (k + 1) := by omega
    have h2 : P / 2 ^ (k + 1) ≤ P / 2 := by
      rw [Nat.pow_succ, ← Nat.div_div_eq_div_mul]
      exact Nat.div_le_div_right (Nat.div_le_self _ _)
    have h3 : P / 2 < n * 9223372036854775808 := by omega
    have h4 : q * n < 9223372036854775808 * n := by rw [Nat.mul_comm 9223372036854775808]; omega
    exact Nat.lt_of_mul_lt_mul_right h4
  refine ⟨hq, fun _ => ?_, fun hle => ⟨by omega, ?_⟩⟩
  · rw [hb, h, Nat.mul_assoc]; omega
  · rw [hb, h, Nat.add_mul, Nat.mul_assoc]; omega

theorem quo_end (P n q r : Nat) (hn : 0 < n) (hr : r < n) (h : P / 2 ^ 0 = q * n + r) : q = P / n ∧ r = P % n := by
  simp at h
  subst h
  rw [Nat.add_comm, Nat.add_mul_div_right _ _ hn, Nat.add_mul_mod_self_right, Nat.div_eq_of_lt hr, Nat.mod_eq_of_lt hr]
  omega

theorem wrap_sub (a b : Nat) (h : b ≤ a) (ha : a < 18446744073709551616) : IntKind.u64.wrap ((a : Int) - (b : Int)) = ((a - b : Nat) : Int) := by
  rw [show (a : Int) - (b : Int) = ((a - b : Nat) : Int) by omega]; exact wrapN _ (by omega)

end Go.Proofs.YtjhenfdmbagaiaaGreat.Ratio
