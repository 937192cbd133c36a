/-
  The small functions under the ratios: in range or not; a product in two words (spec.l1Mul and math/bits.Mul64 alike). Each contract holds at every argument of its kind.
  Is one ratio less than the other: spec.LessFrac and impl.LessFrac answer alike, at every argument.
-/
import Derived.Test.YtjhenfdmbagaiaaGreatRows
import Derived.Test.YtjhenfdmbagaiaaGreatRatioMath
import Derived.WalkKit
import Derived.ProofKit
import Derived.OpenShut
import Derived.Below
namespace Go.Proofs.YtjhenfdmbagaiaaGreat.Ratio
open Go.ChangeShapes Go.WideShapes Go.ChangeAt Go.RowKit

/-- From 0 to MaxNum. -/
def inR (x : Int) : Bool := decide (0 ≤ x ∧ x ≤ 4611686018427387904)
theorem inR_yes {x : Int} (h : inR x = true) : 0 ≤ x ∧ x ≤ 4611686018427387904 := by simpa [inR] using h
theorem inR_no {x : Int} (h : inR x = false) : x < 0 ∨ 4611686018427387904 < x := by
  have : ¬ (0 ≤ x ∧ x ≤ 4611686018427387904) := by simpa [inR] using h
  omega

theorem specOk_any (x : Int) (w : World) :
    Calls Tryz.prog 138 #[.int .i64 x] w fun e w' => e = .returned (.bool (inR x)) ∧ w' = w := by
  cases h : inR x
  · rcases inR_no h with h | h
    · go_enter Tryz.func138, Tryz.ntmps138
      go_wp2
      go_ret
      exact ⟨rfl, rfl⟩
    · have h' : ¬ x < 0 := by omega
      have hd : decide (x ≤ 4611686018427387904) = false := by simp; omega
      go_enter Tryz.func138, Tryz.ntmps138
      go_wp2
      go_ret
      exact ⟨rfl, rfl⟩
  · obtain ⟨h1, h2⟩ := inR_yes h
    go_enter Tryz.func138, Tryz.ntmps138
    go_wp2
    go_ret
    exact ⟨rfl, rfl⟩

theorem inRange_any (x : Int) (w : World) :
    Calls Tryz.prog 123 #[.int .i64 x] w fun e w' => e = .returned (.bool (inR x)) ∧ w' = w := by
  cases h : inR x
  · rcases inR_no h with h | h
    · go_enter Tryz.func123, Tryz.ntmps123
      go_wp2
      go_ret
      exact ⟨rfl, rfl⟩
    · have h' : ¬ x < 0 := by omega
      have hd : decide (x ≤ 4611686018427387904) = false := by simp; omega
      go_enter Tryz.func123, Tryz.ntmps123
      go_wp2
      go_ret
      exact ⟨rfl, rfl⟩
  · obtain ⟨h1, h2⟩ := inR_yes h
    go_enter Tryz.func123, Tryz.ntmps123
    go_wp2
    go_ret
    exact ⟨rfl, rfl⟩

theorem l1Mul_any (x y : Nat) (hx : x < 18446744073709551616) (hy : y < 18446744073709551616) (w : World) :
    Calls Tryz.prog 139 #[.int .u64 x, .int .u64 y] w fun e w' => e = .returned (.tuple #[.int .u64 ((x * y / 18446744073709551616 : Nat) : Int), .int .u64 ((x * y % 18446744073709551616 : Nat) : Int)]) ∧ w' = w := by
  obtain ⟨ba, bb, bc, bd, bt, bz, hhi, hlo⟩ := school x y hx hy
  have bh1 : x / 4294967296 * (y / 4294967296) + (x / 4294967296 * (y % 4294967296) + x % 4294967296 * (y % 4294967296) / 4294967296) / 4294967296 < 18446744073709551616 := by
    have := Nat.div_le_self (x * y) 1; have hp : x * y < 18446744073709551616 * 18446744073709551616 := Nat.mul_lt_mul'' hx hy; omega
  have bh : x * y / 18446744073709551616 < 18446744073709551616 := by
    have hp : x * y < 18446744073709551616 * 18446744073709551616 := Nat.mul_lt_mul'' hx hy; omega
  go_enter Tryz.func139, Tryz.ntmps139
  go_wp2
  simp only [maskN x hx, maskN y hy, divN, mulN, addN, wrapN _ bd, wrapN _ bb, wrapN _ bt, maskN _ bt, wrapN _ bc, wrapN _ bz, wrapN _ ba, wrapN _ bh1, maskN _ bd, mulB, wrapM (_ * 4294967296)]
  rw [hhi, wrapN _ bh, orN _ _ (by omega) (by omega) (by omega), hlo]
  go_ret2
  exact ⟨rfl, rfl⟩

theorem Mul64_any (x y : Nat) (hx : x < 18446744073709551616) (hy : y < 18446744073709551616) (w : World) :
    Calls Tryz.prog 124 #[.int .u64 x, .int .u64 y] w fun e w' => e = .returned (.tuple #[.int .u64 ((x * y / 18446744073709551616 : Nat) : Int), .int .u64 ((x * y % 18446744073709551616 : Nat) : Int)]) ∧ w' = w := by
  obtain ⟨ba, bb, bc, bd, bt, bz, hhi, hlo⟩ := school x y hx hy
  have bh1 : x / 4294967296 * (y / 4294967296) + (x / 4294967296 * (y % 4294967296) + x % 4294967296 * (y % 4294967296) / 4294967296) / 4294967296 < 18446744073709551616 := by
    have hp : x * y < 18446744073709551616 * 18446744073709551616 := Nat.mul_lt_mul'' hx hy; omega
  have bh : x * y / 18446744073709551616 < 18446744073709551616 := by
    have hp : x * y < 18446744073709551616 * 18446744073709551616 := Nat.mul_lt_mul'' hx hy; omega
  rw [Nat.add_comm (x % 4294967296 * (y / 4294967296))] at bz hhi
  clear hlo
  go_enter Tryz.func124, Tryz.ntmps124
  go_wp2
  simp only [maskN x hx, maskN y hy, divN, mulN, addN, wrapN _ bd, wrapN _ bb, wrapN _ bt, maskN _ bt, wrapN _ bc, wrapN _ bz, wrapN _ ba, wrapN _ bh1, wrapM (x * y)]
  rw [hhi, wrapN _ bh]
  go_ret2
  exact ⟨rfl, rfl⟩

end Go.Proofs.YtjhenfdmbagaiaaGreat.Ratio

namespace Go.Proofs.YtjhenfdmbagaiaaGreat.Ratio
open Go.ChangeShapes Go.WideShapes Go.ChangeAt Go.RowKit

/-- a by b is less than c by d; all in range, b and d not 0. -/
def fracLess (a b c d : Int) : Bool := inR a && inR b && inR c && inR d && !(b == 0) && !(d == 0) && decide (a * d < c * b)

theorem ret_bool {a b : Bool} (h : a = b) : Ending.returned (.bool a) = .returned (.bool b) := by rw [h]

theorem productOf_any (a b : Nat) (ha : a ≤ 4611686018427387904) (hb : b ≤ 4611686018427387904) (w : World) :
    Calls Tryz.prog 110 #[.int .i64 a, .int .i64 b] w fun e w' => e = .returned (.agg #[.int .u64 ((a : Int) * b / 18446744073709551616), .int .u64 ((a : Int) * b % 18446744073709551616)]) ∧ Below w.heap.size w w' := by
  go_enter Tryz.func110, Tryz.ntmps110
  go_wp2_with (go_at_call 124; refine (Mul64_any _ _ (by omega) (by omega) _).mono ?_; rintro e w' ⟨rfl, rfl⟩)
  exact bodyPost_ret (v := .agg #[.int .u64 ((a : Int) * b / 18446744073709551616), .int .u64 ((a : Int) * b % 18446744073709551616)]) (by simp [results, Tryz.results110, go_sem]) rfl ⟨rfl, (Below.refl _ _).alloc (Nat.le_refl _) _⟩

theorem no_cases (a b c d : Int) (h : (inR a && inR b && inR c && inR d && !(b == 0) && !(d == 0)) = false) :
    inR a = false ∨ (inR a = true ∧ inR b = false) ∨ (inR a = true ∧ inR b = true ∧ inR c = false) ∨ (inR a = true ∧ inR b = true ∧ inR c = true ∧ inR d = false) ∨
    (inR a = true ∧ inR b = true ∧ inR c = true ∧ inR d = true ∧ (b == 0) = true) ∨ (inR a = true ∧ inR b = true ∧ inR c = true ∧ inR d = true ∧ (b == 0) = false ∧ (d == 0) = true) := by
  revert h
  cases inR a <;> cases inR b <;> cases inR c <;> cases inR d <;> cases (b == 0) <;> cases (d == 0) <;> simp

end Go.Proofs.YtjhenfdmbagaiaaGreat.Ratio

/-
  spec.l1Quo, spec.FloorOf and spec.CeilOf: a product by a third number, rounded down or up, at every argument.
-/
namespace Go.Proofs.YtjhenfdmbagaiaaGreat.Ratio
open Go.ChangeShapes Go.WideShapes Go.ChangeAt Go.RowKit

theorem l1Mul_words (x y : Nat) (hx : x < 18446744073709551616) (hy : y < 18446744073709551616) (w : World) :
    Calls Tryz.prog 139 #[.int .u64 x, .int .u64 y] w fun e w' => ∃ h l : Nat, e = .returned (.tuple #[.int .u64 h, .int .u64 l]) ∧ Hid (h = x * y / 18446744073709551616 ∧ l = x * y % 18446744073709551616) ∧ l < 18446744073709551616 ∧ w' = w := by
  refine (l1Mul_any x y hx hy w).mono ?_
  rintro e w' ⟨rfl, rfl⟩
  exact ⟨_, _, rfl, ⟨rfl, rfl⟩, by omega, rfl⟩

/-! ### what is answered, in plain words -/
/-- a times b, by c, rounded down, without a limit. -/
def quo (a b c : Int) : Nat := a.toNat * b.toNat / c.toNat
def rest (a b c : Int) : Nat := a.toNat * b.toNat % c.toNat
/-- All in range, c not 0, and what comes out at most MaxNum. -/
def fits (a b c : Int) : Bool := inR a && inR b && inR c && !(c == 0) && decide (quo a b c ≤ 4611686018427387904)
def floorV (a b c : Int) : Int := if fits a b c then (quo a b c : Int) else 0
def overV (a b c : Int) : Bool := fits a b c && decide (0 < rest a b c)
def ceilFits (a b c : Int) : Bool := fits a b c && !(overV a b c && (floorV a b c == 4611686018427387904))
def ceilV (a b c : Int) : Int := if ceilFits a b c then (if overV a b c then floorV a b c + 1 else floorV a b c) else 0

theorem quo_nat (a b c : Nat) : quo a b c = a * b / c := by simp [quo]
theorem fits_le {a b c : Int} (h : fits a b c = true) : quo a b c ≤ 4611686018427387904 := by
  unfold fits at h
  exact of_decide_eq_true (Bool.and_eq_true_iff.1 h).2
theorem fits_not {a b c : Int} (h : ¬ quo a b c ≤ 4611686018427387904) : fits a b c = false := by
  cases k : fits a b c
  · rfl
  · exact absurd (fits_le k) h
theorem fits_mk {a b c : Int} (k : (inR a && inR b && inR c && !(c == 0)) = true) (h : quo a b c ≤ 4611686018427387904) : fits a b c = true := by
  rw [fits, k, decide_eq_true h]; rfl

theorem floorV_bd (a b c : Int) : 0 ≤ floorV a b c ∧ floorV a b c ≤ 4611686018427387904 := by
  unfold floorV
  cases h : fits a b c
  · simp
  · have := fits_le h
    simp; omega

theorem ret_qbb {x y : Int} {s t u v : Bool} (h : x = y) (k : s = t) (l : u = v) : Ending.returned (.tuple #[.int .i64 x, .bool s, .bool u]) = .returned (.tuple #[.int .i64 y, .bool t, .bool v]) := by rw [h, k, l]

theorem quo_no (a b c : Int) (h : fits a b c = false) : floorV a b c = 0 ∧ overV a b c = false ∧ ceilFits a b c = false ∧ ceilV a b c = 0 := by
  simp [floorV, overV, ceilFits, ceilV, h]

theorem quo_yes (a b c : Nat) (ha : a ≤ 4611686018427387904) (hb : b ≤ 4611686018427387904) (hc : c ≤ 4611686018427387904) (hc0 : 0 < c) (hm : a * b / c ≤ 4611686018427387904) :
    fits a b c = true ∧ floorV a b c = ((a * b / c : Nat) : Int) ∧ overV a b c = decide (0 < a * b % c) := by
  have hf : fits a b c = true := by
    refine fits_mk ?_ (by rw [quo_nat]; exact hm)
    simp [inR]
    omega
  refine ⟨hf, ?_, ?_⟩
  · rw [floorV, hf, if_pos rfl, quo]; simp
  · rw [overV, hf, rest]; simp

theorem l1Quo_loop (a b c : Nat) (ha : a ≤ 4611686018427387904) (hb : b ≤ 4611686018427387904) (hc : c ≤ 4611686018427387904)
    (hc0 : ((c : Int) == 0) = false) (w : World) (hP : a * b < c * 18446744073709551616) :
    Calls Tryz.prog 121 #[.int .i64 a, .int .i64 b, .int .i64 c] w fun e w' => e = .returned (.tuple #[.int .i64 (floorV a b c), .bool (overV a b c), .bool (fits a b c)]) ∧ w' = w := by
  have ka : inR a = true := by simp [inR]; omega
  have kb : inR b = true := by simp [inR]; omega
  have kc : inR c = true := by simp [inR]; omega
  have hcp : 0 < c := by simp at hc0; omega
  go_enter Tryz.func121, Tryz.ntmps121
  go_wp2_with (go_at_call 138; refine (specOk_any _ _).mono ?_; rintro e w' ⟨rfl, rfl⟩)
  refine (l1Mul_words a b (by omega) (by omega) _).mono ?_
  rintro e w1 ⟨h, l, rfl, H, hl, rfl⟩
  have hh : h < c := by rw [H.out.1]; omega
  generalize hp : a * b = P at *
  have Hp : Hid (a * b = P) := hp
  clear hp
  go_wp2_with fail
  go_loop [12, 13, 14] (fun r q i => ∃ k rn qn : Nat, k ≤ 64 ∧ i = .int .i64 ((k : Int) - 1) ∧ r = .int .u64 rn ∧ q = .int .u64 qn ∧ rn < c ∧ Hid (P / 2 ^ k = qn * c + rn)) (fun _ _ i => (intOf i + 1).toNat)
  case atStart => exact ⟨64, h, 0, by omega, rfl, rfl, rfl, hh, by rw [H.out.1]; show P / 18446744073709551616 = _; omega⟩
  case round =>
    obtain ⟨k, r, q, hk, rfl, rfl, rfl, hr, E⟩ := hrel
    by_cases h0 : k = 0
    · subst h0
      obtain ⟨e1, e2⟩ := quo_end P c q r hcp hr E.out
      have F : Hid (q = a * b / c ∧ r = a * b % c) := by rw [Hp.out]; exact ⟨e1, e2⟩
      clear e1 e2 E hP
      by_cases hq : q ≤ 4611686018427387904
      · have G := quo_yes a b c ha hb hc hcp (by rw [← F.out.1]; exact hq)
        rw [← F.out.1, ← F.out.2] at G
        have G' : Hid (fits a b c = true ∧ floorV a b c = (q : Int) ∧ overV a b c = decide (0 < r)) := G
        clear G
        go_wp2_with fail
        go_ret3
        exact ⟨ret_qbb G'.out.2.1.symm G'.out.2.2.symm G'.out.1.symm, rfl⟩
      · have hf : fits a b c = false := fits_not (by rw [quo_nat, ← F.out.1]; exact hq)
        obtain ⟨g1, g2, _, _⟩ := quo_no a b c hf
        have G' : Hid (fits a b c = false ∧ floorV a b c = 0 ∧ overV a b c = false) := ⟨hf, g1, g2⟩
        clear hf g1 g2
        go_wp2_with fail
        go_ret3
        exact ⟨ret_qbb G'.out.2.1.symm G'.out.2.2.symm G'.out.1.symm, rfl⟩
    · obtain ⟨k, rfl⟩ : ∃ m, k = m + 1 := ⟨k - 1, by omega⟩
      have B := bit_in r l k (by omega) hl
      obtain ⟨s1, s2, s3⟩ := quo_step P c k q r (by omega) hr E.out hP
      have HB : Hid (bits .or .u64 ((r : Int) * 2) (bits .and .u64 ((l : Int) / 2 ^ k) 1) = ((2 * r + l / 2 ^ k % 2 : Nat) : Int)) := B
      rw [← H.out.2] at s2 s3
      have S2 : Hid (2 * r + l / 2 ^ k % 2 < c → P / 2 ^ k = 2 * q * c + (2 * r + l / 2 ^ k % 2)) := s2
      have S3 : Hid (c ≤ 2 * r + l / 2 ^ k % 2 → 2 * r + l / 2 ^ k % 2 - c < c ∧ P / 2 ^ k = (2 * q + 1) * c + (2 * r + l / 2 ^ k % 2 - c)) := s3
      clear B s2 s3
      go_wp2_with fail
      · have hge : (c : Int) ≤ bits .or .u64 ((r : Int) * 2) (bits .and .u64 ((l : Int) / 2 ^ k) 1) := by assumption
        rw [HB.out] at hge ⊢
        have hge' : c ≤ 2 * r + l / 2 ^ k % 2 := by exact_mod_cast hge
        obtain ⟨t1, t2⟩ := S3.out hge'
        rw [wrap_sub _ _ hge' (by omega)]
        exact ⟨⟨k, 2 * r + l / 2 ^ k % 2 - c, 2 * q + 1, by omega, rfl, rfl, congrArg (Value.int .u64) (by omega), t1, t2⟩, by simp [intOf]⟩
      · have hlt : bits .or .u64 ((r : Int) * 2) (bits .and .u64 ((l : Int) / 2 ^ k) 1) < (c : Int) := by assumption
        rw [HB.out] at hlt ⊢
        have hlt' : 2 * r + l / 2 ^ k % 2 < c := by exact_mod_cast hlt
        exact ⟨⟨k, 2 * r + l / 2 ^ k % 2, 2 * q, by omega, rfl, rfl, congrArg (Value.int .u64) (by omega), hlt', S2.out hlt'⟩, by simp [intOf]⟩

theorem l1Quo_big (a b c : Nat) (ha : a ≤ 4611686018427387904) (hb : b ≤ 4611686018427387904) (hc : c ≤ 4611686018427387904)
    (hc0 : ((c : Int) == 0) = false) (w : World) (hP : ¬ a * b < c * 18446744073709551616) :
    Calls Tryz.prog 121 #[.int .i64 a, .int .i64 b, .int .i64 c] w fun e w' => e = .returned (.tuple #[.int .i64 0, .bool false, .bool false]) ∧ w' = w := by
  have ka : inR a = true := by simp [inR]; omega
  have kb : inR b = true := by simp [inR]; omega
  have kc : inR c = true := by simp [inR]; omega
  go_enter Tryz.func121, Tryz.ntmps121
  go_wp2_with (go_at_call 138; refine (specOk_any _ _).mono ?_; rintro e w' ⟨rfl, rfl⟩)
  refine (l1Mul_words a b (by omega) (by omega) _).mono ?_
  rintro e w1 ⟨h, l, rfl, H, hl, rfl⟩
  have hh : c ≤ h := by rw [H.out.1]; omega
  clear hP
  go_wp2_with fail
  go_ret3
  exact ⟨rfl, rfl⟩

theorem quo_cases (a b c : Int) (h : (inR a && inR b && inR c && !(c == 0)) = false) :
    inR a = false ∨ (inR a = true ∧ inR b = false) ∨ (inR a = true ∧ inR b = true ∧ inR c = false) ∨ (inR a = true ∧ inR b = true ∧ inR c = true ∧ (c == 0) = true) := by
  revert h
  cases inR a <;> cases inR b <;> cases inR c <;> cases (c == 0) <;> simp

theorem l1Quo_no (a b c : Int) (h : (inR a && inR b && inR c && !(c == 0)) = false) (w : World) :
    Calls Tryz.prog 121 #[.int .i64 a, .int .i64 b, .int .i64 c] w fun e w' => e = .returned (.tuple #[.int .i64 0, .bool false, .bool false]) ∧ w' = w := by
  rcases quo_cases a b c h with k | ⟨k1, k⟩ | ⟨k1, k2, k⟩ | ⟨k1, k2, k3, k⟩
  all_goals
    clear h
    go_enter Tryz.func121, Tryz.ntmps121
    go_wp2_with (go_at_call 138; refine (specOk_any _ _).mono ?_; rintro e w' ⟨rfl, rfl⟩)
    go_ret3
    exact ⟨rfl, rfl⟩

theorem fits_false (a b c : Int) (h : (inR a && inR b && inR c && !(c == 0)) = false) : fits a b c = false := by rw [fits, h]; rfl

theorem big_quo (P c : Nat) (hc0 : 0 < c) (hP : ¬ P < c * 18446744073709551616) : ¬ P / c ≤ 4611686018427387904 := by
  have : 18446744073709551616 ≤ P / c := (Nat.le_div_iff_mul_le hc0).2 (by rw [Nat.mul_comm]; omega)
  omega

/-- spec.l1Quo at every argument. -/
theorem l1Quo_any (a b c : Int) (w : World) :
    Calls Tryz.prog 121 #[.int .i64 a, .int .i64 b, .int .i64 c] w fun e w' => e = .returned (.tuple #[.int .i64 (floorV a b c), .bool (overV a b c), .bool (fits a b c)]) ∧ w' = w := by
  cases h : (inR a && inR b && inR c && !(c == 0))
  · have hf := fits_false a b c h
    obtain ⟨g1, g2, _, _⟩ := quo_no a b c hf
    rw [g1, g2, hf]
    exact l1Quo_no a b c h w
  · simp only [Bool.and_eq_true, Bool.not_eq_true'] at h
    obtain ⟨⟨⟨ka, kb⟩, kc⟩, hc0⟩ := h
    obtain ⟨a0, a1⟩ := inR_yes ka
    obtain ⟨b0, b1⟩ := inR_yes kb
    obtain ⟨c0, c1⟩ := inR_yes kc
    obtain ⟨a, rfl⟩ := Int.eq_ofNat_of_zero_le a0
    obtain ⟨b, rfl⟩ := Int.eq_ofNat_of_zero_le b0
    obtain ⟨c, rfl⟩ := Int.eq_ofNat_of_zero_le c0
    have hcp : 0 < c := by simp at hc0; omega
    by_cases hP : a * b < c * 18446744073709551616
    · exact l1Quo_loop a b c (by omega) (by omega) (by omega) hc0 w hP
    · have hf : fits a b c = false := fits_not (by rw [quo_nat]; exact big_quo (a * b) c hcp hP)
      obtain ⟨g1, g2, _, _⟩ := quo_no a b c hf
      rw [g1, g2, hf]
      exact l1Quo_big a b c (by omega) (by omega) (by omega) hc0 w hP

/-- spec.CeilOf at every argument. -/
theorem specCeil (a b c : Int) (w : World) :
    Calls Tryz.prog 104 #[.int .i64 a, .int .i64 b, .int .i64 c] w fun e w' => e = .returned (.tuple #[.int .i64 (ceilV a b c), .bool (ceilFits a b c)]) ∧ w' = w := by
  obtain ⟨f0, f1⟩ := floorV_bd a b c
  cases hf : fits a b c
  · obtain ⟨_, _, g1, g2⟩ := quo_no a b c hf
    rw [g1, g2]
    clear g1 g2
    go_enter Tryz.func104, Tryz.ntmps104
    go_wp2_with (go_at_call 121; refine (l1Quo_any a b c _).mono ?_; rintro e w' ⟨rfl, rfl⟩)
    go_ret2
    exact ⟨rfl, rfl⟩
  · cases ho : overV a b c
    · have e1 : ceilFits a b c = true := by simp [ceilFits, hf, ho]
      have e2 : ceilV a b c = floorV a b c := by simp [ceilV, e1, ho]
      rw [e1, e2]
      clear e1 e2
      go_enter Tryz.func104, Tryz.ntmps104
      go_wp2_with (go_at_call 121; refine (l1Quo_any a b c _).mono ?_; rintro e w' ⟨rfl, rfl⟩)
      go_ret2
      exact ⟨rfl, rfl⟩
    · cases hm : (floorV a b c == 4611686018427387904)
      · have e1 : ceilFits a b c = true := by simp [ceilFits, hf, ho, hm]
        have e2 : ceilV a b c = floorV a b c + 1 := by simp [ceilV, e1, ho]
        rw [e1, e2]
        clear e1 e2
        go_enter Tryz.func104, Tryz.ntmps104
        go_wp2_with (go_at_call 121; refine (l1Quo_any a b c _).mono ?_; rintro e w' ⟨rfl, rfl⟩)
        go_ret2
        exact ⟨rfl, rfl⟩
      · have e1 : ceilFits a b c = false := by simp [ceilFits, hf, ho, hm]
        have e2 : ceilV a b c = 0 := by simp [ceilV, e1]
        rw [e1, e2]
        clear e1 e2
        go_enter Tryz.func104, Tryz.ntmps104
        go_wp2_with (go_at_call 121; refine (l1Quo_any a b c _).mono ?_; rintro e w' ⟨rfl, rfl⟩)
        go_ret2
        exact ⟨rfl, rfl⟩

end Go.Proofs.YtjhenfdmbagaiaaGreat.Ratio
