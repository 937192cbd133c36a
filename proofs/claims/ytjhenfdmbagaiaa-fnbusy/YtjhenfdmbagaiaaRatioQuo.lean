/-
  spec.l1Quo, spec.FloorOf and spec.CeilOf: a product by a third number, rounded down or up, at every argument.
-/
import Derived.Test.YtjhenfdmbagaiaaRatioBase
import Derived.Test.YtjhenfdmbagaiaaRatioMath
namespace Go.Proofs.Ytjhenfdmbagaiaa.Ratio
open Go.ChangeShapes Go.WideShapes Go.ChangeAt Go.RowKit

/-! ### what is answered, in plain words -/
/-- a times b, by c, rounded down, without a limit. -/
def quo (a b c : Int) : Nat := a.toNat * b.toNat / c.toNat
def rest (a b c : Int) : Nat := a.toNat * b.toNat % c.toNat
/-- All in range, c not 0, and what comes out at most MaxNum. -/
def fits (a b c : Int) : Bool := inR a && inR b && inR c && !(c == 0) && decide (quo a b c ≤ 4611686018427387904)
def floorV (a b c : Int) : Int := if fits a b c then (quo a b c : Int) else 0
def overV (a b c : Int) : Bool := fits a b c && decide (0 < rest a b c)
def ceilFits (a b c : Int) : Bool := fits a b c && !(overV a b c && (floorV a b c == 4611686018427387904))
def ceilV (a b c : Int) : Int := if ceilFits a b c then (if overV a b c then floorV a b c + 1 else floorV a b c) else 0

theorem quo_nat (a b c : Nat) : quo a b c = a * b / c := by simp [quo]
theorem fits_le {a b c : Int} (h : fits a b c = true) : quo a b c ≤ 4611686018427387904 := by
  unfold fits at h
  exact of_decide_eq_true (Bool.and_eq_true_iff.1 h).2
theorem fits_not {a b c : Int} (h : ¬ quo a b c ≤ 4611686018427387904) : fits a b c = false := by
  cases k : fits a b c
  · rfl
  · exact absurd (fits_le k) h
theorem fits_mk {a b c : Int} (k : (inR a && inR b && inR c && !(c == 0)) = true) (h : quo a b c ≤ 4611686018427387904) : fits a b c = true := by
  rw [fits, k, decide_eq_true h]; rfl

theorem floorV_bd (a b c : Int) : 0 ≤ floorV a b c ∧ floorV a b c ≤ 4611686018427387904 := by
  unfold floorV
  cases h : fits a b c
  · simp
  · have := fits_le h
    simp; omega

theorem ret_qbb {x y : Int} {s t u v : Bool} (h : x = y) (k : s = t) (l : u = v) : Ending.returned (.tuple #[.int .i64 x, .bool s, .bool u]) = .returned (.tuple #[.int .i64 y, .bool t, .bool v]) := by rw [h, k, l]

theorem quo_no (a b c : Int) (h : fits a b c = false) : floorV a b c = 0 ∧ overV a b c = false ∧ ceilFits a b c = false ∧ ceilV a b c = 0 := by
  simp [floorV, overV, ceilFits, ceilV, h]

theorem quo_yes (a b c : Nat) (ha : a ≤ 4611686018427387904) (hb : b ≤ 4611686018427387904) (hc : c ≤ 4611686018427387904) (hc0 : 0 < c) (hm : a * b / c ≤ 4611686018427387904) :
    fits a b c = true ∧ floorV a b c = ((a * b / c : Nat) : Int) ∧ overV a b c = decide (0 < a * b % c) := by
  have hf : fits a b c = true := by
    refine fits_mk ?_ (by rw [quo_nat]; exact hm)
    simp [inR]
    omega
  refine ⟨hf, ?_, ?_⟩
  · rw [floorV, hf, if_pos rfl, quo]; simp
  · rw [overV, hf, rest]; simp

theorem quo_cases (a b c : Int) (h : (inR a && inR b && inR c && !(c == 0)) = false) :
    inR a = false ∨ (inR a = true ∧ inR b = false) ∨ (inR a = true ∧ inR b = true ∧ inR c = false) ∨ (inR a = true ∧ inR b = true ∧ inR c = true ∧ (c == 0) = true) := by
  revert h
  cases inR a <;> cases inR b <;> cases inR c <;> cases (c == 0) <;> simp

theorem fits_false (a b c : Int) (h : (inR a && inR b && inR c && !(c == 0)) = false) : fits a b c = false := by rw [fits, h]; rfl

theorem big_quo (P c : Nat) (hc0 : 0 < c) (hP : ¬ P < c * 18446744073709551616) : ¬ P / c ≤ 4611686018427387904 := by
  have : 18446744073709551616 ≤ P / c := (Nat.le_div_iff_mul_le hc0).2 (by rw [Nat.mul_comm]; omega)
  omega

end Go.Proofs.Ytjhenfdmbagaiaa.Ratio
