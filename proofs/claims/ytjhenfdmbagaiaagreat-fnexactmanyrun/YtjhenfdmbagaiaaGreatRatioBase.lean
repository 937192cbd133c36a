/-
  The small functions under the ratios: in range or not; a product in two words (spec.l1Mul and math/bits.Mul64 alike). Each contract holds at every argument of its kind.
  Is one ratio less than the other: spec.LessFrac and impl.LessFrac answer alike, at every argument.
-/
import Derived.Test.YtjhenfdmbagaiaaGreatRows
import Derived.Test.YtjhenfdmbagaiaaGreatRatioMath
import Derived.WalkKit
import Derived.ProofKit
import Derived.OpenShut
import Derived.Below
namespace Go.Proofs.YtjhenfdmbagaiaaGreat.Ratio
open Go.ChangeShapes Go.WideShapes Go.ChangeAt Go.RowKit

/-- From 0 to MaxNum. -/
def inR (x : Int) : Bool := decide (0 ≤ x ∧ x ≤ 4611686018427387904)
theorem inR_yes {x : Int} (h : inR x = true) : 0 ≤ x ∧ x ≤ 4611686018427387904 := by simpa [inR] using h
theorem inR_no {x : Int} (h : inR x = false) : x < 0 ∨ 4611686018427387904 < x := by
  have : ¬ (0 ≤ x ∧ x ≤ 4611686018427387904) := by simpa [inR] using h
  omega

theorem specOk_any (x : Int) (w : World) :
    Calls Tryz.prog 138 #[.int .i64 x] w fun e w' => e = .returned (.bool (inR x)) ∧ w' = w := by
  cases h : inR x
  · rcases inR_no h with h | h
    · go_enter Tryz.func138, Tryz.ntmps138
      go_wp2
      go_ret
      exact ⟨rfl, rfl⟩
    · have h' : ¬ x < 0 := by omega
      have hd : decide (x ≤ 4611686018427387904) = false := by simp; omega
      go_enter Tryz.func138, Tryz.ntmps138
      go_wp2
      go_ret
      exact ⟨rfl, rfl⟩
  · obtain ⟨h1, h2⟩ := inR_yes h
    go_enter Tryz.func138, Tryz.ntmps138
    go_wp2
    go_ret
    exact ⟨rfl, rfl⟩

theorem inRange_any (x : Int) (w : World) :
    Calls Tryz.prog 123 #[.int .i64 x] w fun e w' => e = .returned (.bool (inR x)) ∧ w' = w := by
  cases h : inR x
  · rcases inR_no h with h | h
    · go_enter Tryz.func123, Tryz.ntmps123
      go_wp2
      go_ret
      exact ⟨rfl, rfl⟩
    · have h' : ¬ x < 0 := by omega
      have hd : decide (x ≤ 4611686018427387904) = false := by simp; omega
      go_enter Tryz.func123, Tryz.ntmps123
      go_wp2
      go_ret
      exact ⟨rfl, rfl⟩
  · obtain ⟨h1, h2⟩ := inR_yes h
    go_enter Tryz.func123, Tryz.ntmps123
    go_wp2
    go_ret
    exact ⟨rfl, rfl⟩

theorem l1Mul_any (x y : Nat) (hx : x < 18446744073709551616) (hy : y < 18446744073709551616) (w : World) :
    Calls Tryz.prog 139 #[.int .u64 x, .int .u64 y] w fun e w' => e = .returned (.tuple #[.int .u64 ((x * y / 18446744073709551616 : Nat) : Int), .int .u64 ((x * y % 18446744073709551616 : Nat) : Int)]) ∧ w' = w := by
  obtain ⟨ba, bb, bc, bd, bt, bz, hhi, hlo⟩ := school x y hx hy
  have bh1 : x / 4294967296 * (y / 4294967296) + (x / 4294967296 * (y % 4294967296) + x % 4294967296 * (y % 4294967296) / 4294967296) / 4294967296 < 18446744073709551616 := by
    have := Nat.div_le_self (x * y) 1; have hp : x * y < 18446744073709551616 * 18446744073709551616 := Nat.mul_lt_mul'' hx hy; omega
  have bh : x * y / 18446744073709551616 < 18446744073709551616 := by
    have hp : x * y < 18446744073709551616 * 18446744073709551616 := Nat.mul_lt_mul'' hx hy; omega
  go_enter Tryz.func139, Tryz.ntmps139
  go_wp2
  simp only [maskN x hx, maskN y hy, divN, mulN, addN, wrapN _ bd, wrapN _ bb, wrapN _ bt, maskN _ bt, wrapN _ bc, wrapN _ bz, wrapN _ ba, wrapN _ bh1, maskN _ bd, mulB, wrapM (_ * 4294967296)]
  rw [hhi, wrapN _ bh, orN _ _ (by omega) (by omega) (by omega), hlo]
  go_ret2
  exact ⟨rfl, rfl⟩

theorem Mul64_any (x y : Nat) (hx : x < 18446744073709551616) (hy : y < 18446744073709551616) (w : World) :
    Calls Tryz.prog 124 #[.int .u64 x, .int .u64 y] w fun e w' => e = .returned (.tuple #[.int .u64 ((x * y / 18446744073709551616 : Nat) : Int), .int .u64 ((x * y % 18446744073709551616 : Nat) : Int)]) ∧ w' = w := by
  obtain ⟨ba, bb, bc, bd, bt, bz, hhi, hlo⟩ := school x y hx hy
  have bh1 : x / 4294967296 * (y / 4294967296) + (x / 4294967296 * (y % 4294967296) + x % 4294967296 * (y % 4294967296) / 4294967296) / 4294967296 < 18446744073709551616 := by
    have hp : x * y < 18446744073709551616 * 18446744073709551616 := Nat.mul_lt_mul'' hx hy; omega
  have bh : x * y / 18446744073709551616 < 18446744073709551616 := by
    have hp : x * y < 18446744073709551616 * 18446744073709551616 := Nat.mul_lt_mul'' hx hy; omega
  rw [Nat.add_comm (x % 4294967296 * (y / 4294967296))] at bz hhi
  clear hlo
  go_enter Tryz.func124, Tryz.ntmps124
  go_wp2
  simp only [maskN x hx, maskN y hy, divN, mulN, addN, wrapN _ bd, wrapN _ bb, wrapN _ bt, maskN _ bt, wrapN _ bc, wrapN _ bz, wrapN _ ba, wrapN _ bh1, wrapM (x * y)]
  rw [hhi, wrapN _ bh]
  go_ret2
  exact ⟨rfl, rfl⟩

end Go.Proofs.YtjhenfdmbagaiaaGreat.Ratio

namespace Go.Proofs.YtjhenfdmbagaiaaGreat.Ratio
open Go.ChangeShapes Go.WideShapes Go.ChangeAt Go.RowKit

/-- a by b is less than c by d; all in range, b and d not 0. -/
def fracLess (a b c d : Int) : Bool := inR a && inR b && inR c && inR d && !(b == 0) && !(d == 0) && decide (a * d < c * b)

theorem ret_bool {a b : Bool} (h : a = b) : Ending.returned (.bool a) = .returned (.bool b) := by rw [h]

theorem productOf_any (a b : Nat) (ha : a ≤ 4611686018427387904) (hb : b ≤ 4611686018427387904) (w : World) :
    Calls Tryz.prog 110 #[.int .i64 a, .int .i64 b] w fun e w' => e = .returned (.agg #[.int .u64 ((a : Int) * b / 18446744073709551616), .int .u64 ((a : Int) * b % 18446744073709551616)]) ∧ Below w.heap.size w w' := by
  go_enter Tryz.func110, Tryz.ntmps110
  go_wp2_with (go_at_call 124; refine (Mul64_any _ _ (by omega) (by omega) _).mono ?_; rintro e w' ⟨rfl, rfl⟩)
  exact bodyPost_ret (v := .agg #[.int .u64 ((a : Int) * b / 18446744073709551616), .int .u64 ((a : Int) * b % 18446744073709551616)]) (by simp [results, Tryz.results110, go_sem]) rfl ⟨rfl, (Below.refl _ _).alloc (Nat.le_refl _) _⟩

theorem no_cases (a b c d : Int) (h : (inR a && inR b && inR c && inR d && !(b == 0) && !(d == 0)) = false) :
    inR a = false ∨ (inR a = true ∧ inR b = false) ∨ (inR a = true ∧ inR b = true ∧ inR c = false) ∨ (inR a = true ∧ inR b = true ∧ inR c = true ∧ inR d = false) ∨
    (inR a = true ∧ inR b = true ∧ inR c = true ∧ inR d = true ∧ (b == 0) = true) ∨ (inR a = true ∧ inR b = true ∧ inR c = true ∧ inR d = true ∧ (b == 0) = false ∧ (d == 0) = true) := by
  revert h
  cases inR a <;> cases inR b <;> cases inR c <;> cases inR d <;> cases (b == 0) <;> cases (d == 0) <;> simp

end Go.Proofs.YtjhenfdmbagaiaaGreat.Ratio
