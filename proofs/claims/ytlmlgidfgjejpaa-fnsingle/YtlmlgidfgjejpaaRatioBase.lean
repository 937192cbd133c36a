/-
  The small functions under the ratios: in range or not; a product in two words (spec.l1Mul and math/bits.Mul64 alike). Each contract holds at every argument of its kind.
-/
import Derived.Test.YtlmlgidfgjejpaaRows
import Derived.Test.YtlmlgidfgjejpaaRatioMath
import Derived.WalkKit
import Derived.ProofKit
import Derived.OpenShut
import Derived.Below
namespace Go.Proofs.Ytlmlgidfgjejpaa.Ratio
open Go.ChangeShapes Go.WideShapes Go.ChangeAt Go.RowKit

/-- From 0 to MaxNum. -/
def inR (x : Int) : Bool := decide (0 ≤ x ∧ x ≤ 4611686018427387904)
theorem inR_yes {x : Int} (h : inR x = true) : 0 ≤ x ∧ x ≤ 4611686018427387904 := by simpa [inR] using h
theorem inR_no {x : Int} (h : inR x = false) : x < 0 ∨ 4611686018427387904 < x := by
  have : ¬ (0 ≤ x ∧ x ≤ 4611686018427387904) := by simpa [inR] using h
  omega

theorem inRange_any (x : Int) (w : World) :
    Calls Try.prog 72 #[.int .i64 x] w fun e w' => e = .returned (.bool (inR x)) ∧ w' = w := by
  cases h : inR x
  · rcases inR_no h with h | h
    · go_enter Try.func72, Try.ntmps72
      go_wp2
      go_ret
      exact ⟨rfl, rfl⟩
    · have h' : ¬ x < 0 := by omega
      have hd : decide (x ≤ 4611686018427387904) = false := by simp; omega
      go_enter Try.func72, Try.ntmps72
      go_wp2
      go_ret
      exact ⟨rfl, rfl⟩
  · obtain ⟨h1, h2⟩ := inR_yes h
    go_enter Try.func72, Try.ntmps72
    go_wp2
    go_ret
    exact ⟨rfl, rfl⟩

theorem Mul64_any (x y : Nat) (hx : x < 18446744073709551616) (hy : y < 18446744073709551616) (w : World) :
    Calls Try.prog 73 #[.int .u64 x, .int .u64 y] w fun e w' => e = .returned (.tuple #[.int .u64 ((x * y / 18446744073709551616 : Nat) : Int), .int .u64 ((x * y % 18446744073709551616 : Nat) : Int)]) ∧ w' = w := by
  obtain ⟨ba, bb, bc, bd, bt, bz, hhi, hlo⟩ := school x y hx hy
  have bh1 : x / 4294967296 * (y / 4294967296) + (x / 4294967296 * (y % 4294967296) + x % 4294967296 * (y % 4294967296) / 4294967296) / 4294967296 < 18446744073709551616 := by
    have hp : x * y < 18446744073709551616 * 18446744073709551616 := Nat.mul_lt_mul'' hx hy; omega
  have bh : x * y / 18446744073709551616 < 18446744073709551616 := by
    have hp : x * y < 18446744073709551616 * 18446744073709551616 := Nat.mul_lt_mul'' hx hy; omega
  rw [Nat.add_comm (x % 4294967296 * (y / 4294967296))] at bz hhi
  clear hlo
  go_enter Try.func73, Try.ntmps73
  go_wp2
  simp only [maskN x hx, maskN y hy, divN, mulN, addN, wrapN _ bd, wrapN _ bb, wrapN _ bt, maskN _ bt, wrapN _ bc, wrapN _ bz, wrapN _ ba, wrapN _ bh1, wrapM (x * y)]
  rw [hhi, wrapN _ bh]
  go_ret2
  exact ⟨rfl, rfl⟩

end Go.Proofs.Ytlmlgidfgjejpaa.Ratio
