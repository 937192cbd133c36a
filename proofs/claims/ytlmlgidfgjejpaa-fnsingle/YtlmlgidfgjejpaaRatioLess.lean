/-
  Is one ratio less than the other: spec.LessFrac and impl.LessFrac answer alike, at every argument.
-/
import Derived.Test.YtlmlgidfgjejpaaRatioBase
namespace Go.Proofs.Ytlmlgidfgjejpaa.Ratio
open Go.ChangeShapes Go.WideShapes Go.ChangeAt Go.RowKit

/-- a by b is less than c by d; all in range, b and d not 0. -/
def fracLess (a b c d : Int) : Bool := inR a && inR b && inR c && inR d && !(b == 0) && !(d == 0) && decide (a * d < c * b)

theorem ret_bool {a b : Bool} (h : a = b) : Ending.returned (.bool a) = .returned (.bool b) := by rw [h]

theorem productOf_any (a b : Nat) (ha : a ≤ 4611686018427387904) (hb : b ≤ 4611686018427387904) (w : World) :
    Calls Try.prog 69 #[.int .i64 a, .int .i64 b] w fun e w' => e = .returned (.agg #[.int .u64 ((a : Int) * b / 18446744073709551616), .int .u64 ((a : Int) * b % 18446744073709551616)]) ∧ Below w.heap.size w w' := by
  go_enter Try.func69, Try.ntmps69
  go_wp2_with (go_at_call 73; refine (Mul64_any _ _ (by omega) (by omega) _).mono ?_; rintro e w' ⟨rfl, rfl⟩)
  exact bodyPost_ret (v := .agg #[.int .u64 ((a : Int) * b / 18446744073709551616), .int .u64 ((a : Int) * b % 18446744073709551616)]) (by simp [results, Try.results69, go_sem]) rfl ⟨rfl, (Below.refl _ _).alloc (Nat.le_refl _) _⟩

theorem no_cases (a b c d : Int) (h : (inR a && inR b && inR c && inR d && !(b == 0) && !(d == 0)) = false) :
    inR a = false ∨ (inR a = true ∧ inR b = false) ∨ (inR a = true ∧ inR b = true ∧ inR c = false) ∨ (inR a = true ∧ inR b = true ∧ inR c = true ∧ inR d = false) ∨
    (inR a = true ∧ inR b = true ∧ inR c = true ∧ inR d = true ∧ (b == 0) = true) ∨ (inR a = true ∧ inR b = true ∧ inR c = true ∧ inR d = true ∧ (b == 0) = false ∧ (d == 0) = true) := by
  revert h
  cases inR a <;> cases inR b <;> cases inR c <;> cases inR d <;> cases (b == 0) <;> cases (d == 0) <;> simp

end Go.Proofs.Ytlmlgidfgjejpaa.Ratio
