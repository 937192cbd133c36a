/-
  impl.FloorOf and impl.CeilOf: a product by a third number, rounded down or up, at every argument.
-/
import Derived.Test.YtjhenfdmbagaiaaGreatDivWalk
import Derived.Test.YtjhenfdmbagaiaaGreatRatioQuo
import Derived.Test.YtjhenfdmbagaiaaGreatRatioBase
import Derived.Deep.QuietTactic
import Derived.BigQuiet
namespace Go.Proofs.YtjhenfdmbagaiaaGreat.Ratio
open Go.ChangeShapes Go.WideShapes Go.ChangeAt Go.RowKit

theorem below_drewN (B : Nat) (w : World) : ∀ n, Below B w (w.drewN n) := by
  intro n
  induction n with
  | zero => exact Below.refl _ _
  | succ n ih => exact ih.drew

theorem Div64_small (lo y : Nat) (hy : 0 < y) (hlo : lo < 18446744073709551616) (hy2 : y < 18446744073709551616) (w : World) :
    Calls Tryz.prog 140 #[.int .u64 0, .int .u64 lo, .int .u64 y] w fun e w' => e = .returned (.tuple #[.int .u64 ((lo / y : Nat) : Int), .int .u64 ((lo % y : Nat) : Int)]) ∧ Below w.heap.size w w' := by
  have b1 : ((y : Int) == 0) = false := by simp; omega
  have hdl : lo / y ≤ lo := Nat.div_le_self _ _
  have hml : lo % y ≤ lo := Nat.mod_le _ _
  have E1 : Hid (IntKind.u64.wrap ((lo : Int) / (y : Int)) = ((lo / y : Nat) : Int)) := by
    show _ = _
    rw [show (lo : Int) / (y : Int) = ((lo / y : Nat) : Int) by simp]; exact wrapN _ (by omega)
  go_enter Tryz.func140, Tryz.ntmps140
  go_wp2_with fail
  go_quiet (fail)
  go_wp2_with fail
  go_ret2
  exact ⟨ret_uu (by first | exact E1.out | simp) (by first | rfl | simp), below_drewN _ _ _⟩

/-- Quotient and rest, under names. -/
theorem Div64_any (h l c : Nat) (hc : h < c) (hl : l < 18446744073709551616) (hc2 : c < 18446744073709551616) (w : World) :
    Calls Tryz.prog 140 #[.int .u64 h, .int .u64 l, .int .u64 c] w fun e w' => ∃ q r : Nat, e = .returned (.tuple #[.int .u64 q, .int .u64 r]) ∧ Hid (q = (h * 18446744073709551616 + l) / c ∧ r = (h * 18446744073709551616 + l) % c) ∧ q < 18446744073709551616 ∧ r < c ∧ Below w.heap.size w w' := by
  have hq : (h * 18446744073709551616 + l) / c < 18446744073709551616 := by
    refine (Nat.div_lt_iff_lt_mul (by omega)).2 ?_
    omega
  have hr : (h * 18446744073709551616 + l) % c < c := Nat.mod_lt _ (by omega)
  by_cases h0 : h = 0
  · subst h0
    refine (Div64_small l c (by omega) hl hc2 w).mono ?_
    rintro e w' ⟨rfl, q⟩
    exact ⟨l / c, l % c, rfl, by simp [Hid], by simpa using hq, by simpa using hr, q⟩
  · refine (Div64_walk h l c (by omega) hc hl hc2 w).mono ?_
    rintro e w' ⟨rfl, rfl⟩
    exact ⟨_, _, rfl, ⟨rfl, rfl⟩, hq, hr, Below.refl _ _⟩

theorem productOf_words (a b : Nat) (ha : a ≤ 4611686018427387904) (hb : b ≤ 4611686018427387904) (w : World) :
    Calls Tryz.prog 110 #[.int .i64 a, .int .i64 b] w fun e w' => ∃ h l : Nat, e = .returned (.agg #[.int .u64 h, .int .u64 l]) ∧ Hid (h = a * b / 18446744073709551616 ∧ l = a * b % 18446744073709551616) ∧ l < 18446744073709551616 ∧ Below w.heap.size w w' := by
  refine (productOf_any a b ha hb w).mono ?_
  rintro e w' ⟨rfl, q⟩
  exact ⟨a * b / 18446744073709551616, a * b % 18446744073709551616, by simp, ⟨rfl, rfl⟩, by omega, q⟩

theorem dividedBy_yes (h l c : Nat) (hc : h < c) (hl : l < 18446744073709551616) (hc2 : c ≤ 4611686018427387904) (w : World) :
    Calls Tryz.prog 125 #[.agg #[.int .u64 h, .int .u64 l], .int .u64 c] w fun e w' => ∃ q r : Nat, e = .returned (.tuple #[.int .u64 q, .int .u64 r, .bool true]) ∧ Hid (q = (h * 18446744073709551616 + l) / c ∧ r = (h * 18446744073709551616 + l) % c) ∧ q < 18446744073709551616 ∧ r < c ∧ Below w.heap.size w w' := by
  go_enter Tryz.func125, Tryz.ntmps125
  go_wp2_with fail
  refine (Div64_any h l c hc hl (by omega) _).mono ?_
  rintro e w1 ⟨q, r, rfl, H, hq, hr, b1⟩
  go_wp2_with fail
  go_ret3
  exact ⟨q, r, rfl, H, hq, hr, ((Below.refl _ _).alloc (Nat.le_refl _) _).trans (b1.mono (by simp))⟩

theorem dividedBy_no (h l c : Nat) (hc : c ≤ h) (w : World) :
    Calls Tryz.prog 125 #[.agg #[.int .u64 h, .int .u64 l], .int .u64 c] w fun e w' => e = .returned (.tuple #[.int .u64 0, .int .u64 0, .bool false]) ∧ Below w.heap.size w w' := by
  go_enter Tryz.func125, Tryz.ntmps125
  go_wp2_with fail
  go_ret3
  exact ⟨rfl, (Below.refl _ _).alloc (Nat.le_refl _) _⟩

theorem floorBy_yes (h l c : Nat) (hc : h < c) (hl : l < 18446744073709551616) (hc2 : c ≤ 4611686018427387904) (w : World) :
    Calls Tryz.prog 111 #[.agg #[.int .u64 h, .int .u64 l], .int .u64 c] w fun e w' => ∃ q : Nat, e = .returned (.tuple #[.int .u64 q, .bool true]) ∧ Hid (q = (h * 18446744073709551616 + l) / c) ∧ q < 18446744073709551616 ∧ Below w.heap.size w w' := by
  go_enter Tryz.func111, Tryz.ntmps111
  go_wp2_with fail
  refine (dividedBy_yes h l c hc hl hc2 _).mono ?_
  rintro e w1 ⟨q, r, rfl, H, hq, hr, b1⟩
  go_wp2_with fail
  go_ret2
  exact ⟨q, rfl, H.out.1, hq, ((Below.refl _ _).alloc (Nat.le_refl _) _).trans (b1.mono (by simp))⟩

theorem floorBy_no (h l c : Nat) (hc : c ≤ h) (w : World) :
    Calls Tryz.prog 111 #[.agg #[.int .u64 h, .int .u64 l], .int .u64 c] w fun e w' => e = .returned (.tuple #[.int .u64 0, .bool false]) ∧ Below w.heap.size w w' := by
  go_enter Tryz.func111, Tryz.ntmps111
  go_wp2_with fail
  refine (dividedBy_no h l c hc _).mono ?_
  rintro e w1 ⟨rfl, b1⟩
  go_wp2_with fail
  go_ret2
  exact ⟨rfl, ((Below.refl _ _).alloc (Nat.le_refl _) _).trans (b1.mono (by simp))⟩

/-- What ceilBy makes of a quotient and a rest. -/
def up (q r : Nat) : Nat := if 0 < r ∧ q ≤ 4611686018427387904 then q + 1 else q

theorem ceilBy_yes (h l c : Nat) (hc : h < c) (hl : l < 18446744073709551616) (hc2 : c ≤ 4611686018427387904) (w : World) :
    Calls Tryz.prog 126 #[.agg #[.int .u64 h, .int .u64 l], .int .u64 c] w fun e w' => ∃ q : Nat, e = .returned (.tuple #[.int .u64 q, .bool true]) ∧ Hid (q = up ((h * 18446744073709551616 + l) / c) ((h * 18446744073709551616 + l) % c)) ∧ q < 18446744073709551616 ∧ Below w.heap.size w w' := by
  go_enter Tryz.func126, Tryz.ntmps126
  go_wp2_with fail
  refine (dividedBy_yes h l c hc hl hc2 _).mono ?_
  rintro e w1 ⟨q, r, rfl, H, hq, hr, b1⟩
  by_cases hr0 : 0 < r
  · by_cases hm : q ≤ 4611686018427387904
    · have F : Hid (q + 1 = up ((h * 18446744073709551616 + l) / c) ((h * 18446744073709551616 + l) % c)) := by
        show _ = _; rw [← H.out.1, ← H.out.2, up, if_pos ⟨hr0, hm⟩]
      go_wp2_with fail
      go_ret2
      exact ⟨q + 1, rfl, F.out, by omega, ((Below.refl _ _).alloc (Nat.le_refl _) _).trans (b1.mono (by simp))⟩
    · have F : Hid (q = up ((h * 18446744073709551616 + l) / c) ((h * 18446744073709551616 + l) % c)) := by
        show _ = _; rw [← H.out.1, ← H.out.2, up, if_neg (by omega)]
      go_wp2_with fail
      go_ret2
      exact ⟨q, rfl, F.out, by omega, ((Below.refl _ _).alloc (Nat.le_refl _) _).trans (b1.mono (by simp))⟩
  · have F : Hid (q = up ((h * 18446744073709551616 + l) / c) ((h * 18446744073709551616 + l) % c)) := by
      show _ = _; rw [← H.out.1, ← H.out.2, up, if_neg (by omega)]
    go_wp2_with fail
    go_ret2
    exact ⟨q, rfl, F.out, by omega, ((Below.refl _ _).alloc (Nat.le_refl _) _).trans (b1.mono (by simp))⟩

theorem ceilBy_no (h l c : Nat) (hc : c ≤ h) (w : World) :
    Calls Tryz.prog 126 #[.agg #[.int .u64 h, .int .u64 l], .int .u64 c] w fun e w' => e = .returned (.tuple #[.int .u64 0, .bool false]) ∧ Below w.heap.size w w' := by
  go_enter Tryz.func126, Tryz.ntmps126
  go_wp2_with fail
  refine (dividedBy_no h l c hc _).mono ?_
  rintro e w1 ⟨rfl, b1⟩
  go_wp2_with fail
  go_ret2
  exact ⟨rfl, ((Below.refl _ _).alloc (Nat.le_refl _) _).trans (b1.mono (by simp))⟩

end Go.Proofs.YtjhenfdmbagaiaaGreat.Ratio
