/-
  impl.FloorOf and impl.CeilOf: a product by a third number, rounded down or up, at every argument.
-/
import Derived.Test.YtjhenfdmbagaiaaGreatDivWalk
import Derived.Test.YtjhenfdmbagaiaaGreatRatioBase
import Derived.Deep.QuietTactic
import Derived.BigQuiet
namespace Go.Proofs.YtjhenfdmbagaiaaGreat.Ratio
open Go.ChangeShapes Go.WideShapes Go.ChangeAt Go.RowKit

theorem below_drewN (B : Nat) (w : World) : ∀ n, Below B w (w.drewN n) := by
  intro n
  induction n with
  | zero => exact Below.refl _ _
  | succ n ih => exact ih.drew

theorem Div64_small (lo y : Nat) (hy : 0 < y) (hlo : lo < 18446744073709551616) (hy2 : y < 18446744073709551616) (w : World) :
    Calls Tryz.prog 140 #[.int .u64 0, .int .u64 lo, .int .u64 y] w fun e w' => e = .returned (.tuple #[.int .u64 ((lo / y : Nat) : Int), .int .u64 ((lo % y : Nat) : Int)]) ∧ Below w.heap.size w w' := by
  have b1 : ((y : Int) == 0) = false := by simp; omega
  have hdl : lo / y ≤ lo := Nat.div_le_self _ _
  have hml : lo % y ≤ lo := Nat.mod_le _ _
  have E1 : Hid (IntKind.u64.wrap ((lo : Int) / (y : Int)) = ((lo / y : Nat) : Int)) := by
    show _ = _
    rw [show (lo : Int) / (y : Int) = ((lo / y : Nat) : Int) by simp]; exact wrapN _ (by omega)
  go_enter Tryz.func140, Tryz.ntmps140
  go_wp2_with fail
  go_quiet (fail)
  go_wp2_with fail
  go_ret2
  exact ⟨ret_uu (by first | exact E1.out | simp) (by first | rfl | simp), below_drewN _ _ _⟩

/-- Quotient and rest, under names. -/
theorem Div64_any (h l c : Nat) (hc : h < c) (hl : l < 18446744073709551616) (hc2 : c < 18446744073709551616) (w : World) :
    Calls Tryz.prog 140 #[.int .u64 h, .int .u64 l, .int .u64 c] w fun e w' => ∃ q r : Nat, e = .returned (.tuple #[.int .u64 q, .int .u64 r]) ∧ Hid (q = (h * 18446744073709551616 + l) / c ∧ r = (h * 18446744073709551616 + l) % c) ∧ q < 18446744073709551616 ∧ r < c ∧ Below w.heap.size w w' := by
  have hq : (h * 18446744073709551616 + l) / c < 18446744073709551616 := by
    refine (Nat.div_lt_iff_lt_mul (by omega)).2 ?_
    omega
  have hr : (h * 18446744073709551616 + l) % c < c := Nat.mod_lt _ (by omega)
  by_cases h0 : h = 0
  · subst h0
    refine (Div64_small l c (by omega) hl hc2 w).mono ?_
    rintro e w' ⟨rfl, q⟩
    exact ⟨l / c, l % c, rfl, by simp [Hid], by simpa using hq, by simpa using hr, q⟩
  · refine (Div64_walk h l c (by omega) hc hl hc2 w).mono ?_
    rintro e w' ⟨rfl, rfl⟩
    exact ⟨_, _, rfl, ⟨rfl, rfl⟩, hq, hr, Below.refl _ _⟩

theorem productOf_words (a b : Nat) (ha : a ≤ 4611686018427387904) (hb : b ≤ 4611686018427387904) (w : World) :
    Calls Tryz.prog 110 #[.int .i64 a, .int .i64 b] w fun e w' => ∃ h l : Nat, e = .returned (.agg #[.int .u64 h, .int .u64 l]) ∧ Hid (h = a * b / 18446744073709551616 ∧ l = a * b % 18446744073709551616) ∧ l < 18446744073709551616 ∧ Below w.heap.size w w' := by
  refine (productOf_any a b ha hb w).mono ?_
  rintro e w' ⟨rfl, q⟩
  exact ⟨a * b / 18446744073709551616, a * b % 18446744073709551616, by simp, ⟨rfl, rfl⟩, by omega, q⟩

theorem dividedBy_yes (h l c : Nat) (hc : h < c) (hl : l < 18446744073709551616) (hc2 : c ≤ 4611686018427387904) (w : World) :
    Calls Tryz.prog 125 #[.agg #[.int .u64 h, .int .u64 l], .int .u64 c] w fun e w' => ∃ q r : Nat, e = .returned (.tuple #[.int .u64 q, .int .u64 r, .bool true]) ∧ Hid (q = (h * 18446744073709551616 + l) / c ∧ r = (h * 18446744073709551616 + l) % c) ∧ q < 18446744073709551616 ∧ r < c ∧ Below w.heap.size w w' := by
  go_enter Tryz.func125, Tryz.ntmps125
  go_wp2_with fail
  refine (Div64_any h l c hc hl (by omega) _).mono ?_
  rintro e w1 ⟨q, r, rfl, H, hq, hr, b1⟩
  go_wp2_with fail
  go_ret3
  exact ⟨q, r, rfl, H, hq, hr, ((Below.refl _ _).alloc (Nat.le_refl _) _).trans (b1.mono (by simp))⟩

theorem dividedBy_no (h l c : Nat) (hc : c ≤ h) (w : World) :
    Calls Tryz.prog 125 #[.agg #[.int .u64 h, .int .u64 l], .int .u64 c] w fun e w' => e = .returned (.tuple #[.int .u64 0, .int .u64 0, .bool false]) ∧ Below w.heap.size w w' := by
  go_enter Tryz.func125, Tryz.ntmps125
  go_wp2_with fail
  go_ret3
  exact ⟨rfl, (Below.refl _ _).alloc (Nat.le_refl _) _⟩

theorem floorBy_yes (h l c : Nat) (hc : h < c) (hl : l < 18446744073709551616) (hc2 : c ≤ 4611686018427387904) (w : World) :
    Calls Tryz.prog 111 #[.agg #[.int .u64 h, .int .u64 l], .int .u64 c] w fun e w' => ∃ q : Nat, e = .returned (.tuple #[.int .u64 q, .bool true]) ∧ Hid (q = (h * 18446744073709551616 + l) / c) ∧ q < 18446744073709551616 ∧ Below w.heap.size w w' := by
  go_enter Tryz.func111, Tryz.ntmps111
  go_wp2_with fail
  refine (dividedBy_yes h l c hc hl hc2 _).mono ?_
  rintro e w1 ⟨q, r, rfl, H, hq, hr, b1⟩
  go_wp2_with fail
  go_ret2
  exact ⟨q, rfl, H.out.1, hq, ((Below.refl _ _).alloc (Nat.le_refl _) _).trans (b1.mono (by simp))⟩

theorem floorBy_no (h l c : Nat) (hc : c ≤ h) (w : World) :
    Calls Tryz.prog 111 #[.agg #[.int .u64 h, .int .u64 l], .int .u64 c] w fun e w' => e = .returned (.tuple #[.int .u64 0, .bool false]) ∧ Below w.heap.size w w' := by
  go_enter Tryz.func111, Tryz.ntmps111
  go_wp2_with fail
  refine (dividedBy_no h l c hc _).mono ?_
  rintro e w1 ⟨rfl, b1⟩
  go_wp2_with fail
  go_ret2
  exact ⟨rfl, ((Below.refl _ _).alloc (Nat.le_refl _) _).trans (b1.mono (by simp))⟩

/-- What ceilBy makes of a quotient and a rest. -/
def up (q r : Nat) : Nat := if 0 < r ∧ q ≤ 4611686018427387904 then q + 1 else q

theorem ceilBy_yes (h l c : Nat) (hc : h < c) (hl : l < 18446744073709551616) (hc2 : c ≤ 4611686018427387904) (w : World) :
    Calls Tryz.prog 126 #[.agg #[.int .u64 h, .int .u64 l], .int .u64 c] w fun e w' => ∃ q : Nat, e = .returned (.tuple #[.int .u64 q, .bool true]) ∧ Hid (q = up ((h * 18446744073709551616 + l) / c) ((h * 18446744073709551616 + l) % c)) ∧ q < 18446744073709551616 ∧ Below w.heap.size w w' := by
  go_enter Tryz.func126, Tryz.ntmps126
  go_wp2_with fail
  refine (dividedBy_yes h l c hc hl hc2 _).mono ?_
  rintro e w1 ⟨q, r, rfl, H, hq, hr, b1⟩
  by_cases hr0 : 0 < r
  · by_cases hm : q ≤ 4611686018427387904
    · have F : Hid (q + 1 = up ((h * 18446744073709551616 + l) / c) ((h * 18446744073709551616 + l) % c)) := by
        show _ = _; rw [← H.out.1, ← H.out.2, up, if_pos ⟨hr0, hm⟩]
      go_wp2_with fail
      go_ret2
      exact ⟨q + 1, rfl, F.out, by omega, ((Below.refl _ _).alloc (Nat.le_refl _) _).trans (b1.mono (by simp))⟩
    · have F : Hid (q = up ((h * 18446744073709551616 + l) / c) ((h * 18446744073709551616 + l) % c)) := by
        show _ = _; rw [← H.out.1, ← H.out.2, up, if_neg (by omega)]
      go_wp2_with fail
      go_ret2
      exact ⟨q, rfl, F.out, by omega, ((Below.refl _ _).alloc (Nat.le_refl _) _).trans (b1.mono (by simp))⟩
  · have F : Hid (q = up ((h * 18446744073709551616 + l) / c) ((h * 18446744073709551616 + l) % c)) := by
      show _ = _; rw [← H.out.1, ← H.out.2, up, if_neg (by omega)]
    go_wp2_with fail
    go_ret2
    exact ⟨q, rfl, F.out, by omega, ((Below.refl _ _).alloc (Nat.le_refl _) _).trans (b1.mono (by simp))⟩

theorem ceilBy_no (h l c : Nat) (hc : c ≤ h) (w : World) :
    Calls Tryz.prog 126 #[.agg #[.int .u64 h, .int .u64 l], .int .u64 c] w fun e w' => e = .returned (.tuple #[.int .u64 0, .bool false]) ∧ Below w.heap.size w w' := by
  go_enter Tryz.func126, Tryz.ntmps126
  go_wp2_with fail
  refine (dividedBy_no h l c hc _).mono ?_
  rintro e w1 ⟨rfl, b1⟩
  go_wp2_with fail
  go_ret2
  exact ⟨rfl, ((Below.refl _ _).alloc (Nat.le_refl _) _).trans (b1.mono (by simp))⟩

end Go.Proofs.YtjhenfdmbagaiaaGreat.Ratio

/-
  impl.FloorOf and impl.CeilOf answer as spec.FloorOf and spec.CeilOf, at every argument.
-/
namespace Go.Proofs.YtjhenfdmbagaiaaGreat.Ratio
open Go.ChangeShapes Go.WideShapes Go.ChangeAt Go.RowKit

theorem divisionOk_any (a b c : Int) (w : World) :
    Calls Tryz.prog 108 #[.int .i64 a, .int .i64 b, .int .i64 c] w fun e w' => e = .returned (.bool (inR a && inR b && inR c && !(c == 0))) ∧ w' = w := by
  cases ka : inR a <;> cases kb : inR b <;> cases kc : inR c <;> cases k0 : (c == 0)
  all_goals
    have k1 : (c != 0) = !(c == 0) := rfl
    rw [k0] at k1
    go_enter Tryz.func108, Tryz.ntmps108
    go_wp2_with (go_at_call 123; refine (inRange_any _ _).mono ?_; rintro e w' ⟨rfl, rfl⟩)
    go_ret
    exact ⟨rfl, rfl⟩

theorem rounded_floor_yes (h l c : Nat) (hc : h < c) (hl : l < 18446744073709551616) (hc2 : c ≤ 4611686018427387904) (w : World) :
    Calls Tryz.prog 109 #[.func (.func 111) #[.agg #[.int .u64 h, .int .u64 l]] #[], .int .i64 c] w fun e w' => ∃ q : Nat, Hid (q = (h * 18446744073709551616 + l) / c) ∧ (q ≤ 4611686018427387904 → e = .returned (.tuple #[.int .i64 q, .bool true])) ∧ (¬ q ≤ 4611686018427387904 → e = .returned (.tuple #[.int .i64 0, .bool false])) ∧ Below w.heap.size w w' := by
  go_enter Tryz.func109, Tryz.ntmps109
  go_wp2_with fail
  refine (floorBy_yes h l c hc hl hc2 _).mono ?_
  rintro e w1 ⟨q, rfl, H, hq, b1⟩
  by_cases hm : (q : Int) ≤ 4611686018427387904
  · go_wp2_with fail
    go_ret2
    exact ⟨q, H, fun _ => rfl, fun hn => absurd (by omega) hn, b1⟩
  · go_wp2_with fail
    go_ret2
    exact ⟨q, H, fun hn => absurd hn (by omega), fun _ => rfl, b1⟩

theorem rounded_ceil_yes (h l c : Nat) (hc : h < c) (hl : l < 18446744073709551616) (hc2 : c ≤ 4611686018427387904) (w : World) :
    Calls Tryz.prog 109 #[.func (.func 126) #[.agg #[.int .u64 h, .int .u64 l]] #[], .int .i64 c] w fun e w' => ∃ q : Nat, Hid (q = up ((h * 18446744073709551616 + l) / c) ((h * 18446744073709551616 + l) % c)) ∧ (q ≤ 4611686018427387904 → e = .returned (.tuple #[.int .i64 q, .bool true])) ∧ (¬ q ≤ 4611686018427387904 → e = .returned (.tuple #[.int .i64 0, .bool false])) ∧ Below w.heap.size w w' := by
  go_enter Tryz.func109, Tryz.ntmps109
  go_wp2_with fail
  refine (ceilBy_yes h l c hc hl hc2 _).mono ?_
  rintro e w1 ⟨q, rfl, H, hq, b1⟩
  by_cases hm : (q : Int) ≤ 4611686018427387904
  · go_wp2_with fail
    go_ret2
    exact ⟨q, H, fun _ => rfl, fun hn => absurd (by omega) hn, b1⟩
  · go_wp2_with fail
    go_ret2
    exact ⟨q, H, fun hn => absurd hn (by omega), fun _ => rfl, b1⟩

theorem rounded_floor_no (h l c : Nat) (hc : c ≤ h) (hc2 : c ≤ 4611686018427387904) (w : World) :
    Calls Tryz.prog 109 #[.func (.func 111) #[.agg #[.int .u64 h, .int .u64 l]] #[], .int .i64 c] w fun e w' => e = .returned (.tuple #[.int .i64 0, .bool false]) ∧ Below w.heap.size w w' := by
  go_enter Tryz.func109, Tryz.ntmps109
  go_wp2_with fail
  refine (floorBy_no h l c hc _).mono ?_
  rintro e w1 ⟨rfl, b1⟩
  go_wp2_with fail
  go_ret2
  exact ⟨rfl, b1⟩

theorem rounded_ceil_no (h l c : Nat) (hc : c ≤ h) (hc2 : c ≤ 4611686018427387904) (w : World) :
    Calls Tryz.prog 109 #[.func (.func 126) #[.agg #[.int .u64 h, .int .u64 l]] #[], .int .i64 c] w fun e w' => e = .returned (.tuple #[.int .i64 0, .bool false]) ∧ Below w.heap.size w w' := by
  go_enter Tryz.func109, Tryz.ntmps109
  go_wp2_with fail
  refine (ceilBy_no h l c hc _).mono ?_
  rintro e w1 ⟨rfl, b1⟩
  go_wp2_with fail
  go_ret2
  exact ⟨rfl, b1⟩

/-! ### what the two words mean -/
theorem ceil_of (a b c : Nat) (ha : a ≤ 4611686018427387904) (hb : b ≤ 4611686018427387904) (hc : c ≤ 4611686018427387904) (hc0 : 0 < c) :
    (up (a * b / c) (a * b % c) ≤ 4611686018427387904 → ceilFits a b c = true ∧ ceilV a b c = ((up (a * b / c) (a * b % c) : Nat) : Int)) ∧
    (¬ up (a * b / c) (a * b % c) ≤ 4611686018427387904 → ceilFits a b c = false ∧ ceilV a b c = 0) := by
  by_cases hm : a * b / c ≤ 4611686018427387904
  · obtain ⟨f1, f2, f3⟩ := quo_yes a b c ha hb hc hc0 hm
    unfold up ceilV ceilFits
    rw [f1, f2, f3]
    generalize a * b / c = q at *
    generalize a * b % c = r at *
    by_cases hr : 0 < r
    · by_cases hq : q = 4611686018427387904
      · subst hq; simp [hr]
      · have hq' : ((q : Int) == 4611686018427387904) = false := by simp; omega
        simp [hr, hm, hq']; omega
    · simp [hr, hm]
  · have hf : fits a b c = false := fits_not (by rw [quo_nat]; exact hm)
    obtain ⟨_, _, g1, g2⟩ := quo_no a b c hf
    have hu : up (a * b / c) (a * b % c) = a * b / c := by unfold up; rw [if_neg (by omega)]
    rw [hu]
    exact ⟨fun h => absurd h hm, fun _ => ⟨g1, g2⟩⟩

theorem words (P h l : Nat) (H : h = P / 18446744073709551616 ∧ l = P % 18446744073709551616) : h * 18446744073709551616 + l = P := by omega

theorem ret_ib {x y : Int} {s t : Bool} (h : x = y) (k : s = t) : Ending.returned (.tuple #[.int .i64 x, .bool s]) = .returned (.tuple #[.int .i64 y, .bool t]) := by rw [h, k]

theorem implFloor_yes (a b c : Nat) (ha : a ≤ 4611686018427387904) (hb : b ≤ 4611686018427387904) (hc : c ≤ 4611686018427387904) (hc0 : ((c : Int) == 0) = false) (w : World) :
    Calls Tryz.prog 92 #[.int .i64 a, .int .i64 b, .int .i64 c] w fun e w' => e = .returned (.tuple #[.int .i64 (floorV a b c), .bool (fits a b c)]) ∧ Below w.heap.size w w' := by
  have hcp : 0 < c := by simp at hc0; omega
  have hok : (inR a && inR b && inR c && !((c : Int) == 0)) = true := by rw [hc0]; simp [inR]; omega
  go_enter Tryz.func92, Tryz.ntmps92
  go_wp2_with fail
  refine (divisionOk_any a b c _).mono ?_
  rintro e w1 ⟨rfl, rfl⟩
  rw [hok]
  go_wp2_with fail
  refine (productOf_words a b ha hb _).mono ?_
  rintro e w2 ⟨h, l, rfl, H, hl, b2⟩
  go_wp2_with fail
  by_cases hh : h < c
  · refine (rounded_floor_yes h l c hh hl hc _).mono ?_
    rintro e w3 ⟨q, Q, q1, q2, b3⟩
    have Q' : Hid (q = a * b / c) := by show _ = _; rw [Q.out, words _ _ _ H.out]
    by_cases hm : q ≤ 4611686018427387904
    · rw [q1 hm]
      obtain ⟨f1, f2, _⟩ := quo_yes a b c ha hb hc hcp (by rw [← Q'.out]; exact hm)
      have F : Hid ((q : Int) = floorV a b c ∧ true = fits a b c) := ⟨by rw [f2, ← Q'.out], f1.symm⟩
      clear q1 q2 f1 f2
      go_wp2_with fail
      go_ret2
      exact ⟨ret_ib F.out.1 F.out.2, b2.trans (b3.mono b2.size)⟩
    · rw [q2 hm]
      have hf : fits a b c = false := fits_not (by rw [quo_nat, ← Q'.out]; exact hm)
      obtain ⟨g1, _, _, _⟩ := quo_no a b c hf
      have F : Hid ((0 : Int) = floorV a b c ∧ false = fits a b c) := ⟨g1.symm, hf.symm⟩
      clear q1 q2 hf g1
      go_wp2_with fail
      go_ret2
      exact ⟨ret_ib F.out.1 F.out.2, b2.trans (b3.mono b2.size)⟩
  · refine (rounded_floor_no h l c (by omega) hc _).mono ?_
    rintro e w3 ⟨rfl, b3⟩
    have hf : fits a b c = false := fits_not (by rw [quo_nat]; exact big_quo (a * b) c hcp (by have := H.out; omega))
    obtain ⟨g1, _, _, _⟩ := quo_no a b c hf
    have F : Hid ((0 : Int) = floorV a b c ∧ false = fits a b c) := ⟨g1.symm, hf.symm⟩
    clear hf g1
    go_wp2_with fail
    go_ret2
    exact ⟨ret_ib F.out.1 F.out.2, b2.trans (b3.mono b2.size)⟩

theorem implCeil_yes (a b c : Nat) (ha : a ≤ 4611686018427387904) (hb : b ≤ 4611686018427387904) (hc : c ≤ 4611686018427387904) (hc0 : ((c : Int) == 0) = false) (w : World) :
    Calls Tryz.prog 116 #[.int .i64 a, .int .i64 b, .int .i64 c] w fun e w' => e = .returned (.tuple #[.int .i64 (ceilV a b c), .bool (ceilFits a b c)]) ∧ Below w.heap.size w w' := by
  have hcp : 0 < c := by simp at hc0; omega
  have hok : (inR a && inR b && inR c && !((c : Int) == 0)) = true := by rw [hc0]; simp [inR]; omega
  obtain ⟨C1, C2⟩ := ceil_of a b c ha hb hc hcp
  have HC : Hid ((up (a * b / c) (a * b % c) ≤ 4611686018427387904 → ceilFits a b c = true ∧ ceilV a b c = ((up (a * b / c) (a * b % c) : Nat) : Int)) ∧ (¬ up (a * b / c) (a * b % c) ≤ 4611686018427387904 → ceilFits a b c = false ∧ ceilV a b c = 0)) := ⟨C1, C2⟩
  clear C1 C2
  go_enter Tryz.func116, Tryz.ntmps116
  go_wp2_with fail
  refine (divisionOk_any a b c _).mono ?_
  rintro e w1 ⟨rfl, rfl⟩
  rw [hok]
  go_wp2_with fail
  refine (productOf_words a b ha hb _).mono ?_
  rintro e w2 ⟨h, l, rfl, H, hl, b2⟩
  go_wp2_with fail
  by_cases hh : h < c
  · refine (rounded_ceil_yes h l c hh hl hc _).mono ?_
    rintro e w3 ⟨q, Q, q1, q2, b3⟩
    have Q' : Hid (q = up (a * b / c) (a * b % c)) := by show _ = _; rw [Q.out, words _ _ _ H.out]
    by_cases hm : q ≤ 4611686018427387904
    · rw [q1 hm]
      obtain ⟨f1, f2⟩ := HC.out.1 (by rw [← Q'.out]; exact hm)
      have F : Hid ((q : Int) = ceilV a b c ∧ true = ceilFits a b c) := ⟨by rw [f2, ← Q'.out], f1.symm⟩
      clear q1 q2 f1 f2
      go_wp2_with fail
      go_ret2
      exact ⟨ret_ib F.out.1 F.out.2, b2.trans (b3.mono b2.size)⟩
    · rw [q2 hm]
      obtain ⟨f1, f2⟩ := HC.out.2 (by rw [← Q'.out]; exact hm)
      have F : Hid ((0 : Int) = ceilV a b c ∧ false = ceilFits a b c) := ⟨f2.symm, f1.symm⟩
      clear q1 q2 f1 f2
      go_wp2_with fail
      go_ret2
      exact ⟨ret_ib F.out.1 F.out.2, b2.trans (b3.mono b2.size)⟩
  · refine (rounded_ceil_no h l c (by omega) hc _).mono ?_
    rintro e w3 ⟨rfl, b3⟩
    have hf : fits a b c = false := fits_not (by rw [quo_nat]; exact big_quo (a * b) c hcp (by have := H.out; omega))
    obtain ⟨_, _, g1, g2⟩ := quo_no a b c hf
    have F : Hid ((0 : Int) = ceilV a b c ∧ false = ceilFits a b c) := ⟨g2.symm, g1.symm⟩
    clear hf g1 g2
    go_wp2_with fail
    go_ret2
    exact ⟨ret_ib F.out.1 F.out.2, b2.trans (b3.mono b2.size)⟩

theorem implFloor_no (a b c : Int) (hok : (inR a && inR b && inR c && !(c == 0)) = false) (w : World) :
    Calls Tryz.prog 92 #[.int .i64 a, .int .i64 b, .int .i64 c] w fun e w' => e = .returned (.tuple #[.int .i64 0, .bool false]) ∧ w' = w := by
  go_enter Tryz.func92, Tryz.ntmps92
  go_wp2_with fail
  refine (divisionOk_any a b c _).mono ?_
  rintro e w1 ⟨rfl, rfl⟩
  rw [hok]
  clear hok
  go_wp2_with fail
  go_ret2
  exact ⟨rfl, rfl⟩

theorem implCeil_no (a b c : Int) (hok : (inR a && inR b && inR c && !(c == 0)) = false) (w : World) :
    Calls Tryz.prog 116 #[.int .i64 a, .int .i64 b, .int .i64 c] w fun e w' => e = .returned (.tuple #[.int .i64 0, .bool false]) ∧ w' = w := by
  go_enter Tryz.func116, Tryz.ntmps116
  go_wp2_with fail
  refine (divisionOk_any a b c _).mono ?_
  rintro e w1 ⟨rfl, rfl⟩
  rw [hok]
  clear hok
  go_wp2_with fail
  go_ret2
  exact ⟨rfl, rfl⟩

/-- impl.FloorOf at every argument. -/
theorem implFloor (a b c : Int) (w : World) :
    Calls Tryz.prog 92 #[.int .i64 a, .int .i64 b, .int .i64 c] w fun e w' => e = .returned (.tuple #[.int .i64 (floorV a b c), .bool (fits a b c)]) ∧ Below w.heap.size w w' := by
  cases h : (inR a && inR b && inR c && !(c == 0))
  · have hf := fits_false a b c h
    obtain ⟨g1, _, _, _⟩ := quo_no a b c hf
    rw [g1, hf]
    refine (implFloor_no a b c h w).mono ?_
    rintro e w' ⟨rfl, rfl⟩
    exact ⟨rfl, Below.refl _ _⟩
  · simp only [Bool.and_eq_true, Bool.not_eq_true'] at h
    obtain ⟨⟨⟨ka, kb⟩, kc⟩, hc0⟩ := h
    obtain ⟨a0, a1⟩ := inR_yes ka
    obtain ⟨b0, b1⟩ := inR_yes kb
    obtain ⟨c0, c1⟩ := inR_yes kc
    obtain ⟨a, rfl⟩ := Int.eq_ofNat_of_zero_le a0
    obtain ⟨b, rfl⟩ := Int.eq_ofNat_of_zero_le b0
    obtain ⟨c, rfl⟩ := Int.eq_ofNat_of_zero_le c0
    exact implFloor_yes a b c (by omega) (by omega) (by omega) hc0 w

/-- impl.CeilOf at every argument. -/
theorem implCeil (a b c : Int) (w : World) :
    Calls Tryz.prog 116 #[.int .i64 a, .int .i64 b, .int .i64 c] w fun e w' => e = .returned (.tuple #[.int .i64 (ceilV a b c), .bool (ceilFits a b c)]) ∧ Below w.heap.size w w' := by
  cases h : (inR a && inR b && inR c && !(c == 0))
  · have hf := fits_false a b c h
    obtain ⟨_, _, g1, g2⟩ := quo_no a b c hf
    rw [g1, g2]
    refine (implCeil_no a b c h w).mono ?_
    rintro e w' ⟨rfl, rfl⟩
    exact ⟨rfl, Below.refl _ _⟩
  · simp only [Bool.and_eq_true, Bool.not_eq_true'] at h
    obtain ⟨⟨⟨ka, kb⟩, kc⟩, hc0⟩ := h
    obtain ⟨a0, a1⟩ := inR_yes ka
    obtain ⟨b0, b1⟩ := inR_yes kb
    obtain ⟨c0, c1⟩ := inR_yes kc
    obtain ⟨a, rfl⟩ := Int.eq_ofNat_of_zero_le a0
    obtain ⟨b, rfl⟩ := Int.eq_ofNat_of_zero_le b0
    obtain ⟨c, rfl⟩ := Int.eq_ofNat_of_zero_le c0
    exact implCeil_yes a b c (by omega) (by omega) (by omega) hc0 w

end Go.Proofs.YtjhenfdmbagaiaaGreat.Ratio
