/-
  The law FnFracs: whatever the code, it answers true and nothing that was there is written.
-/
import Derived.Test.YtajnmmcgocfjlaaRatioLess
import Derived.Test.YtajnmmcgocfjlaaDice
namespace Go.Proofs.Ytajnmmcgocfjlaa.Ratio
open Go.ChangeShapes Go.WideShapes Go.ChangeAt Go.RowKit
open Go.Proofs.Ytajnmmcgocfjlaa.Draw

theorem not_both (a b c d : Int) : (fracLess a b c d && fracLess c d a b) = false := by
  cases h : (fracLess a b c d && fracLess c d a b)
  · rfl
  · simp only [fracLess, Bool.and_eq_true, decide_eq_true_eq] at h
    obtain ⟨⟨_, h1⟩, _, h2⟩ := h
    omega

theorem frac_yes (a b c d : Int) (h : 0 ≤ a ∧ a ≤ 4611686018427387904 ∧ 0 < b ∧ b ≤ 4611686018427387904 ∧ 0 ≤ c ∧ c ≤ 4611686018427387904 ∧ 0 < d ∧ d ≤ 4611686018427387904) (hl : a * d < c * b) : fracLess a b c d = true := by
  have h1 : (b == 0) = false := by simp; omega
  have h2 : (d == 0) = false := by simp; omega
  simp [fracLess, inR, h1, h2, hl]
  omega

theorem frac_same (a b : Int) : fracLess a b a b = false := by
  have := not_both a b a b
  simpa using this

theorem more_above (n m : Int) (h0 : 0 ≤ n) (h1 : n ≤ 4000000000000000000) (m0 : 0 < m) (m1 : m ≤ 4000000000000000000) : fracLess n m (n + 1) m = true :=
  frac_yes n m (n + 1) m (by omega) (by rw [Int.add_mul]; omega)

theorem less_below (n m : Int) (h0 : 0 ≤ n) (h1 : n ≤ 4000000000000000000) (m0 : 0 < m) (m1 : m ≤ 4000000000000000000) : fracLess (n + 1) (m + 1) (n + 1) m = true :=
  frac_yes (n + 1) (m + 1) (n + 1) m (by omega) (by rw [Int.mul_add]; omega)

theorem fracs_short (a : Option Addr) (len cap : Nat) (w : World) (B : Bytes w a len) (hb : ¬ (4096 : Int) < (len : Int)) :
    Calls Try.prog 3 #[.slice a len cap] w fun e w' => e = .returned (.bool true) ∧ Below w.heap.size w w' := by
  have ht : len ≤ 9223372036854775806 := by omega
  have hd : decide (4096 < (len : Int)) = false := by simp; omega
  go_enter Try.func3, Try.ntmps3
  go_wp2_with fail
  refine (big_any a len cap _).mono ?_
  rintro e w1 ⟨rfl, rfl⟩
  rw [hd]
  clear hd
  go_wp2_with fail
  refine (drawLess_any a len cap _ B ht).mono ?_
  rintro e w2 ⟨x, y, z, v, rfl, q2⟩
  have B2 := B.grown q2
  go_wp2_with fail
  refine (implLess x y z v _).mono ?_
  rintro e w3 ⟨rfl, q3⟩
  have B3 := B2.grown q3
  go_wp2_with fail
  refine (implLess z v x y _).mono ?_
  rintro e w4 ⟨rfl, q4⟩
  have B4 := B3.grown q4
  go_wp2_with fail
  refine (roll_any a len cap _ _ B4 ht).mono ?_
  rintro e w5 ⟨rfl, h, L5⟩
  have C5 := L5.cur (cur_new (cap := cap) B4 ht h)
  have q5 := new_below L5
  have hlt := C5.lt
  clear B B2 B3 B4
  go_wp2_with fail
  refine (dice_any _ _ a len cap _ _ C5 (by omega)).mono ?_
  rintro e w6 ⟨n, rfl, n0, n1, n2, L6⟩
  have C6 := L6.cur C5
  go_wp2_with fail
  refine (dice_any _ _ a len cap _ _ C6 (by omega)).mono ?_
  rintro e w7 ⟨m, rfl, m0, m1, m2, L7⟩
  have q7 : Below w1.heap.size w1 w7 := by
    have e3 := q2.trans (q3.mono q2.size)
    have e4 := e3.trans (q4.mono e3.size)
    have e5 := e4.trans (q5.mono e4.size)
    have hs := e4.size
    have e6 := e5.trans (left_below L6 hs hlt)
    exact e6.trans (left_below L7 hs C6.lt)
  clear C5 C6 L5 L6 L7 q2 q3 q4 q5 hlt n1 m1
  go_wp2_with fail
  refine (specLess x y z v _).mono ?_
  rintro e w8 ⟨rfl, rfl⟩
  have hnb := not_both x y z v
  generalize fracLess x y z v = p at *
  generalize fracLess z v x y = r at *
  have f1 := more_above (n * 1000003) (1 + m * 1000003) (by omega) (by omega) (by omega) (by omega)
  have f2 := frac_same (n * 1000003) (1 + m * 1000003)
  have f3 := less_below (n * 1000003) (1 + m * 1000003) (by omega) (by omega) (by omega) (by omega)
  have F : Hid (fracLess (n * 1000003) (1 + m * 1000003) (n * 1000003 + 1) (1 + m * 1000003) = true ∧ fracLess (n * 1000003) (1 + m * 1000003) (n * 1000003) (1 + m * 1000003) = false ∧ fracLess (n * 1000003 + 1) (1 + m * 1000003 + 1) (n * 1000003 + 1) (1 + m * 1000003) = true) := ⟨f1, f2, f3⟩
  clear f1 f2 f3
  cases p <;> cases r <;> first | (simp at hnb; done) | skip
  all_goals
    clear hnb
    go_wp2_with fail
    refine (implLess _ _ _ _ _).mono ?_
    rw [F.out.1]
    rintro e w9 ⟨rfl, q9⟩
    go_wp2_with fail
    refine (implLess _ _ _ _ _).mono ?_
    rw [F.out.2.1]
    rintro e w10 ⟨rfl, q10⟩
    go_wp2_with fail
    refine (implLess _ _ _ _ _).mono ?_
    rw [F.out.2.2]
    rintro e w11 ⟨rfl, q11⟩
    go_wp2_with fail
    go_ret
    have e9 := q7.trans (q9.mono q7.size)
    have e10 := e9.trans (q10.mono e9.size)
    exact ⟨rfl, e10.trans (q11.mono e10.size)⟩

theorem fracs_long (a : Option Addr) (len cap : Nat) (w : World) (hb : (4096 : Int) < (len : Int)) :
    Calls Try.prog 3 #[.slice a len cap] w fun e w' => e = .returned (.bool true) ∧ Below w.heap.size w w' := by
  have hd : decide (4096 < (len : Int)) = true := by simp; omega
  go_enter Try.func3, Try.ntmps3
  go_wp2_with fail
  refine (big_any a len cap _).mono ?_
  rintro e w1 ⟨rfl, rfl⟩
  rw [hd]
  clear hd
  go_wp2_with fail
  go_ret
  exact ⟨rfl, Below.refl _ _⟩

/-- The law FnFracs. -/
theorem lawFracs (a : Option Addr) (len cap : Nat) (w : World) (B : Bytes w a len) :
    Calls Try.prog 3 #[.slice a len cap] w fun e w' => e = .returned (.bool true) ∧ Below w.heap.size w w' := by
  by_cases hb : (4096 : Int) < (len : Int)
  · exact fracs_long a len cap w hb
  · exact fracs_short a len cap w B hb

end Go.Proofs.Ytajnmmcgocfjlaa.Ratio
