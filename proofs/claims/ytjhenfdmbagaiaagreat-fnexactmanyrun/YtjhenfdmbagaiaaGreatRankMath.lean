/-
  What a chain's end is; ranks: the one that is due earlier, of those that are due at once one that overlaps, of those that do both the one whose chain ends later: an order.
-/
import Derived.Test.YtjhenfdmbagaiaaGreatChainBase
import Derived.Test.YtjhenfdmbagaiaaGreatWinOver
namespace Go.Proofs.YtjhenfdmbagaiaaGreat.Win
open Go.ChangeShapes Go.WideShapes Go.ChangeAt Go.RowKit Go.Proofs.YtjhenfdmbagaiaaGreat.Crew

theorem ceil_mid {a b c : Int} (a0 : 0 ≤ a) (a1 : a ≤ 10000000000) (b0 : 0 ≤ b) (b1 : b ≤ 100000000) (c0 : 1 ≤ c) (c1 : c ≤ 100000000) : Ratio.ceilV a b c = (a * b + c - 1) / c := by
  obtain ⟨a, rfl⟩ := Int.eq_ofNat_of_zero_le a0
  obtain ⟨b, rfl⟩ := Int.eq_ofNat_of_zero_le b0
  obtain ⟨c, rfl⟩ := Int.eq_ofNat_of_zero_le (by omega : 0 ≤ c)
  have h1 : a * b ≤ 10000000000 * 100000000 := Nat.mul_le_mul (by omega) (by omega)
  have h2 := Nat.div_le_self (a * b) c
  obtain ⟨C1, _⟩ := Ratio.ceil_of a b c (by omega) (by omega) (by omega) (by omega)
  have hu : Ratio.up (a * b / c) (a * b % c) = (a * b + c - 1) / c := by
    rw [up_nat _ _ (by omega), Ratio.up]
    by_cases hr : 0 < a * b % c
    · rw [if_pos hr, if_pos (by omega)]
    · rw [if_neg hr, if_neg (by omega)]
  have hle : Ratio.up (a * b / c) (a * b % c) ≤ 4611686018427387904 := by
    rw [hu, up_nat _ _ (by omega)]
    split <;> omega
  rw [(C1 hle).2, hu]
  rw [Int.natCast_ediv]
  congr 1
  have : 1 ≤ c := by omega
  push_cast
  omega

/-- t over c, rounded up. -/
def upQ (t c : Int) : Int := (t + c - 1) / c

theorem upQ_ge (t c : Int) (hc : 1 ≤ c) : t ≤ c * upQ t c := by
  have h := Int.mul_ediv_add_emod (t + c - 1) c
  have h2 := Int.emod_lt_of_pos (t + c - 1) (show 0 < c by omega)
  unfold upQ
  generalize c * ((t + c - 1) / c) = q at *
  generalize (t + c - 1) % c = m at *
  omega

theorem upQ_mono {t u c : Int} (hc : 1 ≤ c) (h : t ≤ u) : upQ t c ≤ upQ u c := Int.ediv_le_ediv (by omega) (by omega)

theorem upQ_le {t c k : Int} (hc : 1 ≤ c) (h : t ≤ k * c) : upQ t c ≤ k := by
  have : (t + c - 1) / c < k + 1 := Int.ediv_lt_of_lt_mul (by omega) (by rw [Int.add_mul]; omega)
  unfold upQ
  omega

theorem upQ_nonneg {t c : Int} (hc : 1 ≤ c) (h : 0 ≤ t) : 0 ≤ upQ t c := Int.ediv_nonneg (by omega) (by omega)

theorem due_heavy (n d j : Int) (h : turnOk n d j = true) (hh : heavyOk n d = true) : dueV n d j = upQ (j * d) n ∧ 1 ≤ dueV n d j ∧ dueV n d j ≤ 2000000 := by
  obtain ⟨n1, n2, d2, j1, j2⟩ := turn_yes h
  obtain ⟨_, h1, _⟩ := heavy_yes hh
  have e : dueV n d j = upQ (j * d) n := dueV_yes h
  refine ⟨e, ?_, ?_⟩
  · rw [e]
    have a1 : n ≤ j * d := by
      have := Int.mul_le_mul j1 n2 (by omega) (by omega)
      omega
    have a2 := upQ_ge (j * d) n n1
    have a3 := upQ_nonneg n1 (show 0 ≤ j * d by omega)
    by_cases hz : upQ (j * d) n = 0
    · rw [hz] at a2; omega
    · omega
  · rw [e]
    refine Int.le_trans (upQ_le (k := 2 * j) n1 ?_) (by omega)
    have := Int.mul_le_mul_of_nonneg_left h1 (show 0 ≤ j by omega)
    rw [show 2 * j * n = j * (2 * n) by rw [Int.mul_comm 2 j, Int.mul_assoc]]
    exact this

theorem chain_is (n d j : Int) (h : turnOk n d j = true) (hh : heavyOk n d = true) :
    chainV n d j = upQ (upQ (dueV n d j * (d - n)) d * d) (d - n) := by
  obtain ⟨n1, n2, d2, j1, j2⟩ := turn_yes h
  obtain ⟨_, h1, h2⟩ := heavy_yes hh
  obtain ⟨_, u1, u2⟩ := due_heavy n d j h hh
  rw [chainV_yes h, chainIn_yes hh]
  have e1 : chainX n d j = upQ (dueV n d j * (d - n)) d := ceil_mid (by omega) (by omega) (by omega) (by omega) (by omega) d2
  rw [e1]
  have x0 : 0 ≤ upQ (dueV n d j * (d - n)) d := upQ_nonneg (by omega) (Int.mul_nonneg (by omega) (by omega))
  have x1 : upQ (dueV n d j * (d - n)) d ≤ dueV n d j := upQ_le (by omega) (Int.mul_le_mul_of_nonneg_left (by omega) (by omega))
  exact ceil_mid x0 (by omega) (by omega) d2 (by omega) (by omega)

theorem chain_due (n d j : Int) (h : turnOk n d j = true) (hh : heavyOk n d = true) : dueV n d j ≤ chainV n d j ∧ 1 ≤ dueV n d j := by
  obtain ⟨n1, n2, d2, j1, j2⟩ := turn_yes h
  obtain ⟨_, h1, h2⟩ := heavy_yes hh
  obtain ⟨_, u1, u2⟩ := due_heavy n d j h hh
  refine ⟨?_, u1⟩
  rw [chain_is n d j h hh]
  have a1 := upQ_ge (dueV n d j * (d - n)) d (by omega)
  have a2 := upQ_ge (upQ (dueV n d j * (d - n)) d * d) (d - n) (by omega)
  rw [Int.mul_comm d] at a1
  have a3 := Int.le_trans a1 a2
  generalize upQ (upQ (dueV n d j * (d - n)) d * d) (d - n) = y at *
  rw [Int.mul_comm] at a3
  exact Int.le_of_mul_le_mul_left a3 (show 0 < d - n by omega)

theorem chain_next (n d j : Int) (h : turnOk n d j = true) (hh : heavyOk n d = true) (hj : ¬ j = 1) : chainV n d (j - 1) ≤ chainV n d j := by
  obtain ⟨n1, n2, d2, j1, j2⟩ := turn_yes h
  obtain ⟨_, h1, h2⟩ := heavy_yes hh
  have h' : turnOk n d (j - 1) = true := by
    simp only [turnOk, shareOk, within, Bool.and_eq_true, decide_eq_true_eq]
    omega
  rw [chain_is n d j h hh, chain_is n d (j - 1) h' hh]
  have e : dueV n d (j - 1) ≤ dueV n d j := by
    rw [(due_heavy n d j h hh).1, (due_heavy n d (j - 1) h' hh).1]
    exact upQ_mono n1 (Int.mul_le_mul_of_nonneg_right (by omega) (by omega))
  exact upQ_mono (by omega) (Int.mul_le_mul_of_nonneg_right (upQ_mono (by omega) (Int.mul_le_mul_of_nonneg_right e (by omega))) (by omega))

end Go.Proofs.YtjhenfdmbagaiaaGreat.Win

namespace Go.Proofs.YtjhenfdmbagaiaaGreat.Win
open Go.ChangeShapes Go.WideShapes Go.ChangeAt Go.RowKit Go.Proofs.YtjhenfdmbagaiaaGreat.Crew

theorem hide {p : Prop} (h : p) : Hid p := h

/-- Where the chain of a turn ends, as far as it counts: 0 of one that does not overlap. -/
def rankC (n d j : Int) : Int := if overB n d j then chainIn n d j else 0

/-- 1 where the first goes ahead, -1 where the second does, 0 where neither does. -/
def cmpR (a : Int) (o : Bool) (c : Int) (a' : Int) (o' : Bool) (c' : Int) : Int :=
  if a < a' then 1 else if a' < a then -1 else if o && !o' then 1 else if !o && o' then -1 else if c' < c then 1 else if c < c' then -1 else 0

def aheadIn (n d i m e j : Int) : Int := cmpR (dueV n d i) (overB n d i) (rankC n d i) (dueV m e j) (overB m e j) (rankC m e j)

def aheadV (n d i m e j : Int) : Int := if turnOk n d i && turnOk m e j then aheadIn n d i m e j else 2

theorem aheadV_yes {n d i m e j : Int} (h : turnOk n d i = true) (h' : turnOk m e j = true) : aheadV n d i m e j = aheadIn n d i m e j := by rw [aheadV, h, h']; rfl
theorem aheadV_no1 {n d i m e j : Int} (h : turnOk n d i = false) : aheadV n d i m e j = 2 := by rw [aheadV, h]; rfl
theorem aheadV_no2 {n d i m e j : Int} (h : turnOk m e j = false) : aheadV n d i m e j = 2 := by rw [aheadV, h, Bool.and_false]; rfl

theorem cmp_neg (a : Int) (o : Bool) (c : Int) (a' : Int) (o' : Bool) (c' : Int) : cmpR a' o' c' a o c = - cmpR a o c a' o' c' := by
  unfold cmpR
  cases o <;> cases o' <;> simp <;> grind

theorem cmp_bd (a : Int) (o : Bool) (c : Int) (a' : Int) (o' : Bool) (c' : Int) : -1 ≤ cmpR a o c a' o' c' ∧ cmpR a o c a' o' c' ≤ 1 := by
  unfold cmpR
  cases o <;> cases o' <;> simp <;> grind

theorem cmp_self (a : Int) (o : Bool) (c : Int) : cmpR a o c a o c = 0 := by
  unfold cmpR
  cases o <;> simp

theorem cmp_trans (a : Int) (o : Bool) (c : Int) (a' : Int) (o' : Bool) (c' : Int) (a'' : Int) (o'' : Bool) (c'' : Int) (h : 0 ≤ cmpR a o c a' o' c') (h' : 0 ≤ cmpR a' o' c' a'' o'' c'') : 0 ≤ cmpR a o c a'' o'' c'' := by
  unfold cmpR at *
  cases o <;> cases o' <;> cases o'' <;> simp at * <;> grind

theorem cmp_zero (a : Int) (o : Bool) (c : Int) (a' : Int) (o' : Bool) (c' : Int) (a'' : Int) (o'' : Bool) (c'' : Int) (h : cmpR a o c a' o' c' = 0) (h' : cmpR a' o' c' a'' o'' c'' = 0) : cmpR a o c a'' o'' c'' = 0 := by
  unfold cmpR at *
  cases o <;> cases o' <;> cases o'' <;> simp at * <;> grind

theorem cmp_due {a a' : Int} (o : Bool) (c : Int) (o' : Bool) (c' : Int) (h : a < a') : cmpR a o c a' o' c' = 1 := by
  unfold cmpR
  rw [if_pos h]

theorem cmp_gt {a a' : Int} (o : Bool) (c : Int) (o' : Bool) (c' : Int) (h : a' < a) : cmpR a o c a' o' c' = -1 := by
  unfold cmpR
  rw [if_neg (by omega), if_pos h]

theorem cmp_eq (a : Int) (o : Bool) (c : Int) (o' : Bool) (c' : Int) : cmpR a o c a o' c' = if o && !o' then 1 else if !o && o' then -1 else if c' < c then 1 else if c < c' then -1 else 0 := by
  unfold cmpR
  rw [if_neg (by omega), if_neg (by omega)]

theorem rankC_no {n d j : Int} (h : overB n d j = false) : rankC n d j = 0 := by rw [rankC, h]; rfl
theorem rankC_yes {n d j : Int} (h : overB n d j = true) : rankC n d j = chainIn n d j := by rw [rankC, h]; rfl

theorem turn_next {n d j : Int} (h : turnOk n d j = true) (hj : j < 1000000) : turnOk n d (j + 1) = true := by
  obtain ⟨n1, n2, d2, j1, j2⟩ := turn_yes h
  simp only [turnOk, shareOk, within, Bool.and_eq_true, decide_eq_true_eq]
  omega

theorem due_next (n d j : Int) (h : turnOk n d j = true) (hj : j < 1000000) : dueV n d j < dueV n d (j + 1) := by
  obtain ⟨n1, n2, d2, j1, j2⟩ := turn_yes h
  rw [dueV_yes h, dueV_yes (turn_next h hj)]
  have e1 : (j + 1) * d = j * d + d := by rw [Int.add_mul, Int.one_mul]
  rw [e1]
  generalize j * d = x at *
  have h5 : (x + n + n - 1) / n ≤ (x + d + n - 1) / n := Int.ediv_le_ediv (by omega) (by omega)
  have h6 : (x + n + n - 1) / n = (x + n - 1) / n + 1 := by
    have := Int.add_mul_ediv_right (x + n - 1) 1 (c := n) (by omega)
    rw [show x + n - 1 + 1 * n = x + n + n - 1 by omega] at this
    exact this
  omega

/-- Of one share an earlier turn goes ahead. -/
theorem ahead_next (n d j : Int) (h : turnOk n d j = true) (hj : j < 1000000) : aheadV n d j n d (j + 1) = 1 := by
  rw [aheadV_yes h (turn_next h hj)]
  exact cmp_due _ _ _ _ (due_next n d j h hj)

end Go.Proofs.YtjhenfdmbagaiaaGreat.Win
