/-
  Ranks: the one that is due earlier; of those that are due at once one that overlaps; of those that do both the one whose chain ends later. It is an order.
-/
import Derived.Test.YtodggdgcbhmjoaaChainMath
namespace Go.Proofs.Ytodggdgcbhmjoaa.Win
open Go.ChangeShapes Go.WideShapes Go.ChangeAt Go.RowKit Go.Proofs.Ytodggdgcbhmjoaa.Crew

theorem hide {p : Prop} (h : p) : Hid p := h

/-- Where the chain of a turn ends, as far as it counts: 0 of one that does not overlap. -/
def rankC (n d j : Int) : Int := if overB n d j then chainIn n d j else 0

/-- 1 where the first goes ahead, -1 where the second does, 0 where neither does. -/
def cmpR (a : Int) (o : Bool) (c : Int) (a' : Int) (o' : Bool) (c' : Int) : Int :=
  if a < a' then 1 else if a' < a then -1 else if o && !o' then 1 else if !o && o' then -1 else if c' < c then 1 else if c < c' then -1 else 0

def aheadIn (n d i m e j : Int) : Int := cmpR (dueV n d i) (overB n d i) (rankC n d i) (dueV m e j) (overB m e j) (rankC m e j)

def aheadV (n d i m e j : Int) : Int := if turnOk n d i && turnOk m e j then aheadIn n d i m e j else 2

theorem aheadV_yes {n d i m e j : Int} (h : turnOk n d i = true) (h' : turnOk m e j = true) : aheadV n d i m e j = aheadIn n d i m e j := by rw [aheadV, h, h']; rfl
theorem aheadV_no1 {n d i m e j : Int} (h : turnOk n d i = false) : aheadV n d i m e j = 2 := by rw [aheadV, h]; rfl
theorem aheadV_no2 {n d i m e j : Int} (h : turnOk m e j = false) : aheadV n d i m e j = 2 := by rw [aheadV, h, Bool.and_false]; rfl

theorem cmp_neg (a : Int) (o : Bool) (c : Int) (a' : Int) (o' : Bool) (c' : Int) : cmpR a' o' c' a o c = - cmpR a o c a' o' c' := by
  unfold cmpR
  cases o <;> cases o' <;> simp <;> grind

theorem cmp_bd (a : Int) (o : Bool) (c : Int) (a' : Int) (o' : Bool) (c' : Int) : -1 ≤ cmpR a o c a' o' c' ∧ cmpR a o c a' o' c' ≤ 1 := by
  unfold cmpR
  cases o <;> cases o' <;> simp <;> grind

theorem cmp_self (a : Int) (o : Bool) (c : Int) : cmpR a o c a o c = 0 := by
  unfold cmpR
  cases o <;> simp

theorem cmp_trans (a : Int) (o : Bool) (c : Int) (a' : Int) (o' : Bool) (c' : Int) (a'' : Int) (o'' : Bool) (c'' : Int) (h : 0 ≤ cmpR a o c a' o' c') (h' : 0 ≤ cmpR a' o' c' a'' o'' c'') : 0 ≤ cmpR a o c a'' o'' c'' := by
  unfold cmpR at *
  cases o <;> cases o' <;> cases o'' <;> simp at * <;> grind

theorem cmp_zero (a : Int) (o : Bool) (c : Int) (a' : Int) (o' : Bool) (c' : Int) (a'' : Int) (o'' : Bool) (c'' : Int) (h : cmpR a o c a' o' c' = 0) (h' : cmpR a' o' c' a'' o'' c'' = 0) : cmpR a o c a'' o'' c'' = 0 := by
  unfold cmpR at *
  cases o <;> cases o' <;> cases o'' <;> simp at * <;> grind

theorem cmp_due {a a' : Int} (o : Bool) (c : Int) (o' : Bool) (c' : Int) (h : a < a') : cmpR a o c a' o' c' = 1 := by
  unfold cmpR
  rw [if_pos h]

theorem cmp_gt {a a' : Int} (o : Bool) (c : Int) (o' : Bool) (c' : Int) (h : a' < a) : cmpR a o c a' o' c' = -1 := by
  unfold cmpR
  rw [if_neg (by omega), if_pos h]

theorem cmp_eq (a : Int) (o : Bool) (c : Int) (o' : Bool) (c' : Int) : cmpR a o c a o' c' = if o && !o' then 1 else if !o && o' then -1 else if c' < c then 1 else if c < c' then -1 else 0 := by
  unfold cmpR
  rw [if_neg (by omega), if_neg (by omega)]

theorem rankC_no {n d j : Int} (h : overB n d j = false) : rankC n d j = 0 := by rw [rankC, h]; rfl
theorem rankC_yes {n d j : Int} (h : overB n d j = true) : rankC n d j = chainIn n d j := by rw [rankC, h]; rfl

theorem turn_next {n d j : Int} (h : turnOk n d j = true) (hj : j < 1000000) : turnOk n d (j + 1) = true := by
  obtain ⟨n1, n2, d2, j1, j2⟩ := turn_yes h
  simp only [turnOk, shareOk, within, Bool.and_eq_true, decide_eq_true_eq]
  omega

theorem due_next (n d j : Int) (h : turnOk n d j = true) (hj : j < 1000000) : dueV n d j < dueV n d (j + 1) := by
  obtain ⟨n1, n2, d2, j1, j2⟩ := turn_yes h
  rw [dueV_yes h, dueV_yes (turn_next h hj)]
  have e1 : (j + 1) * d = j * d + d := by rw [Int.add_mul, Int.one_mul]
  rw [e1]
  generalize j * d = x at *
  have h5 : (x + n + n - 1) / n ≤ (x + d + n - 1) / n := Int.ediv_le_ediv (by omega) (by omega)
  have h6 : (x + n + n - 1) / n = (x + n - 1) / n + 1 := by
    have := Int.add_mul_ediv_right (x + n - 1) 1 (c := n) (by omega)
    rw [show x + n - 1 + 1 * n = x + n + n - 1 by omega] at this
    exact this
  omega

/-- Of one share an earlier turn goes ahead. -/
theorem ahead_next (n d j : Int) (h : turnOk n d j = true) (hj : j < 1000000) : aheadV n d j n d (j + 1) = 1 := by
  rw [aheadV_yes h (turn_next h hj)]
  exact cmp_due _ _ _ _ (due_next n d j h hj)

end Go.Proofs.Ytodggdgcbhmjoaa.Win
