/-
  The richest, in numbers: what each one has once its weight came, who has most, and what is left.
-/
import Derived.Test.YtlmlgidfgjejpaaSmoothBase
namespace Go.Proofs.Ytlmlgidfgjejpaa.Crew

/-- What each one has once its weight came to it. -/
def paidL (cs rs : List Int) : List Int := List.zipWith (· + ·) rs cs

theorem paid_length {cs rs : List Int} (h : rs.length = cs.length) : (paidL cs rs).length = rs.length := by simp [paidL, h]

theorem paid_get {cs rs : List Int} (h : rs.length = cs.length) {k : Nat} (hk : k < rs.length) : (paidL cs rs).getD k 0 = rs.getD k 0 + cs.getD k 0 := by
  have hc : k < cs.length := by omega
  simp [paidL, List.getD, List.getElem?_zipWith, hk, hc]

/-- Who of the first k has most: the first one of these. -/
def bestTo (p : List Int) : Nat → Nat
  | 0 => 0
  | k + 1 => if p.getD (bestTo p k) 0 < p.getD k 0 then k else bestTo p k

theorem best_le (p : List Int) (k : Nat) : bestTo p k ≤ k := by
  induction k with
  | zero => exact Nat.le_refl _
  | succ k ih => rw [bestTo]; split <;> omega

theorem best_lt (p : List Int) {k : Nat} (h : 0 < k) : bestTo p k < k := by
  cases k with
  | zero => omega
  | succ k => rw [bestTo]; have := best_le p k; split <;> omega

theorem best_most (p : List Int) (k i : Nat) (h : i < k) : p.getD i 0 ≤ p.getD (bestTo p k) 0 := by
  induction k with
  | zero => omega
  | succ k ih =>
    rw [bestTo]
    by_cases hi : i = k
    · subst hi; split <;> omega
    · have := ih (by omega)
      split <;> omega

/-- Who is taken. -/
def best (cs rs : List Int) : Nat := bestTo (paidL cs rs) rs.length

/-- What each one has behind the step. -/
def stepR (cs rs : List Int) : List Int := (paidL cs rs).set (best cs rs) ((paidL cs rs).getD (best cs rs) 0 - sumI cs)

theorem step_length {cs rs : List Int} (h : rs.length = cs.length) : (stepR cs rs).length = rs.length := by simp [stepR, paid_length h]

def nextOk (cs rs : List Int) : Bool := smoothOk cs rs && smoothOk cs (stepR cs rs)

def nextC (cs rs : List Int) : List Int := if nextOk cs rs then cs else []

def nextR (cs rs : List Int) : List Int := if nextOk cs rs then stepR cs rs else []

def nextK (cs rs : List Int) : Int := if nextOk cs rs then (best cs rs : Int) else -1

theorem next_no {cs rs : List Int} (h : nextOk cs rs = false) : nextC cs rs = [] ∧ nextR cs rs = [] ∧ nextK cs rs = -1 := by
  simp [nextC, nextR, nextK, h]

theorem next_yes {cs rs : List Int} (h : nextOk cs rs = true) : nextC cs rs = cs ∧ nextR cs rs = stepR cs rs ∧ nextK cs rs = best cs rs := by
  simp [nextC, nextR, nextK, h]

theorem next_at {cs rs : List Int} (h : smoothOk cs rs = true) : nextOk cs rs = smoothOk cs (stepR cs rs) := by simp [nextOk, h]

theorem next_off {cs rs : List Int} (h : smoothOk cs rs = false) : nextOk cs rs = false := by simp [nextOk, h]

/-- One more is paid. -/
theorem paid_step {cs rs : List Int} (h : rs.length = cs.length) {k : Nat} (hk : k < rs.length) :
    ((paidL cs rs).take k ++ rs.drop k).set k ((paidL cs rs).getD k 0) = (paidL cs rs).take (k + 1) ++ rs.drop (k + 1) := by
  have hp : k < (paidL cs rs).length := by rw [paid_length h]; exact hk
  rw [List.set_append_right _ _ (by simp; omega), List.length_take, show k - min k (paidL cs rs).length = 0 by omega, List.drop_eq_getElem_cons hk, List.set_cons_zero, List.take_succ_eq_append_getElem hp]
  rw [show (paidL cs rs).getD k 0 = (paidL cs rs)[k] by simp [List.getD, hp], List.append_assoc]
  rfl

theorem part_lo {p rs : List Int} {k i : Nat} (hp : p.length = rs.length) (hi : i < k) (hk : k ≤ rs.length) : (p.take k ++ rs.drop k).getD i 0 = p.getD i 0 := by
  have : i < (p.take k).length := by simp; omega
  simp [List.getD, List.getElem?_append_left this, hi]

theorem part_hi {p rs : List Int} {k : Nat} (hp : p.length = rs.length) (hk : k < rs.length) : (p.take k ++ rs.drop k).getD k 0 = rs.getD k 0 := by
  have : (p.take k).length = k := by simp; omega
  rw [List.getD, List.getElem?_append_right (by omega), this, Nat.sub_self]
  simp [List.getD]

theorem part_length {p rs : List Int} {k : Nat} (hp : p.length = rs.length) (hk : k ≤ rs.length) : (p.take k ++ rs.drop k).length = rs.length := by simp; omega

theorem part_all {p rs : List Int} (hp : p.length = rs.length) : p.take rs.length ++ rs.drop rs.length = p := by
  rw [List.take_of_length_le (by omega), List.drop_eq_nil_of_le (Nat.le_refl _), List.append_nil]

theorem crew_get {cs : List Int} (h : crewOk cs = true) (k : Nat) : 0 ≤ cs.getD k 0 ∧ cs.getD k 0 ≤ 1000000 := by
  by_cases hk : k < cs.length
  · have := crew_mem h (List.getElem_mem hk)
    simp [List.getD, hk]; omega
  · simp [List.getD, List.getElem?_eq_none (Nat.le_of_not_lt hk)]

theorem sum_of (cs : List Int) : (∀ n ∈ cs, 1 ≤ n ∧ n ≤ 1000000) → (cs.length : Int) ≤ sumI cs ∧ sumI cs ≤ 1000000 * (cs.length : Int) := by
  induction cs with
  | nil => simp [sumI]
  | cons x r ih =>
    intro h
    have h1 := h x (by simp)
    have h2 := ih (fun n hn => h n (by simp [hn]))
    simp only [sumI, List.length_cons]
    omega

theorem crew_sum {cs : List Int} (h : crewOk cs = true) : 1 ≤ sumI cs ∧ sumI cs ≤ 24000000 := by
  have h1 := sum_of cs (fun n hn => crew_mem h hn)
  have h2 := crew_len h
  omega

end Go.Proofs.Ytlmlgidfgjejpaa.Crew
