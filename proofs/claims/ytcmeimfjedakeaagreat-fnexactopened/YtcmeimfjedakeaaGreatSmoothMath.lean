/-
  The richest, in numbers: what each one has once its weight came, who has most, and what is left.
  A run of the richest, in numbers.
-/
import Derived.Test.YtcmeimfjedakeaaGreatSmoothBase
namespace Go.Proofs.YtcmeimfjedakeaaGreat.Crew

/-- What each one has once its weight came to it. -/
def paidL (cs rs : List Int) : List Int := List.zipWith (· + ·) rs cs

theorem paid_length {cs rs : List Int} (h : rs.length = cs.length) : (paidL cs rs).length = rs.length := by simp [paidL, h]

theorem paid_get {cs rs : List Int} (h : rs.length = cs.length) {k : Nat} (hk : k < rs.length) : (paidL cs rs).getD k 0 = rs.getD k 0 + cs.getD k 0 := by
  have hc : k < cs.length := by omega
  simp [paidL, List.getD, List.getElem?_zipWith, hk, hc]

/-- Who of the first k has most: the first one of these. -/
def bestTo (p : List Int) : Nat → Nat
  | 0 => 0
  | k + 1 => if p.getD (bestTo p k) 0 < p.getD k 0 then k else bestTo p k

theorem best_le (p : List Int) (k : Nat) : bestTo p k ≤ k := by
  induction k with
  | zero => exact Nat.le_refl _
  | succ k ih => rw [bestTo]; split <;> omega

theorem best_lt (p : List Int) {k : Nat} (h : 0 < k) : bestTo p k < k := by
  cases k with
  | zero => omega
  | succ k => rw [bestTo]; have := best_le p k; split <;> omega

theorem best_most (p : List Int) (k i : Nat) (h : i < k) : p.getD i 0 ≤ p.getD (bestTo p k) 0 := by
  induction k with
  | zero => omega
  | succ k ih =>
    rw [bestTo]
    by_cases hi : i = k
    · subst hi; split <;> omega
    · have := ih (by omega)
      split <;> omega

/-- Who is taken. -/
def best (cs rs : List Int) : Nat := bestTo (paidL cs rs) rs.length

/-- What each one has behind the step. -/
def stepR (cs rs : List Int) : List Int := (paidL cs rs).set (best cs rs) ((paidL cs rs).getD (best cs rs) 0 - sumI cs)

theorem step_length {cs rs : List Int} (h : rs.length = cs.length) : (stepR cs rs).length = rs.length := by simp [stepR, paid_length h]

def nextOk (cs rs : List Int) : Bool := smoothOk cs rs && smoothOk cs (stepR cs rs)

def nextC (cs rs : List Int) : List Int := if nextOk cs rs then cs else []

def nextR (cs rs : List Int) : List Int := if nextOk cs rs then stepR cs rs else []

def nextK (cs rs : List Int) : Int := if nextOk cs rs then (best cs rs : Int) else -1

theorem next_no {cs rs : List Int} (h : nextOk cs rs = false) : nextC cs rs = [] ∧ nextR cs rs = [] ∧ nextK cs rs = -1 := by
  simp [nextC, nextR, nextK, h]

theorem next_yes {cs rs : List Int} (h : nextOk cs rs = true) : nextC cs rs = cs ∧ nextR cs rs = stepR cs rs ∧ nextK cs rs = best cs rs := by
  simp [nextC, nextR, nextK, h]

theorem next_at {cs rs : List Int} (h : smoothOk cs rs = true) : nextOk cs rs = smoothOk cs (stepR cs rs) := by simp [nextOk, h]

theorem next_off {cs rs : List Int} (h : smoothOk cs rs = false) : nextOk cs rs = false := by simp [nextOk, h]

/-- One more is paid. -/
theorem paid_step {cs rs : List Int} (h : rs.length = cs.length) {k : Nat} (hk : k < rs.length) :
    ((paidL cs rs).take k ++ rs.drop k).set k ((paidL cs rs).getD k 0) = (paidL cs rs).take (k + 1) ++ rs.drop (k + 1) := by
  have hp : k < (paidL cs rs).length := by rw [paid_length h]; exact hk
  rw [List.set_append_right _ _ (by simp; omega), List.length_take, show k - min k (paidL cs rs).length = 0 by omega, List.drop_eq_getElem_cons hk, List.set_cons_zero, List.take_succ_eq_append_getElem hp]
  rw [show (paidL cs rs).getD k 0 = (paidL cs rs)[k] by simp [List.getD, hp], List.append_assoc]
  rfl

theorem part_lo {p rs : List Int} {k i : Nat} (hp : p.length = rs.length) (hi : i < k) (hk : k ≤ rs.length) : (p.take k ++ rs.drop k).getD i 0 = p.getD i 0 := by
  have : i < (p.take k).length := by simp; omega
  simp [List.getD, List.getElem?_append_left this, hi]

theorem part_hi {p rs : List Int} {k : Nat} (hp : p.length = rs.length) (hk : k < rs.length) : (p.take k ++ rs.drop k).getD k 0 = rs.getD k 0 := by
  have : (p.take k).length = k := by simp; omega
  rw [List.getD, List.getElem?_append_right (by omega), this, Nat.sub_self]
  simp [List.getD]

theorem part_length {p rs : List Int} {k : Nat} (hp : p.length = rs.length) (hk : k ≤ rs.length) : (p.take k ++ rs.drop k).length = rs.length := by simp; omega

theorem part_all {p rs : List Int} (hp : p.length = rs.length) : p.take rs.length ++ rs.drop rs.length = p := by
  rw [List.take_of_length_le (by omega), List.drop_eq_nil_of_le (Nat.le_refl _), List.append_nil]

theorem crew_get {cs : List Int} (h : crewOk cs = true) (k : Nat) : 0 ≤ cs.getD k 0 ∧ cs.getD k 0 ≤ 1000000 := by
  by_cases hk : k < cs.length
  · have := crew_mem h (List.getElem_mem hk)
    simp [List.getD, hk]; omega
  · simp [List.getD, List.getElem?_eq_none (Nat.le_of_not_lt hk)]

theorem sum_of (cs : List Int) : (∀ n ∈ cs, 1 ≤ n ∧ n ≤ 1000000) → (cs.length : Int) ≤ sumI cs ∧ sumI cs ≤ 1000000 * (cs.length : Int) := by
  induction cs with
  | nil => simp [sumI]
  | cons x r ih =>
    intro h
    have h1 := h x (by simp)
    have h2 := ih (fun n hn => h n (by simp [hn]))
    simp only [sumI, List.length_cons]
    omega

theorem crew_sum {cs : List Int} (h : crewOk cs = true) : 1 ≤ sumI cs ∧ sumI cs ≤ 24000000 := by
  have h1 := sum_of cs (fun n hn => crew_mem h hn)
  have h2 := crew_len h
  omega

end Go.Proofs.YtcmeimfjedakeaaGreat.Crew

namespace Go.Proofs.YtcmeimfjedakeaaGreat.Crew

/-- What each one has behind k steps. -/
def richAt (cs rs : List Int) : Nat → List Int
  | 0 => rs
  | k + 1 => stepR cs (richAt cs rs k)

theorem richAt_succ (cs rs : List Int) (k : Nat) : richAt cs rs (k + 1) = stepR cs (richAt cs rs k) := rfl

/-- Who was taken in k steps. -/
def takenTo (cs rs : List Int) : Nat → List Int
  | 0 => []
  | k + 1 => takenTo cs rs k ++ [(best cs (richAt cs rs k) : Int)]

theorem taken_length (cs rs : List Int) (k : Nat) : (takenTo cs rs k).length = k := by
  induction k with
  | zero => rfl
  | succ k ih => simp [takenTo, ih]

theorem taken_succ (cs rs : List Int) (k : Nat) : takenTo cs rs (k + 1) = takenTo cs rs k ++ [(best cs (richAt cs rs k) : Int)] := rfl

/-- All is right up to step k. -/
def okTo (cs rs : List Int) : Nat → Bool
  | 0 => smoothOk cs rs
  | k + 1 => okTo cs rs k && smoothOk cs (richAt cs rs (k + 1))

theorem okTo_at {cs rs : List Int} {k : Nat} (h : okTo cs rs k = true) : smoothOk cs (richAt cs rs k) = true := by
  cases k with
  | zero => exact h
  | succ k => simp only [okTo, Bool.and_eq_true] at h; exact h.2

theorem okTo_le {cs rs : List Int} {k j : Nat} (h : okTo cs rs k = true) (hj : j ≤ k) : okTo cs rs j = true := by
  induction k with
  | zero => obtain rfl : j = 0 := by omega
            exact h
  | succ k ih =>
    by_cases e : j = k + 1
    · subst e; exact h
    · simp only [okTo, Bool.and_eq_true] at h
      exact ih h.1 (by omega)

theorem okTo_first {cs rs : List Int} {k : Nat} (h : okTo cs rs k = true) : smoothOk cs rs = true := okTo_le h (Nat.zero_le _)

theorem okTo_next {cs rs : List Int} {k : Nat} (h : okTo cs rs k = true) : okTo cs rs (k + 1) = nextOk cs (richAt cs rs k) := by
  rw [okTo, h, Bool.true_and, next_at (okTo_at h)]
  rfl

theorem okTo_false {cs rs : List Int} {k j : Nat} (h : okTo cs rs k = false) (hj : k ≤ j) : okTo cs rs j = false := by
  cases e : okTo cs rs j
  · rfl
  · rw [okTo_le e hj] at h; cases h

/-- Can it be run for n steps. -/
def runOk (cs rs : List Int) (n : Int) : Bool := within n 0 3000 && okTo cs rs n.toNat

def runC (cs rs : List Int) (n : Int) : List Int := if runOk cs rs n then cs else []

def runR (cs rs : List Int) (n : Int) : List Int := if runOk cs rs n then richAt cs rs n.toNat else []

def runL (cs rs : List Int) (n : Int) : List Int := if runOk cs rs n then takenTo cs rs n.toNat else []

theorem run_no {cs rs : List Int} {n : Int} (h : runOk cs rs n = false) : runC cs rs n = [] ∧ runR cs rs n = [] ∧ runL cs rs n = [] := by simp [runC, runR, runL, h]

theorem run_yes {cs rs : List Int} {n : Int} (h : runOk cs rs n = true) : runC cs rs n = cs ∧ runR cs rs n = richAt cs rs n.toNat ∧ runL cs rs n = takenTo cs rs n.toNat := by simp [runC, runR, runL, h]

theorem run_parts {cs rs : List Int} {n : Int} (h : runOk cs rs n = true) : 0 ≤ n ∧ n ≤ 3000 ∧ okTo cs rs n.toNat = true := by
  simp only [runOk, Bool.and_eq_true] at h
  have := within_yes h.1
  exact ⟨this.1, this.2, h.2⟩

theorem runC_len (cs rs : List Int) (n : Int) : (runC cs rs n).length ≤ 24 := by
  cases h : runOk cs rs n
  · rw [(run_no h).1]; simp
  · rw [(run_yes h).1]
    exact (crew_len (smooth_parts (okTo_first (run_parts h).2.2)).1).2

theorem runR_len (cs rs : List Int) (n : Int) : (runR cs rs n).length ≤ 24 := by
  cases h : runOk cs rs n
  · rw [(run_no h).2.1]; simp
  · rw [(run_yes h).2.1]
    have h1 := smooth_parts (okTo_at (run_parts h).2.2)
    rw [h1.2.1]
    exact (crew_len h1.1).2

theorem runL_len (cs rs : List Int) (n : Int) : (runL cs rs n).length ≤ 3000 := by
  cases h : runOk cs rs n
  · rw [(run_no h).2.2]; simp
  · rw [(run_yes h).2.2, taken_length]
    have := run_parts h
    omega

theorem richAt_add (cs rs : List Int) (j k : Nat) : richAt cs rs (j + k) = richAt cs (richAt cs rs j) k := by
  induction k with
  | zero => rfl
  | succ k ih => rw [← Nat.add_assoc, richAt_succ, ih, richAt_succ]

theorem taken_add (cs rs : List Int) (j k : Nat) : takenTo cs rs (j + k) = takenTo cs rs j ++ takenTo cs (richAt cs rs j) k := by
  induction k with
  | zero => simp [takenTo]
  | succ k ih => rw [← Nat.add_assoc, taken_succ, ih, taken_succ, richAt_add, List.append_assoc]

theorem okTo_add {cs rs : List Int} {j k : Nat} (h : okTo cs rs (j + k) = true) : okTo cs (richAt cs rs j) k = true := by
  induction k with
  | zero => exact okTo_at h
  | succ k ih =>
    rw [← Nat.add_assoc, okTo, Bool.and_eq_true] at h
    rw [okTo, ih h.1, Bool.true_and]
    have h2 := h.2
    rw [Nat.add_assoc, richAt_add] at h2
    exact h2

end Go.Proofs.YtcmeimfjedakeaaGreat.Crew
