/-
  A run of the richest, in numbers.
-/
import Derived.Test.YtlmlgidfgjejpaaSmoothMath
namespace Go.Proofs.Ytlmlgidfgjejpaa.Crew

/-- What each one has behind k steps. -/
def richAt (cs rs : List Int) : Nat → List Int
  | 0 => rs
  | k + 1 => stepR cs (richAt cs rs k)

theorem richAt_succ (cs rs : List Int) (k : Nat) : richAt cs rs (k + 1) = stepR cs (richAt cs rs k) := rfl

/-- Who was taken in k steps. -/
def takenTo (cs rs : List Int) : Nat → List Int
  | 0 => []
  | k + 1 => takenTo cs rs k ++ [(best cs (richAt cs rs k) : Int)]

theorem taken_length (cs rs : List Int) (k : Nat) : (takenTo cs rs k).length = k := by
  induction k with
  | zero => rfl
  | succ k ih => simp [takenTo, ih]

theorem taken_succ (cs rs : List Int) (k : Nat) : takenTo cs rs (k + 1) = takenTo cs rs k ++ [(best cs (richAt cs rs k) : Int)] := rfl

/-- All is right up to step k. -/
def okTo (cs rs : List Int) : Nat → Bool
  | 0 => smoothOk cs rs
  | k + 1 => okTo cs rs k && smoothOk cs (richAt cs rs (k + 1))

theorem okTo_at {cs rs : List Int} {k : Nat} (h : okTo cs rs k = true) : smoothOk cs (richAt cs rs k) = true := by
  cases k with
  | zero => exact h
  | succ k => simp only [okTo, Bool.and_eq_true] at h; exact h.2

theorem okTo_le {cs rs : List Int} {k j : Nat} (h : okTo cs rs k = true) (hj : j ≤ k) : okTo cs rs j = true := by
  induction k with
  | zero => obtain rfl : j = 0 := by omega
            exact h
  | succ k ih =>
    by_cases e : j = k + 1
    · subst e; exact h
    · simp only [okTo, Bool.and_eq_true] at h
      exact ih h.1 (by omega)

theorem okTo_first {cs rs : List Int} {k : Nat} (h : okTo cs rs k = true) : smoothOk cs rs = true := okTo_le h (Nat.zero_le _)

theorem okTo_next {cs rs : List Int} {k : Nat} (h : okTo cs rs k = true) : okTo cs rs (k + 1) = nextOk cs (richAt cs rs k) := by
  rw [okTo, h, Bool.true_and, next_at (okTo_at h)]
  rfl

theorem okTo_false {cs rs : List Int} {k j : Nat} (h : okTo cs rs k = false) (hj : k ≤ j) : okTo cs rs j = false := by
  cases e : okTo cs rs j
  · rfl
  · rw [okTo_le e hj] at h; cases h

/-- Can it be run for n steps. -/
def runOk (cs rs : List Int) (n : Int) : Bool := within n 0 3000 && okTo cs rs n.toNat

def runC (cs rs : List Int) (n : Int) : List Int := if runOk cs rs n then cs else []

def runR (cs rs : List Int) (n : Int) : List Int := if runOk cs rs n then richAt cs rs n.toNat else []

def runL (cs rs : List Int) (n : Int) : List Int := if runOk cs rs n then takenTo cs rs n.toNat else []

theorem run_no {cs rs : List Int} {n : Int} (h : runOk cs rs n = false) : runC cs rs n = [] ∧ runR cs rs n = [] ∧ runL cs rs n = [] := by simp [runC, runR, runL, h]

theorem run_yes {cs rs : List Int} {n : Int} (h : runOk cs rs n = true) : runC cs rs n = cs ∧ runR cs rs n = richAt cs rs n.toNat ∧ runL cs rs n = takenTo cs rs n.toNat := by simp [runC, runR, runL, h]

theorem run_parts {cs rs : List Int} {n : Int} (h : runOk cs rs n = true) : 0 ≤ n ∧ n ≤ 3000 ∧ okTo cs rs n.toNat = true := by
  simp only [runOk, Bool.and_eq_true] at h
  have := within_yes h.1
  exact ⟨this.1, this.2, h.2⟩

theorem runC_len (cs rs : List Int) (n : Int) : (runC cs rs n).length ≤ 24 := by
  cases h : runOk cs rs n
  · rw [(run_no h).1]; simp
  · rw [(run_yes h).1]
    exact (crew_len (smooth_parts (okTo_first (run_parts h).2.2)).1).2

theorem runR_len (cs rs : List Int) (n : Int) : (runR cs rs n).length ≤ 24 := by
  cases h : runOk cs rs n
  · rw [(run_no h).2.1]; simp
  · rw [(run_yes h).2.1]
    have h1 := smooth_parts (okTo_at (run_parts h).2.2)
    rw [h1.2.1]
    exact (crew_len h1.1).2

theorem runL_len (cs rs : List Int) (n : Int) : (runL cs rs n).length ≤ 3000 := by
  cases h : runOk cs rs n
  · rw [(run_no h).2.2]; simp
  · rw [(run_yes h).2.2, taken_length]
    have := run_parts h
    omega

theorem richAt_add (cs rs : List Int) (j k : Nat) : richAt cs rs (j + k) = richAt cs (richAt cs rs j) k := by
  induction k with
  | zero => rfl
  | succ k ih => rw [← Nat.add_assoc, richAt_succ, ih, richAt_succ]

theorem taken_add (cs rs : List Int) (j k : Nat) : takenTo cs rs (j + k) = takenTo cs rs j ++ takenTo cs (richAt cs rs j) k := by
  induction k with
  | zero => simp [takenTo]
  | succ k ih => rw [← Nat.add_assoc, taken_succ, ih, taken_succ, richAt_add, List.append_assoc]

theorem okTo_add {cs rs : List Int} {j k : Nat} (h : okTo cs rs (j + k) = true) : okTo cs (richAt cs rs j) k = true := by
  induction k with
  | zero => exact okTo_at h
  | succ k ih =>
    rw [← Nat.add_assoc, okTo, Bool.and_eq_true] at h
    rw [okTo, ih h.1, Bool.true_and]
    have h2 := h.2
    rw [Nat.add_assoc, richAt_add] at h2
    exact h2

end Go.Proofs.Ytlmlgidfgjejpaa.Crew
