/-
  Heaps in numbers: what a sift up and a sift down leave of the order, whatever the order is.
-/
import Derived.Test.YtlmlgidfgjejpaaCrewTotal
namespace Go.Proofs.Ytlmlgidfgjejpaa.Crew
open Go.ChangeShapes Go.WideShapes Go.ChangeAt Go.RowKit

/-- A total order, told by which one is strictly ahead. -/
structure Ordered (lt : Int → Int → Bool) : Prop where
  asym : ∀ a b, lt a b = true → lt b a = false
  trans : ∀ a b c, lt b a = false → lt c b = false → lt c a = false

/-- Nobody of the first n is ahead of whom it waits under. -/
def Heaped (lt : Int → Int → Bool) (f : Nat → Int) (n : Nat) : Prop := ∀ k, 0 < k → k < n → lt (f k) (f ((k - 1) / 2)) = false

/-- The same but at j, which may be ahead of whom it waits under. -/
structure Rising (lt : Int → Int → Bool) (f : Nat → Int) (n j : Nat) : Prop where
  rest : ∀ k, 0 < k → k < n → k ≠ j → lt (f k) (f ((k - 1) / 2)) = false
  over : ∀ k, 0 < k → k < n → (k - 1) / 2 = j → 0 < j → lt (f k) (f ((j - 1) / 2)) = false

/-- The same but under i: who waits there may be ahead of it. -/
structure Sinking (lt : Int → Int → Bool) (f : Nat → Int) (n i : Nat) : Prop where
  rest : ∀ k, 0 < k → k < n → (k - 1) / 2 ≠ i → lt (f k) (f ((k - 1) / 2)) = false
  over : ∀ k, 0 < k → k < n → (k - 1) / 2 = i → 0 < i → lt (f k) (f ((i - 1) / 2)) = false

/-- Two change places. -/
def swapF (f : Nat → Int) (i j : Nat) : Nat → Int := fun k => if k = j then f i else if k = i then f j else f k

theorem swapF_j (f : Nat → Int) (i j : Nat) : swapF f i j j = f i := by simp [swapF]

theorem swapF_i (f : Nat → Int) (i j : Nat) : swapF f i j i = f j := by
  by_cases h : i = j
  · simp [swapF, h]
  · simp [swapF, h]

theorem swapF_k (f : Nat → Int) {i j k : Nat} (h1 : k ≠ i) (h2 : k ≠ j) : swapF f i j k = f k := by simp [swapF, h1, h2]

theorem Heaped.rising {lt : Int → Int → Bool} {f : Nat → Int} {n : Nat} (h : Heaped lt f n) : Rising lt f (n + 1) n :=
  ⟨fun k h0 hk hne => h k h0 (by omega), fun k h0 hk hp _ => by omega⟩

theorem rising_root {lt : Int → Int → Bool} {f : Nat → Int} {n : Nat} (h : Rising lt f n 0) : Heaped lt f n := fun k h0 hk => h.rest k h0 hk (by omega)

theorem rising_end {lt : Int → Int → Bool} {f : Nat → Int} {n j : Nat} (h : Rising lt f n j) (hj : lt (f j) (f ((j - 1) / 2)) = false) : Heaped lt f n := fun k h0 hk => by
  by_cases e : k = j
  · rw [e]; exact hj
  · exact h.rest k h0 hk e

theorem rising_step {lt : Int → Int → Bool} (O : Ordered lt) {f : Nat → Int} {n j i : Nat} (h : Rising lt f n j) (hi : i = (j - 1) / 2) (h0 : 0 < j) (hn : j < n) (hj : lt (f j) (f i) = true) : Rising lt (swapF f i j) n i := by
  have hij : i ≠ j := by omega
  have hle := O.asym _ _ hj
  refine ⟨fun k k0 kn ki => ?_, fun k k0 kn kp i0 => ?_⟩
  · by_cases e : k = j
    · subst e
      rw [← hi, swapF_j, swapF_i]
      exact hle
    by_cases e2 : (k - 1) / 2 = j
    · rw [e2, swapF_j, swapF_k f ki e]
      have := h.over k k0 kn e2 h0
      rwa [← hi] at this
    by_cases e3 : (k - 1) / 2 = i
    · rw [e3, swapF_i, swapF_k f ki e]
      have := h.rest k k0 kn e
      rw [e3] at this
      exact O.trans _ _ _ hle this
    · rw [swapF_k f ki e, swapF_k f e3 e2]
      exact h.rest k k0 kn e
  · have hr := h.rest i i0 (by omega) hij
    rw [swapF_k f (show (i - 1) / 2 ≠ i by omega) (show (i - 1) / 2 ≠ j by omega)]
    by_cases e : k = j
    · rw [e, swapF_j]; exact hr
    · rw [swapF_k f (by omega) e]
      have := h.rest k k0 kn e
      rw [kp] at this
      exact O.trans _ _ _ hr this

theorem sinking_leaf {lt : Int → Int → Bool} {f : Nat → Int} {n i : Nat} (h : Sinking lt f n i) (hn : n ≤ 2 * i + 1) : Heaped lt f n := fun k h0 hk => h.rest k h0 hk (by omega)

/-- The lesser one of who waits under i is at j. -/
def LeastUnder (lt : Int → Int → Bool) (f : Nat → Int) (n i j : Nat) : Prop := 0 < j ∧ j < n ∧ (j - 1) / 2 = i ∧ ∀ k, 0 < k → k < n → (k - 1) / 2 = i → lt (f k) (f j) = false

theorem sinking_end {lt : Int → Int → Bool} (O : Ordered lt) {f : Nat → Int} {n i j : Nat} (h : Sinking lt f n i) (L : LeastUnder lt f n i j) (hj : lt (f j) (f i) = false) : Heaped lt f n := fun k h0 hk => by
  by_cases e : (k - 1) / 2 = i
  · rw [e]; exact O.trans _ _ _ hj (L.2.2.2 k h0 hk e)
  · exact h.rest k h0 hk e

theorem sinking_step {lt : Int → Int → Bool} (O : Ordered lt) {f : Nat → Int} {n i j : Nat} (h : Sinking lt f n i) (L : LeastUnder lt f n i j) (hj : lt (f j) (f i) = true) : Sinking lt (swapF f i j) n j := by
  obtain ⟨j0, jn, jp, jl⟩ := L
  have hij : i ≠ j := by omega
  have hle := O.asym _ _ hj
  refine ⟨fun k k0 kn kp => ?_, fun k k0 kn kp _ => ?_⟩
  · by_cases e : k = j
    · subst e
      rw [jp, swapF_j, swapF_i]
      exact hle
    by_cases e2 : (k - 1) / 2 = i
    · rw [e2, swapF_i, swapF_k f (by omega) e]
      exact jl k k0 kn e2
    by_cases e3 : k = i
    · subst e3
      rw [swapF_i, swapF_k f e2 kp]
      exact h.over j j0 jn jp k0
    · rw [swapF_k f e3 e, swapF_k f e2 kp]
      exact h.rest k k0 kn e2
  · rw [jp, swapF_i, swapF_k f (by omega) (by omega)]
    have := h.rest k k0 kn (by omega)
    rwa [kp] at this

theorem sinking_root {lt : Int → Int → Bool} {f : Nat → Int} {n : Nat} (h : ∀ k, 0 < k → k < n → (k - 1) / 2 ≠ 0 → lt (f k) (f ((k - 1) / 2)) = false) : Sinking lt f n 0 := ⟨h, fun _ _ _ _ h0 => by omega⟩

/-- Nobody is ahead of who waits on top. -/
theorem heaped_top {lt : Int → Int → Bool} (O : Ordered lt) {f : Nat → Int} {n : Nat} (h : Heaped lt f n) (hr : ∀ a, lt a a = false) : ∀ k, k < n → lt (f k) (f 0) = false := by
  intro k
  induction k using Nat.strongRecOn with
  | ind k ih =>
    intro hk
    by_cases h0 : k = 0
    · rw [h0]; exact hr _
    · exact O.trans _ _ _ (ih ((k - 1) / 2) (by omega) (by omega)) (h k (by omega) hk)

/-- Two of a list change places. -/
def swapL (ws : List Int) (i j : Nat) : List Int := (ws.set i (ws.getD j 0)).set j (ws.getD i 0)

theorem swapL_length (ws : List Int) (i j : Nat) : (swapL ws i j).length = ws.length := by simp [swapL]

theorem swapL_get (ws : List Int) {i j : Nat} (hi : i < ws.length) (hj : j < ws.length) (k : Nat) : (swapL ws i j).getD k 0 = swapF (fun k => ws.getD k 0) i j k := by
  unfold swapL swapF
  simp only [List.getD, List.getElem?_set]
  by_cases e : k = j
  · subst e; simp [hj]
  · by_cases e2 : k = i
    · subst e2; simp [e, Ne.symm e, hi]
    · simp [e, e2, Ne.symm e, Ne.symm e2]

theorem swapL_perm (ws : List Int) {i j : Nat} (hi : i < ws.length) (hj : j < ws.length) : (swapL ws i j).Perm ws := by
  have := List.set_set_perm hi hj
  unfold swapL
  rw [show ws.getD i 0 = ws[i] by simp [List.getD, hi], show ws.getD j 0 = ws[j] by simp [List.getD, hj]]
  exact this

/-- The list as a function. -/
def gd (ws : List Int) : Nat → Int := fun k => ws.getD k 0

theorem gd_swap (ws : List Int) {i j : Nat} (hi : i < ws.length) (hj : j < ws.length) : gd (swapL ws i j) = swapF (gd ws) i j := by
  funext k
  exact swapL_get ws hi hj k

end Go.Proofs.Ytlmlgidfgjejpaa.Crew
