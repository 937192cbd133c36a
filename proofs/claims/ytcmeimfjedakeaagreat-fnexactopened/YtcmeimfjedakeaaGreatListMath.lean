/-
  Down the list, in numbers: what is right, a step, a run.
-/
import Derived.Test.YtcmeimfjedakeaaGreatSmoothFair
import Derived.Test.YtcmeimfjedakeaaGreatCrewSort
import Derived.Test.YtcmeimfjedakeaaGreatSortOrder
namespace Go.Proofs.YtcmeimfjedakeaaGreat.Crew

/-- What the first k had is from 0 to their weights. -/
def hadTo (cs hs : List Int) : Nat → Bool
  | 0 => true
  | k + 1 => hadTo cs hs k && within (hs.getD k 0) 0 (cs.getD k 0)

theorem hadTo_get {cs hs : List Int} {n k : Nat} (h : hadTo cs hs n = true) (hk : k < n) : 0 ≤ hs.getD k 0 ∧ hs.getD k 0 ≤ cs.getD k 0 := by
  induction n with
  | zero => omega
  | succ n ih =>
    simp only [hadTo, Bool.and_eq_true] at h
    by_cases e : k = n
    · subst e; exact within_yes h.2
    · exact ih h.1 (by omega)

theorem hadTo_of {cs hs : List Int} {n : Nat} (h : ∀ k, k < n → 0 ≤ hs.getD k 0 ∧ hs.getD k 0 ≤ cs.getD k 0) : hadTo cs hs n = true := by
  induction n with
  | zero => rfl
  | succ n ih =>
    have h1 := ih (fun k hk => h k (by omega))
    have h2 : within (hs.getD n 0) 0 (cs.getD n 0) = true := decide_eq_true (h n (by omega))
    rw [hadTo, h1, h2]; rfl

theorem hadTo_no {cs hs : List Int} {n k : Nat} (hk : k < n) (hw : within (hs.getD k 0) 0 (cs.getD k 0) = false) : hadTo cs hs n = false := by
  cases h : hadTo cs hs n
  · rfl
  · have h2 : within (hs.getD k 0) 0 (cs.getD k 0) = true := decide_eq_true (hadTo_get h hk)
    rw [hw] at h2
    cases h2

def listOk (cs hs : List Int) (t p : Int) : Bool := crewOk cs && decide (hs.length = cs.length) && within p 0 ((cs.length : Int) - 1) && hadTo cs hs hs.length && decide (sumI hs = t)

/-- What changes from turn to turn. -/
structure Ls where
  had : List Int
  turns : Int
  pos : Nat

/-- A right list. -/
structure Right (cs : List Int) (s : Ls) : Prop where
  crew : crewOk cs = true
  len : s.had.length = cs.length
  lt : s.pos < cs.length
  had : ∀ k, k < cs.length → 0 ≤ s.had.getD k 0 ∧ s.had.getD k 0 ≤ cs.getD k 0
  sum : sumI s.had = s.turns

theorem right_of {cs hs : List Int} {t p : Int} (h : listOk cs hs t p = true) : ∃ n : Nat, p = (n : Int) ∧ Right cs ⟨hs, t, n⟩ := by
  simp only [listOk, Bool.and_eq_true, decide_eq_true_eq] at h
  obtain ⟨⟨⟨⟨h1, h2⟩, h3⟩, h4⟩, h5⟩ := h
  have h3' := within_yes h3
  obtain ⟨n, rfl⟩ := Int.eq_ofNat_of_zero_le h3'.1
  exact ⟨n, rfl, h1, h2, by show n < _; omega, fun k hk => hadTo_get h4 (by omega), h5⟩

theorem Right.ok {cs : List Int} {s : Ls} (h : Right cs s) : listOk cs s.had s.turns s.pos = true := by
  have h1 : within (s.pos : Int) 0 ((cs.length : Int) - 1) = true := decide_eq_true ⟨by omega, by have := h.lt; omega⟩
  have h2 : hadTo cs s.had s.had.length = true := hadTo_of (fun k hk => h.had k (by have := h.len; omega))
  simp [listOk, h.crew, h.len, h.sum, h1]
  rw [← h.len]
  exact h2

theorem sum_le (xs ys : List Int) (hl : xs.length = ys.length) (h : ∀ k, k < xs.length → xs.getD k 0 ≤ ys.getD k 0) : sumI xs ≤ sumI ys ∧ (sumI xs = sumI ys → xs = ys) := by
  induction xs generalizing ys with
  | nil => cases ys with
    | nil => simp
    | cons _ _ => simp at hl
  | cons x r ih => cases ys with
    | nil => simp at hl
    | cons y s =>
      have h0 := h 0 (by simp)
      simp [List.getD] at h0
      have h1 := ih s (by simpa using hl) (fun k hk => by have := h (k + 1) (by simpa using hk); simpa [List.getD] using this)
      simp only [sumI]
      refine ⟨by omega, fun e => ?_⟩
      have e1 : x = y := by omega
      have e2 := h1.2 (by omega)
      rw [e1, e2]

theorem sum_zero_le (xs : List Int) (h : ∀ k, k < xs.length → 0 ≤ xs.getD k 0) : 0 ≤ sumI xs := by
  induction xs with
  | nil => simp [sumI]
  | cons x r ih =>
    have h0 := h 0 (by simp)
    simp [List.getD] at h0
    have h1 := ih (fun k hk => by have := h (k + 1) (by simpa using hk); simpa [List.getD] using this)
    simp only [sumI]
    omega

theorem Right.bounds {cs : List Int} {s : Ls} (h : Right cs s) : 0 ≤ s.turns ∧ s.turns ≤ sumI cs ∧ sumI cs ≤ 24000000 ∧ 1 ≤ sumI cs := by
  have h1 := sum_le s.had cs h.len (fun k hk => (h.had k (by have := h.len; omega)).2)
  have h2 := sum_zero_le s.had (fun k hk => (h.had k (by have := h.len; omega)).1)
  have h3 := crew_sum h.crew
  rw [h.sum] at h1 h2
  exact ⟨h2, h1.1, h3.2, h3.1⟩

theorem Right.all {cs : List Int} {s : Ls} (h : Right cs s) (e : s.turns = sumI cs) : s.had = cs :=
  (sum_le s.had cs h.len (fun k hk => (h.had k (by have := h.len; omega)).2)).2 (by rw [h.sum, e])

/-- Who stands so far down the list. -/
def ordN (cs : List Int) (p : Nat) : Nat := ((byW cs cs.length).getD p 0).toNat

theorem ordN_get {cs : List Int} {p : Nat} (h : p < cs.length) : (byW cs cs.length).getD p 0 = (ordN cs p : Int) := by
  obtain ⟨j, _, e⟩ := byW_get cs cs.length p h
  rw [ordN, e]; rfl

theorem ordN_lt {cs : List Int} {p : Nat} (h : p < cs.length) : ordN cs p < cs.length := by
  obtain ⟨j, hj, e⟩ := byW_get cs cs.length p h
  rw [ordN, e]; exact hj

def lef (cs hs : List Int) (k : Nat) : Int := cs.getD k 0 - hs.getD k 0

/-- A cycle that is over begins anew. -/
def lsFresh (cs : List Int) (s : Ls) : Ls := if s.turns = sumI cs then ⟨List.replicate cs.length 0, 0, 0⟩ else s

def lsWho (cs : List Int) (s : Ls) : Nat := ordN cs s.pos

def lsGoes (cs hs : List Int) (t : Int) (k n : Nat) : Bool := decide (lef cs hs k < lef cs hs n) || decide (hs.getD n 0 * sumI cs < (t + 1) * cs.getD n 0)

def lsHad (cs : List Int) (s : Ls) : List Int := s.had.set (lsWho cs s) (s.had.getD (lsWho cs s) 0 + 1)

def lsNext (cs : List Int) (s : Ls) : Nat := if s.pos + 1 = cs.length then 0 else if lsGoes cs (lsHad cs s) (s.turns + 1) (lsWho cs s) (ordN cs (s.pos + 1)) then s.pos + 1 else 0

def lsTook (cs : List Int) (s : Ls) : Ls := ⟨lsHad cs s, s.turns + 1, lsNext cs s⟩

def lsStuck (cs : List Int) (s : Ls) : Bool := decide (lef cs s.had (lsWho cs s) = 0)

def lsStep (cs : List Int) (s : Ls) : Ls := lsTook cs (lsFresh cs s)

def lsCan (cs : List Int) (s : Ls) : Bool := !lsStuck cs (lsFresh cs s)

theorem replicate_get (n k : Nat) : (List.replicate n (0 : Int)).getD k 0 = 0 := by
  by_cases h : k < n
  · simp [List.getD, h]
  · simp [List.getD, h]

theorem right_new {cs : List Int} (h : crewOk cs = true) : Right cs ⟨List.replicate cs.length 0, 0, 0⟩ := by
  have h1 := crew_len h
  refine ⟨h, by simp, by show 0 < _; omega, fun k hk => ?_, sum_zeros _⟩
  have h2 := crew_get h k
  show 0 ≤ (List.replicate cs.length (0 : Int)).getD k 0 ∧ (List.replicate cs.length (0 : Int)).getD k 0 ≤ _
  rw [replicate_get]
  omega

theorem Right.fresh {cs : List Int} {s : Ls} (h : Right cs s) : Right cs (lsFresh cs s) := by
  unfold lsFresh
  split
  · exact right_new h.crew
  · exact h

theorem Right.took {cs : List Int} {s : Ls} (h : Right cs s) (hs : lsStuck cs s = false) : Right cs (lsTook cs s) := by
  have hk : lsWho cs s < cs.length := ordN_lt h.lt
  have hb := h.had _ hk
  have hne : lef cs s.had (lsWho cs s) ≠ 0 := by simpa [lsStuck] using hs
  unfold lef at hne
  refine ⟨h.crew, by show (lsHad cs s).length = _; rw [lsHad, List.length_set]; exact h.len, ?_, fun k hk' => ?_, ?_⟩
  · show lsNext cs s < _
    unfold lsNext
    have := h.lt
    split
    · omega
    · split <;> omega
  · show 0 ≤ (lsHad cs s).getD k 0 ∧ (lsHad cs s).getD k 0 ≤ _
    rw [lsHad, getD_set _ _ _ _ (by rw [h.len]; exact hk)]
    have := h.had k hk'
    split
    · rename_i e; rw [e]; omega
    · exact this
  · show sumI (lsHad cs s) = s.turns + 1
    rw [lsHad, sumI_set _ _ _ (by rw [h.len]; exact hk), h.sum]
    omega

theorem Right.step {cs : List Int} {s : Ls} (h : Right cs s) (hc : lsCan cs s = true) : Right cs (lsStep cs s) :=
  h.fresh.took (by simpa [lsCan] using hc)

/-- Behind so many turns. -/
def lsAt (cs : List Int) (s : Ls) : Nat → Ls
  | 0 => s
  | k + 1 => lsStep cs (lsAt cs s k)

def lsOkTo (cs : List Int) (s : Ls) : Nat → Bool
  | 0 => true
  | k + 1 => lsOkTo cs s k && lsCan cs (lsAt cs s k)

def lsTaken (cs : List Int) (s : Ls) : Nat → List Int
  | 0 => []
  | k + 1 => lsTaken cs s k ++ [(lsWho cs (lsFresh cs (lsAt cs s k)) : Int)]

theorem lsTaken_length (cs : List Int) (s : Ls) (k : Nat) : (lsTaken cs s k).length = k := by
  induction k with
  | zero => rfl
  | succ k ih => simp [lsTaken, ih]

theorem lsOkTo_le {cs : List Int} {s : Ls} {k j : Nat} (h : lsOkTo cs s k = true) (hj : j ≤ k) : lsOkTo cs s j = true := by
  induction k with
  | zero => have : j = 0 := by omega
            subst this; exact h
  | succ k ih =>
    by_cases e : j = k + 1
    · subst e; exact h
    · simp only [lsOkTo, Bool.and_eq_true] at h
      exact ih h.1 (by omega)

theorem lsOkTo_false {cs : List Int} {s : Ls} {k j : Nat} (h : lsOkTo cs s k = false) (hj : k ≤ j) : lsOkTo cs s j = false := by
  cases e : lsOkTo cs s j
  · rfl
  · rw [lsOkTo_le e hj] at h; cases h

theorem Right.at {cs : List Int} {s : Ls} (h : Right cs s) {k : Nat} (ho : lsOkTo cs s k = true) : Right cs (lsAt cs s k) := by
  induction k with
  | zero => exact h
  | succ k ih =>
    simp only [lsOkTo, Bool.and_eq_true] at ho
    exact (ih ho.1).step ho.2

theorem lsAt_add (cs : List Int) (s : Ls) (j k : Nat) : lsAt cs s (j + k) = lsAt cs (lsAt cs s j) k := by
  induction k with
  | zero => rfl
  | succ k ih => rw [← Nat.add_assoc, lsAt, ih]; rfl

theorem lsTaken_add (cs : List Int) (s : Ls) (j k : Nat) : lsTaken cs s (j + k) = lsTaken cs s j ++ lsTaken cs (lsAt cs s j) k := by
  induction k with
  | zero => simp [lsTaken]
  | succ k ih => rw [← Nat.add_assoc, lsTaken, ih, lsTaken, lsAt_add, List.append_assoc]

theorem lsOkTo_add {cs : List Int} {s : Ls} {j k : Nat} (h : lsOkTo cs s (j + k) = true) : lsOkTo cs (lsAt cs s j) k = true := by
  induction k with
  | zero => rfl
  | succ k ih =>
    rw [← Nat.add_assoc] at h
    simp only [lsOkTo, Bool.and_eq_true] at h ⊢
    exact ⟨ih h.1, by rw [← lsAt_add]; exact h.2⟩

/-- What ListNext answers. -/
def lnOk (cs hs : List Int) (t p : Int) : Bool := listOk cs hs t p && lsCan cs ⟨hs, t, p.toNat⟩

def lnC (cs hs : List Int) (t p : Int) : List Int := if lnOk cs hs t p then cs else []

def lnH (cs hs : List Int) (t p : Int) : List Int := if lnOk cs hs t p then (lsStep cs ⟨hs, t, p.toNat⟩).had else []

def lnT (cs hs : List Int) (t p : Int) : Int := if lnOk cs hs t p then (lsStep cs ⟨hs, t, p.toNat⟩).turns else 0

def lnP (cs hs : List Int) (t p : Int) : Int := if lnOk cs hs t p then ((lsStep cs ⟨hs, t, p.toNat⟩).pos : Int) else 0

def lnK (cs hs : List Int) (t p : Int) : Int := if lnOk cs hs t p then (lsWho cs (lsFresh cs ⟨hs, t, p.toNat⟩) : Int) else -1

theorem ln_no {cs hs : List Int} {t p : Int} (h : lnOk cs hs t p = false) : lnC cs hs t p = [] ∧ lnH cs hs t p = [] ∧ lnT cs hs t p = 0 ∧ lnP cs hs t p = 0 ∧ lnK cs hs t p = -1 := by
  simp [lnC, lnH, lnT, lnP, lnK, h]

theorem ln_yes {cs hs : List Int} {t p : Int} (h : lnOk cs hs t p = true) : lnC cs hs t p = cs ∧ lnH cs hs t p = (lsStep cs ⟨hs, t, p.toNat⟩).had ∧ lnT cs hs t p = (lsStep cs ⟨hs, t, p.toNat⟩).turns ∧ lnP cs hs t p = ((lsStep cs ⟨hs, t, p.toNat⟩).pos : Int) ∧ lnK cs hs t p = (lsWho cs (lsFresh cs ⟨hs, t, p.toNat⟩) : Int) := by
  simp [lnC, lnH, lnT, lnP, lnK, h]

theorem ln_right {cs : List Int} {s : Ls} (h : Right cs s) : lnOk cs s.had s.turns s.pos = lsCan cs s := by
  rw [lnOk, h.ok, Int.toNat_natCast]; rfl

theorem ln_len (cs hs : List Int) (t p : Int) : (lnC cs hs t p).length ≤ 24 ∧ (lnH cs hs t p).length ≤ 24 := by
  cases h : lnOk cs hs t p
  · have := ln_no h
    rw [this.1, this.2.1]; simp
  · have e := ln_yes h
    rw [e.1, e.2.1]
    simp only [lnOk, Bool.and_eq_true] at h
    obtain ⟨n, rfl, R⟩ := right_of h.1
    rw [Int.toNat_natCast] at h ⊢
    have := (R.step h.2).len
    have := crew_len R.crew
    omega

/-- What ListRun answers. -/
def lrOk (cs hs : List Int) (t p n : Int) : Bool := listOk cs hs t p && within n 0 3000 && lsOkTo cs ⟨hs, t, p.toNat⟩ n.toNat

def lrC (cs hs : List Int) (t p n : Int) : List Int := if lrOk cs hs t p n then cs else []

def lrH (cs hs : List Int) (t p n : Int) : List Int := if lrOk cs hs t p n then (lsAt cs ⟨hs, t, p.toNat⟩ n.toNat).had else []

def lrT (cs hs : List Int) (t p n : Int) : Int := if lrOk cs hs t p n then (lsAt cs ⟨hs, t, p.toNat⟩ n.toNat).turns else 0

def lrP (cs hs : List Int) (t p n : Int) : Int := if lrOk cs hs t p n then ((lsAt cs ⟨hs, t, p.toNat⟩ n.toNat).pos : Int) else 0

def lrL (cs hs : List Int) (t p n : Int) : List Int := if lrOk cs hs t p n then lsTaken cs ⟨hs, t, p.toNat⟩ n.toNat else []

theorem lr_no {cs hs : List Int} {t p n : Int} (h : lrOk cs hs t p n = false) : lrC cs hs t p n = [] ∧ lrH cs hs t p n = [] ∧ lrT cs hs t p n = 0 ∧ lrP cs hs t p n = 0 ∧ lrL cs hs t p n = [] := by
  simp [lrC, lrH, lrT, lrP, lrL, h]

theorem lr_yes {cs hs : List Int} {t p n : Int} (h : lrOk cs hs t p n = true) : lrC cs hs t p n = cs ∧ lrH cs hs t p n = (lsAt cs ⟨hs, t, p.toNat⟩ n.toNat).had ∧ lrT cs hs t p n = (lsAt cs ⟨hs, t, p.toNat⟩ n.toNat).turns ∧ lrP cs hs t p n = ((lsAt cs ⟨hs, t, p.toNat⟩ n.toNat).pos : Int) ∧ lrL cs hs t p n = lsTaken cs ⟨hs, t, p.toNat⟩ n.toNat := by
  simp [lrC, lrH, lrT, lrP, lrL, h]

theorem lr_parts {cs hs : List Int} {t p n : Int} (h : lrOk cs hs t p n = true) : listOk cs hs t p = true ∧ 0 ≤ n ∧ n ≤ 3000 ∧ lsOkTo cs ⟨hs, t, p.toNat⟩ n.toNat = true := by
  simp only [lrOk, Bool.and_eq_true] at h
  have := within_yes h.1.2
  exact ⟨h.1.1, this.1, this.2, h.2⟩

theorem lr_len (cs hs : List Int) (t p n : Int) : (lrC cs hs t p n).length ≤ 24 ∧ (lrH cs hs t p n).length ≤ 24 ∧ (lrL cs hs t p n).length ≤ 3000 := by
  cases h : lrOk cs hs t p n
  · have := lr_no h
    rw [this.1, this.2.1, this.2.2.2.2]; simp
  · have e := lr_yes h
    rw [e.1, e.2.1, e.2.2.2.2, lsTaken_length]
    obtain ⟨h1, h2, h3, h4⟩ := lr_parts h
    obtain ⟨m, rfl, R⟩ := right_of h1
    rw [Int.toNat_natCast] at h4 ⊢
    have := (R.at h4).len
    have := crew_len R.crew
    omega

/-- What LeftOf answers. -/
def leftL (cs hs : List Int) : List Int := (List.range cs.length).map (fun i => lef cs hs (ordN cs i))

theorem leftL_length (cs hs : List Int) : (leftL cs hs).length = cs.length := by simp [leftL]

theorem leftL_get (cs hs : List Int) {k : Nat} (h : k < cs.length) : (leftL cs hs).getD k 0 = lef cs hs (ordN cs k) := by simp [leftL, List.getD, h]

def leftOf (cs hs : List Int) (t p : Int) : List Int := if listOk cs hs t p then leftL cs hs else []

end Go.Proofs.YtcmeimfjedakeaaGreat.Crew
