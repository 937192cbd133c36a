/-
  Putting numbers into a list one by one, each behind those that it does not go ahead of. Plain lists; nothing of the program.
-/
namespace Go.Proofs.YtcmeimfjedakeaaGreat.Crew

/-- How far down from place k on the new one goes: past all that it goes ahead of. -/
def posOf (f : Int → Bool) (out : List Int) : Nat → Nat
  | 0 => 0
  | k + 1 => if f (out.getD k 0) then posOf f out k else k + 1

theorem posOf_le (f : Int → Bool) (out : List Int) (k : Nat) : posOf f out k ≤ k := by
  induction k with
  | zero => simp [posOf]
  | succ k ih => simp only [posOf]; split <;> omega

def insertBy (f : Int → Bool) (x : Int) (out : List Int) : List Int := out.take (posOf f out out.length) ++ x :: out.drop (posOf f out out.length)

/-- All of xs, put in one after the other. -/
def sortedBy (ah : Int → Int → Bool) (xs : List Int) : List Int := xs.foldl (fun out x => insertBy (ah x) x out) []

theorem insertBy_length (f : Int → Bool) (x : Int) (out : List Int) : (insertBy f x out).length = out.length + 1 := by
  have := posOf_le f out out.length
  simp [insertBy]
  omega

theorem sortedBy_step (ah : Int → Int → Bool) (xs : List Int) (x : Int) : sortedBy ah (xs ++ [x]) = insertBy (ah x) x (sortedBy ah xs) := by simp [sortedBy, List.foldl_append]

theorem sortedBy_length (ah : Int → Int → Bool) (n : Nat) : ∀ xs : List Int, xs.length = n → (sortedBy ah xs).length = n := by
  induction n with
  | zero => intro xs h; simp at h; subst h; rfl
  | succ n ih =>
    intro xs h
    obtain ⟨ys, y, rfl⟩ : ∃ ys y, xs = ys ++ [y] := ⟨xs.dropLast, xs.getLast (by intro e; simp [e] at h), (List.dropLast_concat_getLast _).symm⟩
    rw [sortedBy_step, insertBy_length, ih ys (by simpa using h)]

theorem mem_insertBy {f : Int → Bool} {x y : Int} {out : List Int} (h : y ∈ insertBy f x out) : y = x ∨ y ∈ out := by
  simp only [insertBy, List.mem_append, List.mem_cons] at h
  rcases h with h | h | h
  · exact .inr (List.mem_of_mem_take h)
  · exact .inl h
  · exact .inr (List.mem_of_mem_drop h)

theorem mem_sortedBy {ah : Int → Int → Bool} {y : Int} (n : Nat) : ∀ xs : List Int, xs.length = n → y ∈ sortedBy ah xs → y ∈ xs := by
  induction n with
  | zero => intro xs h; simp at h; subst h; simp [sortedBy]
  | succ n ih =>
    intro xs h hy
    obtain ⟨ys, z, rfl⟩ : ∃ ys z, xs = ys ++ [z] := ⟨xs.dropLast, xs.getLast (by intro e; simp [e] at h), (List.dropLast_concat_getLast _).symm⟩
    rw [sortedBy_step] at hy
    rcases mem_insertBy hy with h' | h'
    · simp [h']
    · have := ih ys (by simpa using h) h'
      simp [this]

/-- The numbers from 0 on. -/
def nums (n : Nat) : List Int := (List.range n).map (fun i : Nat => (i : Int))
theorem nums_length (n : Nat) : (nums n).length = n := by simp [nums]
theorem nums_get (n i : Nat) (h : i < n) : (nums n).getD i 0 = i := by simp [nums, List.getD, h]
theorem nums_succ (n : Nat) : nums (n + 1) = nums n ++ [(n : Int)] := by simp [nums, List.range_succ]
theorem mem_nums {n : Nat} {y : Int} (h : y ∈ nums n) : ∃ j : Nat, j < n ∧ y = j := by
  simp [nums] at h
  obtain ⟨j, h1, h2⟩ := h
  exact ⟨j, h1, h2.symm⟩

/-- Is the weight of number x more than that of number y? -/
def heavier (ws : List Int) (x y : Int) : Bool := decide (ws.getD y.toNat 0 < ws.getD x.toNat 0)

theorem heavier_yes {ws : List Int} {p q : Int} {n j : Nat} (hp : p = ws.getD j 0) (hq : q = ws.getD n 0) (h : p < q) : heavier ws n j = true := by
  subst hp hq
  simpa [heavier] using h

theorem heavier_no {ws : List Int} {p q : Int} {n j : Nat} (hp : p = ws.getD j 0) (hq : q = ws.getD n 0) (h : ¬ p < q) : heavier ws n j = false := by
  subst hp hq
  simpa [heavier] using h

/-- The numbers of a crew, the heavier ones first, of one weight the lesser number; of the first k alone. -/
def byW (ws : List Int) (k : Nat) : List Int := sortedBy (heavier ws) (nums k)
theorem byW_length (ws : List Int) (k : Nat) : (byW ws k).length = k := sortedBy_length _ k _ (nums_length k)
theorem byW_succ (ws : List Int) (k : Nat) : byW ws (k + 1) = insertBy (heavier ws k) k (byW ws k) := by rw [byW, nums_succ, sortedBy_step]; rfl
theorem byW_mem {ws : List Int} {k : Nat} {y : Int} (h : y ∈ byW ws k) : ∃ j : Nat, j < k ∧ y = j := mem_nums (mem_sortedBy k _ (nums_length k) h)
theorem byW_get (ws : List Int) (k i : Nat) (h : i < k) : ∃ j : Nat, j < k ∧ (byW ws k).getD i 0 = j := by
  have hl : i < (byW ws k).length := by rw [byW_length]; exact h
  have : (byW ws k).getD i 0 = (byW ws k)[i] := by simp [List.getD, hl]
  rw [this]
  exact byW_mem (List.getElem_mem hl)

end Go.Proofs.YtcmeimfjedakeaaGreat.Crew
