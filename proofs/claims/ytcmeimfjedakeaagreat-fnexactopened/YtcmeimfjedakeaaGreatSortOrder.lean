/-
  The numbers of a crew by weight are in order: the heavier ones first, of one weight the lesser number. Plain lists.
-/
import Derived.Test.YtcmeimfjedakeaaGreatSortMath
namespace Go.Proofs.YtcmeimfjedakeaaGreat.Crew

theorem posOf_past (f : Int → Bool) (out : List Int) (k : Nat) : ∀ j, posOf f out k ≤ j → j < k → f (out.getD j 0) = true := by
  induction k with
  | zero => intro j _ h; omega
  | succ k ih =>
    intro j h1 h2
    rw [posOf] at h1
    split at h1
    · rename_i hf
      by_cases hj : j = k
      · subst hj; exact hf
      · exact ih j h1 (by omega)
    · omega

theorem posOf_at (f : Int → Bool) (out : List Int) (k : Nat) : posOf f out k = 0 ∨ f (out.getD (posOf f out k - 1) 0) = false := by
  induction k with
  | zero => exact .inl rfl
  | succ k ih =>
    rw [posOf]
    split
    · exact ih
    · rename_i hf
      exact .inr (by simpa using hf)

/-- x stands ahead of y by right. -/
def Ahead (ws : List Int) (x y : Int) : Prop := ws.getD y.toNat 0 < ws.getD x.toNat 0 ∨ (ws.getD x.toNat 0 = ws.getD y.toNat 0 ∧ x ≤ y)

theorem Ahead.trans {ws : List Int} {x y z : Int} (h : Ahead ws x y) (k : Ahead ws y z) : Ahead ws x z := by
  unfold Ahead at *
  omega

theorem byW_ordered (ws : List Int) (k : Nat) : (byW ws k).Pairwise (Ahead ws) := by
  induction k with
  | zero => exact List.Pairwise.nil
  | succ k ih =>
    rw [byW_succ, insertBy, byW_length]
    have hle := posOf_le (heavier ws k) (byW ws k) k
    have hpast := posOf_past (heavier ws k) (byW ws k) k
    have hat := posOf_at (heavier ws k) (byW ws k) k
    generalize posOf (heavier ws k) (byW ws k) k = p at *
    have hl := byW_length ws k
    have hx : ∀ x ∈ (byW ws k).take p, Ahead ws x k := by
      intro x hx
      rcases hat with h0 | h0
      · subst h0; simp at hx
      · have hp0 : 0 < p := by
          cases p with
          | zero => simp at hx
          | succ p => omega
        obtain ⟨j, hj, hje⟩ := byW_get ws k (p - 1) (by omega)
        have hlast : Ahead ws ((byW ws k).getD (p - 1) 0) k := by
          rw [hje]
          rw [hje] at h0
          simp only [heavier, decide_eq_false_iff_not] at h0
          unfold Ahead
          omega
        obtain ⟨i, hi, hie⟩ := List.getElem_of_mem hx
        have hi' : i < p := by simp at hi; omega
        by_cases he : i = p - 1
        · have : x = (byW ws k).getD (p - 1) 0 := by
            rw [← hie, List.getElem_take]
            simp [List.getD, he, show p - 1 < (byW ws k).length by omega]
          rw [this]; exact hlast
        · have h1 := List.pairwise_iff_getElem.1 ih i (p - 1) (by omega) (by omega) (by omega)
          have h2 : x = (byW ws k)[i]'(by omega) := by rw [← hie, List.getElem_take]
          have h3 : (byW ws k).getD (p - 1) 0 = (byW ws k)[p - 1]'(by omega) := by simp [List.getD, show p - 1 < (byW ws k).length by omega]
          rw [← h2, ← h3] at h1
          exact h1.trans hlast
    have hy : ∀ y ∈ (byW ws k).drop p, Ahead ws k y := by
      intro y hy
      obtain ⟨i, hi, hie⟩ := List.getElem_of_mem hy
      have hi' : i < k - p := by simpa [hl] using hi
      have h1 := hpast (p + i) (by omega) (by omega)
      have h2 : (byW ws k).getD (p + i) 0 = y := by
        rw [← hie, List.getElem_drop]
        simp [List.getD, show p + i < (byW ws k).length by omega]
      rw [h2] at h1
      simp only [heavier, decide_eq_true_eq] at h1
      exact .inl h1
    rw [List.pairwise_append]
    refine ⟨ih.sublist (List.take_sublist _ _), List.pairwise_cons.2 ⟨hy, ih.sublist (List.drop_sublist _ _)⟩, ?_⟩
    intro x hx1 y hy1
    rcases List.mem_cons.1 hy1 with rfl | hy2
    · exact hx x hx1
    · exact (hx x hx1).trans (hy y hy2)

/-- Two that follow one another. -/
theorem byW_next (ws : List Int) (k i : Nat) (h0 : 0 < i) (h1 : i < k) : ∃ x y : Nat, x < k ∧ y < k ∧ (byW ws k).getD (i - 1) 0 = x ∧ (byW ws k).getD i 0 = y ∧ ¬ ws.getD x 0 < ws.getD y 0 ∧ (ws.getD x 0 = ws.getD y 0 → ¬ (y : Int) < (x : Int)) := by
  obtain ⟨x, hx, hxe⟩ := byW_get ws k (i - 1) (by omega)
  obtain ⟨y, hy, hye⟩ := byW_get ws k i h1
  have hl := byW_length ws k
  have h := List.pairwise_iff_getElem.1 (byW_ordered ws k) (i - 1) i (by omega) (by omega) (by omega)
  rw [show (byW ws k)[i - 1]'(by omega) = (x : Int) by rw [← hxe]; simp [List.getD, show i - 1 < (byW ws k).length by omega], show (byW ws k)[i]'(by omega) = (y : Int) by rw [← hye]; simp [List.getD, show i < (byW ws k).length by omega]] at h
  simp only [Ahead, Int.toNat_natCast] at h
  exact ⟨x, y, hx, hy, hxe, hye, by omega, by omega⟩

end Go.Proofs.YtcmeimfjedakeaaGreat.Crew
