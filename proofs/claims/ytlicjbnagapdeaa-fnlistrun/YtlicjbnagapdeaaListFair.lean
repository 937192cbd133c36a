/-
  Down the list, in numbers: nobody is ever stuck from a new list on, what is left rises by one at most and only where it stands, each cycle gives each one its weight.
-/
import Derived.Test.YtlicjbnagapdeaaListMath
namespace Go.Proofs.Ytlicjbnagapdeaa.Crew

theorem insertBy_perm (f : Int → Bool) (x : Int) (out : List Int) : (insertBy f x out).Perm (x :: out) := by
  unfold insertBy
  have h := List.perm_middle (a := x) (l₁ := out.take (posOf f out out.length)) (l₂ := out.drop (posOf f out out.length))
  rwa [List.take_append_drop] at h

theorem byW_perm (ws : List Int) (k : Nat) : (byW ws k).Perm (nums k) := by
  induction k with
  | zero => exact List.Perm.refl _
  | succ k ih =>
    rw [byW_succ, nums_succ]
    exact ((insertBy_perm _ _ _).trans (ih.cons _)).trans (List.perm_append_singleton _ _).symm

theorem nums_nodup (k : Nat) : (nums k).Nodup := by
  unfold nums List.Nodup
  rw [List.pairwise_map]
  exact (List.nodup_range (n := k)).imp (fun h e => h (by omega))

theorem ordN_inj {cs : List Int} {i j : Nat} (hi : i < cs.length) (hj : j < cs.length) (h : ordN cs i = ordN cs j) : i = j := by
  have hn : (byW cs cs.length).Nodup := (byW_perm cs cs.length).symm.nodup (nums_nodup _)
  have e : (byW cs cs.length).getD i 0 = (byW cs cs.length).getD j 0 := by rw [ordN_get hi, ordN_get hj, h]
  have li : i < (byW cs cs.length).length := by rw [byW_length]; exact hi
  have lj : j < (byW cs cs.length).length := by rw [byW_length]; exact hj
  simp only [List.getD, List.getElem?_eq_getElem li, List.getElem?_eq_getElem lj, Option.getD_some] at e
  unfold List.Nodup at hn
  rw [List.pairwise_iff_getElem] at hn
  rcases Nat.lt_trichotomy i j with h1 | h1 | h1
  · exact absurd e (hn i j li lj h1)
  · exact h1
  · exact absurd e.symm (hn j i lj li h1)

theorem ordN_onto {cs : List Int} {k : Nat} (hk : k < cs.length) : ∃ i, i < cs.length ∧ ordN cs i = k := by
  have hm : (k : Int) ∈ byW cs cs.length := by
    rw [(byW_perm cs cs.length).mem_iff]
    unfold nums
    rw [List.mem_map]
    exact ⟨k, by simpa using hk, rfl⟩
  obtain ⟨i, hi, e⟩ := List.getElem_of_mem hm
  rw [byW_length] at hi
  refine ⟨i, hi, ?_⟩
  rw [ordN, List.getD, List.getElem?_eq_getElem (by rw [byW_length]; exact hi), Option.getD_some, e]
  rfl

/-- What is left, down the list. -/
def lft (cs : List Int) (s : Ls) (i : Nat) : Int := lef cs s.had (ordN cs i)

/-- What holds of a list from a new one on. -/
structure Fine (cs : List Int) (s : Ls) : Prop where
  right : Right cs s
  down : ∀ i, 0 < i → i < cs.length → lft cs s i ≤ lft cs s (i - 1) + 1 ∧ (lft cs s (i - 1) < lft cs s i → i = s.pos)
  free : s.turns = sumI cs ∨ 0 < lft cs s s.pos

theorem lft_new {cs : List Int} (i : Nat) : lft cs ⟨List.replicate cs.length 0, 0, 0⟩ i = cs.getD (ordN cs i) 0 := by
  show cs.getD (ordN cs i) 0 - (List.replicate cs.length (0 : Int)).getD (ordN cs i) 0 = _
  rw [replicate_get]; omega

theorem fine_new {cs : List Int} (h : crewOk cs = true) : Fine cs ⟨List.replicate cs.length 0, 0, 0⟩ := by
  have h1 := crew_len h
  refine ⟨right_new h, fun i h0 hi => ?_, .inr ?_⟩
  · rw [lft_new, lft_new]
    obtain ⟨x, y, hx, hy, e1, e2, h2, _⟩ := byW_next cs cs.length i h0 hi
    have e3 : ordN cs (i - 1) = x := by rw [ordN, e1]; rfl
    have e4 : ordN cs i = y := by rw [ordN, e2]; rfl
    rw [e3, e4]
    exact ⟨by omega, fun h => absurd h h2⟩
  · show 0 < lft cs ⟨List.replicate cs.length 0, 0, 0⟩ 0
    rw [lft_new]
    have h2 := get_within (fun n hn => crew_mem h hn) (k := ordN cs 0) (ordN_lt (by omega))
    omega

theorem Fine.fresh {cs : List Int} {s : Ls} (h : Fine cs s) : Fine cs (lsFresh cs s) ∧ 0 < lft cs (lsFresh cs s) (lsFresh cs s).pos ∧ (lsFresh cs s).turns < sumI cs := by
  unfold lsFresh
  split
  · have hb := h.right.bounds
    have f := fine_new h.right.crew
    refine ⟨f, ?_, ?_⟩
    · rcases f.free with e | e
      · have : (0 : Int) = sumI cs := e
        omega
      · exact e
    · show (0 : Int) < sumI cs
      omega
  · rename_i hn
    have hb := h.right.bounds
    refine ⟨h, ?_, by omega⟩
    rcases h.free with e | e
    · exact absurd e hn
    · exact e

theorem Fine.can {cs : List Int} {s : Ls} (h : Fine cs s) : lsCan cs s = true := by
  have h1 := h.fresh.2.1
  rw [lsCan, lsStuck]
  have h2 : ¬ lef cs (lsFresh cs s).had (lsWho cs (lsFresh cs s)) = 0 := by
    intro e
    have : lft cs (lsFresh cs s) (lsFresh cs s).pos = 0 := e
    omega
  rw [decide_eq_false h2]; rfl

/-- Falling from a place on that is no more than what is ahead. -/
theorem falls {cs : List Int} {s : Ls} (h : ∀ i, 0 < i → i < cs.length → lft cs s i ≤ lft cs s (i - 1)) (i : Nat) (hi : i < cs.length) : lft cs s i ≤ lft cs s 0 := by
  induction i with
  | zero => exact Int.le_refl _
  | succ i ih =>
    have h1 := h (i + 1) (by omega) hi
    have h2 := ih (by omega)
    simp only [Nat.add_sub_cancel] at h1
    omega

theorem head_free {cs : List Int} {s : Ls} (R : Right cs s) (h : ∀ i, 0 < i → i < cs.length → lft cs s i ≤ lft cs s (i - 1)) : s.turns = sumI cs ∨ 0 < lft cs s 0 := by
  by_cases e : s.turns = sumI cs
  · exact .inl e
  · right
    by_cases h0 : 0 < lft cs s 0
    · exact h0
    · exfalso
      apply e
      have hall : s.had = cs := by
        apply List.ext_getElem R.len
        intro k h1 h2
        obtain ⟨i, hi, ei⟩ := ordN_onto (cs := cs) (k := k) h2
        have h3 := falls h i hi
        have h4 : lft cs s i = cs.getD k 0 - s.had.getD k 0 := by rw [lft, lef, ei]
        have h5 := R.had k h2
        have e1 : s.had.getD k 0 = s.had[k] := by simp [List.getD, h1]
        have e2 : cs.getD k 0 = cs[k] := by simp [List.getD, h2]
        rw [e1, e2] at h4 h5
        omega
      rw [← R.sum, hall]

theorem Fine.took {cs : List Int} {s : Ls} (h : Fine cs s) (hf : 0 < lft cs s s.pos) (ht : s.turns < sumI cs) : Fine cs (lsTook cs s) := by
  have R := h.right
  have hp := R.lt
  have hst : lsStuck cs s = false := by
    rw [lsStuck]
    apply decide_eq_false
    intro e
    have : lft cs s s.pos = 0 := e
    omega
  have R2 := R.took hst
  have hk : lsWho cs s < cs.length := ordN_lt hp
  have hb := R.bounds
  -- what is left of each one then
  have L : ∀ i, i < cs.length → lft cs (lsTook cs s) i = if i = s.pos then lft cs s i - 1 else lft cs s i := by
    intro i hi
    show cs.getD (ordN cs i) 0 - (lsHad cs s).getD (ordN cs i) 0 = _
    rw [lsHad, getD_set _ _ _ _ (by rw [R.len]; exact hk)]
    by_cases e : i = s.pos
    · subst e
      rw [if_pos rfl, if_pos (show ordN cs s.pos = lsWho cs s from rfl)]
      show cs.getD (lsWho cs s) 0 - (s.had.getD (lsWho cs s) 0 + 1) = (cs.getD (lsWho cs s) 0 - s.had.getD (lsWho cs s) 0) - 1
      omega
    · rw [if_neg e, if_neg (fun h : ordN cs i = lsWho cs s => e (ordN_inj hi hp h))]
      rfl
  have Lp := L s.pos hp
  rw [if_pos rfl] at Lp
  have nn : ∀ i, i < cs.length → 0 ≤ lft cs (lsTook cs s) i := by
    intro i hi
    have := R2.had (ordN cs i) (ordN_lt hi)
    show 0 ≤ cs.getD (ordN cs i) 0 - (lsTook cs s).had.getD (ordN cs i) 0
    omega
  -- but at the next one, all fall
  have D : ∀ i, 0 < i → i < cs.length → i ≠ s.pos + 1 → lft cs (lsTook cs s) i ≤ lft cs (lsTook cs s) (i - 1) := by
    intro i h0 hi hne
    obtain ⟨d1, d2⟩ := h.down i h0 hi
    rw [L i hi, L (i - 1) (by omega)]
    rw [if_neg (show ¬ i - 1 = s.pos by omega)]
    by_cases e : i = s.pos
    · rw [if_pos e]; omega
    · rw [if_neg e]
      by_cases h1 : lft cs s (i - 1) < lft cs s i
      · exact absurd (d2 h1) e
      · omega
  by_cases hend : s.pos + 1 = cs.length
  · have epos : (lsTook cs s).pos = 0 := by show lsNext cs s = 0; rw [lsNext, if_pos hend]
    have D' : ∀ i, 0 < i → i < cs.length → lft cs (lsTook cs s) i ≤ lft cs (lsTook cs s) (i - 1) := fun i h0 hi => D i h0 hi (by omega)
    refine ⟨R2, fun i h0 hi => ⟨by have := D' i h0 hi; omega, fun h1 => by have := D' i h0 hi; omega⟩, ?_⟩
    rw [epos]
    exact head_free R2 D'
  · have hn : s.pos + 1 < cs.length := by omega
    have Ln := L (s.pos + 1) hn
    rw [if_neg (by omega)] at Ln
    obtain ⟨d1, d2⟩ := h.down (s.pos + 1) (by omega) hn
    simp only [Nat.add_sub_cancel] at d1 d2
    have d3 : lft cs s (s.pos + 1) ≤ lft cs s s.pos := by
      by_cases h1 : lft cs s s.pos < lft cs s (s.pos + 1)
      · have := d2 h1; omega
      · omega
    have enext : (lsTook cs s).pos = if lsGoes cs (lsHad cs s) (s.turns + 1) (lsWho cs s) (ordN cs (s.pos + 1)) then s.pos + 1 else 0 := by
      show lsNext cs s = _
      rw [lsNext, if_neg hend]
    by_cases hA : lft cs (lsTook cs s) s.pos < lft cs (lsTook cs s) (s.pos + 1)
    · have eg : lsGoes cs (lsHad cs s) (s.turns + 1) (lsWho cs s) (ordN cs (s.pos + 1)) = true := by
        rw [lsGoes]
        have : lef cs (lsHad cs s) (lsWho cs s) < lef cs (lsHad cs s) (ordN cs (s.pos + 1)) := hA
        simp [this]
      rw [eg, if_pos rfl] at enext
      refine ⟨R2, fun i h0 hi => ?_, ?_⟩
      · by_cases e : i = s.pos + 1
        · subst e
          simp only [Nat.add_sub_cancel]
          exact ⟨by omega, fun _ => enext.symm⟩
        · have := D i h0 hi e
          exact ⟨by omega, fun h1 => by omega⟩
      · rw [enext]
        right
        have := nn s.pos hp
        omega
    · have D' : ∀ i, 0 < i → i < cs.length → lft cs (lsTook cs s) i ≤ lft cs (lsTook cs s) (i - 1) := by
        intro i h0 hi
        by_cases e : i = s.pos + 1
        · subst e
          simp only [Nat.add_sub_cancel]
          omega
        · exact D i h0 hi e
      refine ⟨R2, fun i h0 hi => ⟨by have := D' i h0 hi; omega, fun h1 => by have := D' i h0 hi; omega⟩, ?_⟩
      rw [enext]
      by_cases hg : lsGoes cs (lsHad cs s) (s.turns + 1) (lsWho cs s) (ordN cs (s.pos + 1)) = true
      · rw [if_pos hg]
        have hB : (lsHad cs s).getD (ordN cs (s.pos + 1)) 0 * sumI cs < (s.turns + 1 + 1) * cs.getD (ordN cs (s.pos + 1)) 0 := by
          rw [lsGoes, Bool.or_eq_true] at hg
          rcases hg with h1 | h1
          · exact absurd (of_decide_eq_true h1) hA
          · exact of_decide_eq_true h1
        by_cases h0 : 0 < lft cs (lsTook cs s) (s.pos + 1)
        · exact .inr h0
        · left
          have e0 := nn (s.pos + 1) hn
          have e1 : (lsHad cs s).getD (ordN cs (s.pos + 1)) 0 = cs.getD (ordN cs (s.pos + 1)) 0 := by
            have : lft cs (lsTook cs s) (s.pos + 1) = cs.getD (ordN cs (s.pos + 1)) 0 - (lsHad cs s).getD (ordN cs (s.pos + 1)) 0 := rfl
            omega
          rw [e1, Int.mul_comm] at hB
          have hc := get_within (fun n hn => crew_mem R.crew hn) (k := ordN cs (s.pos + 1)) (ordN_lt hn)
          have h2 := Int.lt_of_mul_lt_mul_right hB (by omega)
          show s.turns + 1 = sumI cs
          omega
      · have hg' : lsGoes cs (lsHad cs s) (s.turns + 1) (lsWho cs s) (ordN cs (s.pos + 1)) = false := by
          cases h1 : lsGoes cs (lsHad cs s) (s.turns + 1) (lsWho cs s) (ordN cs (s.pos + 1))
          · rfl
          · exact absurd h1 hg
        rw [hg']
        exact head_free R2 D'

theorem Fine.step {cs : List Int} {s : Ls} (h : Fine cs s) : Fine cs (lsStep cs s) := h.fresh.1.took h.fresh.2.1 h.fresh.2.2

theorem Fine.at {cs : List Int} {s : Ls} (h : Fine cs s) (k : Nat) : Fine cs (lsAt cs s k) ∧ lsOkTo cs s k = true := by
  induction k with
  | zero => exact ⟨h, rfl⟩
  | succ k ih => exact ⟨ih.1.step, by rw [lsOkTo, ih.2, ih.1.can]; rfl⟩

/-- In a cycle: so many turns of it have been, and what each one had in them. -/
structure Cyl (cs : List Int) (s : Ls) (ns : List Int) (t : Nat) : Prop where
  fine : Fine cs s
  had : (t = 0 ∧ ns = List.replicate cs.length 0 ∧ ((s.turns = 0 ∧ s.had = List.replicate cs.length 0) ∨ s.turns = sumI cs)) ∨ (0 < t ∧ s.turns = t ∧ ns = s.had)

theorem Cyl.fresh {cs : List Int} {s : Ls} {ns : List Int} {t : Nat} (h : Cyl cs s ns t) (ht : (t : Int) < sumI cs) : (lsFresh cs s).turns = t ∧ (lsFresh cs s).had = ns := by
  unfold lsFresh
  have hb := h.fine.right.bounds
  rcases h.had with ⟨h0, h1, h2⟩ | ⟨h0, h1, h2⟩
  · rcases h2 with ⟨h3, h4⟩ | h3
    · rw [if_neg (by omega)]
      exact ⟨by omega, by rw [h4, h1]⟩
    · rw [if_pos h3]
      exact ⟨by show (0 : Int) = t; omega, h1.symm⟩
  · rw [if_neg (by omega)]
    exact ⟨h1, h2.symm⟩

theorem Cyl.step {cs : List Int} {s : Ls} {ns : List Int} {t : Nat} (h : Cyl cs s ns t) (ht : (t : Int) < sumI cs) : Cyl cs (lsStep cs s) (ns.set (lsWho cs (lsFresh cs s)) (ns.getD (lsWho cs (lsFresh cs s)) 0 + 1)) (t + 1) := by
  obtain ⟨h1, h2⟩ := h.fresh ht
  refine ⟨h.fine.step, .inr ⟨by omega, ?_, ?_⟩⟩
  · show (lsFresh cs s).turns + 1 = _
    rw [h1]; rfl
  · show _ = lsHad cs (lsFresh cs s)
    rw [lsHad, h2]

theorem Cyl.done {cs : List Int} {s : Ls} {ns : List Int} {t : Nat} (h : Cyl cs s ns t) (ht : (t : Int) = sumI cs) : ns = cs ∧ s.turns = sumI cs := by
  have hb := h.fine.right.bounds
  rcases h.had with ⟨h0, _⟩ | ⟨h0, h1, h2⟩
  · omega
  · have e : s.turns = sumI cs := by omega
    exact ⟨by rw [h2, h.fine.right.all e], e⟩

theorem Cyl.again {cs : List Int} {s : Ls} (h : Fine cs s) (e : s.turns = sumI cs) : Cyl cs s (List.replicate cs.length 0) 0 := ⟨h, .inl ⟨rfl, rfl, .inr e⟩⟩

theorem cyl_new {cs : List Int} (h : crewOk cs = true) : Cyl cs ⟨List.replicate cs.length 0, 0, 0⟩ (List.replicate cs.length 0) 0 := ⟨fine_new h, .inl ⟨rfl, rfl, .inl ⟨rfl, rfl⟩⟩⟩

end Go.Proofs.Ytlicjbnagapdeaa.Crew
