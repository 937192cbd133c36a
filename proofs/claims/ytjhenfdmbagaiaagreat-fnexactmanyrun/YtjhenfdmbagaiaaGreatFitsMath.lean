/-
  Whether Shares fit on some processors: the one Den and the Nums together of those that are not whole (no code here).
-/
import Derived.Test.YtjhenfdmbagaiaaGreatWholeOf
namespace Go.Proofs.YtjhenfdmbagaiaaGreat.Crew
open Go.Proofs.YtjhenfdmbagaiaaGreat.Win

/-- One more of the Shares. -/
def partStep (s : Option (Int × Int)) (p : Shr) : Option (Int × Int) :=
  match s with
  | none => none
  | some q => if shareOk p.1 p.2 then (if p.1 = p.2 then some q else if q.1 ≠ 0 ∧ p.2 ≠ q.1 then none else some (p.2, q.2 + p.1)) else none

/-- The one Den and all Nums of those that are not whole; nothing where there are two Dens or one is not right. -/
def parts (ps : List Shr) : Option (Int × Int) := ps.foldl partStep (some (0, 0))

def procsOk (n : Int) : Bool := within n 1 8

def fitsOn (ps : List Shr) (n : Int) : Bool :=
  procsOk n && decide (ps.length ≤ 24) && (match parts ps with
    | none => false
    | some q => decide ((wholeN ps : Int) ≤ n) && decide (q.2 ≤ q.1 * (n - wholeN ps)))

theorem parts_step {ps : List Shr} {k : Nat} (h : k < ps.length) : parts (ps.take (k + 1)) = partStep (parts (ps.take k)) (ps.getD k (0, 0)) := by
  rw [show ps.getD k (0, 0) = ps[k] by simp [List.getD, h], parts, List.take_succ_eq_append_getElem h, List.foldl_append]
  rfl

theorem fold_none (ps : List Shr) : ps.foldl partStep none = none := by
  induction ps with
  | nil => rfl
  | cons p ps ih => exact ih

theorem parts_dead {ps : List Shr} {k : Nat} (h : parts (ps.take k) = none) : parts ps = none := by
  have e : parts ps = (ps.drop k).foldl partStep (parts (ps.take k)) := by
    rw [parts, parts, ← List.foldl_append, List.take_append_drop]
  rw [e, h, fold_none]

theorem step_bad {q : Int × Int} {p : Shr} (h : shareOk p.1 p.2 = false) : partStep (some q) p = none := by
  simp [partStep, h]

theorem step_whole {q : Int × Int} {p : Shr} (h : shareOk p.1 p.2 = true) (he : p.1 = p.2) : partStep (some q) p = some q := by
  rw [partStep, if_pos h, if_pos he]

theorem step_two {q : Int × Int} {p : Shr} (h : shareOk p.1 p.2 = true) (he : ¬ p.1 = p.2) (h0 : ¬ q.1 = 0) (h1 : ¬ p.2 = q.1) : partStep (some q) p = none := by
  rw [partStep, if_pos h, if_neg he, if_pos ⟨h0, h1⟩]

theorem step_more {q : Int × Int} {p : Shr} (h : shareOk p.1 p.2 = true) (he : ¬ p.1 = p.2) (h0 : q.1 = 0 ∨ p.2 = q.1) : partStep (some q) p = some (p.2, q.2 + p.1) := by
  rw [partStep, if_pos h, if_neg he, if_neg (fun x => by rcases h0 with h | h; exact x.1 h; exact x.2 h)]

theorem fits_none {ps : List Shr} {n : Int} (h : parts ps = none) : fitsOn ps n = false := by
  simp [fitsOn, h]

theorem fits_procs {ps : List Shr} {n : Int} (h : procsOk n = false) : fitsOn ps n = false := by
  simp [fitsOn, h]

theorem fits_long {ps : List Shr} {n : Int} (h : ¬ ps.length ≤ 24) : fitsOn ps n = false := by
  have : decide (ps.length ≤ 24) = false := decide_eq_false h
  simp [fitsOn, this]

theorem fits_many {ps : List Shr} {n : Int} (h : ¬ (wholeN ps : Int) ≤ n) : fitsOn ps n = false := by
  unfold fitsOn
  rw [Bool.and_eq_false_iff]
  right
  cases parts ps with
  | none => rfl
  | some q => simp [h]

theorem fits_is {ps : List Shr} {n : Int} {den sum : Int} (h0 : procsOk n = true) (h1 : ps.length ≤ 24) (h : parts ps = some (den, sum)) (hw : (wholeN ps : Int) ≤ n) : fitsOn ps n = decide (sum ≤ den * (n - wholeN ps)) := by
  unfold fitsOn
  rw [h0, h, decide_eq_true h1, decide_eq_true hw]
  simp

theorem procs_yes {n : Int} (h : procsOk n = true) : 1 ≤ n ∧ n ≤ 8 := by
  have := within_yes h
  omega

theorem den_mul {den d : Int} (h0 : 0 ≤ den) (h1 : den ≤ 100000000) (d0 : -24 ≤ d) (d1 : d ≤ 8) : -2400000000 ≤ den * d ∧ den * d ≤ 800000000 := by
  constructor
  · have := Int.mul_le_mul_of_nonneg_left d0 h0
    omega
  · have := Int.mul_le_mul_of_nonneg_left d1 h0
    omega

theorem fold_bd : ∀ (ps : List Shr) (o : Option (Int × Int)) (K : Int), (∀ q, o = some q → 0 ≤ q.1 ∧ q.1 ≤ 100000000 ∧ 0 ≤ q.2 ∧ q.2 ≤ 100000000 * K) → 0 ≤ K →
    ∀ q, ps.foldl partStep o = some q → 0 ≤ q.1 ∧ q.1 ≤ 100000000 ∧ 0 ≤ q.2 ∧ q.2 ≤ 100000000 * (K + ps.length) := by
  intro ps
  induction ps with
  | nil =>
    intro o K h hK q hq
    obtain ⟨h1, h2, h3, h4⟩ := h q hq
    refine ⟨h1, h2, h3, ?_⟩
    simpa using h4
  | cons p ps ih =>
    intro o K h hK q hq
    have := ih (partStep o p) (K + 1) ?_ (by omega) q hq
    · obtain ⟨h1, h2, h3, h4⟩ := this
      refine ⟨h1, h2, h3, ?_⟩
      simp only [List.length_cons]
      omega
    · intro r hr
      cases o with
      | none => simp [partStep] at hr
      | some t =>
        obtain ⟨h1, h2, h3, h4⟩ := h t rfl
        unfold partStep at hr
        simp only at hr
        split at hr
        · rename_i hok
          obtain ⟨x1, x2, y2⟩ := share_yes hok
          split at hr
          · cases hr
            exact ⟨h1, h2, h3, by omega⟩
          · split at hr
            · cases hr
            · cases hr
              simp only
              omega
        · cases hr

theorem parts_bd (ps : List Shr) (q : Int × Int) (h : parts ps = some q) : 0 ≤ q.1 ∧ q.1 ≤ 100000000 ∧ 0 ≤ q.2 ∧ q.2 ≤ 100000000 * (ps.length : Int) := by
  have := fold_bd ps (some (0, 0)) 0 (by intro q hq; cases hq; simp) (by omega) q h
  simpa using this

end Go.Proofs.YtjhenfdmbagaiaaGreat.Crew
