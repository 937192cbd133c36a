/-
  Crews: is one right, and its weights together. spec's and impl's answer alike at every argument.
  All weights together: spec.l2Sum, spec.TotalOf and impl.TotalOf.
  Counts: are they right, and all turns together. spec's and impl's answer alike at every two slices.
-/
import Derived.Test.YtfmcnamjhnnimaaInBase
import Derived.Test.YtfmcnamjhnnimaaIntsBase
namespace Go.Proofs.Ytfmcnamjhnnimaa.Crew
open Go.ChangeShapes Go.WideShapes Go.ChangeAt Go.RowKit

def crewOk (xs : List Int) : Bool := within xs.length 1 24 && xs.all (fun n => within n 1 1000000)

theorem specWeight_any (n : Int) (w : World) :
    Calls Try.prog 24 #[.int .i64 n] w fun e w' => e = .returned (.bool (within n 1 1000000)) ∧ w' = w := by
  go_enter Try.func24, Try.ntmps24
  go_wp2_with fail
  refine (in_any _ _ _ _).mono ?_
  rintro e w' ⟨rfl, rfl⟩
  go_wp2_with fail
  go_ret
  exact ⟨rfl, rfl⟩

theorem implWeight_any (n : Int) (w : World) :
    Calls Try.prog 38 #[.int .i64 n] w fun e w' => e = .returned (.bool (within n 1 1000000)) ∧ w' = w := by
  cases h : within n 1 1000000
  · by_cases h1 : 1 ≤ n
    · have h2 : ¬ n ≤ 1000000 := by rcases within_no h with h | h <;> omega
      have hd : decide (n ≤ 1000000) = false := by simp; omega
      clear h
      go_enter Try.func38, Try.ntmps38
      go_wp2_with fail
      go_ret
      exact ⟨rfl, rfl⟩
    · have hd : decide (1 ≤ n) = false := by simp; omega
      clear h
      go_enter Try.func38, Try.ntmps38
      go_wp2_with fail
      go_ret
      exact ⟨rfl, rfl⟩
  · obtain ⟨h1, h2⟩ := within_yes h
    clear h
    go_enter Try.func38, Try.ntmps38
    go_wp2_with fail
    go_ret
    exact ⟨rfl, rfl⟩

theorem all_step {xs : List Int} {p : Int → Bool} {k : Nat} (h : k < xs.length) (ha : (xs.take k).all p = true) (hp : p (xs.getD k 0) = true) : (xs.take (k + 1)).all p = true := by
  rw [List.take_succ_eq_append_getElem h, List.all_append, ha]
  simp [List.getD, h] at hp
  simp [hp]

theorem all_not {xs : List Int} {p : Int → Bool} {k : Nat} (h : k < xs.length) (hp : p (xs.getD k 0) = false) : xs.all p = false := by
  simp [List.getD, h] at hp
  simp only [List.all_eq_false]
  exact ⟨xs[k], List.getElem_mem h, by simp [hp]⟩

end Go.Proofs.Ytfmcnamjhnnimaa.Crew

namespace Go.Proofs.Ytfmcnamjhnnimaa.Crew
open Go.ChangeShapes Go.WideShapes Go.ChangeAt Go.RowKit

/-- All together. -/
def sumI : List Int → Int
  | [] => 0
  | x :: r => x + sumI r

theorem sumI_append (xs ys : List Int) : sumI (xs ++ ys) = sumI xs + sumI ys := by
  induction xs with
  | nil => simp [sumI]
  | cons x r ih => simp only [List.cons_append, sumI, ih]; omega

theorem sumI_step {xs : List Int} {k : Nat} (h : k < xs.length) : sumI (xs.take (k + 1)) = sumI (xs.take k) + xs.getD k 0 := by
  rw [List.take_succ_eq_append_getElem h, sumI_append]
  simp [sumI, List.getD, h]

theorem sumI_bound (xs : List Int) (h : ∀ n ∈ xs, -1000000000 ≤ n ∧ n ≤ 1000000000) : -1000000000 * (xs.length : Int) ≤ sumI xs ∧ sumI xs ≤ 1000000000 * (xs.length : Int) := by
  induction xs with
  | nil => simp [sumI]
  | cons x r ih =>
    have h1 := h x (by simp)
    have h2 := ih (fun n hn => h n (by simp [hn]))
    simp only [sumI, List.length_cons]
    omega

/-- Each number is small enough that no sum of a slice passes 64 bits. -/
def Small (xs : List Int) : Prop := ∀ n ∈ xs, -1000000000 ≤ n ∧ n ≤ 1000000000

theorem Small.get {xs : List Int} (h : Small xs) (k : Nat) : -1000000000 ≤ xs.getD k 0 ∧ xs.getD k 0 ≤ 1000000000 := by
  by_cases hk : k < xs.length
  · have := h xs[k] (List.getElem_mem hk)
    simpa [List.getD, hk] using this
  · simp [List.getD, List.getElem?_eq_none (Nat.le_of_not_lt hk)]

theorem Small.part {xs : List Int} (h : Small xs) (k : Nat) (hk : k ≤ xs.length) : -1000000000 * (k : Int) ≤ sumI (xs.take k) ∧ sumI (xs.take k) ≤ 1000000000 * (k : Int) := by
  have := sumI_bound (xs.take k) (fun n hn => h n (List.mem_of_mem_take hn))
  rwa [List.length_take, Nat.min_eq_left hk] at this

theorem crew_small {xs : List Int} (h : crewOk xs = true) : Small xs := by
  intro n hn
  simp only [crewOk, Bool.and_eq_true, List.all_eq_true] at h
  have := within_yes (h.2 n hn)
  omega

theorem crew_len {xs : List Int} (h : crewOk xs = true) : 1 ≤ xs.length ∧ xs.length ≤ 24 := by
  simp only [crewOk, Bool.and_eq_true] at h
  have := within_yes h.1
  omega

theorem crew_mem {xs : List Int} (h : crewOk xs = true) {n : Int} (hn : n ∈ xs) : 1 ≤ n ∧ n ≤ 1000000 := by
  simp only [crewOk, Bool.and_eq_true, List.all_eq_true] at h
  exact within_yes (h.2 n hn)

def totalOf (xs : List Int) : Int := if crewOk xs then sumI xs else -1

end Go.Proofs.Ytfmcnamjhnnimaa.Crew

namespace Go.Proofs.Ytfmcnamjhnnimaa.Crew
open Go.ChangeShapes Go.WideShapes Go.ChangeAt Go.RowKit

def cnts (ns : List Int) : Bool := ns.all (fun n => within n 0 1000000)

def countsOk (cs ns : List Int) : Bool := crewOk cs && decide (ns.length = cs.length) && cnts ns && decide (sumI ns ≤ 1000000)

theorem counts_parts {cs ns : List Int} (h : countsOk cs ns = true) : crewOk cs = true ∧ ns.length = cs.length ∧ cnts ns = true ∧ sumI ns ≤ 1000000 := by
  simp only [countsOk, Bool.and_eq_true, decide_eq_true_eq] at h
  exact ⟨h.1.1.1, h.1.1.2, h.1.2, h.2⟩

theorem cnts_small {ns : List Int} (h : cnts ns = true) : Small ns := by
  intro n hn
  simp only [cnts, List.all_eq_true] at h
  have := within_yes (h n hn)
  omega

theorem take_small {ns : List Int} {k : Nat} (h : (ns.take k).all (fun n => within n 0 1000000) = true) : Small (ns.take k) := cnts_small h

theorem take_bound {ns : List Int} {k : Nat} (h : (ns.take k).all (fun n => within n 0 1000000) = true) (hk : k ≤ ns.length) : -1000000000 * (k : Int) ≤ sumI (ns.take k) ∧ sumI (ns.take k) ≤ 1000000000 * (k : Int) := by
  have := (take_small h).part k (by simp; omega)
  rwa [List.take_of_length_le (by simp; omega)] at this

theorem counts_no {cs ns : List Int} {k : Nat} (h : k < ns.length) (hp : within (ns.getD k 0) 0 1000000 = false) : countsOk cs ns = false := by
  rw [countsOk, cnts, all_not h hp]
  simp

theorem counts_end {cs ns : List Int} (hc : crewOk cs = true) (hl : ns.length = cs.length) (ha : cnts ns = true) : countsOk cs ns = decide (sumI ns ≤ 1000000) := by
  simp [countsOk, hc, hl, ha]

def turnsOf (cs ns : List Int) : Int := if countsOk cs ns then sumI ns else -1

end Go.Proofs.Ytfmcnamjhnnimaa.Crew
