/-
  The richest: is a Smooth right. spec's and impl's answer alike at every two slices.
-/
import Derived.Test.YtfmcnamjhnnimaaCrewBase
import Derived.Handy
namespace Go.Proofs.Ytfmcnamjhnnimaa.Crew
open Go.ChangeShapes Go.WideShapes Go.ChangeAt Go.RowKit

abbrev sm (x y : Value) : Value := .agg #[x, y]

def richs (rs : List Int) : Bool := rs.all (fun n => within n (-100000000) 100000000)

def smoothOk (cs rs : List Int) : Bool := crewOk cs && decide (rs.length = cs.length) && richs rs && decide (sumI rs = 0)

theorem smooth_parts {cs rs : List Int} (h : smoothOk cs rs = true) : crewOk cs = true ∧ rs.length = cs.length ∧ richs rs = true ∧ sumI rs = 0 := by
  simp only [smoothOk, Bool.and_eq_true, decide_eq_true_eq] at h
  exact ⟨h.1.1.1, h.1.1.2, h.1.2, h.2⟩

theorem richs_small {rs : List Int} (h : richs rs = true) : Small rs := by
  intro n hn
  simp only [richs, List.all_eq_true] at h
  have := within_yes (h n hn)
  omega

theorem richs_mem {rs : List Int} (h : richs rs = true) {n : Int} (hn : n ∈ rs) : -100000000 ≤ n ∧ n ≤ 100000000 := by
  simp only [richs, List.all_eq_true] at h
  exact within_yes (h n hn)

theorem richs_get {rs : List Int} (h : richs rs = true) (k : Nat) : -100000000 ≤ rs.getD k 0 ∧ rs.getD k 0 ≤ 100000000 := by
  by_cases hk : k < rs.length
  · have := richs_mem h (List.getElem_mem hk)
    simpa [List.getD, hk] using this
  · simp [List.getD, List.getElem?_eq_none (Nat.le_of_not_lt hk)]

theorem smooth_no {cs rs : List Int} {k : Nat} (h : k < rs.length) (hp : within (rs.getD k 0) (-100000000) 100000000 = false) : smoothOk cs rs = false := by
  rw [smoothOk, richs, all_not h hp]
  simp

theorem smooth_end {cs rs : List Int} (hc : crewOk cs = true) (hl : rs.length = cs.length) (ha : richs rs = true) : smoothOk cs rs = decide (sumI rs = 0) := by
  simp [smoothOk, hc, hl, ha]

theorem Ints.alloc {w : World} {a : Option Addr} {len : Nat} {xs : List Int} (h : Ints w a len xs) (o : Obj) : Ints (w.alloc o) a len xs := h.other (World.grownBy_alloc w o none) (by simp)

end Go.Proofs.Ytfmcnamjhnnimaa.Crew
