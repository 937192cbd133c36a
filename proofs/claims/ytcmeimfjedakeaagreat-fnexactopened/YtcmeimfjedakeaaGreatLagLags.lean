/-
  Lags: each one's, and all of them in a row. spec's and impl's answer alike.
-/
import Derived.Test.YtcmeimfjedakeaaGreatCrewBase
import Derived.Test.YtcmeimfjedakeaaGreatIntsBase
import Derived.Lib.MinMax
import Derived.Deep.RegionWith
namespace Go.Proofs.YtcmeimfjedakeaaGreat.Crew
open Go.ChangeShapes Go.WideShapes Go.ChangeAt Go.RowKit

theorem hid {p : Prop} (h : p) : Hid p := h

/-- The lag of the i-th: its weight times the turns, less all weights times its count. -/
def lagAt (cs ns : List Int) (i : Nat) : Int := cs.getD i 0 * sumI ns - sumI cs * ns.getD i 0

theorem sum_nonneg {xs : List Int} (h : ∀ n ∈ xs, 0 ≤ n) : 0 ≤ sumI xs := by
  induction xs with
  | nil => simp [sumI]
  | cons x r ih =>
    have h1 := h x (by simp)
    have h2 := ih (fun n hn => h n (by simp [hn]))
    simp only [sumI]
    omega

theorem sum_most {xs : List Int} (h : ∀ n ∈ xs, n ≤ 1000000) : sumI xs ≤ 1000000 * (xs.length : Int) := by
  induction xs with
  | nil => simp [sumI]
  | cons x r ih =>
    have h1 := h x (by simp)
    have h2 := ih (fun n hn => h n (by simp [hn]))
    simp only [sumI, List.length_cons]
    omega

theorem cnts_mem {ns : List Int} (h : cnts ns = true) {n : Int} (hn : n ∈ ns) : 0 ≤ n ∧ n ≤ 1000000 := by
  simp only [cnts, List.all_eq_true] at h
  exact within_yes (h n hn)

/-- The bounds of all that a lag is made of, where the counts are right. -/
theorem lag_bounds {cs ns : List Int} (h : countsOk cs ns = true) : 0 ≤ sumI cs ∧ sumI cs ≤ 24000000 ∧ 0 ≤ sumI ns ∧ sumI ns ≤ 1000000 := by
  obtain ⟨h1, h2, h3, h4⟩ := counts_parts h
  have := crew_len h1
  have := sum_nonneg (xs := cs) (fun n hn => by have := crew_mem h1 hn; omega)
  have := sum_most (xs := cs) (fun n hn => (crew_mem h1 hn).2)
  have := sum_nonneg (xs := ns) (fun n hn => (cnts_mem h3 hn).1)
  omega

theorem get_within {xs : List Int} {lo hi : Int} (h : ∀ n ∈ xs, lo ≤ n ∧ n ≤ hi) {k : Nat} (hk : k < xs.length) : lo ≤ xs.getD k 0 ∧ xs.getD k 0 ≤ hi := by
  have := h xs[k] (List.getElem_mem hk)
  simpa [List.getD, hk] using this

theorem mul_within {x y X Y : Int} (h1 : 0 ≤ x) (h2 : x ≤ X) (h3 : 0 ≤ y) (h4 : y ≤ Y) : 0 ≤ x * y ∧ x * y ≤ X * Y :=
  ⟨Int.mul_nonneg h1 h3, Int.mul_le_mul h2 h4 h3 (by omega)⟩

theorem lagAt_bound {cs ns : List Int} (h : countsOk cs ns = true) {k : Nat} (hk : k < cs.length) : -24000000000000 ≤ lagAt cs ns k ∧ lagAt cs ns k ≤ 24000000000000 := by
  obtain ⟨h1, h2, h3, h4⟩ := counts_parts h
  have B := lag_bounds h
  have hc := get_within (fun n hn => crew_mem h1 hn) hk
  have hn := get_within (fun n hn => cnts_mem h3 hn) (k := k) (by omega)
  have m1 := mul_within (x := cs.getD k 0) (y := sumI ns) (by omega) hc.2 B.2.2.1 B.2.2.2
  have m2 := mul_within (x := sumI cs) (y := ns.getD k 0) B.1 B.2.1 hn.1 hn.2
  unfold lagAt
  omega

def lagIs (cs ns : List Int) (i : Int) : Bool := countsOk cs ns && within i 0 ((cs.length : Int) - 1)

def lagOf (cs ns : List Int) (i : Int) : Int := if lagIs cs ns i then lagAt cs ns i.toNat else 0

theorem ret_lag {x y : Int} {s t : Bool} (h : x = y) (k : s = t) : Ending.returned (.tuple #[.int .i64 x, .bool s]) = .returned (.tuple #[.int .i64 y, .bool t]) := by rw [h, k]

/-- All lags. -/
def lagsL (cs ns : List Int) : List Int := (List.range cs.length).map (lagAt cs ns)
theorem lagsL_length (cs ns : List Int) : (lagsL cs ns).length = cs.length := by simp [lagsL]
theorem lagsL_get (cs ns : List Int) {k : Nat} (h : k < cs.length) : (lagsL cs ns).getD k 0 = lagAt cs ns k := by simp [lagsL, List.getD, h]

end Go.Proofs.YtcmeimfjedakeaaGreat.Crew
