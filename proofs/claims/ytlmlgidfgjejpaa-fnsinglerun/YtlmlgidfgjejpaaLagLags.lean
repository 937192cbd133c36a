/-
  Lags: each one's, and all of them in a row. spec's and impl's answer alike.
-/
import Derived.Test.YtlmlgidfgjejpaaCrewBase
import Derived.Test.YtlmlgidfgjejpaaIntsBase
import Derived.Lib.MinMax
import Derived.Deep.RegionWith
namespace Go.Proofs.Ytlmlgidfgjejpaa.Crew
open Go.ChangeShapes Go.WideShapes Go.ChangeAt Go.RowKit

theorem hid {p : Prop} (h : p) : Hid p := h

/-- The lag of the i-th: its weight times the turns, less all weights times its count. -/
def lagAt (cs ns : List Int) (i : Nat) : Int := cs.getD i 0 * sumI ns - sumI cs * ns.getD i 0

theorem sum_nonneg {xs : List Int} (h : ∀ n ∈ xs, 0 ≤ n) : 0 ≤ sumI xs := by
  induction xs with
  | nil => simp [sumI]
  | cons x r ih =>
    have h1 := h x (by simp)
    have h2 := ih (fun n hn => h n (by simp [hn]))
    simp only [sumI]
    omega

theorem sum_most {xs : List Int} (h : ∀ n ∈ xs, n ≤ 1000000) : sumI xs ≤ 1000000 * (xs.length : Int) := by
  induction xs with
  | nil => simp [sumI]
  | cons x r ih =>
    have h1 := h x (by simp)
    have h2 := ih (fun n hn => h n (by simp [hn]))
    simp only [sumI, List.length_cons]
    omega

theorem cnts_mem {ns : List Int} (h : cnts ns = true) {n : Int} (hn : n ∈ ns) : 0 ≤ n ∧ n ≤ 1000000 := by
  simp only [cnts, List.all_eq_true] at h
  exact within_yes (h n hn)

/-- The bounds of all that a lag is made of, where the counts are right. -/
theorem lag_bounds {cs ns : List Int} (h : countsOk cs ns = true) : 0 ≤ sumI cs ∧ sumI cs ≤ 24000000 ∧ 0 ≤ sumI ns ∧ sumI ns ≤ 1000000 := by
  obtain ⟨h1, h2, h3, h4⟩ := counts_parts h
  have := crew_len h1
  have := sum_nonneg (xs := cs) (fun n hn => by have := crew_mem h1 hn; omega)
  have := sum_most (xs := cs) (fun n hn => (crew_mem h1 hn).2)
  have := sum_nonneg (xs := ns) (fun n hn => (cnts_mem h3 hn).1)
  omega

theorem get_within {xs : List Int} {lo hi : Int} (h : ∀ n ∈ xs, lo ≤ n ∧ n ≤ hi) {k : Nat} (hk : k < xs.length) : lo ≤ xs.getD k 0 ∧ xs.getD k 0 ≤ hi := by
  have := h xs[k] (List.getElem_mem hk)
  simpa [List.getD, hk] using this

theorem mul_within {x y X Y : Int} (h1 : 0 ≤ x) (h2 : x ≤ X) (h3 : 0 ≤ y) (h4 : y ≤ Y) : 0 ≤ x * y ∧ x * y ≤ X * Y :=
  ⟨Int.mul_nonneg h1 h3, Int.mul_le_mul h2 h4 h3 (by omega)⟩

theorem lagAt_bound {cs ns : List Int} (h : countsOk cs ns = true) {k : Nat} (hk : k < cs.length) : -24000000000000 ≤ lagAt cs ns k ∧ lagAt cs ns k ≤ 24000000000000 := by
  obtain ⟨h1, h2, h3, h4⟩ := counts_parts h
  have B := lag_bounds h
  have hc := get_within (fun n hn => crew_mem h1 hn) hk
  have hn := get_within (fun n hn => cnts_mem h3 hn) (k := k) (by omega)
  have m1 := mul_within (x := cs.getD k 0) (y := sumI ns) (by omega) hc.2 B.2.2.1 B.2.2.2
  have m2 := mul_within (x := sumI cs) (y := ns.getD k 0) B.1 B.2.1 hn.1 hn.2
  unfold lagAt
  omega

/-- spec.l3Lag where the counts are right. -/
theorem lag_any (a : Option Addr) (len cap : Nat) (cs : List Int) (a' : Option Addr) (len' cap' : Nat) (ns : List Int) (k : Nat) (w : World) (I : Ints w a len cs) (J : Ints w a' len' ns) (hc : countsOk cs ns = true) (hk : k < len) :
    Calls Try.prog 30 #[.slice a len cap, .slice a' len' cap', .int .i64 k] w fun e w' => e = .returned (.int .i64 (lagAt cs ns k)) ∧ ∃ m, w' = w.drewN m := by
  have hl := I.1
  have hl' := J.1
  obtain ⟨h1, h2, h3, h4⟩ := counts_parts hc
  have hll : len' = len := by omega
  have hs : (len : Int) ≤ 24 := by have := crew_len h1; omega
  obtain ⟨_, h0 | ⟨b, off, rfl, hb, hcc⟩⟩ := id I
  · omega
  obtain ⟨_, h0 | ⟨b', off', rfl, hb', hcc'⟩⟩ := id J
  · omega
  have B := lag_bounds hc
  have bc := get_within (fun n hn => crew_mem h1 hn) (k := k) (by omega)
  have bn := get_within (fun n hn => cnts_mem h3 hn) (k := k) (by omega)
  obtain ⟨x, hx⟩ : ∃ x, x = cs.getD k 0 := ⟨_, rfl⟩
  obtain ⟨y, hy⟩ : ∃ y, y = ns.getD k 0 := ⟨_, rfl⟩
  obtain ⟨s, hsn⟩ : ∃ s, s = sumI ns := ⟨_, rfl⟩
  obtain ⟨t, htn⟩ : ∃ t, t = sumI cs := ⟨_, rfl⟩
  have c1 := hcc k hk
  have c2 := hcc' k (by omega)
  have S1 := fun n => sum_any _ len cap cs (w.drewN n) (ints_drewN I n) (by omega) (crew_small h1)
  have S2 := fun n => sum_any _ len' cap' ns (w.drewN n) (ints_drewN J n) (by omega) (cnts_small h3)
  rw [← hx] at c1 bc
  rw [← hy] at c2 bn
  simp only [← htn] at S1 B
  simp only [← hsn] at S2 B
  have T1 := hid S1
  have T2 := hid S2
  have m1 := mul_within (x := x) (y := s) (by omega) bc.2 B.2.2.1 B.2.2.2
  have m2 := mul_within (x := t) (y := y) B.1 B.2.1 bn.1 bn.2
  have E : lagAt cs ns k = x * s - t * y := by rw [hx, hy, hsn, htn]; rfl
  rw [E]
  have hk' : (k : Int) < (len : Int) := by omega
  have hk2 : (k : Int) < (len' : Int) := by omega
  clear S1 S2 hcc hcc' E I J hc h1 h2 h3 h4 hx hy hsn htn hl hl' hll
  go_enter Try.func30, Try.ntmps30
  go_wp2_with fail
  go_quiet (first
    | (go_at_call_of 25 (Value.slice (some ⟨b', off', none⟩) len' cap'); exact Calls.quiet_of_same (T2.out _))
    | (go_at_call_of 25 (Value.slice (some ⟨b, off, none⟩) len cap); exact Calls.quiet_of_same (T1.out _)))
  go_wp2_with fail
  go_ret
  exact ⟨rfl, _, rfl⟩

def lagIs (cs ns : List Int) (i : Int) : Bool := countsOk cs ns && within i 0 ((cs.length : Int) - 1)

def lagOf (cs ns : List Int) (i : Int) : Int := if lagIs cs ns i then lagAt cs ns i.toNat else 0

theorem ret_lag {x y : Int} {s t : Bool} (h : x = y) (k : s = t) : Ending.returned (.tuple #[.int .i64 x, .bool s]) = .returned (.tuple #[.int .i64 y, .bool t]) := by rw [h, k]

/-- All lags. -/
def lagsL (cs ns : List Int) : List Int := (List.range cs.length).map (lagAt cs ns)
theorem lagsL_length (cs ns : List Int) : (lagsL cs ns).length = cs.length := by simp [lagsL]
theorem lagsL_get (cs ns : List Int) {k : Nat} (h : k < cs.length) : (lagsL cs ns).getD k 0 = lagAt cs ns k := by simp [lagsL, List.getD, h]

end Go.Proofs.Ytlmlgidfgjejpaa.Crew
