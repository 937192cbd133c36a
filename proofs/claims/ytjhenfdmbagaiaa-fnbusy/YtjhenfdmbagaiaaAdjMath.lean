/-
  Shares for several processors: who has a whole one, down the list by weight, and what is left for the others (no code here).
-/
import Derived.Test.YtjhenfdmbagaiaaCrewSort
import Derived.Test.YtjhenfdmbagaiaaFitsMath
namespace Go.Proofs.Ytjhenfdmbagaiaa.Crew

/-- The weight of number x. -/
def wt (ws : List Int) (x : Int) : Int := ws.getD x.toNat 0

/-- How many have a whole processor, down the list; what processors and weights are left then. -/
def downs (ws : List Int) : List Int → Int → Int → Nat × Int × Int
  | [], P, W => (0, P, W)
  | x :: O, P, W => if W ≤ wt ws x * P then ((downs ws O (P - 1) (W - wt ws x)).1 + 1, (downs ws O (P - 1) (W - wt ws x)).2) else (0, P, W)

/-- Behind i that have one: what is to come is as from here on. -/
def DInv (ws O : List Int) (P0 W0 : Int) (i : Nat) (P W : Int) : Prop :=
  downs ws O P0 W0 = ((downs ws (O.drop i) P W).1 + i, (downs ws (O.drop i) P W).2)

theorem dinv_start (ws O : List Int) (P W : Int) : DInv ws O P W 0 P W := by simp [DInv]

theorem dinv_next {ws O : List Int} {P0 W0 P W x : Int} {i : Nat} (h : DInv ws O P0 W0 i P W) (hi : i < O.length) (hx : O.getD i 0 = x) (hc : W ≤ wt ws x * P) : DInv ws O P0 W0 (i + 1) (P - 1) (W - wt ws x) := by
  unfold DInv at *
  have e : O.drop i = x :: O.drop (i + 1) := by rw [List.drop_eq_getElem_cons hi, ← hx]; simp [List.getD, hi]
  rw [h, e, downs, if_pos hc]
  simp only [Prod.mk.injEq, and_true]
  omega

theorem dinv_stop {ws O : List Int} {P0 W0 P W x : Int} {i : Nat} (h : DInv ws O P0 W0 i P W) (hi : i < O.length) (hx : O.getD i 0 = x) (hc : ¬ W ≤ wt ws x * P) : downs ws O P0 W0 = (i, P, W) := by
  unfold DInv at *
  have e : O.drop i = x :: O.drop (i + 1) := by rw [List.drop_eq_getElem_cons hi, ← hx]; simp [List.getD, hi]
  rw [h, e, downs, if_neg hc]
  simp

theorem dinv_end {ws O : List Int} {P0 W0 P W : Int} {i : Nat} (h : DInv ws O P0 W0 i P W) (hi : O.length ≤ i) : downs ws O P0 W0 = (i, P, W) := by
  unfold DInv at *
  rw [h, List.drop_eq_nil_of_le hi]
  simp [downs]

theorem downs_bd (ws : List Int) (hw : ∀ x, 0 ≤ wt ws x ∧ wt ws x ≤ 1000000) : ∀ (O : List Int) (P W : Int), (downs ws O P W).1 ≤ O.length ∧ P - O.length ≤ (downs ws O P W).2.1 ∧ (downs ws O P W).2.1 ≤ P ∧ W - 1000000 * O.length ≤ (downs ws O P W).2.2 ∧ (downs ws O P W).2.2 ≤ W := by
  intro O
  induction O with
  | nil => intro P W; simp [downs]
  | cons x O ih =>
    intro P W
    rw [downs]
    have hx := hw x
    split
    · have := ih (P - 1) (W - wt ws x)
      simp only [List.length_cons]
      omega
    · simp only [List.length_cons]
      omega

/-- Each of xs gets what f tells. -/
def setAll (f : Int → Shr) (xs : List Int) (out : List Shr) : List Shr := xs.foldl (fun o x => o.set x.toNat (f x)) out

theorem setAll_length (f : Int → Shr) : ∀ (xs : List Int) (out : List Shr), (setAll f xs out).length = out.length := by
  intro xs
  induction xs with
  | nil => intro out; rfl
  | cons x xs ih => intro out; rw [setAll, List.foldl_cons, ← setAll, ih]; simp

theorem setAll_step (f : Int → Shr) {xs : List Int} {k : Nat} (h : k < xs.length) (out : List Shr) : setAll f (xs.take (k + 1)) out = (setAll f (xs.take k) out).set (xs.getD k 0).toNat (f (xs.getD k 0)) := by
  rw [show xs.getD k 0 = xs[k] by simp [List.getD, h], setAll, List.take_succ_eq_append_getElem h, List.foldl_append]
  rfl

/-- The Shares, where c have a whole one and P processors and W weights are left. -/
def sharesOf (ws O : List Int) (r : Nat × Int × Int) : List Shr :=
  setAll (fun x => (wt ws x * r.2.1, r.2.2)) (O.drop r.1) (setAll (fun _ => (1, 1)) (O.take r.1) (List.replicate ws.length (0, 0)))

def adjusted (ws : List Int) (n : Int) : List Shr :=
  if crewOk ws && procsOk n then sharesOf ws (byW ws ws.length) (downs ws (byW ws ws.length) n (sumI ws)) else []

theorem adjusted_no {ws : List Int} {n : Int} (h : crewOk ws = false ∨ procsOk n = false) : adjusted ws n = [] := by
  rw [adjusted, if_neg]
  rcases h with h | h <;> simp [h]

theorem adjusted_yes {ws : List Int} {n : Int} (h : crewOk ws = true) (k : procsOk n = true) : adjusted ws n = sharesOf ws (byW ws ws.length) (downs ws (byW ws ws.length) n (sumI ws)) := by
  rw [adjusted, if_pos (by simp [h, k])]

theorem adjusted_len (ws : List Int) (n : Int) : (adjusted ws n).length ≤ 24 := by
  unfold adjusted
  split
  · rename_i h
    simp only [Bool.and_eq_true] at h
    rw [sharesOf, setAll_length, setAll_length, List.length_replicate]
    exact (crew_len h.1).2
  · simp

theorem wt_bd {ws : List Int} (h : crewOk ws = true) (x : Int) : 0 ≤ wt ws x ∧ wt ws x ≤ 1000000 := by
  unfold wt
  by_cases hx : x.toNat < ws.length
  · have := crew_mem h (n := ws[x.toNat]) (List.getElem_mem hx)
    rw [show ws.getD x.toNat 0 = ws[x.toNat] by simp [List.getD, hx]]
    omega
  · rw [show ws.getD x.toNat 0 = 0 by simp [List.getD, hx]]
    omega

theorem mul_near {p q : Int} (p0 : 0 ≤ p) (p1 : p ≤ 1000000) (q0 : -24 ≤ q) (q1 : q ≤ 8) : -24000000 ≤ p * q ∧ p * q ≤ 8000000 := by
  constructor
  · have := Int.mul_le_mul_of_nonneg_left q0 p0
    omega
  · have := Int.mul_le_mul_of_nonneg_left q1 p0
    omega

end Go.Proofs.Ytjhenfdmbagaiaa.Crew
