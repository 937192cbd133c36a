/-
  Shares for several processors: who has a whole one, down the list by weight, and what is left for the others (no code here).
-/
import Derived.Test.YtcmeimfjedakeaaGreatCrewSort
import Derived.Test.YtcmeimfjedakeaaGreatFitsOn
import Derived.Test.YtcmeimfjedakeaaGreatSortOrder
namespace Go.Proofs.YtcmeimfjedakeaaGreat.Crew

/-- The weight of number x. -/
def wt (ws : List Int) (x : Int) : Int := ws.getD x.toNat 0

/-- How many have a whole processor, down the list; what processors and weights are left then. -/
def downs (ws : List Int) : List Int → Int → Int → Nat × Int × Int
  | [], P, W => (0, P, W)
  | x :: O, P, W => if W ≤ wt ws x * P then ((downs ws O (P - 1) (W - wt ws x)).1 + 1, (downs ws O (P - 1) (W - wt ws x)).2) else (0, P, W)

/-- Behind i that have one: what is to come is as from here on. -/
def DInv (ws O : List Int) (P0 W0 : Int) (i : Nat) (P W : Int) : Prop :=
  downs ws O P0 W0 = ((downs ws (O.drop i) P W).1 + i, (downs ws (O.drop i) P W).2)

theorem dinv_start (ws O : List Int) (P W : Int) : DInv ws O P W 0 P W := by simp [DInv]

theorem dinv_next {ws O : List Int} {P0 W0 P W x : Int} {i : Nat} (h : DInv ws O P0 W0 i P W) (hi : i < O.length) (hx : O.getD i 0 = x) (hc : W ≤ wt ws x * P) : DInv ws O P0 W0 (i + 1) (P - 1) (W - wt ws x) := by
  unfold DInv at *
  have e : O.drop i = x :: O.drop (i + 1) := by rw [List.drop_eq_getElem_cons hi, ← hx]; simp [List.getD, hi]
  rw [h, e, downs, if_pos hc]
  simp only [Prod.mk.injEq, and_true]
  omega

theorem dinv_stop {ws O : List Int} {P0 W0 P W x : Int} {i : Nat} (h : DInv ws O P0 W0 i P W) (hi : i < O.length) (hx : O.getD i 0 = x) (hc : ¬ W ≤ wt ws x * P) : downs ws O P0 W0 = (i, P, W) := by
  unfold DInv at *
  have e : O.drop i = x :: O.drop (i + 1) := by rw [List.drop_eq_getElem_cons hi, ← hx]; simp [List.getD, hi]
  rw [h, e, downs, if_neg hc]
  simp

theorem dinv_end {ws O : List Int} {P0 W0 P W : Int} {i : Nat} (h : DInv ws O P0 W0 i P W) (hi : O.length ≤ i) : downs ws O P0 W0 = (i, P, W) := by
  unfold DInv at *
  rw [h, List.drop_eq_nil_of_le hi]
  simp [downs]

theorem downs_bd (ws : List Int) (hw : ∀ x, 0 ≤ wt ws x ∧ wt ws x ≤ 1000000) : ∀ (O : List Int) (P W : Int), (downs ws O P W).1 ≤ O.length ∧ P - O.length ≤ (downs ws O P W).2.1 ∧ (downs ws O P W).2.1 ≤ P ∧ W - 1000000 * O.length ≤ (downs ws O P W).2.2 ∧ (downs ws O P W).2.2 ≤ W := by
  intro O
  induction O with
  | nil => intro P W; simp [downs]
  | cons x O ih =>
    intro P W
    rw [downs]
    have hx := hw x
    split
    · have := ih (P - 1) (W - wt ws x)
      simp only [List.length_cons]
      omega
    · simp only [List.length_cons]
      omega

/-- Each of xs gets what f tells. -/
def setAll (f : Int → Shr) (xs : List Int) (out : List Shr) : List Shr := xs.foldl (fun o x => o.set x.toNat (f x)) out

theorem setAll_length (f : Int → Shr) : ∀ (xs : List Int) (out : List Shr), (setAll f xs out).length = out.length := by
  intro xs
  induction xs with
  | nil => intro out; rfl
  | cons x xs ih => intro out; rw [setAll, List.foldl_cons, ← setAll, ih]; simp

theorem setAll_step (f : Int → Shr) {xs : List Int} {k : Nat} (h : k < xs.length) (out : List Shr) : setAll f (xs.take (k + 1)) out = (setAll f (xs.take k) out).set (xs.getD k 0).toNat (f (xs.getD k 0)) := by
  rw [show xs.getD k 0 = xs[k] by simp [List.getD, h], setAll, List.take_succ_eq_append_getElem h, List.foldl_append]
  rfl

/-- The Shares, where c have a whole one and P processors and W weights are left. -/
def sharesOf (ws O : List Int) (r : Nat × Int × Int) : List Shr :=
  setAll (fun x => (wt ws x * r.2.1, r.2.2)) (O.drop r.1) (setAll (fun _ => (1, 1)) (O.take r.1) (List.replicate ws.length (0, 0)))

def adjusted (ws : List Int) (n : Int) : List Shr :=
  if crewOk ws && procsOk n then sharesOf ws (byW ws ws.length) (downs ws (byW ws ws.length) n (sumI ws)) else []

theorem adjusted_no {ws : List Int} {n : Int} (h : crewOk ws = false ∨ procsOk n = false) : adjusted ws n = [] := by
  rw [adjusted, if_neg]
  rcases h with h | h <;> simp [h]

theorem adjusted_yes {ws : List Int} {n : Int} (h : crewOk ws = true) (k : procsOk n = true) : adjusted ws n = sharesOf ws (byW ws ws.length) (downs ws (byW ws ws.length) n (sumI ws)) := by
  rw [adjusted, if_pos (by simp [h, k])]

theorem adjusted_len (ws : List Int) (n : Int) : (adjusted ws n).length ≤ 24 := by
  unfold adjusted
  split
  · rename_i h
    simp only [Bool.and_eq_true] at h
    rw [sharesOf, setAll_length, setAll_length, List.length_replicate]
    exact (crew_len h.1).2
  · simp

theorem wt_bd {ws : List Int} (h : crewOk ws = true) (x : Int) : 0 ≤ wt ws x ∧ wt ws x ≤ 1000000 := by
  unfold wt
  by_cases hx : x.toNat < ws.length
  · have := crew_mem h (n := ws[x.toNat]) (List.getElem_mem hx)
    rw [show ws.getD x.toNat 0 = ws[x.toNat] by simp [List.getD, hx]]
    omega
  · rw [show ws.getD x.toNat 0 = 0 by simp [List.getD, hx]]
    omega

theorem mul_near {p q : Int} (p0 : 0 ≤ p) (p1 : p ≤ 1000000) (q0 : -24 ≤ q) (q1 : q ≤ 8) : -24000000 ≤ p * q ∧ p * q ≤ 8000000 := by
  constructor
  · have := Int.mul_le_mul_of_nonneg_left q0 p0
    omega
  · have := Int.mul_le_mul_of_nonneg_left q1 p0
    omega

end Go.Proofs.YtcmeimfjedakeaaGreat.Crew

/-
  Shares for several processors: each has a whole one or its weight's part of what is left; they fit, they are all of the processors, more weight is no less (no code here).
-/
namespace Go.Proofs.YtcmeimfjedakeaaGreat.Crew
open Go.Proofs.YtcmeimfjedakeaaGreat.Win

theorem sumI_perm {xs ys : List Int} (h : xs.Perm ys) : sumI xs = sumI ys := by
  induction h with
  | nil => rfl
  | cons x _ ih => simp [sumI, ih]
  | swap x y l => simp only [sumI]; omega
  | trans _ _ h1 h2 => exact h1.trans h2

theorem insert_perm (f : Int → Bool) (x : Int) (out : List Int) : (insertBy f x out).Perm (x :: out) := by
  unfold insertBy
  have h := (List.perm_middle (a := x) (l₁ := out.take (posOf f out out.length)) (l₂ := out.drop (posOf f out out.length)))
  rwa [List.take_append_drop] at h

theorem by_perm (ws : List Int) (k : Nat) : (byW ws k).Perm (nums k) := by
  induction k with
  | zero => exact List.Perm.refl _
  | succ k ih =>
    rw [byW_succ, nums_succ]
    exact ((insert_perm _ _ _).trans (ih.cons _)).trans (List.perm_append_singleton _ _).symm

theorem nums_wt (ws : List Int) : (nums ws.length).map (wt ws) = ws := by
  apply List.ext_getElem
  · simp [nums]
  · intro i h1 h2
    simp [nums, wt, List.getD, h2]

theorem by_wt (ws : List Int) : ((byW ws ws.length).map (wt ws)).Perm ws := by
  have := (by_perm ws ws.length).map (wt ws)
  rwa [nums_wt] at this

/-- All weights together, down the list. -/
def wsum (ws O : List Int) : Int := sumI (O.map (wt ws))

theorem wsum_cons (ws O : List Int) (x : Int) : wsum ws (x :: O) = wt ws x + wsum ws O := rfl

theorem wsum_pos {ws : List Int} : ∀ {O : List Int}, (∀ x ∈ O, 1 ≤ wt ws x) → 0 ≤ wsum ws O ∧ (O ≠ [] → 1 ≤ wsum ws O) := by
  intro O
  induction O with
  | nil => intro _; exact ⟨Int.le_refl _, fun h => absurd rfl h⟩
  | cons x O ih =>
    intro h
    have h1 := h x (List.mem_cons_self ..)
    have h2 := (ih (fun y hy => h y (List.mem_cons_of_mem _ hy))).1
    rw [wsum_cons]
    exact ⟨by omega, fun _ => by omega⟩

theorem wsum_le {ws : List Int} {m : Int} : ∀ {O : List Int}, (∀ x ∈ O, wt ws x ≤ m) → wsum ws O ≤ (O.length : Int) * m := by
  intro O
  induction O with
  | nil => intro _; simp [wsum, sumI]
  | cons x O ih =>
    intro h
    have h1 := h x (List.mem_cons_self ..)
    have h2 := ih (fun y hy => h y (List.mem_cons_of_mem _ hy))
    rw [wsum_cons, List.length_cons, Int.natCast_add, Int.add_mul]
    omega

/-- What holds where the run down the list ends. -/
structure Ended (ws O : List Int) (P : Int) (c : Nat) (P' W' : Int) : Prop where
  le : c ≤ O.length
  left : P' = P - c
  nonneg : 0 ≤ P'
  sum : W' = wsum ws (O.drop c)
  rest : c < O.length → 1 ≤ P' ∧ 1 ≤ W'
  yes : ∀ x ∈ O.take c, W' ≤ wt ws x * P'
  no : ∀ x ∈ O.drop c, wt ws x * P' < W'
  all : (O.length : Int) ≤ P → c = O.length

theorem downs_ended (ws : List Int) : ∀ (O : List Int) (P : Int), O.Pairwise (fun x y => wt ws y ≤ wt ws x) → (∀ x ∈ O, 1 ≤ wt ws x) → 0 ≤ P → (O ≠ [] → 1 ≤ P) →
    Ended ws O P (downs ws O P (wsum ws O)).1 (downs ws O P (wsum ws O)).2.1 (downs ws O P (wsum ws O)).2.2 := by
  intro O
  induction O with
  | nil => intro P _ _ h0 _; exact ⟨by simp [downs], by simp [downs], by simpa [downs] using h0, by simp [downs], by simp [downs], by simp [downs], by simp [downs], by simp [downs]⟩
  | cons x O ih =>
    intro P hp h1 h0 hne
    have P1 := hne (by simp)
    have x1 := h1 x (List.mem_cons_self ..)
    have hO1 : ∀ y ∈ O, 1 ≤ wt ws y := fun y hy => h1 y (List.mem_cons_of_mem _ hy)
    rw [List.pairwise_cons] at hp
    have hpos := wsum_pos (ws := ws) (O := O) hO1
    rw [downs]
    split
    · rename_i hc
      have e : wsum ws (x :: O) - wt ws x = wsum ws O := by rw [wsum_cons]; omega
      rw [e]
      have hP : O ≠ [] → 1 ≤ P - 1 := by
        intro hO
        have := hpos.2 hO
        rw [wsum_cons] at hc
        by_cases hP2 : 2 ≤ P
        · omega
        · have : P = 1 := by omega
          rw [this, Int.mul_one] at hc
          omega
      have I := ih (P - 1) hp.2 hO1 (by omega) hP
      generalize hr : downs ws O (P - 1) (wsum ws O) = r at I ⊢
      obtain ⟨c, P', W'⟩ := r
      simp only at I ⊢
      refine ⟨by simp only [List.length_cons]; have := I.le; omega, by have := I.left; omega, I.nonneg, I.sum, fun h => I.rest (by simp only [List.length_cons] at h; omega), ?_, I.no, fun h => by simp only [List.length_cons] at h ⊢; have := I.all (by omega); omega⟩
      intro y hy
      rw [List.take_succ_cons, List.mem_cons] at hy
      rcases hy with rfl | hy
      · cases c with
        | zero =>
          have e1 := I.left
          have e2 := I.sum
          simp only [List.drop_zero] at e2
          have hm : wt ws y * P' = wt ws y * P - wt ws y := by
            rw [show P' = P - 1 by omega, Int.mul_sub, Int.mul_one]
          rw [wsum_cons] at hc
          omega
        | succ c =>
          have hO : O ≠ [] := by intro h; have := I.le; rw [h] at this; simp at this
          obtain ⟨z, O', rfl⟩ := List.exists_cons_of_ne_nil hO
          have hz := I.yes z (by simp)
          have hzy := hp.1 z (by simp)
          have := Int.mul_le_mul_of_nonneg_right hzy I.nonneg
          omega
      · exact I.yes y hy
    · rename_i hc
      simp only
      refine ⟨by simp, by simp, h0, by simp, fun _ => ⟨P1, ?_⟩, by simp, ?_, ?_⟩
      · rw [wsum_cons]; omega
      · intro y hy
        simp only [List.drop_zero, List.mem_cons] at hy
        rcases hy with rfl | hy
        · omega
        · have := Int.mul_le_mul_of_nonneg_right (hp.1 y hy) h0
          omega
      · intro hl
        exfalso
        apply hc
        have h2 := wsum_le (ws := ws) (m := wt ws x) (O := x :: O) (fun y hy => by
          rw [List.mem_cons] at hy
          rcases hy with rfl | hy
          · exact Int.le_refl _
          · exact hp.1 y hy)
        have h3 := Int.mul_le_mul_of_nonneg_right hl (show 0 ≤ wt ws x by omega)
        rw [Int.mul_comm]
        omega

theorem setAll_get (f : Int → Shr) : ∀ (xs : List Int) (out : List Shr) (j : Nat), (∀ x ∈ xs, 0 ≤ x) → j < out.length → (setAll f xs out).getD j (0, 0) = if (j : Int) ∈ xs then f j else out.getD j (0, 0) := by
  intro xs
  induction xs with
  | nil => intro out j _ _; simp [setAll]
  | cons x xs ih =>
    intro out j h0 hj
    rw [setAll, List.foldl_cons, ← setAll, ih _ _ (fun y hy => h0 y (List.mem_cons_of_mem _ hy)) (by simpa using hj)]
    have hx := h0 x (List.mem_cons_self ..)
    by_cases hm : (j : Int) ∈ xs
    · rw [if_pos hm, if_pos (List.mem_cons_of_mem _ hm)]
    · rw [if_neg hm]
      by_cases he : (j : Int) = x
      · subst he
        rw [if_pos (List.mem_cons_self ..)]
        simp [List.getD, hj]
      · rw [if_neg (by rw [List.mem_cons]; exact fun h => h.elim he hm)]
        have : x.toNat ≠ j := by omega
        simp [List.getD, this]

/-- A weight's Share where P processors and W weights are left. -/
def shr (P W : Int) (x : Int) : Shr := if W ≤ x * P then (1, 1) else (x * P, W)

/-- All that is known of the Shares of a right crew on n processors. -/
structure Fairly (ws : List Int) (n : Int) (c : Nat) (P W : Int) : Prop where
  is : adjusted ws n = ws.map (shr P W)
  le : c ≤ ws.length
  left : P = n - c
  nonneg : 0 ≤ P
  rest : c < ws.length → 1 ≤ P ∧ 1 ≤ W
  top : 0 ≤ W ∧ W ≤ 24000000
  whole : ws.countP (fun x => decide (W ≤ x * P)) = c
  sum : sumI (ws.map (fun x => if W ≤ x * P then 0 else x)) = W
  all : (ws.length : Int) ≤ n → c = ws.length

theorem sumI_zero {xs : List Int} (h : ∀ x ∈ xs, x = 0) : sumI xs = 0 := by
  induction xs with
  | nil => rfl
  | cons x xs ih => rw [sumI, h x (List.mem_cons_self ..), ih (fun y hy => h y (List.mem_cons_of_mem _ hy))]; rfl

theorem sumI_le {xs : List Int} (h : ∀ x ∈ xs, x ≤ 1000000) : sumI xs ≤ 1000000 * (xs.length : Int) := by
  induction xs with
  | nil => simp [sumI]
  | cons x xs ih =>
    have h1 := h x (List.mem_cons_self ..)
    have h2 := ih (fun y hy => h y (List.mem_cons_of_mem _ hy))
    rw [sumI, List.length_cons]
    omega

theorem fairly {ws : List Int} {n : Int} (hc : crewOk ws = true) (hp : procsOk n = true) : ∃ c P W, Fairly ws n c P W := by
  obtain ⟨n1, n8⟩ := procs_yes hp
  obtain ⟨l1, l24⟩ := crew_len hc
  have hsum : sumI ws = wsum ws (byW ws ws.length) := (sumI_perm (by_wt ws)).symm
  have hmem : ∀ x ∈ byW ws ws.length, ∃ j : Nat, j < ws.length ∧ x = j := fun x hx => byW_mem hx
  have h1 : ∀ x ∈ byW ws ws.length, 1 ≤ wt ws x := by
    intro x hx
    obtain ⟨j, hj, rfl⟩ := hmem x hx
    have := crew_mem hc (List.getElem_mem hj)
    simp [wt, List.getD, hj]
    omega
  have hpw : (byW ws ws.length).Pairwise (fun x y => wt ws y ≤ wt ws x) := (byW_ordered ws ws.length).imp (fun h => by unfold Ahead at h; unfold wt; omega)
  have E := downs_ended ws (byW ws ws.length) n hpw h1 (by omega) (fun _ => n1)
  have hadj := adjusted_yes hc hp
  rw [hsum] at hadj
  generalize hr : downs ws (byW ws ws.length) n (wsum ws (byW ws ws.length)) = r at E hadj
  obtain ⟨c, P, W⟩ := r
  simp only at E
  generalize hO : byW ws ws.length = O at *
  have hOl : O.length = ws.length := by rw [← hO, byW_length]
  have hperm := by_wt ws
  rw [hO] at hperm
  have hpermj := by_perm ws ws.length
  rw [hO] at hpermj
  have hsplit : ((O.take c).map (wt ws) ++ (O.drop c).map (wt ws)).Perm ws := by rw [← List.map_append, List.take_append_drop]; exact hperm
  have hno : ∀ y ∈ (O.drop c).map (wt ws), ¬ W ≤ y * P := by
    intro y hy
    rw [List.mem_map] at hy
    obtain ⟨x, hx, rfl⟩ := hy
    have := E.no x hx
    omega
  have hyes : ∀ y ∈ (O.take c).map (wt ws), W ≤ y * P := by
    intro y hy
    rw [List.mem_map] at hy
    obtain ⟨x, hx, rfl⟩ := hy
    exact E.yes x hx
  refine ⟨c, P, W, ?_, by rw [← hOl]; exact E.le, E.left, E.nonneg, fun h => E.rest (by rw [hOl]; exact h), ?_, ?_, ?_, fun h => by rw [← hOl]; exact E.all (by rw [hOl]; exact h)⟩
  · rw [hadj, sharesOf]
    apply List.ext_getElem
    · simp [setAll_length]
    · intro j hj1 hj2
      have hj : j < ws.length := by simpa using hj2
      have hpos : ∀ x ∈ O, 0 ≤ x := by
        intro x hx
        obtain ⟨i, _, rfl⟩ := hmem x hx
        omega
      have g := setAll_get (fun x => (wt ws x * P, W)) (O.drop c) (setAll (fun _ => (1, 1)) (O.take c) (List.replicate ws.length (0, 0))) j (fun x hx => hpos x (List.mem_of_mem_drop hx)) (by rw [setAll_length, List.length_replicate]; exact hj)
      rw [setAll_get (fun _ => (1, 1)) (O.take c) (List.replicate ws.length (0, 0)) j (fun x hx => hpos x (List.mem_of_mem_take hx)) (by simpa using hj)] at g
      have g2 : (setAll (fun x => (wt ws x * P, W)) (O.drop c) (setAll (fun _ => (1, 1)) (O.take c) (List.replicate ws.length (0, 0)))).getD j (0, 0) = shr P W ws[j] := by
        have hw : wt ws (j : Int) = ws[j] := by simp [wt, List.getD, hj]
        rw [g]
        by_cases hd : (j : Int) ∈ O.drop c
        · have := E.no _ hd
          rw [hw] at this
          rw [if_pos hd, hw, shr, if_neg (by omega)]
        · have hin : (j : Int) ∈ O := by
            rw [hpermj.mem_iff]
            unfold nums
            rw [List.mem_map]
            exact ⟨j, by simpa using hj, rfl⟩
          rw [← List.take_append_drop c O, List.mem_append] at hin
          have ht : (j : Int) ∈ O.take c := hin.elim id (fun h => absurd h hd)
          have := E.yes _ ht
          rw [hw] at this
          rw [if_neg hd, if_pos ht, shr, if_pos this]
      rw [List.getElem_map, ← g2]
      simp only [List.getD, List.getElem?_eq_getElem hj1, Option.getD_some]
  · have hs := E.sum
    have h2 := wsum_pos (ws := ws) (O := O.drop c) (fun x hx => h1 x (List.mem_of_mem_drop hx))
    have h3 := sumI_le (xs := (O.drop c).map (wt ws)) (fun y hy => by
      rw [List.mem_map] at hy
      obtain ⟨x, hx, rfl⟩ := hy
      exact (wt_bd hc x).2)
    rw [List.length_map, List.length_drop] at h3
    change wsum ws (O.drop c) ≤ _ at h3
    omega
  · rw [← hsplit.countP_eq, List.countP_append, List.countP_eq_length.2 (fun y hy => decide_eq_true (hyes y hy)), List.countP_eq_zero.2 (fun y hy => by simpa using hno y hy), List.length_map, List.length_take]
    have := E.le
    omega
  · rw [← sumI_perm (hsplit.map _), List.map_append, sumI_append, sumI_zero (xs := List.map _ ((O.take c).map (wt ws))) (fun y hy => by
      rw [List.mem_map] at hy
      obtain ⟨z, hz, rfl⟩ := hy
      rw [if_pos (hyes z hz)])]
    rw [E.sum, wsum, Int.zero_add]
    congr 1
    have : ∀ y ∈ (O.drop c).map (wt ws), (if wsum ws (O.drop c) ≤ y * P then (0 : Int) else y) = id y := fun y hy => by rw [← E.sum, if_neg (hno y hy)]; rfl
    unfold wsum at this
    rw [List.map_congr_left this, List.map_id]

/-- The Nums together, and the last Den, of those that are not whole, as the law gathers them. -/
def numsI (ps : List Shr) : Int := sumI (ps.map (fun p => if p.1 < p.2 then p.1 else 0))
def denI (ps : List Shr) : Int := ps.foldl (fun d p => if p.1 < p.2 then p.2 else d) 0

theorem numsI_step {ps : List Shr} {k : Nat} (h : k < ps.length) : numsI (ps.take (k + 1)) = numsI (ps.take k) + (if (ps.getD k (0, 0)).1 < (ps.getD k (0, 0)).2 then (ps.getD k (0, 0)).1 else 0) := by
  rw [show ps.getD k (0, 0) = ps[k] by simp [List.getD, h], numsI, List.take_succ_eq_append_getElem h, List.map_append, sumI_append]
  simp [numsI, sumI]

theorem denI_step {ps : List Shr} {k : Nat} (h : k < ps.length) : denI (ps.take (k + 1)) = if (ps.getD k (0, 0)).1 < (ps.getD k (0, 0)).2 then (ps.getD k (0, 0)).2 else denI (ps.take k) := by
  rw [show ps.getD k (0, 0) = ps[k] by simp [List.getD, h], denI, List.take_succ_eq_append_getElem h, List.foldl_append]
  rfl

theorem shr_bd {P W x : Int} (h : W ≤ x * P ∨ 1 ≤ x * P) (hW : W ≤ 24000000) : (shr P W x = (1, 1) ∧ W ≤ x * P) ∨ (shr P W x = (x * P, W) ∧ 1 ≤ x * P ∧ x * P < W ∧ W ≤ 24000000) := by
  unfold shr
  split
  · rename_i h1; exact .inl ⟨rfl, h1⟩
  · rename_i h1; exact .inr ⟨rfl, by omega, by omega, hW⟩

theorem Fairly.kind {ws : List Int} {n : Int} {c : Nat} {P W : Int} (F : Fairly ws n c P W) (hc : crewOk ws = true) {x : Int} (hx : x ∈ ws) : (shr P W x = (1, 1) ∧ W ≤ x * P) ∨ (shr P W x = (x * P, W) ∧ 1 ≤ x * P ∧ x * P < W ∧ W ≤ 24000000) := by
  refine shr_bd ?_ F.top.2
  by_cases h : W ≤ x * P
  · exact .inl h
  · right
    have hl : c < ws.length := by
      have h1 := F.whole
      have h2 := F.le
      by_cases h3 : c < ws.length
      · exact h3
      · exfalso
        have h4 := List.countP_eq_length.1 (h1.trans (by omega)) x hx
        simp only [decide_eq_true_eq] at h4
        exact h h4
    have hP := (F.rest hl).1
    have hx1 := (crew_mem hc hx).1
    have := Int.mul_le_mul hx1 hP (by omega) (by omega)
    omega

theorem fold_parts {W : Int} : ∀ (ps : List Shr) (d s : Int), (∀ p ∈ ps, p = (1, 1) ∨ (p.2 = W ∧ 1 ≤ p.1 ∧ p.1 < W ∧ W ≤ 24000000)) → d = 0 ∨ d = W →
    ps.foldl partStep (some (d, s)) = some (ps.foldl (fun d p => if p.1 < p.2 then p.2 else d) d, s + numsI ps) := by
  intro ps
  induction ps with
  | nil => intro d s _ _; simp [numsI, sumI]
  | cons p ps ih =>
    intro d s h hd
    have h1 := h p (List.mem_cons_self ..)
    have h2 : ∀ q ∈ ps, q = (1, 1) ∨ (q.2 = W ∧ 1 ≤ q.1 ∧ q.1 < W ∧ W ≤ 24000000) := fun q hq => h q (List.mem_cons_of_mem _ hq)
    rw [List.foldl_cons, List.foldl_cons]
    rcases h1 with rfl | ⟨e, p1, p2, p3⟩
    · rw [step_whole (by decide) rfl, if_neg (by decide), ih d s h2 hd]
      simp [numsI, sumI]
    · have hok : shareOk p.1 p.2 = true := by
        rw [e]
        unfold shareOk
        simp [within]
        omega
      rw [step_more hok (by omega) (by rcases hd with h | h; exact .inl h; right; simp only; omega), if_pos (by omega), ih p.2 (s + p.1) h2 (.inr e)]
      rw [show numsI (p :: ps) = p.1 + numsI ps by simp only [numsI, List.map_cons, sumI]; rw [if_pos (by omega)]]
      congr 2
      omega

theorem Fairly.kinds {ws : List Int} {n : Int} {c : Nat} {P W : Int} (F : Fairly ws n c P W) (hc : crewOk ws = true) : ∀ p ∈ ws.map (shr P W), p = (1, 1) ∨ (p.2 = W ∧ 1 ≤ p.1 ∧ p.1 < W ∧ W ≤ 24000000) := by
  intro p hp
  rw [List.mem_map] at hp
  obtain ⟨x, hx, rfl⟩ := hp
  rcases F.kind hc hx with ⟨e, _⟩ | ⟨e, h1, h2, h3⟩
  · exact .inl e
  · right
    rw [e]
    exact ⟨rfl, h1, h2, h3⟩

theorem Fairly.parts {ws : List Int} {n : Int} {c : Nat} {P W : Int} (F : Fairly ws n c P W) (hc : crewOk ws = true) : parts (adjusted ws n) = some (denI (adjusted ws n), numsI (adjusted ws n)) := by
  rw [F.is, Crew.parts, fold_parts _ 0 0 (F.kinds hc) (.inl rfl)]
  simp [denI]

theorem Fairly.wholes {ws : List Int} {n : Int} {c : Nat} {P W : Int} (F : Fairly ws n c P W) (hc : crewOk ws = true) : wholeN (adjusted ws n) = c := by
  rw [F.is, wholeN, List.countP_map, ← F.whole]
  apply List.countP_congr
  intro x hx
  rcases F.kind hc hx with ⟨e, h⟩ | ⟨e, h1, h2, h3⟩
  · simp [e, h]
  · simp [e]
    omega

theorem sumI_mul (P : Int) : ∀ (xs : List Int), sumI (xs.map (fun x => x * P)) = sumI xs * P := by
  intro xs
  induction xs with
  | nil => simp [sumI]
  | cons x xs ih => rw [List.map_cons, sumI, ih, sumI, Int.add_mul]

theorem Fairly.nums {ws : List Int} {n : Int} {c : Nat} {P W : Int} (F : Fairly ws n c P W) (hc : crewOk ws = true) : numsI (adjusted ws n) = W * P := by
  rw [F.is, numsI, List.map_map]
  have e : ∀ x ∈ ws, ((fun p : Shr => if p.1 < p.2 then p.1 else 0) ∘ shr P W) x = ((fun x => x * P) ∘ (fun x => if W ≤ x * P then 0 else x)) x := by
    intro x hx
    rcases F.kind hc hx with ⟨e, h⟩ | ⟨e, h1, h2, h3⟩
    · simp [e, h]
    · have : ¬ W ≤ x * P := by omega
      simp [e, h2, this]
  rw [List.map_congr_left e, ← List.map_map, sumI_mul, F.sum]

theorem denI_fold {W : Int} : ∀ (ps : List Shr) (d : Int), (∀ p ∈ ps, p = (1, 1) ∨ (p.2 = W ∧ 1 ≤ p.1 ∧ p.1 < W ∧ W ≤ 24000000)) → (ps.foldl (fun d p => if p.1 < p.2 then p.2 else d) d = W ∧ ∃ p ∈ ps, p.1 < p.2) ∨ (ps.foldl (fun d p => if p.1 < p.2 then p.2 else d) d = d ∧ ∀ p ∈ ps, p = (1, 1)) := by
  intro ps
  induction ps with
  | nil => intro d _; right; simp
  | cons p ps ih =>
    intro d h
    have h1 := h p (List.mem_cons_self ..)
    have h2 : ∀ q ∈ ps, q = (1, 1) ∨ (q.2 = W ∧ 1 ≤ q.1 ∧ q.1 < W ∧ W ≤ 24000000) := fun q hq => h q (List.mem_cons_of_mem _ hq)
    rw [List.foldl_cons]
    rcases h1 with rfl | ⟨e, p1, p2, p3⟩
    · rw [if_neg (by decide)]
      rcases ih d h2 with ⟨a, q, hq, hlt⟩ | ⟨a, b⟩
      · exact .inl ⟨a, q, List.mem_cons_of_mem _ hq, hlt⟩
      · right
        refine ⟨a, fun q hq => ?_⟩
        rw [List.mem_cons] at hq
        rcases hq with rfl | hq
        · rfl
        · exact b q hq
    · rw [if_pos (by omega)]
      left
      rcases ih p.2 h2 with ⟨a, _⟩ | ⟨a, _⟩
      · exact ⟨a, p, List.mem_cons_self .., by omega⟩
      · exact ⟨by rw [a, e], p, List.mem_cons_self .., by omega⟩

theorem Fairly.den {ws : List Int} {n : Int} {c : Nat} {P W : Int} (F : Fairly ws n c P W) (hc : crewOk ws = true) : (c < ws.length ∧ denI (adjusted ws n) = W) ∨ (c = ws.length ∧ denI (adjusted ws n) = 0 ∧ W = 0) := by
  have hw := F.whole
  have hle := F.le
  rcases denI_fold (ws.map (shr P W)) 0 (F.kinds hc) with ⟨h, p, hp, hlt⟩ | ⟨h, hall⟩
  · left
    refine ⟨?_, by rw [F.is]; exact h⟩
    rw [List.mem_map] at hp
    obtain ⟨x, hx, rfl⟩ := hp
    by_cases h3 : c < ws.length
    · exact h3
    · exfalso
      have h4 := List.countP_eq_length.1 (hw.trans (by omega)) x hx
      simp only [decide_eq_true_eq] at h4
      rw [shr, if_pos h4] at hlt
      exact absurd hlt (by decide)
  · right
    have hyes : ∀ x ∈ ws, W ≤ x * P := by
      intro x hx
      rcases F.kind hc hx with ⟨_, h⟩ | ⟨e, h1, h2, h3⟩
      · exact h
      · have := hall (shr P W x) (List.mem_map_of_mem hx)
        rw [e] at this
        simp only [Prod.mk.injEq] at this
        omega
    refine ⟨?_, by rw [F.is]; exact h, ?_⟩
    · rw [← hw]
      exact List.countP_eq_length.2 (fun x hx => decide_eq_true (hyes x hx))
    · rw [← F.sum]
      apply sumI_zero
      intro y hy
      rw [List.mem_map] at hy
      obtain ⟨x, hx, rfl⟩ := hy
      rw [if_pos (by have := F.sum; have := hyes x hx; omega)]

/-- They fit. -/
theorem Fairly.fits {ws : List Int} {n : Int} {c : Nat} {P W : Int} (F : Fairly ws n c P W) (hc : crewOk ws = true) (hp : procsOk n = true) : fitsOn (adjusted ws n) n = true := by
  have h1 := F.left
  have h2 := F.nonneg
  rw [fits_is hp (adjusted_len ws n) (F.parts hc) (by rw [F.wholes hc]; omega), F.wholes hc, F.nums hc, ← h1]
  rcases F.den hc with ⟨_, e⟩ | ⟨_, e, z⟩
  · rw [e]; simp
  · rw [e, z]; simp

theorem Fairly.len {ws : List Int} {n : Int} {c : Nat} {P W : Int} (F : Fairly ws n c P W) : (adjusted ws n).length = ws.length := by rw [F.is, List.length_map]

theorem Fairly.get {ws : List Int} {n : Int} {c : Nat} {P W : Int} (F : Fairly ws n c P W) {j : Nat} (hj : j < ws.length) : (adjusted ws n).getD j (0, 0) = shr P W (ws.getD j 0) := by
  rw [F.is]
  simp [List.getD, hj]

theorem nums_bd {W : Int} : ∀ (ps : List Shr), (∀ p ∈ ps, p = (1, 1) ∨ (p.2 = W ∧ 1 ≤ p.1 ∧ p.1 < W ∧ W ≤ 24000000)) → 0 ≤ numsI ps ∧ numsI ps ≤ 24000000 * (ps.length : Int) := by
  intro ps
  induction ps with
  | nil => intro _; simp [numsI, sumI]
  | cons p ps ih =>
    intro h
    have h1 := h p (List.mem_cons_self ..)
    have h2 := ih (fun q hq => h q (List.mem_cons_of_mem _ hq))
    have e : numsI (p :: ps) = (if p.1 < p.2 then p.1 else 0) + numsI ps := rfl
    rw [e, List.length_cons]
    rcases h1 with rfl | ⟨e1, p1, p2, p3⟩
    · rw [if_neg (by decide)]
      omega
    · rw [if_pos (by omega)]
      omega

theorem Fairly.nums_take {ws : List Int} {n : Int} {c : Nat} {P W : Int} (F : Fairly ws n c P W) (hc : crewOk ws = true) (k : Nat) : 0 ≤ numsI ((adjusted ws n).take k) ∧ numsI ((adjusted ws n).take k) ≤ 24000000 * 24 := by
  have h := nums_bd (W := W) ((adjusted ws n).take k) (fun p hp => F.kinds hc p (by rw [← F.is]; exact List.mem_of_mem_take hp))
  have := adjusted_len ws n
  rw [List.length_take] at h
  omega

/-- A Share of the crew's: its bounds. -/
theorem Fairly.bounds {ws : List Int} {n : Int} {c : Nat} {P W : Int} (F : Fairly ws n c P W) (hc : crewOk ws = true) {j : Nat} (hj : j < ws.length) : 1 ≤ ((adjusted ws n).getD j (0, 0)).1 ∧ ((adjusted ws n).getD j (0, 0)).1 ≤ 24000000 ∧ 1 ≤ ((adjusted ws n).getD j (0, 0)).2 ∧ ((adjusted ws n).getD j (0, 0)).2 ≤ 24000000 := by
  rw [F.get hj]
  have hx : ws.getD j 0 ∈ ws := by rw [show ws.getD j 0 = ws[j] by simp [List.getD, hj]]; exact List.getElem_mem hj
  rcases F.kind hc hx with ⟨e, _⟩ | ⟨e, h1, h2, h3⟩
  · rw [e]; simp
  · rw [e]; simp only; omega

/-- More weight is no less share: the products. -/
theorem shr_mono {P W x y : Int} (h0 : 0 ≤ P) (hx : (shr P W x = (1, 1) ∧ W ≤ x * P) ∨ (shr P W x = (x * P, W) ∧ 1 ≤ x * P ∧ x * P < W ∧ W ≤ 24000000)) (hy : (shr P W y = (1, 1) ∧ W ≤ y * P) ∨ (shr P W y = (y * P, W) ∧ 1 ≤ y * P ∧ y * P < W ∧ W ≤ 24000000)) (h : y ≤ x) : ¬ (shr P W x).1 * (shr P W y).2 < (shr P W y).1 * (shr P W x).2 := by
  have hm := Int.mul_le_mul_of_nonneg_right h h0
  rcases hx with ⟨e, a⟩ | ⟨e, a, b, d⟩ <;> rcases hy with ⟨e', a'⟩ | ⟨e', a', b', d'⟩ <;> rw [e, e'] <;> simp only
  · omega
  · omega
  · omega
  · have := Int.mul_le_mul_of_nonneg_right hm (show 0 ≤ W by omega)
    omega

theorem Fairly.mono {ws : List Int} {n : Int} {c : Nat} {P W : Int} (F : Fairly ws n c P W) (hc : crewOk ws = true) {i k : Nat} (hi : i < ws.length) (hk : k < ws.length) (h : ws.getD k 0 ≤ ws.getD i 0) : ¬ ((adjusted ws n).getD i (0, 0)).1 * ((adjusted ws n).getD k (0, 0)).2 < ((adjusted ws n).getD k (0, 0)).1 * ((adjusted ws n).getD i (0, 0)).2 := by
  have hxi : ws.getD i 0 ∈ ws := by rw [show ws.getD i 0 = ws[i] by simp [List.getD, hi]]; exact List.getElem_mem hi
  have hxk : ws.getD k 0 ∈ ws := by rw [show ws.getD k 0 = ws[k] by simp [List.getD, hk]]; exact List.getElem_mem hk
  rw [F.get hi, F.get hk]
  exact shr_mono F.nonneg (F.kind hc hxi) (F.kind hc hxk) h

end Go.Proofs.YtcmeimfjedakeaaGreat.Crew
