/-
  What Created, Changed, Weighed and ReadyOf answer, as kinds; how long it is at most.
-/
import Derived.Test.YtcmeimfjedakeaaGreatTaskTurn
namespace Go.Proofs.YtcmeimfjedakeaaGreat.Crew
open Go.ChangeShapes Go.WideShapes Go.ChangeAt Go.RowKit

theorem tpost_k {L : List Tsk} {code : Int} {w w' : World} {e : Ending} (h : TPost L code w e w') : ∃ v S, e = .returned (.tuple #[v, .int .i64 code]) ∧ tsksK.rep w' S v L ∧ (∀ j, S j → w.heap.size ≤ j) ∧ Below w.heap.size w w' := by
  obtain ⟨g, n, c, rfl, F, B⟩ := h
  exact ⟨_, _, rfl, tsks_fit F, tfit_fresh F, B⟩

theorem asIs_len (xs : List Tsk) : (asIs xs).length ≤ 24 := by
  rw [asIs]
  split
  · rename_i h
    rw [tasksOk, Bool.and_eq_true, decide_eq_true_eq] at h
    exact h.2
  · simp

theorem tasks_len {xs : List Tsk} (h : tasksOk xs = true) : xs.length ≤ 24 := by
  rw [tasksOk, Bool.and_eq_true, decide_eq_true_eq] at h
  exact h.2

theorem crL_len (xs : List Tsk) (id wt : Int) : (crL xs id wt).length ≤ 24 := by
  rw [crL]
  split
  · rename_i h
    have h24 : xs.length < 24 := by
      rw [crC] at h
      by_cases h0 : crOk xs id wt = true
      · rw [if_pos h0] at h
        by_cases h1 : 0 ≤ findT xs id
        · rw [if_pos h1] at h; omega
        · rw [if_neg h1] at h
          by_cases h2 : 24 ≤ xs.length
          · rw [if_pos h2] at h; omega
          · omega
      · rw [if_neg h0] at h; omega
    have ha := atTo_le xs id xs.length
    rw [crNew, List.length_append, List.length_cons, List.length_take, List.length_drop]
    omega
  · exact asIs_len xs

theorem chL_len (xs : List Tsk) (id st : Int) : (chL xs id st).length ≤ 24 := by
  rw [chL]
  split
  · rename_i h
    rw [List.length_set]
    rw [chC] at h
    by_cases h0 : chOk xs st = true
    · rw [chOk, Bool.and_eq_true] at h0
      exact tasks_len h0.1
    · rw [if_neg h0] at h; omega
  · exact asIs_len xs

theorem wgL_len (xs : List Tsk) (id wt : Int) : (wgL xs id wt).length ≤ 24 := by
  rw [wgL]
  split
  · rename_i h
    rw [List.length_set]
    rw [wgC] at h
    by_cases h0 : wgOk xs wt = true
    · rw [wgOk, Bool.and_eq_true] at h0
      exact tasks_len h0.1
    · rw [if_neg h0] at h; omega
  · exact asIs_len xs

theorem rdyL_len (xs : List Tsk) : (rdyL xs).length ≤ 24 := by
  rw [rdyL]
  split
  · rename_i h
    exact Nat.le_trans (rdyTo_len xs _) (tasks_len h)
  · simp

theorem cr_small (xs : List Tsk) (id wt : Int) : (crL xs id wt).length ≤ 24 ∧ tsksK.slots (crL xs id wt) ≤ 96 := by
  have h := crL_len xs id wt
  exact ⟨h, by show 4 * (crL xs id wt).length ≤ 96; omega⟩

theorem ch_small (xs : List Tsk) (id st : Int) : (chL xs id st).length ≤ 24 ∧ tsksK.slots (chL xs id st) ≤ 96 := by
  have h := chL_len xs id st
  exact ⟨h, by show 4 * (chL xs id st).length ≤ 96; omega⟩

theorem wg_small (xs : List Tsk) (id wt : Int) : (wgL xs id wt).length ≤ 24 ∧ tsksK.slots (wgL xs id wt) ≤ 96 := by
  have h := wgL_len xs id wt
  exact ⟨h, by show 4 * (wgL xs id wt).length ≤ 96; omega⟩

theorem rdy_small (xs : List Tsk) : (rdyL xs).length ≤ 24 ∧ intsK.slots (rdyL xs) ≤ 24 := ⟨rdyL_len xs, rdyL_len xs⟩

section
variable {w : World} {S : Bs} {v : Value} {xs : List Tsk}

theorem specCreatedK (id wt : Int) (h : tsksK.rep w S v xs) (hs : (xs.length : Int) ≤ 1048576) :
    Calls Tryz.prog 80 #[v, .int .i64 id, .int .i64 wt] w fun e w' => ∃ u T, e = .returned (.tuple #[u, .int .i64 (crC xs id wt)]) ∧ tsksK.rep w' T u (crL xs id wt) ∧ (∀ j, T j → w.heap.size ≤ j) ∧ Below w.heap.size w w' := by
  obtain ⟨a, len, cap, rfl, F, _⟩ := h
  exact (specCreated 0 a len cap xs id wt w F (by have := F.1; omega)).mono (fun e w' h => tpost_k h)

theorem specChangedK (id st : Int) (h : tsksK.rep w S v xs) (hs : (xs.length : Int) ≤ 1048576) :
    Calls Tryz.prog 84 #[v, .int .i64 id, .int .i64 st] w fun e w' => ∃ u T, e = .returned (.tuple #[u, .int .i64 (chC xs id st)]) ∧ tsksK.rep w' T u (chL xs id st) ∧ (∀ j, T j → w.heap.size ≤ j) ∧ Below w.heap.size w w' := by
  obtain ⟨a, len, cap, rfl, I⟩ := tsks_rd h
  exact (specChanged a len cap xs id st w I (by have := I.1; omega)).mono (fun e w' h => tpost_k h)

theorem specWeighedK (id wt : Int) (h : tsksK.rep w S v xs) (hs : (xs.length : Int) ≤ 1048576) :
    Calls Tryz.prog 86 #[v, .int .i64 id, .int .i64 wt] w fun e w' => ∃ u T, e = .returned (.tuple #[u, .int .i64 (wgC xs id wt)]) ∧ tsksK.rep w' T u (wgL xs id wt) ∧ (∀ j, T j → w.heap.size ≤ j) ∧ Below w.heap.size w w' := by
  obtain ⟨a, len, cap, rfl, I⟩ := tsks_rd h
  exact (specWeighed a len cap xs id wt w I (by have := I.1; omega)).mono (fun e w' h => tpost_k h)

theorem specReadyOfK (h : tsksK.rep w S v xs) (hs : (xs.length : Int) ≤ 1048576) :
    Calls Tryz.prog 46 #[v] w fun e w' => ∃ u T, e = .returned u ∧ intsK.rep w' T u (rdyL xs) ∧ (∀ j, T j → w.heap.size ≤ j) ∧ Below w.heap.size w w' := by
  obtain ⟨a, len, cap, rfl, I⟩ := tsks_rd h
  refine (specReadyOf a len cap xs w I (by have := I.1; omega)).mono ?_
  rintro e w' ⟨g, n, c, rfl, F, B⟩
  exact ⟨_, _, rfl, fit_ints F, fit_fresh F, B⟩

theorem specTasksOkK (h : tsksK.rep w S v xs) (hs : (xs.length : Int) ≤ 1048576) :
    Calls Tryz.prog 109 #[v] w fun e w' => e = .returned (.bool (tasksOk xs)) ∧ Below w.heap.size w w' := by
  obtain ⟨a, len, cap, rfl, I⟩ := tsks_rd h
  exact specTasksOk a len cap xs w I (by have := I.1; omega)

theorem specFindK (id : Int) (h : tsksK.rep w S v xs) (hs : (xs.length : Int) ≤ 1048576) :
    Calls Tryz.prog 110 #[v, .int .i64 id] w fun e w' => e = .returned (.int .i64 (findT xs id)) ∧ Below w.heap.size w w' := by
  obtain ⟨a, len, cap, rfl, I⟩ := tsks_rd h
  exact kin_same (specFind a len cap xs id w I (by have := I.1; omega))

end

theorem szTasks_b (a : Option Addr) (len cap : Nat) (w : World) (hs : (len : Int) ≤ 1048576) :
    Calls Tryz.prog 55 #[.slice a len cap, .int .i64 1048576] w fun e w' => e = .returned (.int .i64 (1048576 - len)) ∧ Below w.heap.size w w' := by
  refine (szTasks_yes a len cap 1048576 w (by omega) (by omega) hs).mono ?_
  rintro e w' ⟨rfl, rfl⟩
  exact ⟨rfl, Below.refl _ _⟩

theorem szTasks_bn (a : Option Addr) (len cap : Nat) (w : World) (hm : (len : Int) ≤ 9223372036854775807) (hs : ¬ (len : Int) ≤ 1048576) :
    Calls Tryz.prog 55 #[.slice a len cap, .int .i64 1048576] w fun e w' => e = .returned (.int .i64 (-1)) ∧ Below w.heap.size w w' := by
  refine (szTasks_no a len cap 1048576 w (by omega) (by omega) hm hs).mono ?_
  rintro e w' ⟨rfl, rfl⟩
  exact ⟨rfl, Below.refl _ _⟩

end Go.Proofs.YtcmeimfjedakeaaGreat.Crew

/-
  The arithmetic of tasks: what a list is behind Created and Changed.
-/
namespace Go.Proofs.YtcmeimfjedakeaaGreat.Crew
open Go.ChangeShapes Go.WideShapes Go.ChangeAt Go.RowKit

theorem allTo_of {xs : List Tsk} {k : Nat} (h : ∀ j, j < k → taskAt xs j = true) : allTo xs k = true := by
  induction k with
  | zero => rfl
  | succ k ih => rw [allTo, ih (fun j hj => h j (by omega)), h k (by omega)]; rfl

theorem find_has {xs : List Tsk} {id : Int} {j k : Nat} (hj : j < k) (e : (xs.getD j tz).i = id) : findTo xs id k < k := by
  induction k with
  | zero => omega
  | succ k ih =>
    rw [findTo]
    split
    · omega
    · split
      · omega
      · rename_i h1 h2
        by_cases hk : j = k
        · subst hk; exact absurd e h2
        · exact absurd (ih (by omega)) h1

theorem find_at {xs : List Tsk} {id : Int} {k : Nat} (h : findTo xs id k < k) : (xs.getD (findTo xs id k) tz).i = id := by
  induction k with
  | zero => omega
  | succ k ih =>
    rw [findTo] at h ⊢
    split
    · rename_i h1; exact ih h1
    · rename_i h1
      rw [if_neg h1] at h
      split
      · assumption
      · rename_i h2; rw [if_neg h2] at h; omega

theorem findT_none {xs : List Tsk} {id : Int} (h : findT xs id < 0) {j : Nat} (hj : j < xs.length) : (xs.getD j tz).i ≠ id := by
  intro e
  have := find_has hj e
  rw [findT, if_pos this] at h
  omega

theorem findT_has {xs : List Tsk} {id : Int} {j : Nat} (hj : j < xs.length) (e : (xs.getD j tz).i = id) : 0 ≤ findT xs id := by
  rw [findT, if_pos (find_has hj e)]
  omega

theorem findT_at {xs : List Tsk} {id : Int} (h : 0 ≤ findT xs id) : (findT xs id).toNat < xs.length ∧ (theT xs id).i = id := by
  rw [theT]
  by_cases hl : findTo xs id xs.length < xs.length
  · rw [findT, if_pos hl]
    exact ⟨by simpa using hl, by simpa using find_at hl⟩
  · rw [findT, if_neg hl] at h
    omega

theorem atTo_lo (xs : List Tsk) (id : Int) (k : Nat) : atTo xs id k = 0 ∨ (xs.getD (atTo xs id k - 1) tz).i < id := by
  induction k with
  | zero => exact .inl rfl
  | succ k ih =>
    rw [atTo]
    split
    · rename_i h; exact .inr (by simpa using h)
    · exact ih

theorem atTo_hi (xs : List Tsk) (id : Int) (k j : Nat) (h : atTo xs id k ≤ j) (hj : j < k) : ¬ (xs.getD j tz).i < id := by
  induction k with
  | zero => omega
  | succ k ih =>
    rw [atTo] at h
    split at h
    · omega
    · rename_i h1
      by_cases hk : j = k
      · subst hk; exact h1
      · exact ih h (by omega)

theorem tget_set (xs : List Tsk) (k j : Nat) (y : Tsk) (hk : k < xs.length) : (xs.set k y).getD j tz = if j = k then y else xs.getD j tz := by
  rw [List.getD_eq_getElem?_getD, List.getElem?_set]
  by_cases h : k = j
  · subst h; simp [hk]
  · rw [if_neg h, if_neg (fun e => h e.symm), List.getD_eq_getElem?_getD]

theorem getD_put (xs : List Tsk) (m j : Nat) (y : Tsk) (hm : m ≤ xs.length) : (xs.take m ++ y :: xs.drop m).getD j tz = if j < m then xs.getD j tz else if j = m then y else xs.getD (j - 1) tz := by
  have hl : (xs.take m).length = m := by rw [List.length_take]; omega
  rw [List.getD_eq_getElem?_getD]
  by_cases h : j < m
  · rw [if_pos h, List.getElem?_append_left (by omega), List.getElem?_take, if_pos h, List.getD_eq_getElem?_getD]
  · rw [if_neg h, List.getElem?_append_right (by omega), hl]
    by_cases h2 : j = m
    · subst h2; simp
    · rw [if_neg h2]
      obtain ⟨d, rfl⟩ : ∃ d, j = m + 1 + d := ⟨j - m - 1, by omega⟩
      have e1 : m + 1 + d - m = d + 1 := by omega
      have e2 : m + 1 + d - 1 = m + d := by omega
      rw [e1, e2, List.getElem?_cons_succ, List.getElem?_drop, List.getD_eq_getElem?_getD]

theorem taskAt_ok {xs : List Tsk} {k : Nat} (h : taskAt xs k = true) : taskOk (xs.getD k tz) = true ∧ (k = 0 ∨ (xs.getD (k - 1) tz).i < (xs.getD k tz).i) := by
  simpa [taskAt] using h

theorem taskAt_of {xs : List Tsk} {k : Nat} (h : taskOk (xs.getD k tz) = true) (g : k = 0 ∨ (xs.getD (k - 1) tz).i < (xs.getD k tz).i) : taskAt xs k = true := by
  simp only [taskAt, h, Bool.true_and, Bool.or_eq_true, decide_eq_true_eq]
  exact g

theorem ok_at {xs : List Tsk} (h : tasksOk xs = true) {k : Nat} (hk : k < xs.length) : taskOk (xs.getD k tz) = true ∧ (k = 0 ∨ (xs.getD (k - 1) tz).i < (xs.getD k tz).i) := by
  rw [tasksOk, Bool.and_eq_true] at h
  exact taskAt_ok (allTo_at h.1 hk)

/-- Behind Created that answers CdOk. -/
theorem created_ok {xs : List Tsk} {id wt : Int} (h : crC xs id wt = 0) : tasksOk (crL xs id wt) = true ∧ 0 ≤ findT (crL xs id wt) id ∧ (crL xs id wt).length = xs.length + 1 := by
  rw [crL, if_pos h]
  rw [crC] at h
  split at h
  · rename_i hok
    split at h
    · omega
    · rename_i hf
      split at h
      · omega
      · rename_i h24
        simp only [crOk, Bool.and_eq_true] at hok
        obtain ⟨⟨hx, hid⟩, hw⟩ := hok
        have hf' : findT xs id < 0 := by omega
        have hm := atTo_le xs id xs.length
        have lo := atTo_lo xs id xs.length
        have hi := atTo_hi xs id xs.length
        rw [crNew]
        generalize atTo xs id xs.length = m at *
        have hl : (xs.take m ++ (⟨id, wt, 1, 0⟩ : Tsk) :: xs.drop m).length = xs.length + 1 := by
          simp only [List.length_append, List.length_take, List.length_cons, List.length_drop]; omega
        refine ⟨?_, findT_has (j := m) (by omega) (by rw [getD_put _ _ _ _ hm, if_neg (Nat.lt_irrefl _), if_pos rfl]), hl⟩
        rw [tasksOk, Bool.and_eq_true, hl]
        refine ⟨allTo_of fun j hj => taskAt_of ?_ ?_, by simp; omega⟩
        · rw [getD_put _ _ _ _ hm]
          split
          · exact (ok_at hx (by omega)).1
          · split
            · simp only [taskOk, hid, hw]; decide
            · exact (ok_at hx (by omega)).1
        · by_cases h0 : j = 0
          · exact .inl h0
          · right
            rw [getD_put _ _ _ _ hm, getD_put _ _ _ _ hm]
            by_cases h1 : j < m
            · rw [if_pos h1, if_pos (by omega)]
              rcases (ok_at hx (k := j) (by omega)).2 with h2 | h2
              · omega
              · exact h2
            · rw [if_neg h1]
              by_cases h2 : j = m
              · subst h2
                rw [if_pos rfl, if_pos (by omega)]
                rcases lo with h3 | h3
                · omega
                · exact h3
              · rw [if_neg h2, if_neg (by omega)]
                by_cases h3 : j - 1 = m
                · rw [if_pos h3]
                  have a1 := hi (j - 1) (by omega) (by omega)
                  have a2 := findT_none hf' (j := j - 1) (by omega)
                  show id < _
                  omega
                · rw [if_neg h3]
                  rcases (ok_at hx (k := j - 1) (by omega)).2 with h4 | h4
                  · omega
                  · exact h4
  · omega

/-- Behind Created that answers another code. -/
theorem created_as {xs : List Tsk} {id wt : Int} (h : crC xs id wt ≠ 0) : crL xs id wt = [] ∨ crL xs id wt = xs := by
  rw [crL, if_neg h, asIs]
  split
  · exact .inr rfl
  · exact .inl rfl

/-- Behind Changed that answers CdOk. -/
theorem changed_ok {xs : List Tsk} {id st : Int} (h : chC xs id st = 0) : tasksOk (chL xs id st) = true ∧ 0 ≤ findT (chL xs id st) id ∧ (findT (chL xs id st) id).toNat < (chL xs id st).length ∧ (theT (chL xs id st) id).s = st := by
  rw [chL, if_pos h]
  rw [chC] at h
  split at h
  · rename_i hok
    split at h
    · omega
    · rename_i hf
      simp only [chOk, Bool.and_eq_true] at hok
      obtain ⟨hx, hs⟩ := hok
      obtain ⟨k1, k2⟩ := findT_at (xs := xs) (id := id) (by omega)
      have hT : theT xs id = xs.getD (findT xs id).toNat tz := rfl
      generalize (findT xs id).toNat = k at *
      generalize theT xs id = t at *
      have hl : (xs.set k { t with s := st }).length = xs.length := List.length_set
      have hi : ∀ j, ((xs.set k { t with s := st }).getD j tz).i = (xs.getD j tz).i := by
        intro j
        rw [tget_set _ _ _ _ k1]
        split
        · rename_i e; subst e; rw [← hT]
        · rfl
      have h0 : 0 ≤ findT (xs.set k { t with s := st }) id := findT_has (j := k) (by omega) (by rw [hi, ← hT]; exact k2)
      obtain ⟨q1, q2⟩ := findT_at h0
      refine ⟨?_, h0, q1, ?_⟩
      · rw [tasksOk, Bool.and_eq_true, hl]
        rw [tasksOk, Bool.and_eq_true] at hx
        refine ⟨allTo_of fun j hj => taskAt_of ?_ ?_, hx.2⟩
        · have a := (taskAt_ok (allTo_at hx.1 hj)).1
          rw [tget_set _ _ _ _ k1]
          split
          · rename_i e
            subst e
            rw [← hT] at a
            simp only [taskOk, Bool.and_eq_true] at a ⊢
            exact ⟨⟨a.1.1, hs⟩, a.2⟩
          · exact a
        · rw [hi, hi]
          exact (taskAt_ok (allTo_at hx.1 hj)).2
      · have asc : ∀ d i, i + d < xs.length → d ≠ 0 → (xs.getD i tz).i < (xs.getD (i + d) tz).i := by
          intro d
          induction d with
          | zero => intro i _ h; exact absurd rfl h
          | succ d ih =>
            intro i hi' _
            rcases (ok_at hx (k := i + (d + 1)) hi').2 with h2 | h2
            · omega
            · have e : i + (d + 1) - 1 = i + d := by omega
              rw [e] at h2
              by_cases hd : d = 0
              · subst hd; exact h2
              · exact Int.lt_trans (ih i (by omega) hd) h2
        rw [theT] at q2 ⊢
        rw [hi] at q2
        have hk2 : (xs.getD k tz).i = id := by rw [← hT]; exact k2
        have hkk : (findT (xs.set k { t with s := st }) id).toNat = k := by
          rw [hl] at q1
          generalize (findT (xs.set k { t with s := st }) id).toNat = z at *
          by_cases c1 : z < k
          · have := asc (k - z) z (by omega) (by omega)
            rw [show z + (k - z) = k by omega] at this
            omega
          · by_cases c2 : k < z
            · have := asc (z - k) k (by omega) (by omega)
              rw [show k + (z - k) = z by omega] at this
              omega
            · omega
        rw [hkk, tget_set _ _ _ _ k1, if_pos rfl]
  · omega

end Go.Proofs.YtcmeimfjedakeaaGreat.Crew
