/-
  What Created, Changed, Weighed and ReadyOf answer, as kinds; how long it is at most.
-/
import Derived.Test.YtcmeimfjedakeaaGreatTaskTurn
namespace Go.Proofs.YtcmeimfjedakeaaGreat.Crew
open Go.ChangeShapes Go.WideShapes Go.ChangeAt Go.RowKit

theorem tpost_k {L : List Tsk} {code : Int} {w w' : World} {e : Ending} (h : TPost L code w e w') : ∃ v S, e = .returned (.tuple #[v, .int .i64 code]) ∧ tsksK.rep w' S v L ∧ (∀ j, S j → w.heap.size ≤ j) ∧ Below w.heap.size w w' := by
  obtain ⟨g, n, c, rfl, F, B⟩ := h
  exact ⟨_, _, rfl, tsks_fit F, tfit_fresh F, B⟩

theorem asIs_len (xs : List Tsk) : (asIs xs).length ≤ 24 := by
  rw [asIs]
  split
  · rename_i h
    rw [tasksOk, Bool.and_eq_true, decide_eq_true_eq] at h
    exact h.2
  · simp

theorem tasks_len {xs : List Tsk} (h : tasksOk xs = true) : xs.length ≤ 24 := by
  rw [tasksOk, Bool.and_eq_true, decide_eq_true_eq] at h
  exact h.2

theorem crL_len (xs : List Tsk) (id wt : Int) : (crL xs id wt).length ≤ 24 := by
  rw [crL]
  split
  · rename_i h
    have h24 : xs.length < 24 := by
      rw [crC] at h
      by_cases h0 : crOk xs id wt = true
      · rw [if_pos h0] at h
        by_cases h1 : 0 ≤ findT xs id
        · rw [if_pos h1] at h; omega
        · rw [if_neg h1] at h
          by_cases h2 : 24 ≤ xs.length
          · rw [if_pos h2] at h; omega
          · omega
      · rw [if_neg h0] at h; omega
    have ha := atTo_le xs id xs.length
    rw [crNew, List.length_append, List.length_cons, List.length_take, List.length_drop]
    omega
  · exact asIs_len xs

theorem chL_len (xs : List Tsk) (id st : Int) : (chL xs id st).length ≤ 24 := by
  rw [chL]
  split
  · rename_i h
    rw [List.length_set]
    rw [chC] at h
    by_cases h0 : chOk xs st = true
    · rw [chOk, Bool.and_eq_true] at h0
      exact tasks_len h0.1
    · rw [if_neg h0] at h; omega
  · exact asIs_len xs

theorem wgL_len (xs : List Tsk) (id wt : Int) : (wgL xs id wt).length ≤ 24 := by
  rw [wgL]
  split
  · rename_i h
    rw [List.length_set]
    rw [wgC] at h
    by_cases h0 : wgOk xs wt = true
    · rw [wgOk, Bool.and_eq_true] at h0
      exact tasks_len h0.1
    · rw [if_neg h0] at h; omega
  · exact asIs_len xs

theorem rdyL_len (xs : List Tsk) : (rdyL xs).length ≤ 24 := by
  rw [rdyL]
  split
  · rename_i h
    exact Nat.le_trans (rdyTo_len xs _) (tasks_len h)
  · simp

theorem cr_small (xs : List Tsk) (id wt : Int) : (crL xs id wt).length ≤ 24 ∧ tsksK.slots (crL xs id wt) ≤ 96 := by
  have h := crL_len xs id wt
  exact ⟨h, by show 4 * (crL xs id wt).length ≤ 96; omega⟩

theorem ch_small (xs : List Tsk) (id st : Int) : (chL xs id st).length ≤ 24 ∧ tsksK.slots (chL xs id st) ≤ 96 := by
  have h := chL_len xs id st
  exact ⟨h, by show 4 * (chL xs id st).length ≤ 96; omega⟩

theorem wg_small (xs : List Tsk) (id wt : Int) : (wgL xs id wt).length ≤ 24 ∧ tsksK.slots (wgL xs id wt) ≤ 96 := by
  have h := wgL_len xs id wt
  exact ⟨h, by show 4 * (wgL xs id wt).length ≤ 96; omega⟩

theorem rdy_small (xs : List Tsk) : (rdyL xs).length ≤ 24 ∧ intsK.slots (rdyL xs) ≤ 24 := ⟨rdyL_len xs, rdyL_len xs⟩

section
variable {w : World} {S : Bs} {v : Value} {xs : List Tsk}

theorem specCreatedK (id wt : Int) (h : tsksK.rep w S v xs) (hs : (xs.length : Int) ≤ 1048576) :
    Calls Tryz.prog 80 #[v, .int .i64 id, .int .i64 wt] w fun e w' => ∃ u T, e = .returned (.tuple #[u, .int .i64 (crC xs id wt)]) ∧ tsksK.rep w' T u (crL xs id wt) ∧ (∀ j, T j → w.heap.size ≤ j) ∧ Below w.heap.size w w' := by
  obtain ⟨a, len, cap, rfl, F, _⟩ := h
  exact (specCreated 0 a len cap xs id wt w F (by have := F.1; omega)).mono (fun e w' h => tpost_k h)

theorem specChangedK (id st : Int) (h : tsksK.rep w S v xs) (hs : (xs.length : Int) ≤ 1048576) :
    Calls Tryz.prog 84 #[v, .int .i64 id, .int .i64 st] w fun e w' => ∃ u T, e = .returned (.tuple #[u, .int .i64 (chC xs id st)]) ∧ tsksK.rep w' T u (chL xs id st) ∧ (∀ j, T j → w.heap.size ≤ j) ∧ Below w.heap.size w w' := by
  obtain ⟨a, len, cap, rfl, I⟩ := tsks_rd h
  exact (specChanged a len cap xs id st w I (by have := I.1; omega)).mono (fun e w' h => tpost_k h)

theorem specWeighedK (id wt : Int) (h : tsksK.rep w S v xs) (hs : (xs.length : Int) ≤ 1048576) :
    Calls Tryz.prog 86 #[v, .int .i64 id, .int .i64 wt] w fun e w' => ∃ u T, e = .returned (.tuple #[u, .int .i64 (wgC xs id wt)]) ∧ tsksK.rep w' T u (wgL xs id wt) ∧ (∀ j, T j → w.heap.size ≤ j) ∧ Below w.heap.size w w' := by
  obtain ⟨a, len, cap, rfl, I⟩ := tsks_rd h
  exact (specWeighed a len cap xs id wt w I (by have := I.1; omega)).mono (fun e w' h => tpost_k h)

theorem specReadyOfK (h : tsksK.rep w S v xs) (hs : (xs.length : Int) ≤ 1048576) :
    Calls Tryz.prog 46 #[v] w fun e w' => ∃ u T, e = .returned u ∧ intsK.rep w' T u (rdyL xs) ∧ (∀ j, T j → w.heap.size ≤ j) ∧ Below w.heap.size w w' := by
  obtain ⟨a, len, cap, rfl, I⟩ := tsks_rd h
  refine (specReadyOf a len cap xs w I (by have := I.1; omega)).mono ?_
  rintro e w' ⟨g, n, c, rfl, F, B⟩
  exact ⟨_, _, rfl, fit_ints F, fit_fresh F, B⟩

theorem specTasksOkK (h : tsksK.rep w S v xs) (hs : (xs.length : Int) ≤ 1048576) :
    Calls Tryz.prog 109 #[v] w fun e w' => e = .returned (.bool (tasksOk xs)) ∧ Below w.heap.size w w' := by
  obtain ⟨a, len, cap, rfl, I⟩ := tsks_rd h
  exact specTasksOk a len cap xs w I (by have := I.1; omega)

theorem specFindK (id : Int) (h : tsksK.rep w S v xs) (hs : (xs.length : Int) ≤ 1048576) :
    Calls Tryz.prog 110 #[v, .int .i64 id] w fun e w' => e = .returned (.int .i64 (findT xs id)) ∧ Below w.heap.size w w' := by
  obtain ⟨a, len, cap, rfl, I⟩ := tsks_rd h
  exact kin_same (specFind a len cap xs id w I (by have := I.1; omega))

end

theorem szTasks_b (a : Option Addr) (len cap : Nat) (w : World) (hs : (len : Int) ≤ 1048576) :
    Calls Tryz.prog 55 #[.slice a len cap, .int .i64 1048576] w fun e w' => e = .returned (.int .i64 (1048576 - len)) ∧ Below w.heap.size w w' := by
  refine (szTasks_yes a len cap 1048576 w (by omega) (by omega) hs).mono ?_
  rintro e w' ⟨rfl, rfl⟩
  exact ⟨rfl, Below.refl _ _⟩

theorem szTasks_bn (a : Option Addr) (len cap : Nat) (w : World) (hm : (len : Int) ≤ 9223372036854775807) (hs : ¬ (len : Int) ≤ 1048576) :
    Calls Tryz.prog 55 #[.slice a len cap, .int .i64 1048576] w fun e w' => e = .returned (.int .i64 (-1)) ∧ Below w.heap.size w w' := by
  refine (szTasks_no a len cap 1048576 w (by omega) (by omega) hm hs).mono ?_
  rintro e w' ⟨rfl, rfl⟩
  exact ⟨rfl, Below.refl _ _⟩

end Go.Proofs.YtcmeimfjedakeaaGreat.Crew
