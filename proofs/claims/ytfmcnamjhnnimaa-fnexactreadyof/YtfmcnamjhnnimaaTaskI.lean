/-
  What impl's functions over tasks answer, as kinds.
-/
import Derived.Test.YtfmcnamjhnnimaaTaskMakeI
namespace Go.Proofs.Ytfmcnamjhnnimaa.Crew
open Go.ChangeShapes Go.WideShapes Go.ChangeAt Go.RowKit

section
variable {w : World} {S : Bs} {v : Value} {xs : List Tsk}

theorem implCreatedK (id wt : Int) (h : tsksK.rep w S v xs) (hs : (xs.length : Int) ≤ 1048576) :
    Calls Try.prog 15 #[v, .int .i64 id, .int .i64 wt] w fun e w' => ∃ u T, e = .returned (.tuple #[u, .int .i64 (crC xs id wt)]) ∧ tsksK.rep w' T u (crL xs id wt) ∧ (∀ j, T j → w.heap.size ≤ j) ∧ Below w.heap.size w w' := by
  obtain ⟨a, len, cap, rfl, I⟩ := tsks_rd h
  exact (implCreated a len cap xs id wt w I (by have := I.1; omega)).mono (fun e w' h => tpost_k h)

theorem implReadyOfK (h : tsksK.rep w S v xs) (hs : (xs.length : Int) ≤ 1048576) :
    Calls Try.prog 19 #[v] w fun e w' => ∃ u T, e = .returned u ∧ intsK.rep w' T u (rdyL xs) ∧ (∀ j, T j → w.heap.size ≤ j) ∧ Below w.heap.size w w' := by
  obtain ⟨a, len, cap, rfl, I⟩ := tsks_rd h
  refine (implReadyOf a len cap xs w I (by have := I.1; omega)).mono ?_
  rintro e w' ⟨g, n, c, rfl, F, B⟩
  exact ⟨_, _, rfl, fit_ints F, fit_fresh F, B⟩

theorem implTasksOkK (h : tsksK.rep w S v xs) (hs : (xs.length : Int) ≤ 1048576) :
    Calls Try.prog 10 #[v] w fun e w' => e = .returned (.bool (tasksOk xs)) ∧ Below w.heap.size w w' := by
  obtain ⟨a, len, cap, rfl, I⟩ := tsks_rd h
  exact implTasksOk a len cap xs w I (by have := I.1; omega)

theorem implFindK (id : Int) (h : tsksK.rep w S v xs) (hs : (xs.length : Int) ≤ 1048576) :
    Calls Try.prog 13 #[v, .int .i64 id] w fun e w' => e = .returned (.int .i64 (findT xs id)) ∧ Below w.heap.size w w' := by
  obtain ⟨a, len, cap, rfl, I⟩ := tsks_rd h
  exact implFind a len cap xs id w I (by have := I.1; omega)

end

end Go.Proofs.Ytfmcnamjhnnimaa.Crew
