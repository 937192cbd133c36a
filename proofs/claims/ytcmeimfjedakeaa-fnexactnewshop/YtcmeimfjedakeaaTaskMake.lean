/-
  spec.Created, Changed, Weighed and ReadyOf at every list of tasks of the call's own.
-/
import Derived.Test.YtcmeimfjedakeaaTaskSpec
import Derived.Deep.RegionHeld3
namespace Go.Proofs.Ytcmeimfjedakeaa.Crew
open Go.ChangeShapes Go.WideShapes Go.ChangeAt Go.RowKit

/-- Behind how many the new one comes. -/
def atTo (xs : List Tsk) (id : Int) : Nat → Nat
  | 0 => 0
  | k + 1 => if (xs.getD k tz).i < id then k + 1 else atTo xs id k

theorem atTo_le (xs : List Tsk) (id : Int) (k : Nat) : atTo xs id k ≤ k := by
  induction k with
  | zero => exact Nat.le_refl _
  | succ k ih =>
    rw [atTo]
    split <;> omega

/-- A list as it is; nothing where it is not right. -/
def asIs (xs : List Tsk) : List Tsk := if tasksOk xs then xs else []

def crOk (xs : List Tsk) (id wt : Int) : Bool := tasksOk xs && within id 1 9999 && within wt 1 1000000

def crC (xs : List Tsk) (id wt : Int) : Int := if crOk xs id wt then (if 0 ≤ findT xs id then 3 else if 24 ≤ xs.length then 5 else 0) else 1

def crNew (xs : List Tsk) (id wt : Int) : List Tsk := xs.take (atTo xs id xs.length) ++ ⟨id, wt, 1, 0⟩ :: xs.drop (atTo xs id xs.length)

def crL (xs : List Tsk) (id wt : Int) : List Tsk := if crC xs id wt = 0 then crNew xs id wt else asIs xs

/-- What is answered: a list and a code. -/
def TPost (L : List Tsk) (code : Int) (w : World) (e : Ending) (w' : World) : Prop :=
  ∃ g n c : Nat, e = .returned (.tuple #[.slice (some ⟨g, 0, none⟩) n c, .int .i64 code]) ∧ TFit w' w.heap.size (some ⟨g, 0, none⟩) n c L ∧ Below w.heap.size w w'

theorem tpost_at {L : List Tsk} {code : Int} {w w1 : World} {e : Ending} {w' : World} (h : TPost L code w1 e w') (B : Below w.heap.size w w1) : TPost L code w e w' := by
  obtain ⟨g, n, c, he, F, B1⟩ := h
  exact ⟨g, n, c, he, F.mono B.size, below_call B B.size B1⟩

end Go.Proofs.Ytcmeimfjedakeaa.Crew
