/-
  A Smooth in a block: two slices side by side.
-/
import Derived.Test.YtlmlgidfgjejpaaSmoothBase
import Derived.Test.YtlmlgidfgjejpaaIntsAppend
namespace Go.Proofs.Ytlmlgidfgjejpaa.Crew
open Go.ChangeShapes Go.WideShapes Go.ChangeAt Go.RowKit

theorem cell_pair {w : World} {b : Nat} {vs : Array Value} {t : TypeId} (h : w.heap[b]? = some (.cells vs t (0, 0))) (j : Nat) : w.cell? ⟨b, j, none⟩ = vs[j]? := by
  rw [cell_of_row w b j vs t (0, 0) h]

theorem Row.past {w : World} {g cap b j : Nat} {xs : List Int} (h : Row w g cap xs) (hb : g ≠ b) (v : Value) : Row (w.setCell ⟨b, j, none⟩ v) g cap xs := h.other (grown_at w b j v) (by simpa using hb)

/-- What a call leaves below: a store into a block of its own. -/
theorem below_set {B b j : Nat} {w w1 : World} (h : Below B w w1) (hb : B ≤ b) (v : Value) : Below B w (w1.setCell ⟨b, j, none⟩ v) := h.setCell (p := ⟨b, j, none⟩) hb v

/-- Behind a callee that leaves all as it was. -/
theorem below_call {B : Nat} {w w1 w2 : World} (h : Below B w w1) (hB : B ≤ w1.heap.size) (h2 : Below w1.heap.size w1 w2) : Below B w w2 := h.trans (h2.mono hB)

theorem below_new (w : World) (o : Obj) : Below w.heap.size w (w.alloc o) := (Below.refl _ w).alloc (Nat.le_refl _) _

end Go.Proofs.Ytlmlgidfgjejpaa.Crew
