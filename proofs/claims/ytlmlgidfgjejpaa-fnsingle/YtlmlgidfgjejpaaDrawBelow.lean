/-
  What a draw leaves as it was: everything below the cursor's block.
-/
import Derived.Test.YtlmlgidfgjejpaaDrawNums
namespace Go.Proofs.Ytlmlgidfgjejpaa.Draw
open Go.ChangeShapes Go.WideShapes Go.ChangeAt Go.RowKit

theorem below_of {B : Nat} {w w' : World} {row : Option Nat} (g : w.grownBy w' row) (hB : B ≤ w.heap.size) (hr : ∀ k, row = some k → B ≤ k) : Below B w w' := (Below.refl B w).grown g hB hr

theorem left_below {k : IntKind} {T : TypeId} {p : Nat} {a : Option Addr} {len cap : Nat} {w w' : World} {B : Nat} (L : Left k T p a len cap w w') (hB : B ≤ p) (hp : p < w.heap.size) : Below B w w' :=
  below_of L.1 (by omega) (fun j hj => by cases hj; exact hB)

theorem new_below {k : IntKind} {T : TypeId} {a : Option Addr} {len cap : Nat} {w w' : World} {o : Obj} (L : Left k T w.heap.size a len cap (w.alloc o) w') : Below w.heap.size w w' :=
  ((Below.refl _ w).alloc (Nat.le_refl _) o).trans (left_below L (Nat.le_refl _) (by simp))

/-- Blocks of the call's own are written, besides the cursor's. -/
theorem left_own {k : IntKind} {T : TypeId} {p : Nat} {a : Option Addr} {len cap : Nat} {w w1 w2 : World} {row : Option Nat} (L : Left k T p a len cap w w1) (G : w1.grownBy w2 row) (hr : ∀ j, row = some j → w.heap.size ≤ j) (hp : p < w.heap.size) : Left k T p a len cap w w2 := by
  have hs := L.1.size
  refine ⟨⟨G.os.trans L.1.os, G.tape.trans L.1.tape, G.output.trans L.1.output, Nat.le_trans hs G.size, fun i hi hne => ?_⟩, ?_⟩
  · rw [G.block i (by omega) (fun e => by have := hr i e.symm; omega)]
    exact L.1.block i hi hne
  · rw [G.block p (by omega) (fun e => by have := hr p e.symm; omega)]
    exact L.2

end Go.Proofs.Ytlmlgidfgjejpaa.Draw
