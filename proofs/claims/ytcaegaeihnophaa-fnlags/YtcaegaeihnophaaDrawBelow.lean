/-
  What a draw leaves as it was: everything below the cursor's block.
-/
import Derived.Test.YtcaegaeihnophaaDrawNums
namespace Go.Proofs.Ytcaegaeihnophaa.Draw
open Go.ChangeShapes Go.WideShapes Go.ChangeAt Go.RowKit

theorem below_of {B : Nat} {w w' : World} {row : Option Nat} (g : w.grownBy w' row) (hB : B ≤ w.heap.size) (hr : ∀ k, row = some k → B ≤ k) : Below B w w' := (Below.refl B w).grown g hB hr

theorem left_below {k : IntKind} {T : TypeId} {p : Nat} {a : Option Addr} {len cap : Nat} {w w' : World} {B : Nat} (L : Left k T p a len cap w w') (hB : B ≤ p) (hp : p < w.heap.size) : Below B w w' :=
  below_of L.1 (by omega) (fun j hj => by cases hj; exact hB)

theorem new_below {k : IntKind} {T : TypeId} {a : Option Addr} {len cap : Nat} {w w' : World} {o : Obj} (L : Left k T w.heap.size a len cap (w.alloc o) w') : Below w.heap.size w w' :=
  ((Below.refl _ w).alloc (Nat.le_refl _) o).trans (left_below L (Nat.le_refl _) (by simp))

end Go.Proofs.Ytcaegaeihnophaa.Draw
