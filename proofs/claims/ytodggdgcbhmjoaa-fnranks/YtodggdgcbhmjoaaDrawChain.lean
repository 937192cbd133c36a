/-
  spec.DrawChainEnd: some share and some turn; everything that was there stays as it was.
-/
import Derived.Test.YtodggdgcbhmjoaaDrawShare
namespace Go.Proofs.Ytodggdgcbhmjoaa.Draw
open Go.ChangeShapes Go.WideShapes Go.ChangeAt Go.RowKit
open Go.Proofs.Ytodggdgcbhmjoaa.Win

theorem grown_below {w w' : World} (b : Below w.heap.size w w') : w.grownBy w' none := ⟨b.os, b.tape, b.output, b.size, fun i hi _ => b.block i hi⟩

theorem Sh.kept {w w' : World} {b : Nat} {n d : Int} (h : Sh w b n d) (k : Below w.heap.size w w') : Sh w' b n d := h.other (grown_below k) (by simp)

end Go.Proofs.Ytodggdgcbhmjoaa.Draw
