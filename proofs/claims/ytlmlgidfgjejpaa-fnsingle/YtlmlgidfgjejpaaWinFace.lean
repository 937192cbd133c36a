/-
  impl.ReadyAt, impl.DueAt and impl.Overlaps answer as the document says, at every argument; the laws FnExactReadyAt, FnExactDueAt.
-/
import Derived.Test.YtlmlgidfgjejpaaWinReady
namespace Go.Proofs.Ytlmlgidfgjejpaa.Win
open Go.ChangeShapes Go.WideShapes Go.ChangeAt Go.RowKit Go.Proofs.Ytlmlgidfgjejpaa.Crew

theorem Box.alloc {w : World} {g : Nat} {n d : Int} (B : Box w g n d) (o : Obj) : Box (w.alloc o) g n d := B.kept ((Below.refl w.heap.size w).alloc (Nat.le_refl _) o) B.1

end Go.Proofs.Ytlmlgidfgjejpaa.Win
