/-
  A region that draws its order, whose own operations only read, and whose callees leave everything below as it was (they may make memory): walked once, in the order of the text.
-/
import Derived.Test.YtcmeimfjedakeaaGreatRows
import Derived.WalkKit
import Derived.ProofKit
import Derived.Below
import Derived.Deep.QuietTactic
import Derived.BigQuiet
namespace Go.Proofs.YtcmeimfjedakeaaGreat
open Go.ChangeShapes Go.WideShapes Go.ChangeAt Go.RowKit

/-- A world in which all that lay in w lies as it did. -/
structure Kin (w : World) where
  u : World
  b : Below w.heap.size w u

theorem Kin.cell {w : World} (x : Kin w) {p : Addr} {v : Value} (hp : p.block < w.heap.size) (h : w.cell? p = some v) : x.u.cell? p = some v := (x.b.cell hp).trans h

theorem kin_calls {P : Program} {f : FuncId} {args : Array Value} {w : World} {x : Kin w} {v : Value}
    (h : Calls P f args x.u fun e w' => e = .returned v ∧ Below x.u.heap.size x.u w') : Calls P f args x.u fun e w'' => e = .returned v ∧ ∃ y : Kin w, w'' = y.u :=
  h.mono fun _ w' ⟨he, hb⟩ => ⟨he, ⟨w', x.b.trans (hb.mono x.b.size)⟩, rfl⟩

/-- A kin of a kin. -/
def Kin.join {w : World} (x : Kin w) (y : Kin x.u) : Kin w := ⟨y.u, x.b.trans (y.b.mono x.b.size)⟩

theorem Kin.at {w : World} {x : Kin w} {y : Kin x.u} {p : Addr} {v : Value} (h : ∀ z : Kin w, z.u.cell? p = some v) : y.u.cell? p = some v := h (x.join y)

theorem wp_region_kin {P : Program} {id : Nat} {Q : Exit → Act → World → Prop} {a : Act} {w : World} {l : List Oper} (hm : P.follows .mixedOrders = true) (hB : Region.lexB .any l.toArray = true)
    (h : Nonempty (Kin w) → wpQuiet P l.toArray (fun w' => ∃ x : Kin w, w' = x.u) (fun a' => ∀ w', (∃ x : Kin w, w' = x.u) → Q .normal a' w') l a) : (Code.region id l.toArray true).wp P Q a w :=
  wp_region_quiet (C := fun w' => ∃ x : Kin w, w' = x.u) hm hB ⟨⟨_, (Below.refl _ w).drew⟩, rfl⟩ (by simpa using h ⟨⟨w, Below.refl _ w⟩⟩)

end Go.Proofs.YtcmeimfjedakeaaGreat
