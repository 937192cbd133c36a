/-
  The law FnExactSmoothOk: whatever the Smooth, it answers true and nothing that was there is written.
-/
import Derived.Test.YtcmeimfjedakeaaGreatSmoothLaws
import Derived.Deep.RegionHeld3
namespace Go.Proofs.YtcmeimfjedakeaaGreat.Crew
open Go.ChangeShapes Go.WideShapes Go.ChangeAt Go.RowKit

/-- A slice that came in is no longer than memory is. -/
theorem len_of {w : World} {a : Option Addr} {len cap : Nat} {zs : List Int}
    (h : (a = none ∧ len = 0 ∧ cap = 0 ∧ zs = []) ∨ ∃ x, a = some x ∧ len ≤ cap ∧ cap ≤ maxLen ∧ zs.length = cap ∧ (∀ i, i < zs.length → w.cell? (x.add i) = some (.int .i64 (zs.getD i 0))) ∧ ∀ n ∈ zs, (Lit.int .i64 n).wf = true) :
    (len : Int) ≤ 9223372036854775807 := by
  rcases h with ⟨_, h, _, _⟩ | ⟨x, rfl, hl, hm, _⟩
  · omega
  · unfold maxLen at hm; omega

/-- The two cells of a Smooth. -/
def Two (w : World) (b : Nat) (x y : Value) : Prop := b < w.heap.size ∧ w.cell? ⟨b, 0, none⟩ = some x ∧ w.cell? ⟨b, 1, none⟩ = some y

theorem Two.all {w w' : World} {b : Nat} {x y : Value} (h : Two w b x y) (g : Below w.heap.size w w') : Two w' b x y :=
  ⟨Nat.lt_of_lt_of_le h.1 g.size, (g.cell (p := ⟨b, 0, none⟩) h.1).trans h.2.1, (g.cell (p := ⟨b, 1, none⟩) h.1).trans h.2.2⟩

theorem Two.other {w w' : World} {b : Nat} {x y : Value} {row : Option Nat} (h : Two w b x y) (g : w.grownBy w' row) (hb : some b ≠ row) : Two w' b x y :=
  ⟨Nat.lt_of_lt_of_le h.1 g.size, (World.cell?_of_block (g.block b h.1 hb)).trans h.2.1, (World.cell?_of_block (g.block b h.1 hb)).trans h.2.2⟩

theorem Two.alloc {w : World} {b : Nat} {x y : Value} (h : Two w b x y) (o : Obj) : Two (w.alloc o) b x y := h.other (World.grownBy_alloc w o none) (by simp)

theorem Two.drew {w : World} {b : Nat} {x y : Value} (h : Two w b x y) : Two w.drew b x y := h

theorem two_new (w : World) (x y : Value) (t : TypeId) : Two (w.alloc (.cells #[x, y] t)) w.heap.size x y :=
  ⟨by simp, cell_pair (heap_alloc_new w (.cells #[x, y] t)) 0, cell_pair (heap_alloc_new w (.cells #[x, y] t)) 1⟩

end Go.Proofs.YtcmeimfjedakeaaGreat.Crew
