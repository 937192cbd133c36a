/-
  A Smooth in a block: two slices side by side.
-/
import Derived.Test.YtkfepehldjkedaaSmoothBase
import Derived.Test.YtkfepehldjkedaaIntsAppend
namespace Go.Proofs.Ytkfepehldjkedaa.Crew
open Go.ChangeShapes Go.WideShapes Go.ChangeAt Go.RowKit

/-- Block b holds the Smooth of x and y. -/
def Pair (w : World) (b : Nat) (x y : Value) : Prop := w.heap[b]? = some (.cells #[x, y] 31 (0, 0))

theorem cell_pair {w : World} {b : Nat} {vs : Array Value} {t : TypeId} (h : w.heap[b]? = some (.cells vs t (0, 0))) (j : Nat) : w.cell? ⟨b, j, none⟩ = vs[j]? := by
  rw [cell_of_row w b j vs t (0, 0) h]

theorem Pair.c0 {w : World} {b : Nat} {x y : Value} (h : Pair w b x y) : w.cell? ⟨b, 0, none⟩ = some x := cell_pair h 0

theorem Pair.c1 {w : World} {b : Nat} {x y : Value} (h : Pair w b x y) : w.cell? ⟨b, 1, none⟩ = some y := cell_pair h 1

theorem Pair.fr {w : World} {b : Nat} {x y : Value} (h : Pair w b x y) (j : Nat) : w.frozen? ⟨b, j, none⟩ = false := frozen_of_row w b j _ _ h

theorem Pair.lt {w : World} {b : Nat} {x y : Value} (h : Pair w b x y) : b < w.heap.size := (Array.getElem?_eq_some_iff.1 h).1

theorem pair_new (w : World) (x y : Value) : Pair (w.alloc (.cells #[x, y] 31)) w.heap.size x y := heap_alloc_new w _

theorem Pair.other {w w' : World} {b : Nat} {x y : Value} {row : Option Nat} (h : Pair w b x y) (g : w.grownBy w' row) (hb : some b ≠ row) : Pair w' b x y := by
  unfold Pair
  rw [g.block b h.lt hb]
  exact h

theorem Pair.alloc {w : World} {b : Nat} {x y : Value} (h : Pair w b x y) (o : Obj) : Pair (w.alloc o) b x y := h.other (World.grownBy_alloc w o none) (by simp)

theorem Pair.kept {w w' : World} {b B : Nat} {x y : Value} (h : Pair w b x y) (g : Below B w w') (hb : b < B) : Pair w' b x y := by
  unfold Pair
  rw [g.block b hb]
  exact h

theorem Pair.all {w w' : World} {b : Nat} {x y : Value} (h : Pair w b x y) (g : Below w.heap.size w w') : Pair w' b x y := h.kept g h.lt

theorem Pair.set0 {w : World} {b : Nat} {x y : Value} (h : Pair w b x y) (v : Value) : Pair (w.setCell ⟨b, 0, none⟩ v) b v y := heap_setCell_same w b 0 _ _ _ h

theorem Pair.set1 {w : World} {b : Nat} {x y : Value} (h : Pair w b x y) (v : Value) : Pair (w.setCell ⟨b, 1, none⟩ v) b x v := heap_setCell_same w b 1 _ _ _ h

theorem Pair.past {w : World} {b b' j : Nat} {x y : Value} (h : Pair w b x y) (hb : b ≠ b') (v : Value) : Pair (w.setCell ⟨b', j, none⟩ v) b x y := h.other (grown_at w b' j v) (by simpa using hb)

theorem Row.past {w : World} {g cap b j : Nat} {xs : List Int} (h : Row w g cap xs) (hb : g ≠ b) (v : Value) : Row (w.setCell ⟨b, j, none⟩ v) g cap xs := h.other (grown_at w b j v) (by simpa using hb)

theorem info_smooth : (Try.prog.info? 31).map (·.size) = some 2 := by kernel_rfl

theorem ret_pair {fn : Func} {q : Tmp} (h : fn.results = #[.cell q 31]) {tmps : Array Value} {w : World} {g : Nat} {x y : Value} (hp : tmps.getD q undef = .pointer (some ⟨g, 0, none⟩)) (S : Pair w g x y) : (results fn tmps).run Try.prog w = .ok (sm x y) w :=
  results_cell_row h tmps w g _ _ _ _ hp S Try.underlying31 rfl info_smooth

theorem ret_pair2 {fn : Func} {q u : Tmp} (h : fn.results = #[.cell q 31, .tmp u]) {tmps : Array Value} {w : World} {g : Nat} {x y v : Value} (hp : tmps.getD q undef = .pointer (some ⟨g, 0, none⟩)) (hv : tmps.getD u undef = v) (S : Pair w g x y) : (results fn tmps).run Try.prog w = .ok (.tuple #[sm x y, v]) w := by
  rw [results_cell_tmp h, hp, hv]
  simp [asAddr, run_loadVar_row w g _ 31 _ _ _ S Try.underlying31 rfl info_smooth]

/-- What a call leaves below: a store into a block of its own. -/
theorem below_set {B b j : Nat} {w w1 : World} (h : Below B w w1) (hb : B ≤ b) (v : Value) : Below B w (w1.setCell ⟨b, j, none⟩ v) := h.setCell (p := ⟨b, j, none⟩) hb v

/-- Behind a callee that leaves all as it was. -/
theorem below_call {B : Nat} {w w1 w2 : World} (h : Below B w w1) (hB : B ≤ w1.heap.size) (h2 : Below w1.heap.size w1 w2) : Below B w w2 := h.trans (h2.mono hB)

theorem below_new (w : World) (o : Obj) : Below w.heap.size w (w.alloc o) := (Below.refl _ w).alloc (Nat.le_refl _) _

end Go.Proofs.Ytkfepehldjkedaa.Crew
