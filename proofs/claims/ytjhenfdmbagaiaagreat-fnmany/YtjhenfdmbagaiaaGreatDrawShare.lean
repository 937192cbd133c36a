/-
  Drawing a share and a turn: spec.l4Draw, l4DrawAny, l4DrawTurn, DrawReadyAt, DrawDueAt. Besides blocks of the call's own the cursor's block alone is written.
-/
import Derived.Test.YtjhenfdmbagaiaaGreatDrawBase
import Derived.Test.YtjhenfdmbagaiaaGreatWinBase
import Derived.Deep.RegionWith
namespace Go.Proofs.YtjhenfdmbagaiaaGreat.Draw
open Go.ChangeShapes Go.WideShapes Go.ChangeAt Go.RowKit
open Go.Proofs.YtjhenfdmbagaiaaGreat.Win

/-- A Share in block b. -/
def Sh (w : World) (b : Nat) (n d : Int) : Prop := w.heap[b]? = some (.cells #[.int .i64 n, .int .i64 d] 63 (0, 0))

theorem Sh.c0 {w : World} {b : Nat} {n d : Int} (h : Sh w b n d) : w.cell? ⟨b, 0, none⟩ = some (.int .i64 n) := cell_blk h 0
theorem Sh.c1 {w : World} {b : Nat} {n d : Int} (h : Sh w b n d) : w.cell? ⟨b, 1, none⟩ = some (.int .i64 d) := cell_blk h 1
theorem Sh.fr {w : World} {b : Nat} {n d : Int} (h : Sh w b n d) (j : Nat) : w.frozen? ⟨b, j, none⟩ = false := frozen_of_row w b j _ _ h
theorem Sh.lt {w : World} {b : Nat} {n d : Int} (h : Sh w b n d) : b < w.heap.size := (Array.getElem?_eq_some_iff.1 h).1

theorem sh_new (w : World) (n d : Int) : Sh (w.alloc (.cells #[.int .i64 n, .int .i64 d] 63)) w.heap.size n d := heap_alloc_new w _

theorem Sh.other {w w' : World} {b : Nat} {n d : Int} {row : Option Nat} (h : Sh w b n d) (g : w.grownBy w' row) (hb : some b ≠ row) : Sh w' b n d := by
  unfold Sh
  rw [g.block b h.lt hb]
  exact h

theorem Sh.alloc {w : World} {b : Nat} {n d : Int} (h : Sh w b n d) (o : Obj) : Sh (w.alloc o) b n d := h.other (World.grownBy_alloc w o none) (by simp)

theorem Sh.left {k : IntKind} {T : TypeId} {p : Nat} {a : Option Addr} {len cap : Nat} {w w' : World} {b : Nat} {n d : Int} (h : Sh w b n d) (L : Left k T p a len cap w w') (hb : b ≠ p) : Sh w' b n d := h.other L.1 (by simpa using hb)

theorem Sh.set0 {w : World} {b : Nat} {n d : Int} (h : Sh w b n d) (v : Int) : Sh (w.setCell ⟨b, 0, none⟩ (.int .i64 v)) b v d := heap_setCell_same w b 0 _ _ _ h
theorem Sh.set1 {w : World} {b : Nat} {n d : Int} (h : Sh w b n d) (v : Int) : Sh (w.setCell ⟨b, 1, none⟩ (.int .i64 v)) b n v := heap_setCell_same w b 1 _ _ _ h
theorem Sh.past {w : World} {b b' j : Nat} {n d : Int} (h : Sh w b n d) (hb : b ≠ b') (v : Value) : Sh (w.setCell ⟨b', j, none⟩ v) b n d := h.other (grown_setCell w b' j v) (by simpa using hb)

theorem left_set {k : IntKind} {T : TypeId} {p : Nat} {a : Option Addr} {len cap : Nat} {w w1 : World} {b : Nat} (L : Left k T p a len cap w w1) (hb : w.heap.size ≤ b) (hp : p < w.heap.size) (j : Nat) (v : Value) : Left k T p a len cap w (w1.setCell ⟨b, j, none⟩ v) :=
  left_own L (grown_setCell w1 b j v) (fun i hi => by cases hi; exact hb) hp

theorem left_new {k : IntKind} {T : TypeId} {p : Nat} {a : Option Addr} {len cap : Nat} {w w1 : World} (L : Left k T p a len cap w w1) (hp : p < w.heap.size) (o : Obj) : Left k T p a len cap w (w1.alloc o) :=
  left_own L (World.grownBy_alloc w1 o none) (by simp) hp

theorem info_share : (Tryz.prog.info? 63).map (·.size) = some 2 := by kernel_rfl

theorem ret_share {fn : Func} {q : Tmp} (h : fn.results = #[.cell q 63]) {tmps : Array Value} {w : World} {g : Nat} {n d : Int} (hp : tmps.getD q undef = .pointer (some ⟨g, 0, none⟩)) (S : Sh w g n d) : (results fn tmps).run Tryz.prog w = .ok (sh n d) w :=
  results_cell_row h tmps w g _ _ _ _ hp S Tryz.underlying63 rfl info_share

theorem ret_share2 {fn : Func} {q u : Tmp} (h : fn.results = #[.cell q 63, .tmp u]) {tmps : Array Value} {w : World} {g : Nat} {n d : Int} {v : Value} (hp : tmps.getD q undef = .pointer (some ⟨g, 0, none⟩)) (hv : tmps.getD u undef = v) (S : Sh w g n d) : (results fn tmps).run Tryz.prog w = .ok (.tuple #[sh n d, v]) w := by
  rw [results_cell_tmp h, hp, hv]
  simp [asAddr, run_loadVar_row w g _ 63 _ _ _ S Tryz.underlying63 rfl info_share]

theorem cur_drew {k : IntKind} {T : TypeId} {p : Nat} {a : Option Addr} {len cap : Nat} {w : World} (C : Cur k T p a len cap w) : Cur k T p a len cap w.drew :=
  C.other (grown_drewN (World.grownBy.refl w none) 1) (by simp) (by simp)

theorem left_drew {k : IntKind} {T : TypeId} {p : Nat} {a : Option Addr} {len cap : Nat} {w w1 : World} (L : Left k T p a len cap w w1) : Left k T p a len cap w w1.drew :=
  ⟨grown_drewN L.1 1, L.2⟩

end Go.Proofs.YtjhenfdmbagaiaaGreat.Draw
