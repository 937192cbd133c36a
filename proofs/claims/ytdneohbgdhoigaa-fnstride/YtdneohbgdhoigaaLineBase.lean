/-
  A line of those that wait: its block, and what its five methods do.
-/
import Derived.Test.YtdneohbgdhoigaaStrideMath
import Derived.Test.YtdneohbgdhoigaaSmoothAns
import Derived.Test.YtdneohbgdhoigaaKin
import Derived.BigRegion
namespace Go.Proofs.Ytdneohbgdhoigaa.Crew
open Go.ChangeShapes Go.WideShapes Go.ChangeAt Go.RowKit

/-- Block b holds the line of x, y and z. -/
def Line (w : World) (b : Nat) (x y z : Value) : Prop := w.heap[b]? = some (.cells #[x, y, z] 51 (0, 0))

theorem Line.c0 {w : World} {b : Nat} {x y z : Value} (h : Line w b x y z) : w.cell? ⟨b, 0, none⟩ = some x := cell_pair h 0

theorem Line.c1 {w : World} {b : Nat} {x y z : Value} (h : Line w b x y z) : w.cell? ⟨b, 1, none⟩ = some y := cell_pair h 1

theorem Line.c2 {w : World} {b : Nat} {x y z : Value} (h : Line w b x y z) : w.cell? ⟨b, 2, none⟩ = some z := cell_pair h 2

theorem Line.fr {w : World} {b : Nat} {x y z : Value} (h : Line w b x y z) (j : Nat) : w.frozen? ⟨b, j, none⟩ = false := frozen_of_row w b j _ _ h

theorem Line.lt {w : World} {b : Nat} {x y z : Value} (h : Line w b x y z) : b < w.heap.size := (Array.getElem?_eq_some_iff.1 h).1

theorem line_new (w : World) (x y z : Value) : Line (w.alloc (.cells #[x, y, z] 51)) w.heap.size x y z := heap_alloc_new w _

theorem Line.other {w w' : World} {b : Nat} {x y z : Value} {row : Option Nat} (h : Line w b x y z) (g : w.grownBy w' row) (hb : some b ≠ row) : Line w' b x y z := by
  unfold Line
  rw [g.block b h.lt hb]
  exact h

theorem Line.all {w w' : World} {b : Nat} {x y z : Value} (h : Line w b x y z) (g : Below w.heap.size w w') : Line w' b x y z := by
  unfold Line
  rw [g.block b h.lt]
  exact h

theorem Line.set2 {w : World} {b : Nat} {x y z : Value} (h : Line w b x y z) (v : Value) : Line (w.setCell ⟨b, 2, none⟩ v) b x y v := heap_setCell_same w b 2 _ _ _ h

theorem Line.past {w : World} {b b' j : Nat} {x y z : Value} (h : Line w b x y z) (hb : b ≠ b') (v : Value) : Line (w.setCell ⟨b', j, none⟩ v) b x y z := h.other (grown_at w b' j v) (by simpa using hb)

/-- A line whose parts read as cs, ns and ws: all but the crew lies in blocks of the call's own, which began at w0. -/
structure Ln (w0 w : World) (b : Nat) (ca : Option Addr) (la cca : Nat) (cs : List Int) (g lg cg : Nat) (ns : List Int) (ha : Option Addr) (lh ch : Nat) (ws : List Int) : Prop where
  bel : Below w0.heap.size w0 w
  crew : Ints w0 ca la cs
  line : Line w b (.slice ca la cca) (.slice (some ⟨g, 0, none⟩) lg cg) (.slice ha lh ch)
  cnt : Row w g cg ns
  cntl : ns.length = lg
  wait : Fit w w0.heap.size ha lh ch ws
  lob : w0.heap.size ≤ b
  log : w0.heap.size ≤ g
  bg : b ≠ g
  hb : ∀ x, ha = some x → x.block ≠ b
  hg : ∀ x, ha = some x → x.block ≠ g
  nil : ha = none → ch = 0

theorem Ln.ints {w0 w : World} {b : Nat} {ca : Option Addr} {la cca : Nat} {cs : List Int} {g lg cg : Nat} {ns : List Int} {ha : Option Addr} {lh ch : Nat} {ws : List Int} (h : Ln w0 w b ca la cca cs g lg cg ns ha lh ch ws) : Ints w ca la cs := h.crew.kept h.bel

theorem Ln.all {w0 w w' : World} {b : Nat} {ca : Option Addr} {la cca : Nat} {cs : List Int} {g lg cg : Nat} {ns : List Int} {ha : Option Addr} {lh ch : Nat} {ws : List Int} (h : Ln w0 w b ca la cca cs g lg cg ns ha lh ch ws) (k : Below w.heap.size w w') : Ln w0 w' b ca la cca cs g lg cg ns ha lh ch ws :=
  ⟨below_call h.bel h.bel.size k, h.crew, h.line.all k, h.cnt.all k, h.cntl, h.wait.all k, h.lob, h.log, h.bg, h.hb, h.hg, h.nil⟩

theorem Ln.drewN {w0 w : World} {b : Nat} {ca : Option Addr} {la cca : Nat} {cs : List Int} {g lg cg : Nat} {ns : List Int} {ha : Option Addr} {lh ch : Nat} {ws : List Int} (h : Ln w0 w b ca la cca cs g lg cg ns ha lh ch ws) (n : Nat) : Ln w0 (w.drewN n) b ca la cca cs g lg cg ns ha lh ch ws := h.all (below_drewN (Below.refl _ _) n)

theorem Ln.row {w0 w : World} {b : Nat} {ca : Option Addr} {la cca : Nat} {cs : List Int} {g lg cg : Nat} {ns : List Int} {ha : Option Addr} {lh ch : Nat} {ws : List Int} (h : Ln w0 w b ca la cca cs g lg cg ns ha lh ch ws) (h0 : 0 < lh) : ∃ r, ha = some ⟨r, 0, none⟩ ∧ w0.heap.size ≤ r ∧ Row w r ch ws ∧ ws.length = lh ∧ r ≠ b ∧ r ≠ g := by
  obtain ⟨hl, ⟨h1, _⟩ | ⟨r, rfl, hr, R⟩⟩ := h.wait
  · omega
  · exact ⟨r, rfl, hr, R, hl, h.hb _ rfl, h.hg _ rfl⟩

/-- impl's line: how many wait. -/
theorem len_at (b : Nat) (x y : Value) (a : Option Addr) (len cap : Nat) (w : World) (L : Line w b x y (.slice a len cap)) :
    Calls Try.prog 81 #[.pointer (some ⟨b, 0, none⟩)] w fun e w' => e = .returned (.int .i64 len) ∧ w' = w := by
  have c2 := L.c2
  clear L
  go_enter Try.func81, Try.ntmps81
  go_wp2_with fail
  go_ret
  exact ⟨rfl, rfl⟩

/-- impl's line: who waits on top. -/
theorem last_at (b : Nat) (x y : Value) (g len cap : Nat) (ws : List Int) (w : World) (L : Line w b x y (.slice (some ⟨g, 0, none⟩) len cap)) (R : Row w g cap ws) (hl : ws.length = len) (h0 : 0 < len) :
    Calls Try.prog 40 #[.pointer (some ⟨b, 0, none⟩)] w fun e w' => e = .returned (.int .i64 (gd ws 0)) ∧ w' = w := by
  have c2 := L.c2
  have c3 : w.cell? ⟨g, 0, none⟩ = some (.int .i64 (gd ws 0)) := R.cell (by omega)
  have h0' : (0 : Int) < (len : Int) := by omega
  clear L R hl
  go_enter Try.func40, Try.ntmps40
  go_wp2_with fail
  go_ret
  exact ⟨rfl, rfl⟩

/-- A cell of a slice that came in. -/
theorem Ints.cell {w : World} {a : Option Addr} {len : Nat} {xs : List Int} (h : Ints w a len xs) {k : Nat} (hk : k < len) : ∃ b off, a = some ⟨b, off, none⟩ ∧ b < w.heap.size ∧ w.cell? ⟨b, off + k, none⟩ = some (.int .i64 (xs.getD k 0)) := by
  obtain ⟨hl, h0 | ⟨b, off, ha, hb, hc⟩⟩ := h
  · omega
  · exact ⟨b, off, ha, hb, hc k hk⟩

end Go.Proofs.Ytdneohbgdhoigaa.Crew
