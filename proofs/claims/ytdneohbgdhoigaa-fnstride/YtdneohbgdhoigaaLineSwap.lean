/-
  A line's Swap: two that wait change places.
-/
import Derived.Test.YtdneohbgdhoigaaLineBase
namespace Go.Proofs.Ytdneohbgdhoigaa.Crew
open Go.ChangeShapes Go.WideShapes Go.ChangeAt Go.RowKit

/-- From w to w' nothing was written but the line's blocks, and new ones. -/
structure Only (b g : Nat) (ha : Option Addr) (w w' : World) : Prop where
  size : w.heap.size ≤ w'.heap.size
  block : ∀ i, i < w.heap.size → i ≠ b → i ≠ g → (∀ x, ha = some x → x.block ≠ i) → w'.heap[i]? = w.heap[i]?

theorem only_refl (b g : Nat) (ha : Option Addr) (w : World) : Only b g ha w w := ⟨Nat.le_refl _, fun _ _ _ _ _ => rfl⟩

theorem Only.trans {b g : Nat} {ha : Option Addr} {w w1 w2 : World} (h : Only b g ha w w1) (k : Only b g ha w1 w2) : Only b g ha w w2 :=
  ⟨Nat.le_trans h.size k.size, fun i hi h1 h2 h3 => (k.block i (Nat.lt_of_lt_of_le hi h.size) h1 h2 h3).trans (h.block i hi h1 h2 h3)⟩

theorem only_below {b g : Nat} {ha : Option Addr} {w w' : World} (h : Below w.heap.size w w') : Only b g ha w w' := ⟨h.size, fun i hi _ _ _ => h.block i hi⟩

theorem only_row {b g r j : Nat} {w : World} (v : Value) : Only b g (some ⟨r, 0, none⟩) w (w.setCell ⟨r, j, none⟩ v) := by
  have h := grown_at w r j v
  exact ⟨h.size, fun i hi _ _ hx => h.block i hi (by have := hx _ rfl; dsimp only at this; simp; omega)⟩

theorem only_line {b g j : Nat} {ha : Option Addr} {w : World} (v : Value) : Only b g ha w (w.setCell ⟨b, j, none⟩ v) := by
  have h := grown_at w b j v
  exact ⟨h.size, fun i hi hb _ _ => h.block i hi (by simpa using hb)⟩

theorem only_cnt {b g j : Nat} {ha : Option Addr} {w : World} (v : Value) : Only b g ha w (w.setCell ⟨g, j, none⟩ v) := by
  have h := grown_at w g j v
  exact ⟨h.size, fun i hi _ hg _ => h.block i hi (by simpa using hg)⟩

/-- One of those that wait is written over. -/
theorem Ln.put {w0 w : World} {b : Nat} {ca : Option Addr} {la cca : Nat} {cs : List Int} {g lg cg : Nat} {ns : List Int} {r lh ch : Nat} {ws : List Int} (h : Ln w0 w b ca la cca cs g lg cg ns (some ⟨r, 0, none⟩) lh ch ws) (h0 : 0 < lh) (j : Nat) (v : Int) :
    Ln w0 (w.setCell ⟨r, j, none⟩ (.int .i64 v)) b ca la cca cs g lg cg ns (some ⟨r, 0, none⟩) lh ch (ws.set j v) := by
  obtain ⟨r', e, hr, R, hl, hrb, hrg⟩ := h.row h0
  cases e
  exact ⟨below_set h.bel hr _, h.crew, h.line.past (Ne.symm hrb) _, h.cnt.past (Ne.symm hrg) _, h.cntl, (R.set j v).fit hr (by simpa using hl), h.lob, h.log, h.bg, h.hb, h.hg, h.nil⟩

theorem swap_at (w0 : World) (b : Nat) (ca : Option Addr) (la cca : Nat) (cs : List Int) (g lg cg : Nat) (ns : List Int) (ha : Option Addr) (lh ch : Nat) (ws : List Int) (w : World) (L : Ln w0 w b ca la cca cs g lg cg ns ha lh ch ws)
    (p q : Nat) (hp : p < lh) (hq : q < lh) :
    Calls Try.prog 85 #[.pointer (some ⟨b, 0, none⟩), .int .i64 p, .int .i64 q] w fun e w' => e = .returned (.tuple #[]) ∧ Ln w0 w' b ca la cca cs g lg cg ns ha lh ch (swapL ws p q) ∧ Only b g ha w w' := by
  obtain ⟨r, rfl, hr, R, hl, hrb, hrg⟩ := L.row (by omega)
  obtain ⟨x, hx⟩ : ∃ x, x = ws.getD p 0 := ⟨_, rfl⟩
  obtain ⟨y, hy⟩ : ∃ y, y = ws.getD q 0 := ⟨_, rfl⟩
  have c2 := L.line.c2
  have cp : w.cell? ⟨r, p, none⟩ = some (.int .i64 x) := by rw [hx]; exact R.cell (by omega)
  have cq : w.cell? ⟨r, q, none⟩ = some (.int .i64 y) := by rw [hy]; exact R.cell (by omega)
  have fp := R.frozen p
  have fq := R.frozen q
  have hp' : (p : Int) < (lh : Int) := by omega
  have hq' : (q : Int) < (lh : Int) := by omega
  obtain ⟨v', hv'⟩ := cell?_setCell_some (w := w) (p := ⟨r, p, none⟩) (x := .int .i64 y) (q := ⟨r, q, none⟩) cq
  have H : Hid (Ln w0 ((w.setCell ⟨r, p, none⟩ (.int .i64 y)).setCell ⟨r, q, none⟩ (.int .i64 x)) b ca la cca cs g lg cg ns (some ⟨r, 0, none⟩) lh ch (swapL ws p q) ∧ Only b g (some ⟨r, 0, none⟩) w ((w.setCell ⟨r, p, none⟩ (.int .i64 y)).setCell ⟨r, q, none⟩ (.int .i64 x))) := by
    refine ⟨?_, (only_row _).trans (only_row _)⟩
    rw [swapL, ← hx, ← hy]
    exact (L.put (by omega) p y).put (by omega) q x
  clear L R hx hy hp hq
  go_enter Try.func85, Try.ntmps85
  go_wp2_with fail
  go_region
  all_goals (try go_wp2)
  all_goals go_end0
  all_goals exact ⟨rfl, H.out.1.all (below_drewN (Below.refl _ _) 1), H.out.2.trans (only_below (below_drewN (Below.refl _ _) 1))⟩

end Go.Proofs.Ytdneohbgdhoigaa.Crew
