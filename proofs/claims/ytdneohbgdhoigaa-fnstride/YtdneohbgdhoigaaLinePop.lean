/-
  A line's Pop and Push: the last place is given up, and taken.
-/
import Derived.Test.YtdneohbgdhoigaaLineSwap
namespace Go.Proofs.Ytdneohbgdhoigaa.Crew
open Go.ChangeShapes Go.WideShapes Go.ChangeAt Go.RowKit

/-- The last place is given up. -/
theorem Ln.cut {w0 w : World} {b : Nat} {ca : Option Addr} {la cca : Nat} {cs : List Int} {g lg cg : Nat} {ns : List Int} {r lh ch : Nat} {ws : List Int} (h : Ln w0 w b ca la cca cs g lg cg ns (some ⟨r, 0, none⟩) (lh + 1) ch ws) :
    Ln w0 (w.setCell ⟨b, 2, none⟩ (.slice (some ⟨r, 0, none⟩) lh ch)) b ca la cca cs g lg cg ns (some ⟨r, 0, none⟩) lh ch (ws.take lh) := by
  obtain ⟨r', e, hr, R, hl, hrb, hrg⟩ := h.row (by omega)
  cases e
  exact ⟨below_set h.bel h.lob _, h.crew, h.line.set2 _, h.cnt.past (Ne.symm h.bg) _, h.cntl, ((R.past hrb _).cut lh).fit hr (by simp; omega), h.lob, h.log, h.bg, h.hb, h.hg, h.nil⟩

theorem pop_at (w0 : World) (b : Nat) (ca : Option Addr) (la cca : Nat) (cs : List Int) (g lg cg : Nat) (ns : List Int) (ha : Option Addr) (lh ch : Nat) (ws : List Int) (w : World) (L : Ln w0 w b ca la cca cs g lg cg ns ha (lh + 1) ch ws) (h24 : (lh : Int) ≤ 24) :
    Calls Try.prog 83 #[.pointer (some ⟨b, 0, none⟩)] w fun e w' => e = .returned (.iface 2 (.int .i64 (gd ws lh))) ∧ Ln w0 w' b ca la cca cs g lg cg ns ha lh ch (ws.take lh) ∧ Only b g ha w w' := by
  obtain ⟨r, rfl, hr, R, hl, hrb, hrg⟩ := L.row (by omega)
  have c2 := L.line.c2
  have f2 := L.line.fr 2
  have cp : w.cell? ⟨r, lh, none⟩ = some (.int .i64 (gd ws lh)) := R.cell (by omega)
  have hc : lh + 1 ≤ ch := by obtain ⟨_, _, h, _⟩ := R; omega
  have hc' : (lh : Int) + 1 ≤ (ch : Int) := by omega
  have H : Hid (Ln w0 (w.setCell ⟨b, 2, none⟩ (.slice (some ⟨r, 0, none⟩) lh ch)) b ca la cca cs g lg cg ns (some ⟨r, 0, none⟩) lh ch (ws.take lh) ∧ Only b g (some ⟨r, 0, none⟩) w (w.setCell ⟨b, 2, none⟩ (.slice (some ⟨r, 0, none⟩) lh ch))) := ⟨L.cut, only_line _⟩
  clear L R hl
  go_enter Try.func83, Try.ntmps83
  go_wp2_with fail
  go_ret
  exact ⟨rfl, H.out⟩

end Go.Proofs.Ytdneohbgdhoigaa.Crew
