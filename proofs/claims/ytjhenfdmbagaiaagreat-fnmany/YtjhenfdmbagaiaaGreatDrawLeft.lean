/-
  What a draw leaves of slices and of what was made; spec.l6DrawSteps. (Cut out of DrawSmooth in round 7.)
-/
import Derived.Test.YtjhenfdmbagaiaaGreatDrawCrew
import Derived.Test.YtjhenfdmbagaiaaGreatSmoothLaws
namespace Go.Proofs.YtjhenfdmbagaiaaGreat.Draw
open Go.ChangeShapes Go.WideShapes Go.ChangeAt Go.RowKit
open Go.Proofs.YtjhenfdmbagaiaaGreat.Crew

theorem grown_all {w w' : World} (b : Below w.heap.size w w') : w.grownBy w' none := ⟨b.os, b.tape, b.output, b.size, fun i hi _ => b.block i hi⟩

theorem left_all {k : IntKind} {T : TypeId} {p : Nat} {a : Option Addr} {len cap : Nat} {w w1 w2 : World} (L : Left k T p a len cap w w1) (B : Below w1.heap.size w1 w2) (hp : p < w.heap.size) : Left k T p a len cap w w2 := left_own L (grown_all B) (by simp) hp

theorem left_put {k : IntKind} {T : TypeId} {p : Nat} {a : Option Addr} {len cap : Nat} {w w1 : World} (L : Left k T p a len cap w w1) (hp : p < w.heap.size) {b j : Nat} (hb : w.heap.size ≤ b) (v : Value) : Left k T p a len cap w (w1.setCell ⟨b, j, none⟩ v) := left_own L (grown_at w1 b j v) (fun i hi => by cases hi; exact hb) hp

theorem left_drawn {k : IntKind} {T : TypeId} {p : Nat} {a : Option Addr} {len cap : Nat} {w w1 : World} (L : Left k T p a len cap w w1) : Left k T p a len cap w w1.drew := ⟨grown_drewN L.1 1, L.2⟩

theorem Fit.left {k : IntKind} {T : TypeId} {p : Nat} {a : Option Addr} {len cap : Nat} {w w' : World} {base : Nat} {b : Option Addr} {l c : Nat} {xs : List Int} (h : Fit w base b l c xs) (L : Left k T p a len cap w w') (hb : p < base) : Fit w' base b l c xs := h.other L.1 (fun x hx => by have := (h.ge hx).1; simp; omega)

/-- spec.l6DrawSteps. -/
theorem draw_steps (T : TypeId) (p : Nat) (a : Option Addr) (len cap : Nat) (w : World) (C : Cur .i64 T p a len cap w) :
    Calls Tryz.prog 36 #[.pointer (some ⟨p, 0, none⟩)] w fun e w' => ∃ x : Int, e = .returned (.int .i64 x) ∧ Left .i64 T p a len cap w w' := by
  go_enter Tryz.func36, Tryz.ntmps36
  go_wp2_with fail
  refine (once_any T p a len cap _ _ C).mono ?_
  rintro e w1 ⟨t, rfl, L1⟩
  have C1 := L1.cur C
  cases t
  · go_wp2_with fail
    refine (below_any T p a len cap _ _ C1).mono ?_
    rintro e w2 ⟨x, rfl, x0, x1, _, L2⟩
    go_wp2_with fail
    go_ret
    exact ⟨_, rfl, L1.trans L2⟩
  · go_wp2_with fail
    refine (num_any T p a len cap _ _ C1).mono ?_
    rintro e w2 ⟨x, rfl, L2⟩
    go_wp2_with fail
    go_ret
    exact ⟨_, rfl, L1.trans L2⟩

end Go.Proofs.YtjhenfdmbagaiaaGreat.Draw
