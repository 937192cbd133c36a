/-
  What an exact law holds of two answers of two slices each: the document's between l1 and h1, the program's between l2 and h2.
-/
import Derived.Test.YtlmlgidfgjejpaaSmoothAns
namespace Go.Proofs.Ytlmlgidfgjejpaa.Crew
open Go.ChangeShapes Go.WideShapes Go.ChangeAt Go.RowKit

structure Ans2 (w : World) (l1 h1 : Nat) (wb : Option Addr) (lb cb : Nat) (wd : Option Addr) (ld cd : Nat) (C D : List Int) (l2 h2 : Nat) (xb : Option Addr) (mb kb : Nat) (xd : Option Addr) (md kd : Nat) (P Q : List Int) (W : World) : Prop where
  bel : Below w.heap.size w W
  s0 : Sl W l1 h1 wb lb cb C
  s1 : Sl W l1 h1 wd ld cd D
  g0 : Sl W l2 h2 xb mb kb P
  g1 : Sl W l2 h2 xd md kd Q
  apart : Apart xb xd
  lo : w.heap.size ≤ l1
  mid : h1 ≤ l2
  ord : l1 ≤ h1

theorem Ans2.all {w : World} {l1 h1 : Nat} {wb : Option Addr} {lb cb : Nat} {wd : Option Addr} {ld cd : Nat} {C D : List Int} {l2 h2 : Nat} {xb : Option Addr} {mb kb : Nat} {xd : Option Addr} {md kd : Nat} {P Q : List Int} {W W' : World} (h : Ans2 w l1 h1 wb lb cb wd ld cd C D l2 h2 xb mb kb xd md kd P Q W) (B : Below W.heap.size W W') : Ans2 w l1 h1 wb lb cb wd ld cd C D l2 h2 xb mb kb xd md kd P Q W' :=
  ⟨below_call h.bel h.bel.size B, h.s0.all B, h.s1.all B, h.g0.all B, h.g1.all B, h.apart, h.lo, h.mid, h.ord⟩

theorem Ans2.wr {w : World} {l1 h1 : Nat} {wb : Option Addr} {lb cb : Nat} {wd : Option Addr} {ld cd : Nat} {C D : List Int} {l2 h2 : Nat} {xb : Option Addr} {mb kb : Nat} {xd : Option Addr} {md kd : Nat} {P Q : List Int} {W W' : World} (h : Ans2 w l1 h1 wb lb cb wd ld cd C D l2 h2 xb mb kb xd md kd P Q W) {l3 h3 : Nat} (K : Wr l3 h3 W W') (k1 : h1 ≤ l3) (k2 : h3 ≤ l2) : Ans2 w l1 h1 wb lb cb wd ld cd C D l2 h2 xb mb kb xd md kd P Q W' :=
  ⟨K.below _ _ h.bel (by have := h.lo; have := h.ord; omega) h.bel.size, h.s0.wr K (.inl k1), h.s1.wr K (.inl k1), h.g0.wr K (.inr k2), h.g1.wr K (.inr k2), h.apart, h.lo, h.mid, h.ord⟩

theorem Ans2.mark0 {w : World} {l1 h1 : Nat} {wb : Option Addr} {lb cb : Nat} {wd : Option Addr} {ld cd : Nat} {C D : List Int} {l2 h2 : Nat} {xb : Option Addr} {mb kb : Nat} {xd : Option Addr} {md kd : Nat} {P P' Q : List Int} {W W' : World} (h : Ans2 w l1 h1 wb lb cb wd ld cd C D l2 h2 xb mb kb xd md kd P Q W) (F : Fit W' l2 xb mb kb P') (G : W.grownBy W' (blk xb)) : Ans2 w l1 h1 wb lb cb wd ld cd C D l2 h2 xb mb kb xd md kd P' Q W' := by
  have K := wr_blk G h.g0.range
  have := h.mid
  exact ⟨K.below _ _ h.bel (by have := h.lo; have := h.ord; omega) h.bel.size, h.s0.wr K (.inl h.mid), h.s1.wr K (.inl h.mid), ⟨F, h.g0.under, Nat.le_trans h.g0.top G.size⟩, ⟨h.g1.fit.other G (fun x hx => h.apart.symm.ne hx), h.g1.under, Nat.le_trans h.g1.top G.size⟩, h.apart, h.lo, h.mid, h.ord⟩

theorem Ans2.mark1 {w : World} {l1 h1 : Nat} {wb : Option Addr} {lb cb : Nat} {wd : Option Addr} {ld cd : Nat} {C D : List Int} {l2 h2 : Nat} {xb : Option Addr} {mb kb : Nat} {xd : Option Addr} {md kd : Nat} {P Q Q' : List Int} {W W' : World} (h : Ans2 w l1 h1 wb lb cb wd ld cd C D l2 h2 xb mb kb xd md kd P Q W) (F : Fit W' l2 xd md kd Q') (G : W.grownBy W' (blk xd)) : Ans2 w l1 h1 wb lb cb wd ld cd C D l2 h2 xb mb kb xd md kd P Q' W' := by
  have K := wr_blk G h.g1.range
  have := h.mid
  exact ⟨K.below _ _ h.bel (by have := h.lo; have := h.ord; omega) h.bel.size, h.s0.wr K (.inl h.mid), h.s1.wr K (.inl h.mid), ⟨h.g0.fit.other G (fun x hx => h.apart.ne hx), h.g0.under, Nat.le_trans h.g0.top G.size⟩, ⟨F, h.g1.under, Nat.le_trans h.g1.top G.size⟩, h.apart, h.lo, h.mid, h.ord⟩

end Go.Proofs.Ytlmlgidfgjejpaa.Crew
