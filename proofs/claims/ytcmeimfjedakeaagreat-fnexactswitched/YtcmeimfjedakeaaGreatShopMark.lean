/-
  A Shop of the call's own; the kind of Shops; laws.eqShop, heldShop, markShop and toShop. (Written by wip/tools/gen_shopk.py.)
-/
import Derived.Test.YtcmeimfjedakeaaGreatShopSz
import Derived.Test.YtcmeimfjedakeaaGreatSmoothAns
namespace Go.Proofs.YtcmeimfjedakeaaGreat.Crew
open Go.ChangeShapes Go.WideShapes Go.ChangeAt Go.RowKit

/-- Its slices lie at the heads of blocks, or are empty. -/
structure Own (w : World) (L : LT) (d : SD) : Prop where
  t : TFit w 0 L.t.a L.t.n L.t.c d.t
  m : Fit w 0 L.m.a L.m.n L.m.c d.m
  c : Fit w 0 L.c.a L.c.n L.c.c d.c
  n : Fit w 0 L.n.a L.n.n L.n.c d.n
  s : Fit w 0 L.s.a L.s.n L.s.c d.s
  r : Fit w 0 L.r.a L.r.n L.r.c d.r
  l : Fit w 0 L.l.a L.l.n L.l.c d.l
  h : Fit w 0 L.h.a L.h.n L.h.c d.h
  y : SFit w 0 L.y.a L.y.n L.y.c d.y
  z : Fit w 0 L.z.a L.z.n L.z.c d.z

theorem Own.rd {w : World} {L : LT} {d : SD} (h : Own w L d) : Rd w L d :=
  ⟨Rec.fit.sl h.t, h.m.ints, h.c.ints, h.n.ints, h.s.ints, h.r.ints, h.l.ints, h.h.ints, h.y.shs, h.z.ints⟩

def LT.at (L : LT) (i : Nat) : Option Addr := (([L.t, L.m, L.c, L.n, L.s, L.r, L.l, L.h, L.y, L.z]).getD i nl).a

/-- No two of them lie in one block. -/
def Parts (L : LT) : Prop := ∀ i j, i < 10 → j < 10 → i ≠ j → Apart (L.at i) (L.at j)

/-- In which blocks they lie. -/
def Has (L : LT) (j : Nat) : Prop := ∃ i, i < 10 ∧ blk (L.at i) = some j

theorem apart_ne {a b : Option Addr} (h : Apart a b) {x : Addr} (hx : b = some x) : ¬ blk a = some x.block := by
  intro e
  cases a with
  | none => cases e
  | some y => exact h y x rfl hx (Option.some.inj e)

theorem Own.still {w w' : World} {L : LT} {d : SD} (h : Own w L d) (hs : ∀ j, Has L j → w'.heap[j]? = w.heap[j]?) : Own w' L d where
  t := Rec.fit.still h.t (fun x hx => hs _ ⟨0, by decide, by show blk L.t.a = _; rw [hx]; rfl⟩)
  m := Fit.still h.m (fun x hx => hs _ ⟨1, by decide, by show blk L.m.a = _; rw [hx]; rfl⟩)
  c := Fit.still h.c (fun x hx => hs _ ⟨2, by decide, by show blk L.c.a = _; rw [hx]; rfl⟩)
  n := Fit.still h.n (fun x hx => hs _ ⟨3, by decide, by show blk L.n.a = _; rw [hx]; rfl⟩)
  s := Fit.still h.s (fun x hx => hs _ ⟨4, by decide, by show blk L.s.a = _; rw [hx]; rfl⟩)
  r := Fit.still h.r (fun x hx => hs _ ⟨5, by decide, by show blk L.r.a = _; rw [hx]; rfl⟩)
  l := Fit.still h.l (fun x hx => hs _ ⟨6, by decide, by show blk L.l.a = _; rw [hx]; rfl⟩)
  h := Fit.still h.h (fun x hx => hs _ ⟨7, by decide, by show blk L.h.a = _; rw [hx]; rfl⟩)
  y := SFit.still h.y (fun x hx => hs _ ⟨8, by decide, by show blk L.y.a = _; rw [hx]; rfl⟩)
  z := Fit.still h.z (fun x hx => hs _ ⟨9, by decide, by show blk L.z.a = _; rw [hx]; rfl⟩)

theorem Own.lt {w : World} {L : LT} {d : SD} (h : Own w L d) : ∀ j, Has L j → j < w.heap.size := by
  rintro j ⟨i, hi, hj⟩
  have key : ∀ {a : Option Addr}, (∀ x, a = some x → x.block < w.heap.size) → blk a = some j → j < w.heap.size := by
    intro a ha e
    cases a with
    | none => cases e
    | some y => rw [blk_some] at e; rw [← Option.some.inj e]; exact ha y rfl
  rcases i with _ | _ | _ | _ | _ | _ | _ | _ | _ | _ | i
  · exact key (fun x hx => (Rec.fit.ge h.t hx).2) hj
  · exact key (fun x hx => (Fit.ge h.m hx).2) hj
  · exact key (fun x hx => (Fit.ge h.c hx).2) hj
  · exact key (fun x hx => (Fit.ge h.n hx).2) hj
  · exact key (fun x hx => (Fit.ge h.s hx).2) hj
  · exact key (fun x hx => (Fit.ge h.r hx).2) hj
  · exact key (fun x hx => (Fit.ge h.l hx).2) hj
  · exact key (fun x hx => (Fit.ge h.h hx).2) hj
  · exact key (fun x hx => (SFit.ge h.y hx).2) hj
  · exact key (fun x hx => (Fit.ge h.z hx).2) hj
  · omega

theorem Own.put_t {w w' : World} {L : LT} {d : SD} (h : Own w L d) (P : Parts L) (c : Chg (fun j => blk L.t.a = some j) w w') {xs : List Tsk} (G : TFit w' 0 L.t.a L.t.n L.t.c xs) : Own w' L { d with t := xs } where
  t := G
  m := Fit.still h.m (fun x hx => c.block _ (Fit.ge h.m hx).2 (apart_ne (P 0 1 (by decide) (by decide) (by decide)) hx))
  c := Fit.still h.c (fun x hx => c.block _ (Fit.ge h.c hx).2 (apart_ne (P 0 2 (by decide) (by decide) (by decide)) hx))
  n := Fit.still h.n (fun x hx => c.block _ (Fit.ge h.n hx).2 (apart_ne (P 0 3 (by decide) (by decide) (by decide)) hx))
  s := Fit.still h.s (fun x hx => c.block _ (Fit.ge h.s hx).2 (apart_ne (P 0 4 (by decide) (by decide) (by decide)) hx))
  r := Fit.still h.r (fun x hx => c.block _ (Fit.ge h.r hx).2 (apart_ne (P 0 5 (by decide) (by decide) (by decide)) hx))
  l := Fit.still h.l (fun x hx => c.block _ (Fit.ge h.l hx).2 (apart_ne (P 0 6 (by decide) (by decide) (by decide)) hx))
  h := Fit.still h.h (fun x hx => c.block _ (Fit.ge h.h hx).2 (apart_ne (P 0 7 (by decide) (by decide) (by decide)) hx))
  y := SFit.still h.y (fun x hx => c.block _ (SFit.ge h.y hx).2 (apart_ne (P 0 8 (by decide) (by decide) (by decide)) hx))
  z := Fit.still h.z (fun x hx => c.block _ (Fit.ge h.z hx).2 (apart_ne (P 0 9 (by decide) (by decide) (by decide)) hx))

theorem Own.put_m {w w' : World} {L : LT} {d : SD} (h : Own w L d) (P : Parts L) (c : Chg (fun j => blk L.m.a = some j) w w') {xs : List Int} (G : Fit w' 0 L.m.a L.m.n L.m.c xs) : Own w' L { d with m := xs } where
  t := Rec.fit.still h.t (fun x hx => c.block _ (Rec.fit.ge h.t hx).2 (apart_ne (P 1 0 (by decide) (by decide) (by decide)) hx))
  m := G
  c := Fit.still h.c (fun x hx => c.block _ (Fit.ge h.c hx).2 (apart_ne (P 1 2 (by decide) (by decide) (by decide)) hx))
  n := Fit.still h.n (fun x hx => c.block _ (Fit.ge h.n hx).2 (apart_ne (P 1 3 (by decide) (by decide) (by decide)) hx))
  s := Fit.still h.s (fun x hx => c.block _ (Fit.ge h.s hx).2 (apart_ne (P 1 4 (by decide) (by decide) (by decide)) hx))
  r := Fit.still h.r (fun x hx => c.block _ (Fit.ge h.r hx).2 (apart_ne (P 1 5 (by decide) (by decide) (by decide)) hx))
  l := Fit.still h.l (fun x hx => c.block _ (Fit.ge h.l hx).2 (apart_ne (P 1 6 (by decide) (by decide) (by decide)) hx))
  h := Fit.still h.h (fun x hx => c.block _ (Fit.ge h.h hx).2 (apart_ne (P 1 7 (by decide) (by decide) (by decide)) hx))
  y := SFit.still h.y (fun x hx => c.block _ (SFit.ge h.y hx).2 (apart_ne (P 1 8 (by decide) (by decide) (by decide)) hx))
  z := Fit.still h.z (fun x hx => c.block _ (Fit.ge h.z hx).2 (apart_ne (P 1 9 (by decide) (by decide) (by decide)) hx))

theorem Own.put_c {w w' : World} {L : LT} {d : SD} (h : Own w L d) (P : Parts L) (c : Chg (fun j => blk L.c.a = some j) w w') {xs : List Int} (G : Fit w' 0 L.c.a L.c.n L.c.c xs) : Own w' L { d with c := xs } where
  t := Rec.fit.still h.t (fun x hx => c.block _ (Rec.fit.ge h.t hx).2 (apart_ne (P 2 0 (by decide) (by decide) (by decide)) hx))
  m := Fit.still h.m (fun x hx => c.block _ (Fit.ge h.m hx).2 (apart_ne (P 2 1 (by decide) (by decide) (by decide)) hx))
  c := G
  n := Fit.still h.n (fun x hx => c.block _ (Fit.ge h.n hx).2 (apart_ne (P 2 3 (by decide) (by decide) (by decide)) hx))
  s := Fit.still h.s (fun x hx => c.block _ (Fit.ge h.s hx).2 (apart_ne (P 2 4 (by decide) (by decide) (by decide)) hx))
  r := Fit.still h.r (fun x hx => c.block _ (Fit.ge h.r hx).2 (apart_ne (P 2 5 (by decide) (by decide) (by decide)) hx))
  l := Fit.still h.l (fun x hx => c.block _ (Fit.ge h.l hx).2 (apart_ne (P 2 6 (by decide) (by decide) (by decide)) hx))
  h := Fit.still h.h (fun x hx => c.block _ (Fit.ge h.h hx).2 (apart_ne (P 2 7 (by decide) (by decide) (by decide)) hx))
  y := SFit.still h.y (fun x hx => c.block _ (SFit.ge h.y hx).2 (apart_ne (P 2 8 (by decide) (by decide) (by decide)) hx))
  z := Fit.still h.z (fun x hx => c.block _ (Fit.ge h.z hx).2 (apart_ne (P 2 9 (by decide) (by decide) (by decide)) hx))

theorem Own.put_n {w w' : World} {L : LT} {d : SD} (h : Own w L d) (P : Parts L) (c : Chg (fun j => blk L.n.a = some j) w w') {xs : List Int} (G : Fit w' 0 L.n.a L.n.n L.n.c xs) : Own w' L { d with n := xs } where
  t := Rec.fit.still h.t (fun x hx => c.block _ (Rec.fit.ge h.t hx).2 (apart_ne (P 3 0 (by decide) (by decide) (by decide)) hx))
  m := Fit.still h.m (fun x hx => c.block _ (Fit.ge h.m hx).2 (apart_ne (P 3 1 (by decide) (by decide) (by decide)) hx))
  c := Fit.still h.c (fun x hx => c.block _ (Fit.ge h.c hx).2 (apart_ne (P 3 2 (by decide) (by decide) (by decide)) hx))
  n := G
  s := Fit.still h.s (fun x hx => c.block _ (Fit.ge h.s hx).2 (apart_ne (P 3 4 (by decide) (by decide) (by decide)) hx))
  r := Fit.still h.r (fun x hx => c.block _ (Fit.ge h.r hx).2 (apart_ne (P 3 5 (by decide) (by decide) (by decide)) hx))
  l := Fit.still h.l (fun x hx => c.block _ (Fit.ge h.l hx).2 (apart_ne (P 3 6 (by decide) (by decide) (by decide)) hx))
  h := Fit.still h.h (fun x hx => c.block _ (Fit.ge h.h hx).2 (apart_ne (P 3 7 (by decide) (by decide) (by decide)) hx))
  y := SFit.still h.y (fun x hx => c.block _ (SFit.ge h.y hx).2 (apart_ne (P 3 8 (by decide) (by decide) (by decide)) hx))
  z := Fit.still h.z (fun x hx => c.block _ (Fit.ge h.z hx).2 (apart_ne (P 3 9 (by decide) (by decide) (by decide)) hx))

theorem Own.put_s {w w' : World} {L : LT} {d : SD} (h : Own w L d) (P : Parts L) (c : Chg (fun j => blk L.s.a = some j) w w') {xs : List Int} (G : Fit w' 0 L.s.a L.s.n L.s.c xs) : Own w' L { d with s := xs } where
  t := Rec.fit.still h.t (fun x hx => c.block _ (Rec.fit.ge h.t hx).2 (apart_ne (P 4 0 (by decide) (by decide) (by decide)) hx))
  m := Fit.still h.m (fun x hx => c.block _ (Fit.ge h.m hx).2 (apart_ne (P 4 1 (by decide) (by decide) (by decide)) hx))
  c := Fit.still h.c (fun x hx => c.block _ (Fit.ge h.c hx).2 (apart_ne (P 4 2 (by decide) (by decide) (by decide)) hx))
  n := Fit.still h.n (fun x hx => c.block _ (Fit.ge h.n hx).2 (apart_ne (P 4 3 (by decide) (by decide) (by decide)) hx))
  s := G
  r := Fit.still h.r (fun x hx => c.block _ (Fit.ge h.r hx).2 (apart_ne (P 4 5 (by decide) (by decide) (by decide)) hx))
  l := Fit.still h.l (fun x hx => c.block _ (Fit.ge h.l hx).2 (apart_ne (P 4 6 (by decide) (by decide) (by decide)) hx))
  h := Fit.still h.h (fun x hx => c.block _ (Fit.ge h.h hx).2 (apart_ne (P 4 7 (by decide) (by decide) (by decide)) hx))
  y := SFit.still h.y (fun x hx => c.block _ (SFit.ge h.y hx).2 (apart_ne (P 4 8 (by decide) (by decide) (by decide)) hx))
  z := Fit.still h.z (fun x hx => c.block _ (Fit.ge h.z hx).2 (apart_ne (P 4 9 (by decide) (by decide) (by decide)) hx))

theorem Own.put_r {w w' : World} {L : LT} {d : SD} (h : Own w L d) (P : Parts L) (c : Chg (fun j => blk L.r.a = some j) w w') {xs : List Int} (G : Fit w' 0 L.r.a L.r.n L.r.c xs) : Own w' L { d with r := xs } where
  t := Rec.fit.still h.t (fun x hx => c.block _ (Rec.fit.ge h.t hx).2 (apart_ne (P 5 0 (by decide) (by decide) (by decide)) hx))
  m := Fit.still h.m (fun x hx => c.block _ (Fit.ge h.m hx).2 (apart_ne (P 5 1 (by decide) (by decide) (by decide)) hx))
  c := Fit.still h.c (fun x hx => c.block _ (Fit.ge h.c hx).2 (apart_ne (P 5 2 (by decide) (by decide) (by decide)) hx))
  n := Fit.still h.n (fun x hx => c.block _ (Fit.ge h.n hx).2 (apart_ne (P 5 3 (by decide) (by decide) (by decide)) hx))
  s := Fit.still h.s (fun x hx => c.block _ (Fit.ge h.s hx).2 (apart_ne (P 5 4 (by decide) (by decide) (by decide)) hx))
  r := G
  l := Fit.still h.l (fun x hx => c.block _ (Fit.ge h.l hx).2 (apart_ne (P 5 6 (by decide) (by decide) (by decide)) hx))
  h := Fit.still h.h (fun x hx => c.block _ (Fit.ge h.h hx).2 (apart_ne (P 5 7 (by decide) (by decide) (by decide)) hx))
  y := SFit.still h.y (fun x hx => c.block _ (SFit.ge h.y hx).2 (apart_ne (P 5 8 (by decide) (by decide) (by decide)) hx))
  z := Fit.still h.z (fun x hx => c.block _ (Fit.ge h.z hx).2 (apart_ne (P 5 9 (by decide) (by decide) (by decide)) hx))

theorem Own.put_l {w w' : World} {L : LT} {d : SD} (h : Own w L d) (P : Parts L) (c : Chg (fun j => blk L.l.a = some j) w w') {xs : List Int} (G : Fit w' 0 L.l.a L.l.n L.l.c xs) : Own w' L { d with l := xs } where
  t := Rec.fit.still h.t (fun x hx => c.block _ (Rec.fit.ge h.t hx).2 (apart_ne (P 6 0 (by decide) (by decide) (by decide)) hx))
  m := Fit.still h.m (fun x hx => c.block _ (Fit.ge h.m hx).2 (apart_ne (P 6 1 (by decide) (by decide) (by decide)) hx))
  c := Fit.still h.c (fun x hx => c.block _ (Fit.ge h.c hx).2 (apart_ne (P 6 2 (by decide) (by decide) (by decide)) hx))
  n := Fit.still h.n (fun x hx => c.block _ (Fit.ge h.n hx).2 (apart_ne (P 6 3 (by decide) (by decide) (by decide)) hx))
  s := Fit.still h.s (fun x hx => c.block _ (Fit.ge h.s hx).2 (apart_ne (P 6 4 (by decide) (by decide) (by decide)) hx))
  r := Fit.still h.r (fun x hx => c.block _ (Fit.ge h.r hx).2 (apart_ne (P 6 5 (by decide) (by decide) (by decide)) hx))
  l := G
  h := Fit.still h.h (fun x hx => c.block _ (Fit.ge h.h hx).2 (apart_ne (P 6 7 (by decide) (by decide) (by decide)) hx))
  y := SFit.still h.y (fun x hx => c.block _ (SFit.ge h.y hx).2 (apart_ne (P 6 8 (by decide) (by decide) (by decide)) hx))
  z := Fit.still h.z (fun x hx => c.block _ (Fit.ge h.z hx).2 (apart_ne (P 6 9 (by decide) (by decide) (by decide)) hx))

theorem Own.put_h {w w' : World} {L : LT} {d : SD} (h : Own w L d) (P : Parts L) (c : Chg (fun j => blk L.h.a = some j) w w') {xs : List Int} (G : Fit w' 0 L.h.a L.h.n L.h.c xs) : Own w' L { d with h := xs } where
  t := Rec.fit.still h.t (fun x hx => c.block _ (Rec.fit.ge h.t hx).2 (apart_ne (P 7 0 (by decide) (by decide) (by decide)) hx))
  m := Fit.still h.m (fun x hx => c.block _ (Fit.ge h.m hx).2 (apart_ne (P 7 1 (by decide) (by decide) (by decide)) hx))
  c := Fit.still h.c (fun x hx => c.block _ (Fit.ge h.c hx).2 (apart_ne (P 7 2 (by decide) (by decide) (by decide)) hx))
  n := Fit.still h.n (fun x hx => c.block _ (Fit.ge h.n hx).2 (apart_ne (P 7 3 (by decide) (by decide) (by decide)) hx))
  s := Fit.still h.s (fun x hx => c.block _ (Fit.ge h.s hx).2 (apart_ne (P 7 4 (by decide) (by decide) (by decide)) hx))
  r := Fit.still h.r (fun x hx => c.block _ (Fit.ge h.r hx).2 (apart_ne (P 7 5 (by decide) (by decide) (by decide)) hx))
  l := Fit.still h.l (fun x hx => c.block _ (Fit.ge h.l hx).2 (apart_ne (P 7 6 (by decide) (by decide) (by decide)) hx))
  h := G
  y := SFit.still h.y (fun x hx => c.block _ (SFit.ge h.y hx).2 (apart_ne (P 7 8 (by decide) (by decide) (by decide)) hx))
  z := Fit.still h.z (fun x hx => c.block _ (Fit.ge h.z hx).2 (apart_ne (P 7 9 (by decide) (by decide) (by decide)) hx))

theorem Own.put_y {w w' : World} {L : LT} {d : SD} (h : Own w L d) (P : Parts L) (c : Chg (fun j => blk L.y.a = some j) w w') {xs : List Shr} (G : SFit w' 0 L.y.a L.y.n L.y.c xs) : Own w' L { d with y := xs } where
  t := Rec.fit.still h.t (fun x hx => c.block _ (Rec.fit.ge h.t hx).2 (apart_ne (P 8 0 (by decide) (by decide) (by decide)) hx))
  m := Fit.still h.m (fun x hx => c.block _ (Fit.ge h.m hx).2 (apart_ne (P 8 1 (by decide) (by decide) (by decide)) hx))
  c := Fit.still h.c (fun x hx => c.block _ (Fit.ge h.c hx).2 (apart_ne (P 8 2 (by decide) (by decide) (by decide)) hx))
  n := Fit.still h.n (fun x hx => c.block _ (Fit.ge h.n hx).2 (apart_ne (P 8 3 (by decide) (by decide) (by decide)) hx))
  s := Fit.still h.s (fun x hx => c.block _ (Fit.ge h.s hx).2 (apart_ne (P 8 4 (by decide) (by decide) (by decide)) hx))
  r := Fit.still h.r (fun x hx => c.block _ (Fit.ge h.r hx).2 (apart_ne (P 8 5 (by decide) (by decide) (by decide)) hx))
  l := Fit.still h.l (fun x hx => c.block _ (Fit.ge h.l hx).2 (apart_ne (P 8 6 (by decide) (by decide) (by decide)) hx))
  h := Fit.still h.h (fun x hx => c.block _ (Fit.ge h.h hx).2 (apart_ne (P 8 7 (by decide) (by decide) (by decide)) hx))
  y := G
  z := Fit.still h.z (fun x hx => c.block _ (Fit.ge h.z hx).2 (apart_ne (P 8 9 (by decide) (by decide) (by decide)) hx))

theorem Own.put_z {w w' : World} {L : LT} {d : SD} (h : Own w L d) (P : Parts L) (c : Chg (fun j => blk L.z.a = some j) w w') {xs : List Int} (G : Fit w' 0 L.z.a L.z.n L.z.c xs) : Own w' L { d with z := xs } where
  t := Rec.fit.still h.t (fun x hx => c.block _ (Rec.fit.ge h.t hx).2 (apart_ne (P 9 0 (by decide) (by decide) (by decide)) hx))
  m := Fit.still h.m (fun x hx => c.block _ (Fit.ge h.m hx).2 (apart_ne (P 9 1 (by decide) (by decide) (by decide)) hx))
  c := Fit.still h.c (fun x hx => c.block _ (Fit.ge h.c hx).2 (apart_ne (P 9 2 (by decide) (by decide) (by decide)) hx))
  n := Fit.still h.n (fun x hx => c.block _ (Fit.ge h.n hx).2 (apart_ne (P 9 3 (by decide) (by decide) (by decide)) hx))
  s := Fit.still h.s (fun x hx => c.block _ (Fit.ge h.s hx).2 (apart_ne (P 9 4 (by decide) (by decide) (by decide)) hx))
  r := Fit.still h.r (fun x hx => c.block _ (Fit.ge h.r hx).2 (apart_ne (P 9 5 (by decide) (by decide) (by decide)) hx))
  l := Fit.still h.l (fun x hx => c.block _ (Fit.ge h.l hx).2 (apart_ne (P 9 6 (by decide) (by decide) (by decide)) hx))
  h := Fit.still h.h (fun x hx => c.block _ (Fit.ge h.h hx).2 (apart_ne (P 9 7 (by decide) (by decide) (by decide)) hx))
  y := SFit.still h.y (fun x hx => c.block _ (SFit.ge h.y hx).2 (apart_ne (P 9 8 (by decide) (by decide) (by decide)) hx))
  z := G

/-- What its slices hold once they are marked. -/
def mkd (L : LT) (d : SD) (k : Int) : SD :=
  { d with t := tmarks (k) L.t.n, m := marks (k + 4 * (L.t.n : Int)) L.m.n, c := marks (k + 4 * (L.t.n : Int) + (L.m.n : Int)) L.c.n, n := marks (k + 4 * (L.t.n : Int) + (L.m.n : Int) + (L.c.n : Int)) L.n.n, s := marks (k + 4 * (L.t.n : Int) + (L.m.n : Int) + (L.c.n : Int) + (L.n.n : Int)) L.s.n, r := marks (k + 4 * (L.t.n : Int) + (L.m.n : Int) + (L.c.n : Int) + (L.n.n : Int) + (L.s.n : Int)) L.r.n, l := marks (k + 4 * (L.t.n : Int) + (L.m.n : Int) + (L.c.n : Int) + (L.n.n : Int) + (L.s.n : Int) + (L.r.n : Int)) L.l.n, h := marks (k + 4 * (L.t.n : Int) + (L.m.n : Int) + (L.c.n : Int) + (L.n.n : Int) + (L.s.n : Int) + (L.r.n : Int) + (L.l.n : Int)) L.h.n, y := smarks (k + 4 * (L.t.n : Int) + (L.m.n : Int) + (L.c.n : Int) + (L.n.n : Int) + (L.s.n : Int) + (L.r.n : Int) + (L.l.n : Int) + (L.h.n : Int)) L.y.n, z := marks (k + 4 * (L.t.n : Int) + (L.m.n : Int) + (L.c.n : Int) + (L.n.n : Int) + (L.s.n : Int) + (L.r.n : Int) + (L.l.n : Int) + (L.h.n : Int) + 2 * (L.y.n : Int)) L.z.n }

/-- How many marks it takes. -/
def SD.slots (d : SD) : Nat := 4 * d.t.length + d.m.length + d.c.length + d.n.length + d.s.length + d.r.length + d.l.length + d.h.length + 2 * d.y.length + d.z.length

structure Lth (L : LT) (d : SD) : Prop where
  t : d.t.length = L.t.n
  m : d.m.length = L.m.n
  c : d.c.length = L.c.n
  n : d.n.length = L.n.n
  s : d.s.length = L.s.n
  r : d.r.length = L.r.n
  l : d.l.length = L.l.n
  h : d.h.length = L.h.n
  y : d.y.length = L.y.n
  z : d.z.length = L.z.n

theorem Own.lth {w : World} {L : LT} {d : SD} (h : Own w L d) : Lth L d := ⟨h.t.1, h.m.1, h.c.1, h.n.1, h.s.1, h.r.1, h.l.1, h.h.1, h.y.1, h.z.1⟩

/-- Shops. -/
def shopK : Knd SD where
  rep w S v d := ∃ L, v = sv L d ∧ Own w L d ∧ Parts L ∧ ∀ j, S j ↔ Has L j
  hld w S v d k := ∃ L, v = sv L d ∧ Own w L (mkd L d k) ∧ Lth L d ∧ ∀ j, S j ↔ Has L j
  slots d := d.slots
  lt := by
    rintro w S v d ⟨L, rfl, h, _, hS⟩ j hj
    exact h.lt j ((hS j).1 hj)
  still := by
    rintro w w' S v d ⟨L, rfl, h, P, hS⟩ hs he
    exact ⟨L, rfl, h.still (fun j hj => he j ((hS j).2 hj)), P, hS⟩
  hlt := by
    rintro w S v d k ⟨L, rfl, h, _, hS⟩ j hj
    exact h.lt j ((hS j).1 hj)
  hstill := by
    rintro w w' S v d k ⟨L, rfl, h, l, hS⟩ hs he
    exact ⟨L, rfl, h.still (fun j hj => he j ((hS j).2 hj)), l, hS⟩

/-- How long its lists are. -/
def Small10 (d : SD) : Prop := (d.t.length : Int) ≤ 1048576 ∧ (d.m.length : Int) ≤ 1048576 ∧ (d.c.length : Int) ≤ 1048576 ∧ (d.n.length : Int) ≤ 1048576 ∧ (d.s.length : Int) ≤ 1048576 ∧ (d.r.length : Int) ≤ 1048576 ∧ (d.l.length : Int) ≤ 1048576 ∧ (d.h.length : Int) ≤ 1048576 ∧ (d.y.length : Int) ≤ 1048576 ∧ (d.z.length : Int) ≤ 1048576

theorem small_short {L : LT} {d : SD} (h : Lth L d) (s : Small10 d) : Short L := by
  obtain ⟨st, sm, sc, sn, ss, sr, sl, sh, sy, sz⟩ := s
  obtain ⟨ht, hm, hc, hn, hs, hr, hl, hh, hy, hz⟩ := h
  intro x hx
  simp only [List.mem_cons, List.not_mem_nil, or_false] at hx
  rcases hx with rfl | rfl | rfl | rfl | rfl | rfl | rfl | rfl | rfl | rfl <;> omega

/-- Two Shops in variables. -/
structure Tw2 (w X : World) (L M : LT) (d : SD) : Prop where
  bel : Below w.heap.size w X
  bx : Bx X w.heap.size (sc L d).toList
  by' : Bx X (w.heap.size + 1) (sc M d).toList

theorem Tw2.all {w X Y : World} {L M : LT} {d : SD} (h : Tw2 w X L M d) (k : Below X.heap.size X Y) : Tw2 w Y L M d := ⟨below_call h.bel h.bel.size k, h.bx.all k, h.by'.all k⟩

theorem bx_new_at {w : World} {s : Nat} (h : w.heap.size = s) (vs : Array Value) (ty : TypeId) : Bx (w.alloc (.cells vs ty)) s vs.toList := by
  subst h
  exact bx_new _ _ _

set_option maxRecDepth 100000 in
set_option maxHeartbeats 4000000 in
/-- laws.eqShop of two that read alike. -/
theorem eqShop_same (L M : LT) (d : SD) (w : World) (I : Rd w L d) (J : Rd w M d) (hs : Short L) :
    Calls Tryz.prog 20 #[sv L d, sv M d] w fun e w' => e = .returned (.bool true) ∧ Below w.heap.size w w' := by
  have HI : Hid (Rd w L d ∧ Rd w M d) := ⟨I, J⟩
  obtain ⟨s0, s1, s2, s3, s4, s5, s6, s7, s8, s9⟩ := short_parts hs
  have n0 : (d.p != d.p) = false := by simp
  have n1 : (d.q != d.q) = false := by simp
  have n2 : (d.w != d.w) = false := by simp
  obtain ⟨W0, hW0⟩ : ∃ W0, W0 = (w.alloc (.cells (sc L d) 36)).alloc (.cells (sc M d) 36) := ⟨_, rfl⟩
  have TW : Tw2 w W0 L M d := by
    rw [hW0]
    exact ⟨(below_new _ _).alloc (by simp) _, (shop_new _ _ _).all (below_new _ _), bx_new_at (by simp) _ _⟩
  clear I J hs
  go_enter Tryz.func20, Tryz.ntmps20
  obtain ⟨a0, a1, a2, a3, a4, a5, a6, a7, a8, a9, a10, a11, a12, a13, a14, a15, a16⟩ := TW.bx.shop
  obtain ⟨b0, b1, b2, b3, b4, b5, b6, b7, b8, b9, b10, b11, b12, b13, b14, b15, b16⟩ := TW.by'.shop
  rw [hW0] at a0 a1 a2 a3 a4 a5 a6 a7 a8 a9 a10 a11 a12 a13 a14 a15 a16 b0 b1 b2 b3 b4 b5 b6 b7 b8 b9 b10 b11 b12 b13 b14 b15 b16
  go_wp2_with fail
  rw [← hW0] at a0 a1 a2 a3 a4 a5 a6 a7 a8 a9 a10 a11 a12 a13 a14 a15 a16 b0 b1 b2 b3 b4 b5 b6 b7 b8 b9 b10 b11 b12 b13 b14 b15 b16 ⊢
  clear hW0
  have T0 : Hid (Tw2 w W0 L M d) := TW
  clear TW
  refine (eqTasks_same L.t.a L.t.n L.t.c d.t M.t.a M.t.n M.t.c _ (HI.out.1.t.kept T0.out.bel) (HI.out.2.t.kept T0.out.bel) s0).mono ?_
  rintro e w1 ⟨rfl, B0⟩
  have T1 : Hid (Tw2 w w1 L M d) := T0.out.all B0
  clear B0
  obtain ⟨a0, a1, a2, a3, a4, a5, a6, a7, a8, a9, a10, a11, a12, a13, a14, a15, a16⟩ := T1.out.bx.shop
  obtain ⟨b0, b1, b2, b3, b4, b5, b6, b7, b8, b9, b10, b11, b12, b13, b14, b15, b16⟩ := T1.out.by'.shop
  go_wp2_with fail
  refine (eqInts_same L.m.a L.m.n L.m.c d.m M.m.a M.m.n M.m.c _ (HI.out.1.m.kept T1.out.bel) (HI.out.2.m.kept T1.out.bel) s1).mono ?_
  rintro e w2 ⟨rfl, B1⟩
  have T2 : Hid (Tw2 w w2 L M d) := T1.out.all B1
  clear B1
  obtain ⟨a0, a1, a2, a3, a4, a5, a6, a7, a8, a9, a10, a11, a12, a13, a14, a15, a16⟩ := T2.out.bx.shop
  obtain ⟨b0, b1, b2, b3, b4, b5, b6, b7, b8, b9, b10, b11, b12, b13, b14, b15, b16⟩ := T2.out.by'.shop
  go_wp2_with fail
  refine (eqInts_same L.c.a L.c.n L.c.c d.c M.c.a M.c.n M.c.c _ (HI.out.1.c.kept T2.out.bel) (HI.out.2.c.kept T2.out.bel) s2).mono ?_
  rintro e w3 ⟨rfl, B2⟩
  have T3 : Hid (Tw2 w w3 L M d) := T2.out.all B2
  clear B2
  obtain ⟨a0, a1, a2, a3, a4, a5, a6, a7, a8, a9, a10, a11, a12, a13, a14, a15, a16⟩ := T3.out.bx.shop
  obtain ⟨b0, b1, b2, b3, b4, b5, b6, b7, b8, b9, b10, b11, b12, b13, b14, b15, b16⟩ := T3.out.by'.shop
  go_wp2_with fail
  refine (eqInts_same L.n.a L.n.n L.n.c d.n M.n.a M.n.n M.n.c _ (HI.out.1.n.kept T3.out.bel) (HI.out.2.n.kept T3.out.bel) s3).mono ?_
  rintro e w4 ⟨rfl, B3⟩
  have T4 : Hid (Tw2 w w4 L M d) := T3.out.all B3
  clear B3
  obtain ⟨a0, a1, a2, a3, a4, a5, a6, a7, a8, a9, a10, a11, a12, a13, a14, a15, a16⟩ := T4.out.bx.shop
  obtain ⟨b0, b1, b2, b3, b4, b5, b6, b7, b8, b9, b10, b11, b12, b13, b14, b15, b16⟩ := T4.out.by'.shop
  go_wp2_with fail
  refine (eqSmooth_same L.s.a L.s.n L.s.c L.r.a L.r.n L.r.c M.s.a M.s.n M.s.c M.r.a M.r.n M.r.c d.s d.r _ (HI.out.1.s.kept T4.out.bel) (HI.out.1.r.kept T4.out.bel) (HI.out.2.s.kept T4.out.bel) (HI.out.2.r.kept T4.out.bel) s4 s5).mono ?_
  rintro e w5 ⟨rfl, B4⟩
  have T5 : Hid (Tw2 w w5 L M d) := T4.out.all B4
  clear B4
  obtain ⟨a0, a1, a2, a3, a4, a5, a6, a7, a8, a9, a10, a11, a12, a13, a14, a15, a16⟩ := T5.out.bx.shop
  obtain ⟨b0, b1, b2, b3, b4, b5, b6, b7, b8, b9, b10, b11, b12, b13, b14, b15, b16⟩ := T5.out.by'.shop
  go_wp2_with fail
  refine (eqList_same L.l.a L.l.n L.l.c L.h.a L.h.n L.h.c M.l.a M.l.n M.l.c M.h.a M.h.n M.h.c d.l d.h d.lt d.la _ (HI.out.1.l.kept T5.out.bel) (HI.out.1.h.kept T5.out.bel) (HI.out.2.l.kept T5.out.bel) (HI.out.2.h.kept T5.out.bel) s6 s7).mono ?_
  rintro e w6 ⟨rfl, B5⟩
  have T6 : Hid (Tw2 w w6 L M d) := T5.out.all B5
  clear B5
  obtain ⟨a0, a1, a2, a3, a4, a5, a6, a7, a8, a9, a10, a11, a12, a13, a14, a15, a16⟩ := T6.out.bx.shop
  obtain ⟨b0, b1, b2, b3, b4, b5, b6, b7, b8, b9, b10, b11, b12, b13, b14, b15, b16⟩ := T6.out.by'.shop
  go_wp2_with fail
  refine (eqMany_same L.y.a L.y.n L.y.c L.z.a L.z.n L.z.c M.y.a M.y.n M.y.c M.z.a M.z.n M.z.c d.y d.z d.yq d.yt _ (HI.out.1.y.kept T6.out.bel) (HI.out.1.z.kept T6.out.bel) (HI.out.2.y.kept T6.out.bel) (HI.out.2.z.kept T6.out.bel) s8 s9).mono ?_
  rintro e w7 ⟨rfl, B6⟩
  have T7 : Hid (Tw2 w w7 L M d) := T6.out.all B6
  clear B6
  obtain ⟨a0, a1, a2, a3, a4, a5, a6, a7, a8, a9, a10, a11, a12, a13, a14, a15, a16⟩ := T7.out.bx.shop
  obtain ⟨b0, b1, b2, b3, b4, b5, b6, b7, b8, b9, b10, b11, b12, b13, b14, b15, b16⟩ := T7.out.by'.shop
  go_wp2_with fail
  go_ret
  exact ⟨rfl, T7.out.bel⟩

/-- A marked Shop's slices. -/
structure Rm (w : World) (L : LT) (k0 k1 k2 k3 k4 k5 k6 : Int) : Prop where
  t : Tsks w L.t.a L.t.n (tmarks k0 L.t.n)
  m : Ints w L.m.a L.m.n (marks k1 L.m.n)
  c : Ints w L.c.a L.c.n (marks k2 L.c.n)
  n : Ints w L.n.a L.n.n (marks k3 L.n.n)
  s : Ints w L.s.a L.s.n (marks k4 L.s.n)
  r : Ints w L.r.a L.r.n (marks (k4 + L.s.n) L.r.n)
  l : Ints w L.l.a L.l.n (marks k5 L.l.n)
  h : Ints w L.h.a L.h.n (marks (k5 + L.l.n) L.h.n)
  y : Shs w L.y.a L.y.n (smarks k6 L.y.n)
  z : Ints w L.z.a L.z.n (marks (k6 + 2 * L.y.n) L.z.n)

set_option maxRecDepth 100000 in
set_option maxHeartbeats 4000000 in
/-- laws.heldShop of one that is marked. -/
theorem heldShop_any (L : LT) (d : SD) (k0 : Int) (w : World) (I : Rd w L (mkd L d k0)) (hs : Short L) (h0 : 0 ≤ k0) (h1 : k0 ≤ 900000000) :
    Calls Tryz.prog 22 #[sv L d, .int .i64 k0] w fun e w' => e = .returned (.int .i64 (k0 + 4 * (L.t.n : Int) + (L.m.n : Int) + (L.c.n : Int) + (L.n.n : Int) + (L.s.n : Int) + (L.r.n : Int) + (L.l.n : Int) + (L.h.n : Int) + 2 * (L.y.n : Int) + (L.z.n : Int))) ∧ Below w.heap.size w w' := by
  obtain ⟨s0, s1, s2, s3, s4, s5, s6, s7, s8, s9⟩ := short_parts hs
  obtain ⟨k1, e1⟩ : ∃ k1 : Int, k1 = k0 + 4 * (L.t.n : Int) := ⟨_, rfl⟩
  obtain ⟨k2, e2⟩ : ∃ k2 : Int, k2 = k1 + (L.m.n : Int) := ⟨_, rfl⟩
  obtain ⟨k3, e3⟩ : ∃ k3 : Int, k3 = k2 + (L.c.n : Int) := ⟨_, rfl⟩
  obtain ⟨k4, e4⟩ : ∃ k4 : Int, k4 = k3 + (L.n.n : Int) := ⟨_, rfl⟩
  obtain ⟨k5, e5⟩ : ∃ k5 : Int, k5 = k4 + (L.s.n : Int) + (L.r.n : Int) := ⟨_, rfl⟩
  obtain ⟨k6, e6⟩ : ∃ k6 : Int, k6 = k5 + (L.l.n : Int) + (L.h.n : Int) := ⟨_, rfl⟩
  obtain ⟨k7, e7⟩ : ∃ k7 : Int, k7 = k6 + 2 * (L.y.n : Int) + (L.z.n : Int) := ⟨_, rfl⟩
  obtain ⟨it, im, ic, i_n, i_s, ir, il, ih, iy, iz⟩ := I
  simp only [mkd] at it im ic i_n i_s ir il ih iy iz
  have HT : Hid (k7 = k0 + 4 * (L.t.n : Int) + (L.m.n : Int) + (L.c.n : Int) + (L.n.n : Int) + (L.s.n : Int) + (L.r.n : Int) + (L.l.n : Int) + (L.h.n : Int) + 2 * (L.y.n : Int) + (L.z.n : Int)) := by show _ = _; omega
  have HR : Hid (Rm w L k0 k1 k2 k3 k4 k5 k6) := ⟨it, by rw [e1]; exact im, by rw [e2, e1]; exact ic, by rw [e3, e2, e1]; exact i_n, by rw [e4, e3, e2, e1]; exact i_s, by rw [e4, e3, e2, e1]; exact ir, by rw [e5, e4, e3, e2, e1]; exact il, by rw [e5, e4, e3, e2, e1]; exact ih, by rw [e6, e5, e4, e3, e2, e1]; exact iy, by rw [e6, e5, e4, e3, e2, e1]; exact iz⟩
  have G0 : Hid (0 ≤ k0 ∧ k0 ≤ 1000000000000 ∧ k1 = k0 + 4 * (L.t.n : Int) ) := ⟨by omega, by omega, e1⟩
  have Z1 : Hid (0 ≤ k1) := by show _ ≤ _; omega
  have G1 : Hid (0 ≤ k1 ∧ k1 ≤ 1000000000000 ∧ k2 = k1 + (L.m.n : Int) ) := ⟨by omega, by omega, e2⟩
  have Z2 : Hid (0 ≤ k2) := by show _ ≤ _; omega
  have G2 : Hid (0 ≤ k2 ∧ k2 ≤ 1000000000000 ∧ k3 = k2 + (L.c.n : Int) ) := ⟨by omega, by omega, e3⟩
  have Z3 : Hid (0 ≤ k3) := by show _ ≤ _; omega
  have G3 : Hid (0 ≤ k3 ∧ k3 ≤ 1000000000000 ∧ k4 = k3 + (L.n.n : Int) ) := ⟨by omega, by omega, e4⟩
  have Z4 : Hid (0 ≤ k4) := by show _ ≤ _; omega
  have G4 : Hid (0 ≤ k4 ∧ k4 ≤ 1000000000 ∧ k5 = k4 + (L.s.n : Int) + (L.r.n : Int) ) := ⟨by omega, by omega, e5⟩
  have Z5 : Hid (0 ≤ k5) := by show _ ≤ _; omega
  have G5 : Hid (0 ≤ k5 ∧ k5 ≤ 1000000000 ∧ k6 = k5 + (L.l.n : Int) + (L.h.n : Int) ) := ⟨by omega, by omega, e6⟩
  have Z6 : Hid (0 ≤ k6) := by show _ ≤ _; omega
  have G6 : Hid (0 ≤ k6 ∧ k6 ≤ 1000000000 ∧ k7 = k6 + 2 * (L.y.n : Int) + (L.z.n : Int) ) := ⟨by omega, by omega, e7⟩
  have Z7 : Hid (0 ≤ k7) := by show _ ≤ _; omega
  rw [← HT.out]
  clear it im ic i_n i_s ir il ih iy iz e1 e2 e3 e4 e5 e6 e7 hs h1
  obtain ⟨W0, hW0⟩ : ∃ W0, W0 = w.alloc (.cells (sc L d) 36) := ⟨_, rfl⟩
  have SW : Sw w W0 L d := by rw [hW0]; exact sw_new _ _ _
  go_enter Tryz.func22, Tryz.ntmps22
  obtain ⟨c0, c1, c2, c3, c4, c5, c6, c7, c8, c9, c10, c11, c12, c13, c14, c15, c16⟩ := SW.bx.shop
  rw [hW0] at c0 c1 c2 c3 c4 c5 c6 c7 c8 c9 c10 c11 c12 c13 c14 c15 c16
  go_wp2_with fail
  rw [← hW0] at c0 c1 c2 c3 c4 c5 c6 c7 c8 c9 c10 c11 c12 c13 c14 c15 c16 ⊢
  clear hW0
  have S0 : Hid (Sw w W0 L d) := SW
  clear SW
  refine (heldTasks_any L.t.a L.t.n L.t.c k0 _ (HR.out.t.kept S0.out.bel) s0 G0.out.1 G0.out.2.1).mono ?_
  rw [← G0.out.2.2]
  rintro e w1 ⟨rfl, B0⟩
  have S1 : Hid (Sw w w1 L d) := S0.out.all B0
  clear B0
  obtain ⟨c0, c1, c2, c3, c4, c5, c6, c7, c8, c9, c10, c11, c12, c13, c14, c15, c16⟩ := S1.out.bx.shop
  have gz0 := Z1.out
  go_wp2_with fail
  refine (heldInts_any L.m.a L.m.n L.m.c k1 _ (HR.out.m.kept S1.out.bel) s1 G1.out.1 G1.out.2.1).mono ?_
  rw [← G1.out.2.2]
  rintro e w2 ⟨rfl, B1⟩
  have S2 : Hid (Sw w w2 L d) := S1.out.all B1
  clear B1
  obtain ⟨c0, c1, c2, c3, c4, c5, c6, c7, c8, c9, c10, c11, c12, c13, c14, c15, c16⟩ := S2.out.bx.shop
  have gz1 := Z2.out
  go_wp2_with fail
  refine (heldInts_any L.c.a L.c.n L.c.c k2 _ (HR.out.c.kept S2.out.bel) s2 G2.out.1 G2.out.2.1).mono ?_
  rw [← G2.out.2.2]
  rintro e w3 ⟨rfl, B2⟩
  have S3 : Hid (Sw w w3 L d) := S2.out.all B2
  clear B2
  obtain ⟨c0, c1, c2, c3, c4, c5, c6, c7, c8, c9, c10, c11, c12, c13, c14, c15, c16⟩ := S3.out.bx.shop
  have gz2 := Z3.out
  go_wp2_with fail
  refine (heldInts_any L.n.a L.n.n L.n.c k3 _ (HR.out.n.kept S3.out.bel) s3 G3.out.1 G3.out.2.1).mono ?_
  rw [← G3.out.2.2]
  rintro e w4 ⟨rfl, B3⟩
  have S4 : Hid (Sw w w4 L d) := S3.out.all B3
  clear B3
  obtain ⟨c0, c1, c2, c3, c4, c5, c6, c7, c8, c9, c10, c11, c12, c13, c14, c15, c16⟩ := S4.out.bx.shop
  have gz3 := Z4.out
  go_wp2_with fail
  refine (heldSmooth_any L.s.a L.s.n L.s.c L.r.a L.r.n L.r.c k4 _ (HR.out.s.kept S4.out.bel) (HR.out.r.kept S4.out.bel) s4 s5 G4.out.1 G4.out.2.1).mono ?_
  rw [← G4.out.2.2]
  rintro e w5 ⟨rfl, B4⟩
  have S5 : Hid (Sw w w5 L d) := S4.out.all B4
  clear B4
  obtain ⟨c0, c1, c2, c3, c4, c5, c6, c7, c8, c9, c10, c11, c12, c13, c14, c15, c16⟩ := S5.out.bx.shop
  have gz4 := Z5.out
  go_wp2_with fail
  refine (heldList_any L.l.a L.l.n L.l.c L.h.a L.h.n L.h.c d.lt d.la k5 _ (HR.out.l.kept S5.out.bel) (HR.out.h.kept S5.out.bel) s6 s7 G5.out.1 G5.out.2.1).mono ?_
  rw [← G5.out.2.2]
  rintro e w6 ⟨rfl, B5⟩
  have S6 : Hid (Sw w w6 L d) := S5.out.all B5
  clear B5
  obtain ⟨c0, c1, c2, c3, c4, c5, c6, c7, c8, c9, c10, c11, c12, c13, c14, c15, c16⟩ := S6.out.bx.shop
  have gz5 := Z6.out
  go_wp2_with fail
  refine (heldMany_any L.y.a L.y.n L.y.c L.z.a L.z.n L.z.c d.yq d.yt k6 _ (HR.out.y.kept S6.out.bel) (HR.out.z.kept S6.out.bel) s8 s9 G6.out.1 G6.out.2.1).mono ?_
  rw [← G6.out.2.2]
  rintro e w7 ⟨rfl, B6⟩
  have S7 : Hid (Sw w w7 L d) := S6.out.all B6
  clear B6
  obtain ⟨c0, c1, c2, c3, c4, c5, c6, c7, c8, c9, c10, c11, c12, c13, c14, c15, c16⟩ := S7.out.bx.shop
  have gz6 := Z7.out
  go_wp2_with fail
  go_ret
  exact ⟨rfl, S7.out.bel⟩

end Go.Proofs.YtcmeimfjedakeaaGreat.Crew

/-
  laws.markShop, and what a Shop is as a kind. (Written by wip/tools/gen_shopmark.py.)
-/
namespace Go.Proofs.YtcmeimfjedakeaaGreat.Crew
open Go.ChangeShapes Go.WideShapes Go.ChangeAt Go.RowKit

theorem Own.put_sr {w w' : World} {L : LT} {d : SD} (h : Own w L d) (P : Parts L) (c : Chg (fun j => blk L.s.a = some j ∨ blk L.r.a = some j) w w') {xs : List Int} {ys : List Int} (G : Fit w' 0 L.s.a L.s.n L.s.c xs) (G' : Fit w' 0 L.r.a L.r.n L.r.c ys) : Own w' L { d with s := xs, r := ys } where
  t := Rec.fit.still h.t (fun x hx => c.block _ (Rec.fit.ge h.t hx).2 (fun e => by
    rcases e with e | e
    · exact apart_ne (P 4 0 (by decide) (by decide) (by decide)) hx e
    · exact apart_ne (P 5 0 (by decide) (by decide) (by decide)) hx e))
  m := Fit.still h.m (fun x hx => c.block _ (Fit.ge h.m hx).2 (fun e => by
    rcases e with e | e
    · exact apart_ne (P 4 1 (by decide) (by decide) (by decide)) hx e
    · exact apart_ne (P 5 1 (by decide) (by decide) (by decide)) hx e))
  c := Fit.still h.c (fun x hx => c.block _ (Fit.ge h.c hx).2 (fun e => by
    rcases e with e | e
    · exact apart_ne (P 4 2 (by decide) (by decide) (by decide)) hx e
    · exact apart_ne (P 5 2 (by decide) (by decide) (by decide)) hx e))
  n := Fit.still h.n (fun x hx => c.block _ (Fit.ge h.n hx).2 (fun e => by
    rcases e with e | e
    · exact apart_ne (P 4 3 (by decide) (by decide) (by decide)) hx e
    · exact apart_ne (P 5 3 (by decide) (by decide) (by decide)) hx e))
  s := G
  r := G'
  l := Fit.still h.l (fun x hx => c.block _ (Fit.ge h.l hx).2 (fun e => by
    rcases e with e | e
    · exact apart_ne (P 4 6 (by decide) (by decide) (by decide)) hx e
    · exact apart_ne (P 5 6 (by decide) (by decide) (by decide)) hx e))
  h := Fit.still h.h (fun x hx => c.block _ (Fit.ge h.h hx).2 (fun e => by
    rcases e with e | e
    · exact apart_ne (P 4 7 (by decide) (by decide) (by decide)) hx e
    · exact apart_ne (P 5 7 (by decide) (by decide) (by decide)) hx e))
  y := SFit.still h.y (fun x hx => c.block _ (SFit.ge h.y hx).2 (fun e => by
    rcases e with e | e
    · exact apart_ne (P 4 8 (by decide) (by decide) (by decide)) hx e
    · exact apart_ne (P 5 8 (by decide) (by decide) (by decide)) hx e))
  z := Fit.still h.z (fun x hx => c.block _ (Fit.ge h.z hx).2 (fun e => by
    rcases e with e | e
    · exact apart_ne (P 4 9 (by decide) (by decide) (by decide)) hx e
    · exact apart_ne (P 5 9 (by decide) (by decide) (by decide)) hx e))

theorem Own.put_lh {w w' : World} {L : LT} {d : SD} (h : Own w L d) (P : Parts L) (c : Chg (fun j => blk L.l.a = some j ∨ blk L.h.a = some j) w w') {xs : List Int} {ys : List Int} (G : Fit w' 0 L.l.a L.l.n L.l.c xs) (G' : Fit w' 0 L.h.a L.h.n L.h.c ys) : Own w' L { d with l := xs, h := ys } where
  t := Rec.fit.still h.t (fun x hx => c.block _ (Rec.fit.ge h.t hx).2 (fun e => by
    rcases e with e | e
    · exact apart_ne (P 6 0 (by decide) (by decide) (by decide)) hx e
    · exact apart_ne (P 7 0 (by decide) (by decide) (by decide)) hx e))
  m := Fit.still h.m (fun x hx => c.block _ (Fit.ge h.m hx).2 (fun e => by
    rcases e with e | e
    · exact apart_ne (P 6 1 (by decide) (by decide) (by decide)) hx e
    · exact apart_ne (P 7 1 (by decide) (by decide) (by decide)) hx e))
  c := Fit.still h.c (fun x hx => c.block _ (Fit.ge h.c hx).2 (fun e => by
    rcases e with e | e
    · exact apart_ne (P 6 2 (by decide) (by decide) (by decide)) hx e
    · exact apart_ne (P 7 2 (by decide) (by decide) (by decide)) hx e))
  n := Fit.still h.n (fun x hx => c.block _ (Fit.ge h.n hx).2 (fun e => by
    rcases e with e | e
    · exact apart_ne (P 6 3 (by decide) (by decide) (by decide)) hx e
    · exact apart_ne (P 7 3 (by decide) (by decide) (by decide)) hx e))
  s := Fit.still h.s (fun x hx => c.block _ (Fit.ge h.s hx).2 (fun e => by
    rcases e with e | e
    · exact apart_ne (P 6 4 (by decide) (by decide) (by decide)) hx e
    · exact apart_ne (P 7 4 (by decide) (by decide) (by decide)) hx e))
  r := Fit.still h.r (fun x hx => c.block _ (Fit.ge h.r hx).2 (fun e => by
    rcases e with e | e
    · exact apart_ne (P 6 5 (by decide) (by decide) (by decide)) hx e
    · exact apart_ne (P 7 5 (by decide) (by decide) (by decide)) hx e))
  l := G
  h := G'
  y := SFit.still h.y (fun x hx => c.block _ (SFit.ge h.y hx).2 (fun e => by
    rcases e with e | e
    · exact apart_ne (P 6 8 (by decide) (by decide) (by decide)) hx e
    · exact apart_ne (P 7 8 (by decide) (by decide) (by decide)) hx e))
  z := Fit.still h.z (fun x hx => c.block _ (Fit.ge h.z hx).2 (fun e => by
    rcases e with e | e
    · exact apart_ne (P 6 9 (by decide) (by decide) (by decide)) hx e
    · exact apart_ne (P 7 9 (by decide) (by decide) (by decide)) hx e))

theorem Own.put_yz {w w' : World} {L : LT} {d : SD} (h : Own w L d) (P : Parts L) (c : Chg (fun j => blk L.y.a = some j ∨ blk L.z.a = some j) w w') {xs : List Shr} {ys : List Int} (G : SFit w' 0 L.y.a L.y.n L.y.c xs) (G' : Fit w' 0 L.z.a L.z.n L.z.c ys) : Own w' L { d with y := xs, z := ys } where
  t := Rec.fit.still h.t (fun x hx => c.block _ (Rec.fit.ge h.t hx).2 (fun e => by
    rcases e with e | e
    · exact apart_ne (P 8 0 (by decide) (by decide) (by decide)) hx e
    · exact apart_ne (P 9 0 (by decide) (by decide) (by decide)) hx e))
  m := Fit.still h.m (fun x hx => c.block _ (Fit.ge h.m hx).2 (fun e => by
    rcases e with e | e
    · exact apart_ne (P 8 1 (by decide) (by decide) (by decide)) hx e
    · exact apart_ne (P 9 1 (by decide) (by decide) (by decide)) hx e))
  c := Fit.still h.c (fun x hx => c.block _ (Fit.ge h.c hx).2 (fun e => by
    rcases e with e | e
    · exact apart_ne (P 8 2 (by decide) (by decide) (by decide)) hx e
    · exact apart_ne (P 9 2 (by decide) (by decide) (by decide)) hx e))
  n := Fit.still h.n (fun x hx => c.block _ (Fit.ge h.n hx).2 (fun e => by
    rcases e with e | e
    · exact apart_ne (P 8 3 (by decide) (by decide) (by decide)) hx e
    · exact apart_ne (P 9 3 (by decide) (by decide) (by decide)) hx e))
  s := Fit.still h.s (fun x hx => c.block _ (Fit.ge h.s hx).2 (fun e => by
    rcases e with e | e
    · exact apart_ne (P 8 4 (by decide) (by decide) (by decide)) hx e
    · exact apart_ne (P 9 4 (by decide) (by decide) (by decide)) hx e))
  r := Fit.still h.r (fun x hx => c.block _ (Fit.ge h.r hx).2 (fun e => by
    rcases e with e | e
    · exact apart_ne (P 8 5 (by decide) (by decide) (by decide)) hx e
    · exact apart_ne (P 9 5 (by decide) (by decide) (by decide)) hx e))
  l := Fit.still h.l (fun x hx => c.block _ (Fit.ge h.l hx).2 (fun e => by
    rcases e with e | e
    · exact apart_ne (P 8 6 (by decide) (by decide) (by decide)) hx e
    · exact apart_ne (P 9 6 (by decide) (by decide) (by decide)) hx e))
  h := Fit.still h.h (fun x hx => c.block _ (Fit.ge h.h hx).2 (fun e => by
    rcases e with e | e
    · exact apart_ne (P 8 7 (by decide) (by decide) (by decide)) hx e
    · exact apart_ne (P 9 7 (by decide) (by decide) (by decide)) hx e))
  y := G
  z := G'

/-- While a Shop is marked: its slices, its variable, what was written. -/
structure Mw (w X : World) (L : LT) (d D : SD) : Prop where
  own : Own X L D
  bx : Bx X w.heap.size (sc L d).toList
  chg : Chg (Has L) w X
  low : ∀ j, Has L j → j < w.heap.size

theorem mw_new {w : World} {L : LT} {d : SD} (h : Own w L d) : Mw w (w.alloc (.cells (sc L d) 36)) L d d :=
  ⟨h.still (fun j hj => (below_new w _).block j (h.lt j hj)), shop_new _ _ _, chg_of_below (below_new _ _) _, h.lt⟩

theorem Mw.step {w X Y : World} {L : LT} {d D E : SD} {T : Bs} (h : Mw w X L d D) (c : Chg T X Y) (ht : ∀ j, T j → Has L j) (o : Own Y L E) : Mw w Y L d E :=
  ⟨o, h.bx.past c (fun e => Nat.lt_irrefl _ (h.low _ (ht _ e))), h.chg.trans (c.mono ht), h.low⟩

theorem has_one {L : LT} (i : Nat) (hi : i < 10) : ∀ j, blk (L.at i) = some j → Has L j := fun _ hj => ⟨i, hi, hj⟩

theorem has_two {L : LT} (i k : Nat) (hi : i < 10) (hk : k < 10) : ∀ j, (blk (L.at i) = some j ∨ blk (L.at k) = some j) → Has L j := fun _ hj => by
  rcases hj with h | h
  · exact ⟨i, hi, h⟩
  · exact ⟨k, hk, h⟩

theorem chg_two {w wm w' : World} {a b : Option Addr} (h : w.grownBy wm (blk a)) (k : wm.grownBy w' (blk b)) : Chg (fun j => blk a = some j ∨ blk b = some j) w w' :=
  (chg_of_blk h (fun x hx => .inl (by rw [hx]; rfl))).trans (chg_of_blk k (fun x hx => .inr (by rw [hx]; rfl)))

theorem chg_one {w w' : World} {a : Option Addr} (h : w.grownBy w' (blk a)) : Chg (fun j => blk a = some j) w w' := chg_of_blk h (fun x hx => by rw [hx]; rfl)

theorem markTFit (a : Option Addr) (len cap : Nat) (xs : List Tsk) (k : Int) (w : World) (F : TFit w 0 a len cap xs) (hs : (len : Int) ≤ 1048576) (hk0 : 0 ≤ k) (hk1 : k ≤ 1000000000) :
    Calls Tryz.prog 70 #[.slice a len cap, .int .i64 k] w fun e w' => e = .returned (.int .i64 (k + 4 * len)) ∧ TFit w' 0 a len cap (tmarks k len) ∧ Chg (fun j => blk a = some j) w w' := by
  have hl := F.1
  refine (tsks_mark (tsks_fit F) k (by omega) hk0 hk1).mono ?_
  rintro e w' ⟨rfl, ⟨a', l', c', he, G, _, _⟩, C⟩
  obtain ⟨rfl, rfl, rfl⟩ := Value.slice.inj he
  refine ⟨?_, G, C⟩
  show Ending.returned (.int .i64 (k + ((4 * xs.length : Nat) : Int))) = _
  rw [hl]
  push_cast
  rfl

set_option maxRecDepth 100000 in
set_option maxHeartbeats 4000000 in
/-- laws.markShop of one of the call's own. -/
theorem markShop_any (L : LT) (d : SD) (k0 : Int) (w : World) (O : Own w L d) (P : Parts L) (hs : Short L) (h0 : 0 ≤ k0) (h1 : k0 ≤ 900000000) :
    Calls Tryz.prog 21 #[sv L d, .int .i64 k0] w fun e w' => e = .returned (.int .i64 (k0 + 4 * (L.t.n : Int) + (L.m.n : Int) + (L.c.n : Int) + (L.n.n : Int) + (L.s.n : Int) + (L.r.n : Int) + (L.l.n : Int) + (L.h.n : Int) + 2 * (L.y.n : Int) + (L.z.n : Int))) ∧ Own w' L (mkd L d k0) ∧ Chg (Has L) w w' := by
  obtain ⟨s0, s1, s2, s3, s4, s5, s6, s7, s8, s9⟩ := short_parts hs
  obtain ⟨k1, e1⟩ : ∃ k1 : Int, k1 = k0 + 4 * (L.t.n : Int) := ⟨_, rfl⟩
  obtain ⟨k2, e2⟩ : ∃ k2 : Int, k2 = k1 + (L.m.n : Int) := ⟨_, rfl⟩
  obtain ⟨k3, e3⟩ : ∃ k3 : Int, k3 = k2 + (L.c.n : Int) := ⟨_, rfl⟩
  obtain ⟨k4, e4⟩ : ∃ k4 : Int, k4 = k3 + (L.n.n : Int) := ⟨_, rfl⟩
  obtain ⟨k5, e5⟩ : ∃ k5 : Int, k5 = k4 + (L.s.n : Int) + (L.r.n : Int) := ⟨_, rfl⟩
  obtain ⟨k6, e6⟩ : ∃ k6 : Int, k6 = k5 + (L.l.n : Int) + (L.h.n : Int) := ⟨_, rfl⟩
  obtain ⟨k7, e7⟩ : ∃ k7 : Int, k7 = k6 + 2 * (L.y.n : Int) + (L.z.n : Int) := ⟨_, rfl⟩
  have HT : Hid (k7 = k0 + 4 * (L.t.n : Int) + (L.m.n : Int) + (L.c.n : Int) + (L.n.n : Int) + (L.s.n : Int) + (L.r.n : Int) + (L.l.n : Int) + (L.h.n : Int) + 2 * (L.y.n : Int) + (L.z.n : Int)) := by show _ = _; omega
  have G0 : Hid (0 ≤ k0 ∧ k0 ≤ 1000000000 ∧ k1 = k0 + 4 * (L.t.n : Int) ) := ⟨by omega, by omega, e1⟩
  have G1 : Hid (0 ≤ k1 ∧ k1 ≤ 1000000000 ∧ k2 = k1 + (L.m.n : Int) ) := ⟨by omega, by omega, e2⟩
  have G2 : Hid (0 ≤ k2 ∧ k2 ≤ 1000000000 ∧ k3 = k2 + (L.c.n : Int) ) := ⟨by omega, by omega, e3⟩
  have G3 : Hid (0 ≤ k3 ∧ k3 ≤ 1000000000 ∧ k4 = k3 + (L.n.n : Int) ) := ⟨by omega, by omega, e4⟩
  have G4 : Hid (0 ≤ k4 ∧ k4 ≤ 1000000000 ∧ k5 = k4 + (L.s.n : Int) + (L.r.n : Int) ) := ⟨by omega, by omega, e5⟩
  have G5 : Hid (0 ≤ k5 ∧ k5 ≤ 1000000000 ∧ k6 = k5 + (L.l.n : Int) + (L.h.n : Int) ) := ⟨by omega, by omega, e6⟩
  have G6 : Hid (0 ≤ k6 ∧ k6 ≤ 1000000000 ∧ k7 = k6 + 2 * (L.y.n : Int) + (L.z.n : Int) ) := ⟨by omega, by omega, e7⟩
  have Z7 : Hid (0 ≤ k7) := by show _ ≤ _; omega
  have PP : Hid (Parts L) := P
  have HK : Hid (mkd L d k0 = { d with t := tmarks k0 L.t.n, m := marks k1 L.m.n, c := marks k2 L.c.n, n := marks k3 L.n.n, s := marks k4 L.s.n, r := marks (k4 + L.s.n) L.r.n, l := marks k5 L.l.n, h := marks (k5 + L.l.n) L.h.n, y := smarks k6 L.y.n, z := marks (k6 + 2 * L.y.n) L.z.n }) := by
    show _ = _
    rw [mkd, e6, e5, e4, e3, e2, e1]
  rw [← HT.out]
  obtain ⟨W0, hW0⟩ : ∃ W0, W0 = w.alloc (.cells (sc L d) 36) := ⟨_, rfl⟩
  have MW : Mw w W0 L d d := by rw [hW0]; exact mw_new O
  clear e1 e2 e3 e4 e5 e6 e7 hs h1 P O
  go_enter Tryz.func21, Tryz.ntmps21
  obtain ⟨c0, c1, c2, c3, c4, c5, c6, c7, c8, c9, c10, c11, c12, c13, c14, c15, c16⟩ := MW.bx.shop
  rw [hW0] at c0 c1 c2 c3 c4 c5 c6 c7 c8 c9 c10 c11 c12 c13 c14 c15 c16
  go_wp2_with fail
  rw [← hW0] at c0 c1 c2 c3 c4 c5 c6 c7 c8 c9 c10 c11 c12 c13 c14 c15 c16 ⊢
  clear hW0
  have S0 : Hid (Mw w W0 L d d) := MW
  clear MW
  refine (markTFit L.t.a L.t.n L.t.c _ k0 _ S0.out.own.t s0 G0.out.1 G0.out.2.1).mono ?_
  rw [← G0.out.2.2]
  rintro e w1 ⟨rfl, F0, C0⟩
  have S1 := hid (S0.out.step C0 (has_one 0 (by decide)) (S0.out.own.put_t PP.out C0 F0))
  clear F0 C0
  obtain ⟨c0, c1, c2, c3, c4, c5, c6, c7, c8, c9, c10, c11, c12, c13, c14, c15, c16⟩ := S1.out.bx.shop
  go_wp2_with fail
  refine (markFit 0 L.m.a L.m.n L.m.c _ k1 _ S1.out.own.m s1 G1.out.1 (Int.le_trans G1.out.2.1 (by decide))).mono ?_
  rw [← G1.out.2.2]
  rintro e w2 ⟨rfl, F1, C1⟩
  have S2 := hid (S1.out.step (chg_one C1) (has_one 1 (by decide)) (S1.out.own.put_m PP.out (chg_one C1) F1))
  clear F1 C1
  obtain ⟨c0, c1, c2, c3, c4, c5, c6, c7, c8, c9, c10, c11, c12, c13, c14, c15, c16⟩ := S2.out.bx.shop
  go_wp2_with fail
  refine (markFit 0 L.c.a L.c.n L.c.c _ k2 _ S2.out.own.c s2 G2.out.1 (Int.le_trans G2.out.2.1 (by decide))).mono ?_
  rw [← G2.out.2.2]
  rintro e w3 ⟨rfl, F2, C2⟩
  have S3 := hid (S2.out.step (chg_one C2) (has_one 2 (by decide)) (S2.out.own.put_c PP.out (chg_one C2) F2))
  clear F2 C2
  obtain ⟨c0, c1, c2, c3, c4, c5, c6, c7, c8, c9, c10, c11, c12, c13, c14, c15, c16⟩ := S3.out.bx.shop
  go_wp2_with fail
  refine (markFit 0 L.n.a L.n.n L.n.c _ k3 _ S3.out.own.n s3 G3.out.1 (Int.le_trans G3.out.2.1 (by decide))).mono ?_
  rw [← G3.out.2.2]
  rintro e w4 ⟨rfl, F3, C3⟩
  have S4 := hid (S3.out.step (chg_one C3) (has_one 3 (by decide)) (S3.out.own.put_n PP.out (chg_one C3) F3))
  clear F3 C3
  obtain ⟨c0, c1, c2, c3, c4, c5, c6, c7, c8, c9, c10, c11, c12, c13, c14, c15, c16⟩ := S4.out.bx.shop
  go_wp2_with fail
  refine (markSmooth_any 0 L.s.a L.s.n L.s.c _ L.r.a L.r.n L.r.c _ k4 _ S4.out.own.s S4.out.own.r (PP.out 4 5 (by decide) (by decide) (by decide)) s4 s5 G4.out.1 G4.out.2.1).mono ?_
  rw [← G4.out.2.2]
  rintro e w5 ⟨rfl, F4, F4b, wm4, C4, C4b⟩
  have S5 := hid (S4.out.step (chg_two C4 C4b) (has_two 4 5 (by decide) (by decide)) (S4.out.own.put_sr PP.out (chg_two C4 C4b) F4 F4b))
  clear F4 F4b C4 C4b
  obtain ⟨c0, c1, c2, c3, c4, c5, c6, c7, c8, c9, c10, c11, c12, c13, c14, c15, c16⟩ := S5.out.bx.shop
  go_wp2_with fail
  refine (markList_any 0 L.l.a L.l.n L.l.c _ L.h.a L.h.n L.h.c _ d.lt d.la k5 _ S5.out.own.l S5.out.own.h (PP.out 6 7 (by decide) (by decide) (by decide)) s6 s7 G5.out.1 G5.out.2.1).mono ?_
  rw [← G5.out.2.2]
  rintro e w6 ⟨rfl, F5, F5b, wm5, C5, C5b⟩
  have S6 := hid (S5.out.step (chg_two C5 C5b) (has_two 6 7 (by decide) (by decide)) (S5.out.own.put_lh PP.out (chg_two C5 C5b) F5 F5b))
  clear F5 F5b C5 C5b
  obtain ⟨c0, c1, c2, c3, c4, c5, c6, c7, c8, c9, c10, c11, c12, c13, c14, c15, c16⟩ := S6.out.bx.shop
  go_wp2_with fail
  refine (markMany_any 0 L.y.a L.y.n L.y.c _ L.z.a L.z.n L.z.c _ d.yq d.yt k6 _ S6.out.own.y S6.out.own.z (PP.out 8 9 (by decide) (by decide) (by decide)) s8 s9 G6.out.1 G6.out.2.1).mono ?_
  rw [← G6.out.2.2]
  rintro e w7 ⟨rfl, F6, F6b, wm6, C6, C6b⟩
  have S7 := hid (S6.out.step (chg_two C6 C6b) (has_two 8 9 (by decide) (by decide)) (S6.out.own.put_yz PP.out (chg_two C6 C6b) F6 F6b))
  clear F6 F6b C6 C6b
  obtain ⟨c0, c1, c2, c3, c4, c5, c6, c7, c8, c9, c10, c11, c12, c13, c14, c15, c16⟩ := S7.out.bx.shop
  go_wp2_with fail
  go_ret
  refine ⟨rfl, ?_, S7.out.chg⟩
  rw [HK.out]
  exact S7.out.own

theorem slots_lens {L : LT} {d : SD} (h : Lth L d) (k0 : Int) : k0 + (shopK.slots d : Nat) = k0 + 4 * (L.t.n : Int) + (L.m.n : Int) + (L.c.n : Int) + (L.n.n : Int) + (L.s.n : Int) + (L.r.n : Int) + (L.l.n : Int) + (L.h.n : Int) + 2 * (L.y.n : Int) + (L.z.n : Int) := by
  show k0 + ((4 * d.t.length + d.m.length + d.c.length + d.n.length + d.s.length + d.r.length + d.l.length + d.h.length + 2 * d.y.length + d.z.length : Nat) : Int) = _
  rw [h.t, h.m, h.c, h.n, h.s, h.r, h.l, h.h, h.y, h.z]
  push_cast
  omega

theorem shop_eq {w : World} {S T : Bs} {u v : Value} {d : SD} (h : shopK.rep w S u d) (k : shopK.rep w T v d) (hs : Small10 d) :
    Calls Tryz.prog 20 #[u, v] w fun e w' => e = .returned (.bool true) ∧ Below w.heap.size w w' := by
  obtain ⟨L, rfl, O, _, _⟩ := h
  obtain ⟨M, rfl, O', _, _⟩ := k
  exact eqShop_same L M d w O.rd O'.rd (small_short O.lth hs)

theorem shop_mark {w : World} {S : Bs} {v : Value} {d : SD} (h : shopK.rep w S v d) (k : Int) (hs : Small10 d) (hk0 : 0 ≤ k) (hk1 : k ≤ 900000000) :
    Calls Tryz.prog 21 #[v, .int .i64 k] w fun e w' => e = .returned (.int .i64 (k + (shopK.slots d : Nat))) ∧ shopK.hld w' S v d k ∧ Chg S w w' := by
  obtain ⟨L, rfl, O, P, hS⟩ := h
  refine (markShop_any L d k w O P (small_short O.lth hs) hk0 hk1).mono ?_
  rintro e w' ⟨rfl, O', C⟩
  exact ⟨by rw [slots_lens O.lth], ⟨L, rfl, O', O.lth, hS⟩, C.mono (fun j hj => (hS j).2 hj)⟩

theorem shop_held {w : World} {S : Bs} {v : Value} {d : SD} {k : Int} (h : shopK.hld w S v d k) (hs : Small10 d) (hk0 : 0 ≤ k) (hk1 : k ≤ 900000000) :
    Calls Tryz.prog 22 #[v, .int .i64 k] w fun e w' => e = .returned (.int .i64 (k + (shopK.slots d : Nat))) ∧ Below w.heap.size w w' := by
  obtain ⟨L, rfl, O, l, _⟩ := h
  refine (heldShop_any L d k w O.rd (small_short l hs) hk0 hk1).mono ?_
  rintro e w' ⟨rfl, B⟩
  exact ⟨by rw [slots_lens l], B⟩

end Go.Proofs.YtcmeimfjedakeaaGreat.Crew
