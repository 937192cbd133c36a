/-
  laws.markShop, and what a Shop is as a kind. (Written by wip/tools/gen_shopmark.py.)
-/
import Derived.Test.YtcmeimfjedakeaaGreatShopK
namespace Go.Proofs.YtcmeimfjedakeaaGreat.Crew
open Go.ChangeShapes Go.WideShapes Go.ChangeAt Go.RowKit

theorem Own.put_sr {w w' : World} {L : LT} {d : SD} (h : Own w L d) (P : Parts L) (c : Chg (fun j => blk L.s.a = some j ∨ blk L.r.a = some j) w w') {xs : List Int} {ys : List Int} (G : Fit w' 0 L.s.a L.s.n L.s.c xs) (G' : Fit w' 0 L.r.a L.r.n L.r.c ys) : Own w' L { d with s := xs, r := ys } where
  t := Rec.fit.still h.t (fun x hx => c.block _ (Rec.fit.ge h.t hx).2 (fun e => by
    rcases e with e | e
    · exact apart_ne (P 4 0 (by decide) (by decide) (by decide)) hx e
    · exact apart_ne (P 5 0 (by decide) (by decide) (by decide)) hx e))
  m := Fit.still h.m (fun x hx => c.block _ (Fit.ge h.m hx).2 (fun e => by
    rcases e with e | e
    · exact apart_ne (P 4 1 (by decide) (by decide) (by decide)) hx e
    · exact apart_ne (P 5 1 (by decide) (by decide) (by decide)) hx e))
  c := Fit.still h.c (fun x hx => c.block _ (Fit.ge h.c hx).2 (fun e => by
    rcases e with e | e
    · exact apart_ne (P 4 2 (by decide) (by decide) (by decide)) hx e
    · exact apart_ne (P 5 2 (by decide) (by decide) (by decide)) hx e))
  n := Fit.still h.n (fun x hx => c.block _ (Fit.ge h.n hx).2 (fun e => by
    rcases e with e | e
    · exact apart_ne (P 4 3 (by decide) (by decide) (by decide)) hx e
    · exact apart_ne (P 5 3 (by decide) (by decide) (by decide)) hx e))
  s := G
  r := G'
  l := Fit.still h.l (fun x hx => c.block _ (Fit.ge h.l hx).2 (fun e => by
    rcases e with e | e
    · exact apart_ne (P 4 6 (by decide) (by decide) (by decide)) hx e
    · exact apart_ne (P 5 6 (by decide) (by decide) (by decide)) hx e))
  h := Fit.still h.h (fun x hx => c.block _ (Fit.ge h.h hx).2 (fun e => by
    rcases e with e | e
    · exact apart_ne (P 4 7 (by decide) (by decide) (by decide)) hx e
    · exact apart_ne (P 5 7 (by decide) (by decide) (by decide)) hx e))
  y := SFit.still h.y (fun x hx => c.block _ (SFit.ge h.y hx).2 (fun e => by
    rcases e with e | e
    · exact apart_ne (P 4 8 (by decide) (by decide) (by decide)) hx e
    · exact apart_ne (P 5 8 (by decide) (by decide) (by decide)) hx e))
  z := Fit.still h.z (fun x hx => c.block _ (Fit.ge h.z hx).2 (fun e => by
    rcases e with e | e
    · exact apart_ne (P 4 9 (by decide) (by decide) (by decide)) hx e
    · exact apart_ne (P 5 9 (by decide) (by decide) (by decide)) hx e))

theorem Own.put_lh {w w' : World} {L : LT} {d : SD} (h : Own w L d) (P : Parts L) (c : Chg (fun j => blk L.l.a = some j ∨ blk L.h.a = some j) w w') {xs : List Int} {ys : List Int} (G : Fit w' 0 L.l.a L.l.n L.l.c xs) (G' : Fit w' 0 L.h.a L.h.n L.h.c ys) : Own w' L { d with l := xs, h := ys } where
  t := Rec.fit.still h.t (fun x hx => c.block _ (Rec.fit.ge h.t hx).2 (fun e => by
    rcases e with e | e
    · exact apart_ne (P 6 0 (by decide) (by decide) (by decide)) hx e
    · exact apart_ne (P 7 0 (by decide) (by decide) (by decide)) hx e))
  m := Fit.still h.m (fun x hx => c.block _ (Fit.ge h.m hx).2 (fun e => by
    rcases e with e | e
    · exact apart_ne (P 6 1 (by decide) (by decide) (by decide)) hx e
    · exact apart_ne (P 7 1 (by decide) (by decide) (by decide)) hx e))
  c := Fit.still h.c (fun x hx => c.block _ (Fit.ge h.c hx).2 (fun e => by
    rcases e with e | e
    · exact apart_ne (P 6 2 (by decide) (by decide) (by decide)) hx e
    · exact apart_ne (P 7 2 (by decide) (by decide) (by decide)) hx e))
  n := Fit.still h.n (fun x hx => c.block _ (Fit.ge h.n hx).2 (fun e => by
    rcases e with e | e
    · exact apart_ne (P 6 3 (by decide) (by decide) (by decide)) hx e
    · exact apart_ne (P 7 3 (by decide) (by decide) (by decide)) hx e))
  s := Fit.still h.s (fun x hx => c.block _ (Fit.ge h.s hx).2 (fun e => by
    rcases e with e | e
    · exact apart_ne (P 6 4 (by decide) (by decide) (by decide)) hx e
    · exact apart_ne (P 7 4 (by decide) (by decide) (by decide)) hx e))
  r := Fit.still h.r (fun x hx => c.block _ (Fit.ge h.r hx).2 (fun e => by
    rcases e with e | e
    · exact apart_ne (P 6 5 (by decide) (by decide) (by decide)) hx e
    · exact apart_ne (P 7 5 (by decide) (by decide) (by decide)) hx e))
  l := G
  h := G'
  y := SFit.still h.y (fun x hx => c.block _ (SFit.ge h.y hx).2 (fun e => by
    rcases e with e | e
    · exact apart_ne (P 6 8 (by decide) (by decide) (by decide)) hx e
    · exact apart_ne (P 7 8 (by decide) (by decide) (by decide)) hx e))
  z := Fit.still h.z (fun x hx => c.block _ (Fit.ge h.z hx).2 (fun e => by
    rcases e with e | e
    · exact apart_ne (P 6 9 (by decide) (by decide) (by decide)) hx e
    · exact apart_ne (P 7 9 (by decide) (by decide) (by decide)) hx e))

theorem Own.put_yz {w w' : World} {L : LT} {d : SD} (h : Own w L d) (P : Parts L) (c : Chg (fun j => blk L.y.a = some j ∨ blk L.z.a = some j) w w') {xs : List Shr} {ys : List Int} (G : SFit w' 0 L.y.a L.y.n L.y.c xs) (G' : Fit w' 0 L.z.a L.z.n L.z.c ys) : Own w' L { d with y := xs, z := ys } where
  t := Rec.fit.still h.t (fun x hx => c.block _ (Rec.fit.ge h.t hx).2 (fun e => by
    rcases e with e | e
    · exact apart_ne (P 8 0 (by decide) (by decide) (by decide)) hx e
    · exact apart_ne (P 9 0 (by decide) (by decide) (by decide)) hx e))
  m := Fit.still h.m (fun x hx => c.block _ (Fit.ge h.m hx).2 (fun e => by
    rcases e with e | e
    · exact apart_ne (P 8 1 (by decide) (by decide) (by decide)) hx e
    · exact apart_ne (P 9 1 (by decide) (by decide) (by decide)) hx e))
  c := Fit.still h.c (fun x hx => c.block _ (Fit.ge h.c hx).2 (fun e => by
    rcases e with e | e
    · exact apart_ne (P 8 2 (by decide) (by decide) (by decide)) hx e
    · exact apart_ne (P 9 2 (by decide) (by decide) (by decide)) hx e))
  n := Fit.still h.n (fun x hx => c.block _ (Fit.ge h.n hx).2 (fun e => by
    rcases e with e | e
    · exact apart_ne (P 8 3 (by decide) (by decide) (by decide)) hx e
    · exact apart_ne (P 9 3 (by decide) (by decide) (by decide)) hx e))
  s := Fit.still h.s (fun x hx => c.block _ (Fit.ge h.s hx).2 (fun e => by
    rcases e with e | e
    · exact apart_ne (P 8 4 (by decide) (by decide) (by decide)) hx e
    · exact apart_ne (P 9 4 (by decide) (by decide) (by decide)) hx e))
  r := Fit.still h.r (fun x hx => c.block _ (Fit.ge h.r hx).2 (fun e => by
    rcases e with e | e
    · exact apart_ne (P 8 5 (by decide) (by decide) (by decide)) hx e
    · exact apart_ne (P 9 5 (by decide) (by decide) (by decide)) hx e))
  l := Fit.still h.l (fun x hx => c.block _ (Fit.ge h.l hx).2 (fun e => by
    rcases e with e | e
    · exact apart_ne (P 8 6 (by decide) (by decide) (by decide)) hx e
    · exact apart_ne (P 9 6 (by decide) (by decide) (by decide)) hx e))
  h := Fit.still h.h (fun x hx => c.block _ (Fit.ge h.h hx).2 (fun e => by
    rcases e with e | e
    · exact apart_ne (P 8 7 (by decide) (by decide) (by decide)) hx e
    · exact apart_ne (P 9 7 (by decide) (by decide) (by decide)) hx e))
  y := G
  z := G'

/-- While a Shop is marked: its slices, its variable, what was written. -/
structure Mw (w X : World) (L : LT) (d D : SD) : Prop where
  own : Own X L D
  bx : Bx X w.heap.size (sc L d).toList
  chg : Chg (Has L) w X
  low : ∀ j, Has L j → j < w.heap.size

theorem mw_new {w : World} {L : LT} {d : SD} (h : Own w L d) : Mw w (w.alloc (.cells (sc L d) 36)) L d d :=
  ⟨h.still (fun j hj => (below_new w _).block j (h.lt j hj)), shop_new _ _ _, chg_of_below (below_new _ _) _, h.lt⟩

theorem Mw.step {w X Y : World} {L : LT} {d D E : SD} {T : Bs} (h : Mw w X L d D) (c : Chg T X Y) (ht : ∀ j, T j → Has L j) (o : Own Y L E) : Mw w Y L d E :=
  ⟨o, h.bx.past c (fun e => Nat.lt_irrefl _ (h.low _ (ht _ e))), h.chg.trans (c.mono ht), h.low⟩

theorem has_one {L : LT} (i : Nat) (hi : i < 10) : ∀ j, blk (L.at i) = some j → Has L j := fun _ hj => ⟨i, hi, hj⟩

theorem has_two {L : LT} (i k : Nat) (hi : i < 10) (hk : k < 10) : ∀ j, (blk (L.at i) = some j ∨ blk (L.at k) = some j) → Has L j := fun _ hj => by
  rcases hj with h | h
  · exact ⟨i, hi, h⟩
  · exact ⟨k, hk, h⟩

theorem chg_two {w wm w' : World} {a b : Option Addr} (h : w.grownBy wm (blk a)) (k : wm.grownBy w' (blk b)) : Chg (fun j => blk a = some j ∨ blk b = some j) w w' :=
  (chg_of_blk h (fun x hx => .inl (by rw [hx]; rfl))).trans (chg_of_blk k (fun x hx => .inr (by rw [hx]; rfl)))

theorem chg_one {w w' : World} {a : Option Addr} (h : w.grownBy w' (blk a)) : Chg (fun j => blk a = some j) w w' := chg_of_blk h (fun x hx => by rw [hx]; rfl)

theorem markTFit (a : Option Addr) (len cap : Nat) (xs : List Tsk) (k : Int) (w : World) (F : TFit w 0 a len cap xs) (hs : (len : Int) ≤ 1048576) (hk0 : 0 ≤ k) (hk1 : k ≤ 1000000000) :
    Calls Tryz.prog 70 #[.slice a len cap, .int .i64 k] w fun e w' => e = .returned (.int .i64 (k + 4 * len)) ∧ TFit w' 0 a len cap (tmarks k len) ∧ Chg (fun j => blk a = some j) w w' := by
  have hl := F.1
  refine (tsks_mark (tsks_fit F) k (by omega) hk0 hk1).mono ?_
  rintro e w' ⟨rfl, ⟨a', l', c', he, G, _, _⟩, C⟩
  obtain ⟨rfl, rfl, rfl⟩ := Value.slice.inj he
  refine ⟨?_, G, C⟩
  show Ending.returned (.int .i64 (k + ((4 * xs.length : Nat) : Int))) = _
  rw [hl]
  push_cast
  rfl

set_option maxRecDepth 100000 in
set_option maxHeartbeats 4000000 in
/-- laws.markShop of one of the call's own. -/
theorem markShop_any (L : LT) (d : SD) (k0 : Int) (w : World) (O : Own w L d) (P : Parts L) (hs : Short L) (h0 : 0 ≤ k0) (h1 : k0 ≤ 900000000) :
    Calls Tryz.prog 21 #[sv L d, .int .i64 k0] w fun e w' => e = .returned (.int .i64 (k0 + 4 * (L.t.n : Int) + (L.m.n : Int) + (L.c.n : Int) + (L.n.n : Int) + (L.s.n : Int) + (L.r.n : Int) + (L.l.n : Int) + (L.h.n : Int) + 2 * (L.y.n : Int) + (L.z.n : Int))) ∧ Own w' L (mkd L d k0) ∧ Chg (Has L) w w' := by
  obtain ⟨s0, s1, s2, s3, s4, s5, s6, s7, s8, s9⟩ := short_parts hs
  obtain ⟨k1, e1⟩ : ∃ k1 : Int, k1 = k0 + 4 * (L.t.n : Int) := ⟨_, rfl⟩
  obtain ⟨k2, e2⟩ : ∃ k2 : Int, k2 = k1 + (L.m.n : Int) := ⟨_, rfl⟩
  obtain ⟨k3, e3⟩ : ∃ k3 : Int, k3 = k2 + (L.c.n : Int) := ⟨_, rfl⟩
  obtain ⟨k4, e4⟩ : ∃ k4 : Int, k4 = k3 + (L.n.n : Int) := ⟨_, rfl⟩
  obtain ⟨k5, e5⟩ : ∃ k5 : Int, k5 = k4 + (L.s.n : Int) + (L.r.n : Int) := ⟨_, rfl⟩
  obtain ⟨k6, e6⟩ : ∃ k6 : Int, k6 = k5 + (L.l.n : Int) + (L.h.n : Int) := ⟨_, rfl⟩
  obtain ⟨k7, e7⟩ : ∃ k7 : Int, k7 = k6 + 2 * (L.y.n : Int) + (L.z.n : Int) := ⟨_, rfl⟩
  have HT : Hid (k7 = k0 + 4 * (L.t.n : Int) + (L.m.n : Int) + (L.c.n : Int) + (L.n.n : Int) + (L.s.n : Int) + (L.r.n : Int) + (L.l.n : Int) + (L.h.n : Int) + 2 * (L.y.n : Int) + (L.z.n : Int)) := by show _ = _; omega
  have G0 : Hid (0 ≤ k0 ∧ k0 ≤ 1000000000 ∧ k1 = k0 + 4 * (L.t.n : Int) ) := ⟨by omega, by omega, e1⟩
  have G1 : Hid (0 ≤ k1 ∧ k1 ≤ 1000000000 ∧ k2 = k1 + (L.m.n : Int) ) := ⟨by omega, by omega, e2⟩
  have G2 : Hid (0 ≤ k2 ∧ k2 ≤ 1000000000 ∧ k3 = k2 + (L.c.n : Int) ) := ⟨by omega, by omega, e3⟩
  have G3 : Hid (0 ≤ k3 ∧ k3 ≤ 1000000000 ∧ k4 = k3 + (L.n.n : Int) ) := ⟨by omega, by omega, e4⟩
  have G4 : Hid (0 ≤ k4 ∧ k4 ≤ 1000000000 ∧ k5 = k4 + (L.s.n : Int) + (L.r.n : Int) ) := ⟨by omega, by omega, e5⟩
  have G5 : Hid (0 ≤ k5 ∧ k5 ≤ 1000000000 ∧ k6 = k5 + (L.l.n : Int) + (L.h.n : Int) ) := ⟨by omega, by omega, e6⟩
  have G6 : Hid (0 ≤ k6 ∧ k6 ≤ 1000000000 ∧ k7 = k6 + 2 * (L.y.n : Int) + (L.z.n : Int) ) := ⟨by omega, by omega, e7⟩
  have Z7 : Hid (0 ≤ k7) := by show _ ≤ _; omega
  have PP : Hid (Parts L) := P
  have HK : Hid (mkd L d k0 = { d with t := tmarks k0 L.t.n, m := marks k1 L.m.n, c := marks k2 L.c.n, n := marks k3 L.n.n, s := marks k4 L.s.n, r := marks (k4 + L.s.n) L.r.n, l := marks k5 L.l.n, h := marks (k5 + L.l.n) L.h.n, y := smarks k6 L.y.n, z := marks (k6 + 2 * L.y.n) L.z.n }) := by
    show _ = _
    rw [mkd, e6, e5, e4, e3, e2, e1]
  rw [← HT.out]
  obtain ⟨W0, hW0⟩ : ∃ W0, W0 = w.alloc (.cells (sc L d) 36) := ⟨_, rfl⟩
  have MW : Mw w W0 L d d := by rw [hW0]; exact mw_new O
  clear e1 e2 e3 e4 e5 e6 e7 hs h1 P O
  go_enter Tryz.func21, Tryz.ntmps21
  obtain ⟨c0, c1, c2, c3, c4, c5, c6, c7, c8, c9, c10, c11, c12, c13, c14, c15, c16⟩ := MW.bx.shop
  rw [hW0] at c0 c1 c2 c3 c4 c5 c6 c7 c8 c9 c10 c11 c12 c13 c14 c15 c16
  go_wp2_with fail
  rw [← hW0] at c0 c1 c2 c3 c4 c5 c6 c7 c8 c9 c10 c11 c12 c13 c14 c15 c16 ⊢
  clear hW0
  have S0 : Hid (Mw w W0 L d d) := MW
  clear MW
  refine (markTFit L.t.a L.t.n L.t.c _ k0 _ S0.out.own.t s0 G0.out.1 G0.out.2.1).mono ?_
  rw [← G0.out.2.2]
  rintro e w1 ⟨rfl, F0, C0⟩
  have S1 := hid (S0.out.step C0 (has_one 0 (by decide)) (S0.out.own.put_t PP.out C0 F0))
  clear F0 C0
  obtain ⟨c0, c1, c2, c3, c4, c5, c6, c7, c8, c9, c10, c11, c12, c13, c14, c15, c16⟩ := S1.out.bx.shop
  go_wp2_with fail
  refine (markFit 0 L.m.a L.m.n L.m.c _ k1 _ S1.out.own.m s1 G1.out.1 (Int.le_trans G1.out.2.1 (by decide))).mono ?_
  rw [← G1.out.2.2]
  rintro e w2 ⟨rfl, F1, C1⟩
  have S2 := hid (S1.out.step (chg_one C1) (has_one 1 (by decide)) (S1.out.own.put_m PP.out (chg_one C1) F1))
  clear F1 C1
  obtain ⟨c0, c1, c2, c3, c4, c5, c6, c7, c8, c9, c10, c11, c12, c13, c14, c15, c16⟩ := S2.out.bx.shop
  go_wp2_with fail
  refine (markFit 0 L.c.a L.c.n L.c.c _ k2 _ S2.out.own.c s2 G2.out.1 (Int.le_trans G2.out.2.1 (by decide))).mono ?_
  rw [← G2.out.2.2]
  rintro e w3 ⟨rfl, F2, C2⟩
  have S3 := hid (S2.out.step (chg_one C2) (has_one 2 (by decide)) (S2.out.own.put_c PP.out (chg_one C2) F2))
  clear F2 C2
  obtain ⟨c0, c1, c2, c3, c4, c5, c6, c7, c8, c9, c10, c11, c12, c13, c14, c15, c16⟩ := S3.out.bx.shop
  go_wp2_with fail
  refine (markFit 0 L.n.a L.n.n L.n.c _ k3 _ S3.out.own.n s3 G3.out.1 (Int.le_trans G3.out.2.1 (by decide))).mono ?_
  rw [← G3.out.2.2]
  rintro e w4 ⟨rfl, F3, C3⟩
  have S4 := hid (S3.out.step (chg_one C3) (has_one 3 (by decide)) (S3.out.own.put_n PP.out (chg_one C3) F3))
  clear F3 C3
  obtain ⟨c0, c1, c2, c3, c4, c5, c6, c7, c8, c9, c10, c11, c12, c13, c14, c15, c16⟩ := S4.out.bx.shop
  go_wp2_with fail
  refine (markSmooth_any 0 L.s.a L.s.n L.s.c _ L.r.a L.r.n L.r.c _ k4 _ S4.out.own.s S4.out.own.r (PP.out 4 5 (by decide) (by decide) (by decide)) s4 s5 G4.out.1 G4.out.2.1).mono ?_
  rw [← G4.out.2.2]
  rintro e w5 ⟨rfl, F4, F4b, wm4, C4, C4b⟩
  have S5 := hid (S4.out.step (chg_two C4 C4b) (has_two 4 5 (by decide) (by decide)) (S4.out.own.put_sr PP.out (chg_two C4 C4b) F4 F4b))
  clear F4 F4b C4 C4b
  obtain ⟨c0, c1, c2, c3, c4, c5, c6, c7, c8, c9, c10, c11, c12, c13, c14, c15, c16⟩ := S5.out.bx.shop
  go_wp2_with fail
  refine (markList_any 0 L.l.a L.l.n L.l.c _ L.h.a L.h.n L.h.c _ d.lt d.la k5 _ S5.out.own.l S5.out.own.h (PP.out 6 7 (by decide) (by decide) (by decide)) s6 s7 G5.out.1 G5.out.2.1).mono ?_
  rw [← G5.out.2.2]
  rintro e w6 ⟨rfl, F5, F5b, wm5, C5, C5b⟩
  have S6 := hid (S5.out.step (chg_two C5 C5b) (has_two 6 7 (by decide) (by decide)) (S5.out.own.put_lh PP.out (chg_two C5 C5b) F5 F5b))
  clear F5 F5b C5 C5b
  obtain ⟨c0, c1, c2, c3, c4, c5, c6, c7, c8, c9, c10, c11, c12, c13, c14, c15, c16⟩ := S6.out.bx.shop
  go_wp2_with fail
  refine (markMany_any 0 L.y.a L.y.n L.y.c _ L.z.a L.z.n L.z.c _ d.yq d.yt k6 _ S6.out.own.y S6.out.own.z (PP.out 8 9 (by decide) (by decide) (by decide)) s8 s9 G6.out.1 G6.out.2.1).mono ?_
  rw [← G6.out.2.2]
  rintro e w7 ⟨rfl, F6, F6b, wm6, C6, C6b⟩
  have S7 := hid (S6.out.step (chg_two C6 C6b) (has_two 8 9 (by decide) (by decide)) (S6.out.own.put_yz PP.out (chg_two C6 C6b) F6 F6b))
  clear F6 F6b C6 C6b
  obtain ⟨c0, c1, c2, c3, c4, c5, c6, c7, c8, c9, c10, c11, c12, c13, c14, c15, c16⟩ := S7.out.bx.shop
  go_wp2_with fail
  go_ret
  refine ⟨rfl, ?_, S7.out.chg⟩
  rw [HK.out]
  exact S7.out.own

theorem slots_lens {L : LT} {d : SD} (h : Lth L d) (k0 : Int) : k0 + (shopK.slots d : Nat) = k0 + 4 * (L.t.n : Int) + (L.m.n : Int) + (L.c.n : Int) + (L.n.n : Int) + (L.s.n : Int) + (L.r.n : Int) + (L.l.n : Int) + (L.h.n : Int) + 2 * (L.y.n : Int) + (L.z.n : Int) := by
  show k0 + ((4 * d.t.length + d.m.length + d.c.length + d.n.length + d.s.length + d.r.length + d.l.length + d.h.length + 2 * d.y.length + d.z.length : Nat) : Int) = _
  rw [h.t, h.m, h.c, h.n, h.s, h.r, h.l, h.h, h.y, h.z]
  push_cast
  omega

theorem shop_eq {w : World} {S T : Bs} {u v : Value} {d : SD} (h : shopK.rep w S u d) (k : shopK.rep w T v d) (hs : Small10 d) :
    Calls Tryz.prog 20 #[u, v] w fun e w' => e = .returned (.bool true) ∧ Below w.heap.size w w' := by
  obtain ⟨L, rfl, O, _, _⟩ := h
  obtain ⟨M, rfl, O', _, _⟩ := k
  exact eqShop_same L M d w O.rd O'.rd (small_short O.lth hs)

theorem shop_mark {w : World} {S : Bs} {v : Value} {d : SD} (h : shopK.rep w S v d) (k : Int) (hs : Small10 d) (hk0 : 0 ≤ k) (hk1 : k ≤ 900000000) :
    Calls Tryz.prog 21 #[v, .int .i64 k] w fun e w' => e = .returned (.int .i64 (k + (shopK.slots d : Nat))) ∧ shopK.hld w' S v d k ∧ Chg S w w' := by
  obtain ⟨L, rfl, O, P, hS⟩ := h
  refine (markShop_any L d k w O P (small_short O.lth hs) hk0 hk1).mono ?_
  rintro e w' ⟨rfl, O', C⟩
  exact ⟨by rw [slots_lens O.lth], ⟨L, rfl, O', O.lth, hS⟩, C.mono (fun j hj => (hS j).2 hj)⟩

theorem shop_held {w : World} {S : Bs} {v : Value} {d : SD} {k : Int} (h : shopK.hld w S v d k) (hs : Small10 d) (hk0 : 0 ≤ k) (hk1 : k ≤ 900000000) :
    Calls Tryz.prog 22 #[v, .int .i64 k] w fun e w' => e = .returned (.int .i64 (k + (shopK.slots d : Nat))) ∧ Below w.heap.size w w' := by
  obtain ⟨L, rfl, O, l, _⟩ := h
  refine (heldShop_any L d k w O.rd (small_short l hs) hk0 hk1).mono ?_
  rintro e w' ⟨rfl, B⟩
  exact ⟨by rw [slots_lens l], B⟩

end Go.Proofs.YtcmeimfjedakeaaGreat.Crew
