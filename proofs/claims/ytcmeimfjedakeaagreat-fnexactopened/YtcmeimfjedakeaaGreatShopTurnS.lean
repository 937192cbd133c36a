/-
  spec's l14Copy, l14With, Opened, Switched at every Shop. (Written by wip/tools/gen_shopturn.py.)
-/
import Derived.Test.YtcmeimfjedakeaaGreatShopReopS
import Derived.Test.YtcmeimfjedakeaaGreatShopOkS
import Derived.Test.YtcmeimfjedakeaaGreatTaskMath
import Derived.Test.YtcmeimfjedakeaaGreatListNew
namespace Go.Proofs.YtcmeimfjedakeaaGreat.Crew
open Go.ChangeShapes Go.WideShapes Go.ChangeAt Go.RowKit

/-- A Shop whose tasks are others now, where the code is that they are. -/
def withD (d : SD) (ts : List Tsk) (k : Int) : SD := if k = 0 then reopD { d with t := ts } else d

def openedC (d : SD) (id wt : Int) : Int := if shopOk d then crC d.t id wt else 1

def openedD (d : SD) (id wt : Int) : SD := if shopOk d then withD d (crL d.t id wt) (crC d.t id wt) else SD.zero

def switchedC (d : SD) (p q : Int) : Int := if shopOk d then (if outerB { d with p := p, q := q } then 0 else 1) else 1

def switchedD (d : SD) (p q : Int) : SD := if shopOk d then (if outerB { d with p := p, q := q } then reopD { d with p := p, q := q } else d) else SD.zero

theorem zero_small : Small10 SD.zero := by
  have z : (((0 : Nat)) : Int) ≤ 1048576 := by decide
  exact ⟨z, z, z, z, z, z, z, z, z, z⟩

theorem with_small {d : SD} (h : Small10 d) {ts : List Tsk} (ht : ts.length ≤ 24) (k : Int) : Small10 (withD d ts k) := by
  rw [withD]
  split
  · exact reop_small ⟨by show ((ts.length : Nat) : Int) ≤ _; omega, h.2⟩
  · exact h

theorem opened_small {d : SD} {id wt : Int} (h : Small10 d) : Small10 (openedD d id wt) := by
  rw [openedD]
  split
  · exact with_small h (cr_small _ _ _).1 _
  · exact zero_small

theorem switched_small {d : SD} {p q : Int} (h : Small10 d) : Small10 (switchedD d p q) := by
  rw [switchedD]
  split
  · split
    · exact reop_small (d := { d with p := p, q := q }) h
    · exact h
  · exact zero_small

theorem Rd.tasks {w : World} {L : LT} {d : SD} (h : Rd w L d) {N : SL} {ts : List Tsk} (I : Tsks w N.a N.n ts) : Rd w { L with t := N } { d with t := ts } := ⟨I, h.m, h.c, h.n, h.s, h.r, h.l, h.h, h.y, h.z⟩

theorem Short.tasks {L : LT} (h : Short L) {N : SL} (hn : (N.n : Int) ≤ 1048576) : Short { L with t := N } := by
  obtain ⟨s0, s1, s2, s3, s4, s5, s6, s7, s8, s9⟩ := short_parts h
  intro x hx
  simp only [List.mem_cons, List.not_mem_nil, or_false] at hx
  rcases hx with rfl | rfl | rfl | rfl | rfl | rfl | rfl | rfl | rfl | rfl <;> assumption

theorem Short.nums {L : LT} (h : Short L) : Short L := h

theorem Rd.nums {w : World} {L : LT} {d : SD} (h : Rd w L d) (p q : Int) : Rd w L { d with p := p, q := q } := ⟨h.t, h.m, h.c, h.n, h.s, h.r, h.l, h.h, h.y, h.z⟩

set_option maxRecDepth 100000 in
set_option maxHeartbeats 8000000 in
theorem specCopy14 (L : LT) (d : SD) (w : World) (I : Rd w L d) (hs : Short L) :
    Calls Tryz.prog 88 #[sv L d] w (ShPost d w) := by
  have HI : Hid (Rd w L d) := I
  clear I
  obtain ⟨s0, s1, s2, s3, s4, s5, s6, s7, s8, s9⟩ := short_parts hs
  have HSH : Hid (Short L) := hs
  clear hs
  go_enter Tryz.func88, Tryz.ntmps88
  go_wp2_with (refine sh_box rfl ?_)
  intro W1 b1 e1 S1 B1
  have HA : Hid (Bag w W1 [(b1, L, d)]) := (bag_nil w).add B1 e1 S1
  clear e1 S1 B1
  go_wp2_with (refine sh_alloc ?_)
  intro W2 b2 e2 S2 B2
  have HB : Hid (Bag w W2 [(b1, L, d), (b2, zl, SD.zero)]) := HA.out.add B2 e2 S2
  clear e2 S2 B2 HA
  go_wp2_with fail
  have HC0 : Hid (Wkb (fun _ => False) w W2.drew [(b1, L, d), (b2, zl, SD.zero)] (⟨nl, nl, nl, nl, nl, nl, nl, nl, nl, nl⟩ : LT) (⟨d.p, d.q, [], [], [], [], [], [], [], [], d.lt, d.la, [], [], d.yq, d.yt, d.w⟩ : SD)) := wkb_zl HB.out.drew d.p d.q d.lt d.la d.yq d.yt d.w
  clear HB
  refine wp_region_held_drew (S := fun W => Shp W b1 L d) (by kernel_rfl) (HC0.out.bag.get 0 rfl) (fun hHeld => ?_)
  refine tk_go 0 (v := ?r1v0) ?r1h0 ?_
  case r1h0 => intro w hSw; have hcs := (show Shp w b1 L d from hSw).bx.shop; go_simp; try with_reducible rfl
  refine tk_go 1 (v := ?r1v1) ?r1h1 ?_
  case r1h1 => intro w hSw; have hcs := (show Shp w b1 L d from hSw).bx.shop; go_simp; try with_reducible rfl
  refine tk_go 2 (v := ?r1v2) ?r1h2 ?_
  case r1h2 => intro w hSw; simp only [nrm]; have hcs := (show Shp w b1 L d from hSw).bx.shop; go_simp; try with_reducible rfl
  refine tk_go 3 (v := ?r1v3) ?r1h3 ?_
  case r1h3 => intro w hSw; simp only [nrm]; have hcs := (show Shp w b1 L d from hSw).bx.shop; go_simp; try with_reducible rfl
  refine tk_go 4 (v := ?r1v4) ?r1h4 ?_
  case r1h4 => intro w hSw; simp only [nrm]; have hcs := (show Shp w b1 L d from hSw).bx.shop; go_simp; try with_reducible rfl
  refine tk_go 5 (v := ?r1v5) ?r1h5 ?_
  case r1h5 => intro w hSw; simp only [nrm]; have hcs := (show Shp w b1 L d from hSw).bx.shop; go_simp; try with_reducible rfl
  refine tk_go 7 (v := ?r1v7) ?r1h7 ?_
  case r1h7 => intro w hSw; simp only [nrm]; have hcs := (show Shp w b1 L d from hSw).bx.shop; go_simp; try with_reducible rfl
  refine tk_go 8 (v := ?r1v8) ?r1h8 ?_
  case r1h8 => intro w hSw; simp only [nrm]; have hcs := (show Shp w b1 L d from hSw).bx.shop; go_simp; try with_reducible rfl
  refine tk_go 10 (v := ?r1v10) ?r1h10 ?_
  case r1h10 => intro w hSw; simp only [nrm]; have hcs := (show Shp w b1 L d from hSw).bx.shop; go_simp; try with_reducible rfl
  refine tk_go 11 (v := ?r1v11) ?r1h11 ?_
  case r1h11 => intro w hSw; simp only [nrm]; have hcs := (show Shp w b1 L d from hSw).bx.shop; go_simp; try with_reducible rfl
  refine tk_go 13 (v := ?r1v13) ?r1h13 ?_
  case r1h13 => intro w hSw; simp only [nrm]; have hcs := (show Shp w b1 L d from hSw).bx.shop; go_simp; try with_reducible rfl
  refine tk_go 14 (v := ?r1v14) ?r1h14 ?_
  case r1h14 => intro w hSw; simp only [nrm]; have hcs := (show Shp w b1 L d from hSw).bx.shop; go_simp; try with_reducible rfl
  refine tk_go 16 (v := ?r1v16) ?r1h16 ?_
  case r1h16 => intro w hSw; simp only [nrm]; have hcs := (show Shp w b1 L d from hSw).bx.shop; go_simp; try with_reducible rfl
  refine tk_go 17 (v := ?r1v17) ?r1h17 ?_
  case r1h17 => intro w hSw; simp only [nrm]; have hcs := (show Shp w b1 L d from hSw).bx.shop; go_simp; try with_reducible rfl
  refine tk_go 19 (v := ?r1v19) ?r1h19 ?_
  case r1h19 => intro w hSw; simp only [nrm]; have hcs := (show Shp w b1 L d from hSw).bx.shop; go_simp; try with_reducible rfl
  refine tk_go 20 (v := ?r1v20) ?r1h20 ?_
  case r1h20 => intro w hSw; simp only [nrm]; have hcs := (show Shp w b1 L d from hSw).bx.shop; go_simp; try with_reducible rfl
  refine tk_go 22 (v := ?r1v22) ?r1h22 ?_
  case r1h22 => intro w hSw; simp only [nrm]; have hcs := (show Shp w b1 L d from hSw).bx.shop; go_simp; try with_reducible rfl
  refine tk_go 23 (v := ?r1v23) ?r1h23 ?_
  case r1h23 => intro w hSw; simp only [nrm]; have hcs := (show Shp w b1 L d from hSw).bx.shop; go_simp; try with_reducible rfl
  refine tk_go 25 (v := ?r1v25) ?r1h25 ?_
  case r1h25 => intro w hSw; simp only [nrm]; have hcs := (show Shp w b1 L d from hSw).bx.shop; go_simp; try with_reducible rfl
  refine tk_go 26 (v := ?r1v26) ?r1h26 ?_
  case r1h26 => intro w hSw; simp only [nrm]; have hcs := (show Shp w b1 L d from hSw).bx.shop; go_simp; try with_reducible rfl
  refine wpAnyH_ready (rs := [6]) (by kernel_rfl) (by simp) ?_
  refine AllReadyH.cons rfl (fun K hK => ?_) AllReadyH.nil
  go_simp
  refine (specCopyT L.t.a L.t.n L.t.c d.t _ (HI.out.t.kept HC0.out.bag.bel) s0).mono ?_
  rintro e u0 ⟨gt, ct, rfl, R, hg, B⟩
  have HC1 : Hid (Wkb (fun _ => False) w u0 [(b1, L, d), (b2, zl, SD.zero)] (⟨⟨some ⟨gt, 0, none⟩, L.t.n, ct⟩, nl, nl, nl, nl, nl, nl, nl, nl, nl⟩ : LT) (⟨d.p, d.q, d.t, [], [], [], [], [], [], [], d.lt, d.la, [], [], d.yq, d.yt, d.w⟩ : SD)) := HC0.out.put_t B (N := ⟨some ⟨gt, 0, none⟩, L.t.n, ct⟩) (Rec.row.fit R hg HI.out.t.1)
  clear HC0 B R hg
  have SX : (fun W => Shp W b1 L d) u0 := HC1.out.bag.get 0 rfl

  go_wp2_with fail
  refine hK.out _ _ SX (fun hHeld => ?_)
  clear hK K
  refine wpAnyH_ready (rs := [9]) (by kernel_rfl) (by simp) ?_
  refine AllReadyH.cons rfl (fun K hK => ?_) AllReadyH.nil
  go_simp
  refine (copy_any L.m.a L.m.n L.m.c d.m _ (HI.out.m.kept HC1.out.bag.bel) s1).mono ?_
  rintro e u1 ⟨gm, cm, rfl, R, hg, B⟩
  have HC2 : Hid (Wkb (fun _ => False) w u1 [(b1, L, d), (b2, zl, SD.zero)] (⟨⟨some ⟨gt, 0, none⟩, L.t.n, ct⟩, ⟨some ⟨gm, 0, none⟩, L.m.n, cm⟩, nl, nl, nl, nl, nl, nl, nl, nl⟩ : LT) (⟨d.p, d.q, d.t, d.m, [], [], [], [], [], [], d.lt, d.la, [], [], d.yq, d.yt, d.w⟩ : SD)) := HC1.out.put_m B (N := ⟨some ⟨gm, 0, none⟩, L.m.n, cm⟩) (Row.fit R hg HI.out.m.1)
  clear HC1 B R hg
  have SX : (fun W => Shp W b1 L d) u1 := HC2.out.bag.get 0 rfl

  go_wp2_with fail
  refine hK.out _ _ SX (fun hHeld => ?_)
  clear hK K
  refine wpAnyH_ready (rs := [12]) (by kernel_rfl) (by simp) ?_
  refine AllReadyH.cons rfl (fun K hK => ?_) AllReadyH.nil
  go_simp
  refine (copy_any L.c.a L.c.n L.c.c d.c _ (HI.out.c.kept HC2.out.bag.bel) s2).mono ?_
  rintro e u2 ⟨gc, cc, rfl, R, hg, B⟩
  have HC3 : Hid (Wkb (fun _ => False) w u2 [(b1, L, d), (b2, zl, SD.zero)] (⟨⟨some ⟨gt, 0, none⟩, L.t.n, ct⟩, ⟨some ⟨gm, 0, none⟩, L.m.n, cm⟩, ⟨some ⟨gc, 0, none⟩, L.c.n, cc⟩, nl, nl, nl, nl, nl, nl, nl⟩ : LT) (⟨d.p, d.q, d.t, d.m, d.c, [], [], [], [], [], d.lt, d.la, [], [], d.yq, d.yt, d.w⟩ : SD)) := HC2.out.put_c B (N := ⟨some ⟨gc, 0, none⟩, L.c.n, cc⟩) (Row.fit R hg HI.out.c.1)
  clear HC2 B R hg
  have SX : (fun W => Shp W b1 L d) u2 := HC3.out.bag.get 0 rfl

  go_wp2_with fail
  refine hK.out _ _ SX (fun hHeld => ?_)
  clear hK K
  refine wpAnyH_ready (rs := [15]) (by kernel_rfl) (by simp) ?_
  refine AllReadyH.cons rfl (fun K hK => ?_) AllReadyH.nil
  go_simp
  refine (copy_any L.n.a L.n.n L.n.c d.n _ (HI.out.n.kept HC3.out.bag.bel) s3).mono ?_
  rintro e u3 ⟨gn, cn, rfl, R, hg, B⟩
  have HC4 : Hid (Wkb (fun _ => False) w u3 [(b1, L, d), (b2, zl, SD.zero)] (⟨⟨some ⟨gt, 0, none⟩, L.t.n, ct⟩, ⟨some ⟨gm, 0, none⟩, L.m.n, cm⟩, ⟨some ⟨gc, 0, none⟩, L.c.n, cc⟩, ⟨some ⟨gn, 0, none⟩, L.n.n, cn⟩, nl, nl, nl, nl, nl, nl⟩ : LT) (⟨d.p, d.q, d.t, d.m, d.c, d.n, [], [], [], [], d.lt, d.la, [], [], d.yq, d.yt, d.w⟩ : SD)) := HC3.out.put_n B (N := ⟨some ⟨gn, 0, none⟩, L.n.n, cn⟩) (Row.fit R hg HI.out.n.1)
  clear HC3 B R hg
  have SX : (fun W => Shp W b1 L d) u3 := HC4.out.bag.get 0 rfl

  go_wp2_with fail
  refine hK.out _ _ SX (fun hHeld => ?_)
  clear hK K
  refine wpAnyH_ready (rs := [18]) (by kernel_rfl) (by simp) ?_
  refine AllReadyH.cons rfl (fun K hK => ?_) AllReadyH.nil
  go_simp
  refine (copy6_any L.s.a L.s.n L.s.c d.s L.r.a L.r.n L.r.c d.r _ (HI.out.s.kept HC4.out.bag.bel) (HI.out.r.kept HC4.out.bag.bel) s4 s5).mono ?_
  rintro e u4 ⟨gs, cs, gr, cr, rfl, R, R2, hg, hg2, hne, B⟩
  have HC5 : Hid (Wkb (fun _ => False) w u4 [(b1, L, d), (b2, zl, SD.zero)] (⟨⟨some ⟨gt, 0, none⟩, L.t.n, ct⟩, ⟨some ⟨gm, 0, none⟩, L.m.n, cm⟩, ⟨some ⟨gc, 0, none⟩, L.c.n, cc⟩, ⟨some ⟨gn, 0, none⟩, L.n.n, cn⟩, ⟨some ⟨gs, 0, none⟩, L.s.n, cs⟩, ⟨some ⟨gr, 0, none⟩, L.r.n, cr⟩, nl, nl, nl, nl⟩ : LT) (⟨d.p, d.q, d.t, d.m, d.c, d.n, d.s, d.r, [], [], d.lt, d.la, [], [], d.yq, d.yt, d.w⟩ : SD)) := HC4.out.put_sr B (N := ⟨some ⟨gs, 0, none⟩, L.s.n, cs⟩) (N2 := ⟨some ⟨gr, 0, none⟩, L.r.n, cr⟩) (Row.fit R hg HI.out.s.1) (Row.fit R2 hg2 HI.out.r.1) (fun x y hx hy => by cases hx; cases hy; exact hne)
  clear HC4 B R R2 hg hg2 hne
  have SX : (fun W => Shp W b1 L d) u4 := HC5.out.bag.get 0 rfl

  go_wp2_with fail
  refine hK.out _ _ SX (fun hHeld => ?_)
  clear hK K
  refine wpAnyH_ready (rs := [21]) (by kernel_rfl) (by simp) ?_
  refine AllReadyH.cons rfl (fun K hK => ?_) AllReadyH.nil
  go_simp
  refine (copy8_any L.l.a L.l.n L.l.c d.l L.h.a L.h.n L.h.c d.h d.lt d.la _ (HI.out.l.kept HC5.out.bag.bel) (HI.out.h.kept HC5.out.bag.bel) s6 s7).mono ?_
  rintro e u5 ⟨gl, cl, gh, ch, rfl, R, R2, hg, hg2, hne, B⟩
  have HC6 : Hid (Wkb (fun _ => False) w u5 [(b1, L, d), (b2, zl, SD.zero)] (⟨⟨some ⟨gt, 0, none⟩, L.t.n, ct⟩, ⟨some ⟨gm, 0, none⟩, L.m.n, cm⟩, ⟨some ⟨gc, 0, none⟩, L.c.n, cc⟩, ⟨some ⟨gn, 0, none⟩, L.n.n, cn⟩, ⟨some ⟨gs, 0, none⟩, L.s.n, cs⟩, ⟨some ⟨gr, 0, none⟩, L.r.n, cr⟩, ⟨some ⟨gl, 0, none⟩, L.l.n, cl⟩, ⟨some ⟨gh, 0, none⟩, L.h.n, ch⟩, nl, nl⟩ : LT) (⟨d.p, d.q, d.t, d.m, d.c, d.n, d.s, d.r, d.l, d.h, d.lt, d.la, [], [], d.yq, d.yt, d.w⟩ : SD)) := HC5.out.put_lh B (N := ⟨some ⟨gl, 0, none⟩, L.l.n, cl⟩) (N2 := ⟨some ⟨gh, 0, none⟩, L.h.n, ch⟩) (Row.fit R hg HI.out.l.1) (Row.fit R2 hg2 HI.out.h.1) (fun x y hx hy => by cases hx; cases hy; exact hne)
  clear HC5 B R R2 hg hg2 hne
  have SX : (fun W => Shp W b1 L d) u5 := HC6.out.bag.get 0 rfl

  go_wp2_with fail
  refine hK.out _ _ SX (fun hHeld => ?_)
  clear hK K
  refine wpAnyH_ready (rs := [24]) (by kernel_rfl) (by simp) ?_
  refine AllReadyH.cons rfl (fun K hK => ?_) AllReadyH.nil
  go_simp
  refine (specCopyM L.y.a L.y.n L.y.c d.y L.z.a L.z.n L.z.c d.z d.yq d.yt _ (HI.out.y.kept HC6.out.bag.bel) (HI.out.z.kept HC6.out.bag.bel) s8 s9).mono ?_
  rintro e u6 ⟨gy, cy, gz, cz, rfl, R, R2, hg, hg2, hne, B⟩
  have HC7 : Hid (Wkb (fun _ => False) w u6 [(b1, L, d), (b2, zl, SD.zero)] (⟨⟨some ⟨gt, 0, none⟩, L.t.n, ct⟩, ⟨some ⟨gm, 0, none⟩, L.m.n, cm⟩, ⟨some ⟨gc, 0, none⟩, L.c.n, cc⟩, ⟨some ⟨gn, 0, none⟩, L.n.n, cn⟩, ⟨some ⟨gs, 0, none⟩, L.s.n, cs⟩, ⟨some ⟨gr, 0, none⟩, L.r.n, cr⟩, ⟨some ⟨gl, 0, none⟩, L.l.n, cl⟩, ⟨some ⟨gh, 0, none⟩, L.h.n, ch⟩, ⟨some ⟨gy, 0, none⟩, L.y.n, cy⟩, ⟨some ⟨gz, 0, none⟩, L.z.n, cz⟩⟩ : LT) (⟨d.p, d.q, d.t, d.m, d.c, d.n, d.s, d.r, d.l, d.h, d.lt, d.la, d.y, d.z, d.yq, d.yt, d.w⟩ : SD)) := HC6.out.put_yz B (N := ⟨some ⟨gy, 0, none⟩, L.y.n, cy⟩) (N2 := ⟨some ⟨gz, 0, none⟩, L.z.n, cz⟩) (SRow.fit R hg HI.out.y.1) (Row.fit R2 hg2 HI.out.z.1) (fun x y hx hy => by cases hx; cases hy; exact hne)
  clear HC6 B R R2 hg hg2 hne
  have SX : (fun W => Shp W b1 L d) u6 := HC7.out.bag.get 0 rfl

  go_wp2_with fail
  refine hK.out _ _ SX (fun hHeld => ?_)
  clear hK K
  refine tk_go 27 (v := ?r1v27) ?r1h27 ?_
  case r1h27 => intro w hSw; have hcs := (show Shp w b1 L d from hSw).bx.shop; go_simp; try with_reducible rfl
  refine wpAnyH_ready (rs := [28]) (by kernel_rfl) (by simp) ?_
  refine AllReadyH.cons rfl (fun K hK => ?_) AllReadyH.nil
  rw [if_pos (by rfl)]
  refine sh_store_op (L := (⟨⟨some ⟨gt, 0, none⟩, L.t.n, ct⟩, ⟨some ⟨gm, 0, none⟩, L.m.n, cm⟩, ⟨some ⟨gc, 0, none⟩, L.c.n, cc⟩, ⟨some ⟨gn, 0, none⟩, L.n.n, cn⟩, ⟨some ⟨gs, 0, none⟩, L.s.n, cs⟩, ⟨some ⟨gr, 0, none⟩, L.r.n, cr⟩, ⟨some ⟨gl, 0, none⟩, L.l.n, cl⟩, ⟨some ⟨gh, 0, none⟩, L.h.n, ch⟩, ⟨some ⟨gy, 0, none⟩, L.y.n, cy⟩, ⟨some ⟨gz, 0, none⟩, L.z.n, cz⟩⟩ : LT)) (d := (⟨d.p, d.q, d.t, d.m, d.c, d.n, d.s, d.r, d.l, d.h, d.lt, d.la, d.y, d.z, d.yq, d.yt, d.w⟩ : SD)) rfl rfl rfl (HC7.out.bag.get 1 rfl) ?_
  intro WZ SZ GZ
  have HZ : Hid (Wkb (fun _ => False) w WZ [(b1, L, d), (b2, (⟨⟨some ⟨gt, 0, none⟩, L.t.n, ct⟩, ⟨some ⟨gm, 0, none⟩, L.m.n, cm⟩, ⟨some ⟨gc, 0, none⟩, L.c.n, cc⟩, ⟨some ⟨gn, 0, none⟩, L.n.n, cn⟩, ⟨some ⟨gs, 0, none⟩, L.s.n, cs⟩, ⟨some ⟨gr, 0, none⟩, L.r.n, cr⟩, ⟨some ⟨gl, 0, none⟩, L.l.n, cl⟩, ⟨some ⟨gh, 0, none⟩, L.h.n, ch⟩, ⟨some ⟨gy, 0, none⟩, L.y.n, cy⟩, ⟨some ⟨gz, 0, none⟩, L.z.n, cz⟩⟩ : LT), (⟨d.p, d.q, d.t, d.m, d.c, d.n, d.s, d.r, d.l, d.h, d.lt, d.la, d.y, d.z, d.yq, d.yt, d.w⟩ : SD))] (⟨⟨some ⟨gt, 0, none⟩, L.t.n, ct⟩, ⟨some ⟨gm, 0, none⟩, L.m.n, cm⟩, ⟨some ⟨gc, 0, none⟩, L.c.n, cc⟩, ⟨some ⟨gn, 0, none⟩, L.n.n, cn⟩, ⟨some ⟨gs, 0, none⟩, L.s.n, cs⟩, ⟨some ⟨gr, 0, none⟩, L.r.n, cr⟩, ⟨some ⟨gl, 0, none⟩, L.l.n, cl⟩, ⟨some ⟨gh, 0, none⟩, L.h.n, ch⟩, ⟨some ⟨gy, 0, none⟩, L.y.n, cy⟩, ⟨some ⟨gz, 0, none⟩, L.z.n, cz⟩⟩ : LT) (⟨d.p, d.q, d.t, d.m, d.c, d.n, d.s, d.r, d.l, d.h, d.lt, d.la, d.y, d.z, d.yq, d.yt, d.w⟩ : SD)) := HC7.out.put 1 rfl SZ GZ
  clear SZ GZ HC7
  have SX : (fun W => Shp W b1 L d) WZ := HZ.out.bag.get 0 rfl

  refine hK.out _ _ SX (fun hHeld => ?_)
  clear hK K
  refine wpAnyH_done (by kernel_rfl) ?_ _
  simp only [nrm]
  clear hHeld
  go_wp2_with fail
  exact bodyPost_ret (ret_shop rfl rfl (HZ.out.bag.get 1 rfl)) rfl ⟨_, rfl, HZ.out.post, HZ.out.bag.bel⟩

/-- What a callee made lies in none of the call's own boxes. -/
theorem wkb_of {w0 X Y : World} {l : List (Nat × LT × SD)} {M : LT} {D : SD} (h : Bag w0 X l) (B : Below X.heap.size X Y) (K : Mk X.heap.size Y M D) : Wkb (fun _ => False) w0 Y l M D :=
  ⟨h.all B, K.own, K.par, fun j hj => .inr (Nat.le_trans h.bel.size (K.fre j hj)), fun i e hi hj => by
    have h1 := K.fre _ hj
    have h2 := (h.shp i e.1 e.2.1 e.2.2 hi).1.lt
    omega⟩

set_option maxRecDepth 100000 in
set_option maxHeartbeats 8000000 in
theorem specWith (L : LT) (d : SD) (a : Option Addr) (n c : Nat) (ts : List Tsk) (k : Int) (w : World) (I : Rd w L d) (hs : Short L) (J : Tsks w a n ts) (hn : (n : Int) ≤ 1048576) :
    Calls Tryz.prog 81 #[sv L d, .slice a n c, .int .i64 k] w (ShPost2 (withD d ts k) (.int .i64 k) w) := by
  have HI : Hid (Rd w L d) := I
  clear I
  obtain ⟨s0, s1, s2, s3, s4, s5, s6, s7, s8, s9⟩ := short_parts hs
  have HSH : Hid (Short L) := hs
  clear hs
  have HT : Hid (Tsks w a n ts) := J
  clear J
  by_cases hk : k = 0
  · subst hk
    have hb : ((0 : Int) != (0 : Int)) = false := by decide
    have HE : Hid (withD d ts 0 = reopD { d with t := ts }) := by show _ = _; rw [withD, if_pos rfl]
    rw [HE.out]
    go_enter Tryz.func81, Tryz.ntmps81
    go_wp2_with (refine sh_box rfl ?_)
    intro W1 b1 e1 S1 B1
    have HA : Hid (Bag w W1 [(b1, L, d)]) := (bag_nil w).add B1 e1 S1
    clear e1 S1 B1
    go_wp2_with (refine sh_alloc ?_)
    intro W2 b2 e2 S2 B2
    have HB : Hid (Bag w W2 [(b1, L, d), (b2, zl, SD.zero)]) := HA.out.add B2 e2 S2
    clear e2 S2 B2 HA
    go_wp2_with (first | (refine sh_loadg rfl rfl (HB.out.get 0 rfl) ?_) | (refine sh_alloc ?_))
    intro W3 b3 e3 S3 B3
    have HC : Hid (Bag w W3 [(b1, L, d), (b2, zl, SD.zero), (b3, zl, SD.zero)]) := HB.out.add B3 e3 S3
    clear e3 S3 B3 HB
    go_wp2_with (refine sh_store (L := L) (d := d) rfl rfl (HC.out.get 2 rfl) ?_)
    intro W4 S4 G4
    have HD : Hid (Bag w W4 [(b1, L, d), (b2, zl, SD.zero), (b3, L, d)]) := HC.out.put 2 rfl S4 G4
    clear S4 G4 HC
    go_wp2_with (refine sh_set_t rfl rfl (HD.out.get 2 rfl) ?_)
    intro W5 S5 G5
    have HX : Hid (Bag w W5 [(b1, L, d), (b2, zl, SD.zero), (b3, { L with t := ⟨a, n, c⟩ }, { d with t := ts })]) := HD.out.put 2 rfl S5 G5
    clear S5 G5 HD
    go_wp2_with (refine sh_loadg rfl rfl (HX.out.get 2 rfl) ?_)
    refine (specReopened { L with t := ⟨a, n, c⟩ } { d with t := ts } _ (Rd.tasks (HI.out.kept HX.out.bel) (N := ⟨a, n, c⟩) (HT.out.kept HX.out.bel)) (Short.tasks HSH.out (N := ⟨a, n, c⟩) hn)).mono ?_
    rintro e W6 ⟨M, rfl, K, B6⟩
    have HY : Hid (Wkb (fun _ => False) w W6 [(b1, L, d), (b2, zl, SD.zero), (b3, { L with t := ⟨a, n, c⟩ }, { d with t := ts })] M (reopD { d with t := ts })) := wkb_of HX.out B6 K
    clear K B6 HX
    obtain ⟨D9, hD9⟩ : ∃ D9, D9 = reopD { d with t := ts } := ⟨_, rfl⟩
    rw [← hD9] at HY ⊢
    have HD9 : Hid (D9 = reopD { d with t := ts }) := hD9
    clear hD9
    go_wp2_with (refine sh_store (L := M) (d := D9) rfl rfl (HY.out.bag.get 1 rfl) ?_)
    intro W7 S7 G7
    have HZ : Hid (Wkb (fun _ => False) w W7 [(b1, L, d), (b2, M, D9), (b3, { L with t := ⟨a, n, c⟩ }, { d with t := ts })] M D9) := HY.out.put 1 rfl S7 G7
    clear S7 G7 HY
    go_wp2_with fail
    exact bodyPost_ret (ret_shop2 rfl rfl rfl (HZ.out.bag.get 1 rfl)) rfl ⟨M, by rw [HD9.out]; rfl, by rw [← HD9.out]; exact HZ.out.post, HZ.out.bag.bel⟩
  · have hb : (k != (0 : Int)) = true := by simpa using hk
    have HE : Hid (withD d ts k = d) := by show _ = _; rw [withD, if_neg hk]
    rw [HE.out]
    clear hk
    go_enter Tryz.func81, Tryz.ntmps81
    go_wp2_with (refine sh_box rfl ?_)
    intro W1 b1 e1 S1 B1
    have HA : Hid (Bag w W1 [(b1, L, d)]) := (bag_nil w).add B1 e1 S1
    clear e1 S1 B1
    go_wp2_with (refine sh_alloc ?_)
    intro W2 b2 e2 S2 B2
    have HB : Hid (Bag w W2 [(b1, L, d), (b2, zl, SD.zero)]) := HA.out.add B2 e2 S2
    clear e2 S2 B2 HA
    go_wp2_with (refine sh_loadg rfl rfl (HB.out.get 0 rfl) ?_)
    refine (specCopy14 L d _ (HI.out.kept HB.out.bel) HSH.out).mono ?_
    rintro e W3 ⟨M, rfl, K, B3⟩
    have HY : Hid (Wkb (fun _ => False) w W3 [(b1, L, d), (b2, zl, SD.zero)] M d) := wkb_of HB.out B3 K
    clear K B3 HB
    go_wp2_with (refine sh_store (L := M) (d := d) rfl rfl (HY.out.bag.get 1 rfl) ?_)
    intro W7 S7 G7
    have HZ : Hid (Wkb (fun _ => False) w W7 [(b1, L, d), (b2, M, d)] M d) := HY.out.put 1 rfl S7 G7
    clear S7 G7 HY
    go_wp2_with fail
    exact bodyPost_ret (ret_shop2 rfl rfl rfl (HZ.out.bag.get 1 rfl)) rfl ⟨M, rfl, HZ.out.post, HZ.out.bag.bel⟩

set_option maxRecDepth 100000 in
set_option maxHeartbeats 8000000 in
theorem specOpened (L : LT) (d : SD) (id wt : Int) (w : World) (O : Own w L d) (hs : Short L) :
    Calls Tryz.prog 23 #[sv L d, .int .i64 id, .int .i64 wt] w (ShPost2 (openedD d id wt) (.int .i64 (openedC d id wt)) w) := by
  have HO : Hid (Own w L d) := O
  have HI : Hid (Rd w L d) := O.rd
  clear O
  obtain ⟨s0, s1, s2, s3, s4, s5, s6, s7, s8, s9⟩ := short_parts hs
  have HSH : Hid (Short L) := hs
  clear hs
  cases h : shopOk d
  · have HF : Hid (shopOk d = false ∧ openedD d id wt = SD.zero ∧ openedC d id wt = 1) := ⟨h, by rw [openedD, if_neg (by rw [h]; decide)], by rw [openedC, if_neg (by rw [h]; decide)]⟩
    rw [HF.out.2.1, HF.out.2.2]
    clear h
    go_enter Tryz.func23, Tryz.ntmps23
    go_wp2_with (refine sh_box rfl ?_)
    intro W1 b1 e1 S1 B1
    have HA : Hid (Bag w W1 [(b1, L, d)]) := (bag_nil w).add B1 e1 S1
    clear e1 S1 B1
    go_wp2_with (refine sh_alloc ?_)
    intro W2 b2 e2 S2 B2
    have HB : Hid (Bag w W2 [(b1, L, d), (b2, zl, SD.zero)]) := HA.out.add B2 e2 S2
    clear e2 S2 B2 HA
    go_wp2_with (refine sh_loadg rfl rfl (HB.out.get 0 rfl) ?_)
    refine (specShopOk L d _ (HI.out.kept HB.out.bel) HSH.out).mono ?_
    rw [HF.out.1]
    rintro e W3 ⟨rfl, B3⟩
    have HC : Hid (Bag w W3 [(b1, L, d), (b2, zl, SD.zero)]) := HB.out.all B3
    clear B3 HB
    go_wp2_with (refine sh_store (L := zl) (d := SD.zero) rfl rfl (HC.out.get 1 rfl) ?_)
    intro W4 S4 G4
    have HD : Hid (Bag w W4 [(b1, L, d), (b2, zl, SD.zero)]) := HC.out.put 1 rfl S4 G4
    clear S4 G4 HC
    go_wp2_with fail
    exact bodyPost_ret (ret_shop2 rfl rfl rfl (HD.out.get 1 rfl)) rfl ⟨zl, rfl, mk_zl _ _ _ _ _ _ _ _ _, HD.out.bel⟩
  · have HF : Hid (shopOk d = true ∧ openedD d id wt = withD d (crL d.t id wt) (crC d.t id wt) ∧ openedC d id wt = crC d.t id wt) := ⟨h, by rw [openedD, if_pos h], by rw [openedC, if_pos h]⟩
    rw [HF.out.2.1, HF.out.2.2]
    clear h
    go_enter Tryz.func23, Tryz.ntmps23
    go_wp2_with (refine sh_box rfl ?_)
    intro W1 b1 e1 S1 B1
    have HA : Hid (Bag w W1 [(b1, L, d)]) := (bag_nil w).add B1 e1 S1
    clear e1 S1 B1
    go_wp2_with (refine sh_alloc ?_)
    intro W2 b2 e2 S2 B2
    have HB : Hid (Bag w W2 [(b1, L, d), (b2, zl, SD.zero)]) := HA.out.add B2 e2 S2
    clear e2 S2 B2 HA
    go_wp2_with (refine sh_loadg rfl rfl (HB.out.get 0 rfl) ?_)
    refine (specShopOk L d _ (HI.out.kept HB.out.bel) HSH.out).mono ?_
    rw [HF.out.1]
    rintro e W3 ⟨rfl, B3⟩
    have HC : Hid (Bag w W3 [(b1, L, d), (b2, zl, SD.zero)]) := HB.out.all B3
    clear B3 HB
    have q2 := (HC.out.get 0 rfl).bx.shop.2.2.1
    go_wp2_with fail
    refine (specCreated 0 L.t.a L.t.n L.t.c d.t id wt _ (Rec.fit.all HO.out.t HC.out.bel) s0).mono ?_
    obtain ⟨kk, hkk⟩ : ∃ kk, kk = crC d.t id wt := ⟨_, rfl⟩
    obtain ⟨tt, htt⟩ : ∃ tt, tt = crL d.t id wt := ⟨_, rfl⟩
    rw [← hkk, ← htt]
    have HK : Hid (tt.length ≤ 24) := by show _ ≤ _; rw [htt]; exact (cr_small _ _ _).1
    have HKT : Hid (kk = crC d.t id wt ∧ tt = crL d.t id wt) := ⟨hkk, htt⟩
    clear hkk htt
    rintro e W4 ⟨g, n, c, rfl, R, B4⟩
    have HD : Hid (Bag w W4 [(b1, L, d), (b2, zl, SD.zero)] ∧ Tsks W4 (some ⟨g, 0, none⟩) n tt ∧ tt.length = n) := ⟨HC.out.all B4, R.sl, R.1⟩
    clear R B4 HC q2
    go_wp2_with (refine sh_loadg rfl rfl (HD.out.1.get 0 rfl) ?_)
    refine (specWith L d (some ⟨g, 0, none⟩) n c tt kk _ (HI.out.kept HD.out.1.bel) HSH.out HD.out.2.1 (by have h1 := HD.out.2.2; have h2 := HK.out; omega)).mono ?_
    rintro e W5 ⟨M, rfl, K, B5⟩
    have HY : Hid (Wkb (fun _ => False) w W5 [(b1, L, d), (b2, zl, SD.zero)] M (withD d tt kk)) := wkb_of HD.out.1 B5 K
    clear K B5 HD
    obtain ⟨D9, hD9⟩ : ∃ D9, D9 = withD d tt kk := ⟨_, rfl⟩
    rw [← hD9] at HY ⊢
    have HD9 : Hid (D9 = withD d tt kk) := hD9
    clear hD9
    go_wp2_with (refine sh_store (L := M) (d := D9) rfl rfl (HY.out.bag.get 1 rfl) ?_)
    intro WZ SZ GZ
    have HZ : Hid (Wkb (fun _ => False) w WZ [(b1, L, d), (b2, M, D9)] M D9) := HY.out.put 1 rfl SZ GZ
    clear SZ GZ HY
    go_wp2_with fail
    exact bodyPost_ret (ret_shop2 rfl rfl rfl (HZ.out.bag.get 1 rfl)) rfl ⟨M, by rw [← HKT.out.1, ← HKT.out.2, HD9.out]; rfl, by rw [← HKT.out.1, ← HKT.out.2, ← HD9.out]; exact HZ.out.post, HZ.out.bag.bel⟩

set_option maxRecDepth 100000 in
set_option maxHeartbeats 8000000 in
theorem specSwitched (L : LT) (d : SD) (p q : Int) (w : World) (I : Rd w L d) (hs : Short L) :
    Calls Tryz.prog 29 #[sv L d, .int .i64 p, .int .i64 q] w (ShPost2 (switchedD d p q) (.int .i64 (switchedC d p q)) w) := by
  have HI : Hid (Rd w L d) := I
  clear I
  obtain ⟨s0, s1, s2, s3, s4, s5, s6, s7, s8, s9⟩ := short_parts hs
  have HSH : Hid (Short L) := hs
  clear hs
  cases h : shopOk d
  · have HF : Hid (shopOk d = false ∧ switchedD d p q = SD.zero ∧ switchedC d p q = 1) := ⟨h, by rw [switchedD, if_neg (by rw [h]; decide)], by rw [switchedC, if_neg (by rw [h]; decide)]⟩
    rw [HF.out.2.1, HF.out.2.2]
    clear h
    go_enter Tryz.func29, Tryz.ntmps29
    go_wp2_with (refine sh_box rfl ?_)
    intro W1 b1 e1 S1 B1
    have HA : Hid (Bag w W1 [(b1, L, d)]) := (bag_nil w).add B1 e1 S1
    clear e1 S1 B1
    go_wp2_with (refine sh_alloc ?_)
    intro W2 b2 e2 S2 B2
    have HB : Hid (Bag w W2 [(b1, L, d), (b2, zl, SD.zero)]) := HA.out.add B2 e2 S2
    clear e2 S2 B2 HA
    go_wp2_with (refine sh_loadg rfl rfl (HB.out.get 0 rfl) ?_)
    refine (specShopOk L d _ (HI.out.kept HB.out.bel) HSH.out).mono ?_
    rw [HF.out.1]
    rintro e W3 ⟨rfl, B3⟩
    have HC : Hid (Bag w W3 [(b1, L, d), (b2, zl, SD.zero)]) := HB.out.all B3
    clear B3 HB
    go_wp2_with (refine sh_store (L := zl) (d := SD.zero) rfl rfl (HC.out.get 1 rfl) ?_)
    intro W4 S4 G4
    have HD : Hid (Bag w W4 [(b1, L, d), (b2, zl, SD.zero)]) := HC.out.put 1 rfl S4 G4
    clear S4 G4 HC
    go_wp2_with fail
    exact bodyPost_ret (ret_shop2 rfl rfl rfl (HD.out.get 1 rfl)) rfl ⟨zl, rfl, mk_zl _ _ _ _ _ _ _ _ _, HD.out.bel⟩
  · cases h2 : outerB { d with p := p, q := q }
    · have HF : Hid (shopOk d = true ∧ outerB { d with p := p, q := q } = false ∧ switchedD d p q = d ∧ switchedC d p q = 1) := ⟨h, h2, by rw [switchedD, if_pos h, if_neg (by rw [h2]; decide)], by rw [switchedC, if_pos h, if_neg (by rw [h2]; decide)]⟩
      rw [HF.out.2.2.1, HF.out.2.2.2]
      clear h h2
      go_enter Tryz.func29, Tryz.ntmps29
      go_wp2_with (refine sh_box rfl ?_)
      intro W1 b1 e1 S1 B1
      have HA : Hid (Bag w W1 [(b1, L, d)]) := (bag_nil w).add B1 e1 S1
      clear e1 S1 B1
      go_wp2_with (refine sh_alloc ?_)
      intro W2 b2 e2 S2 B2
      have HB : Hid (Bag w W2 [(b1, L, d), (b2, zl, SD.zero)]) := HA.out.add B2 e2 S2
      clear e2 S2 B2 HA
      go_wp2_with (refine sh_loadg rfl rfl (HB.out.get 0 rfl) ?_)
      refine (specShopOk L d _ (HI.out.kept HB.out.bel) HSH.out).mono ?_
      rw [HF.out.1]
      rintro e W3 ⟨rfl, B3⟩
      have HC : Hid (Bag w W3 [(b1, L, d), (b2, zl, SD.zero)]) := HB.out.all B3
      clear B3 HB
      go_wp2_with (first | (refine sh_loadg rfl rfl (HC.out.get 0 rfl) ?_) | (refine sh_alloc ?_))
      intro W4 b3 e4 S4 B4
      have HD : Hid (Bag w W4 [(b1, L, d), (b2, zl, SD.zero), (b3, zl, SD.zero)]) := HC.out.add B4 e4 S4
      clear e4 S4 B4 HC
      go_wp2_with (refine sh_store (L := L) (d := d) rfl rfl (HD.out.get 2 rfl) ?_)
      intro W5 S5 G5
      have HX : Hid (Bag w W5 [(b1, L, d), (b2, zl, SD.zero), (b3, L, d)]) := HD.out.put 2 rfl S5 G5
      clear S5 G5 HD
      go_wp2_with (refine sh_set_p rfl rfl (HX.out.get 2 rfl) ?_)
      intro W6 S6 G6
      have HY : Hid (Bag w W6 [(b1, L, d), (b2, zl, SD.zero), (b3, L, { d with p := p })]) := HX.out.put 2 rfl S6 G6
      clear S6 G6 HX
      go_wp2_with (refine sh_set_q rfl rfl (HY.out.get 2 rfl) ?_)
      intro W7 S7 G7
      have HW : Hid (Bag w W7 [(b1, L, d), (b2, zl, SD.zero), (b3, L, { d with p := p, q := q })]) := HY.out.put 2 rfl S7 G7
      clear S7 G7 HY
      go_wp2_with (refine sh_loadg rfl rfl (HW.out.get 2 rfl) ?_)
      refine (specOuter L { d with p := p, q := q } _ (HI.out.t.kept HW.out.bel) s0).mono ?_
      rw [HF.out.2.1]
      rintro e W8 ⟨rfl, B8⟩
      have HV : Hid (Bag w W8 [(b1, L, d), (b2, zl, SD.zero), (b3, L, { d with p := p, q := q })]) := HW.out.all B8
      clear B8 HW
      go_wp2_with (refine sh_loadg rfl rfl (HV.out.get 0 rfl) ?_)
      refine (specCopy14 L d _ (HI.out.kept HV.out.bel) HSH.out).mono ?_
      rintro e W9 ⟨M, rfl, K, B9⟩
      have HU : Hid (Wkb (fun _ => False) w W9 [(b1, L, d), (b2, zl, SD.zero), (b3, L, { d with p := p, q := q })] M d) := wkb_of HV.out B9 K
      clear K B9 HV
      go_wp2_with (refine sh_store (L := M) (d := d) rfl rfl (HU.out.bag.get 1 rfl) ?_)
      intro WZ SZ GZ
      have HZ : Hid (Wkb (fun _ => False) w WZ [(b1, L, d), (b2, M, d), (b3, L, { d with p := p, q := q })] M d) := HU.out.put 1 rfl SZ GZ
      clear SZ GZ HU
      go_wp2_with fail
      exact bodyPost_ret (ret_shop2 rfl rfl rfl (HZ.out.bag.get 1 rfl)) rfl ⟨M, rfl, HZ.out.post, HZ.out.bag.bel⟩
    · have HF : Hid (shopOk d = true ∧ outerB { d with p := p, q := q } = true ∧ switchedD d p q = reopD { d with p := p, q := q } ∧ switchedC d p q = 0) := ⟨h, h2, by rw [switchedD, if_pos h, if_pos h2], by rw [switchedC, if_pos h, if_pos h2]⟩
      rw [HF.out.2.2.1, HF.out.2.2.2]
      clear h h2
      go_enter Tryz.func29, Tryz.ntmps29
      go_wp2_with (refine sh_box rfl ?_)
      intro W1 b1 e1 S1 B1
      have HA : Hid (Bag w W1 [(b1, L, d)]) := (bag_nil w).add B1 e1 S1
      clear e1 S1 B1
      go_wp2_with (refine sh_alloc ?_)
      intro W2 b2 e2 S2 B2
      have HB : Hid (Bag w W2 [(b1, L, d), (b2, zl, SD.zero)]) := HA.out.add B2 e2 S2
      clear e2 S2 B2 HA
      go_wp2_with (refine sh_loadg rfl rfl (HB.out.get 0 rfl) ?_)
      refine (specShopOk L d _ (HI.out.kept HB.out.bel) HSH.out).mono ?_
      rw [HF.out.1]
      rintro e W3 ⟨rfl, B3⟩
      have HC : Hid (Bag w W3 [(b1, L, d), (b2, zl, SD.zero)]) := HB.out.all B3
      clear B3 HB
      go_wp2_with (first | (refine sh_loadg rfl rfl (HC.out.get 0 rfl) ?_) | (refine sh_alloc ?_))
      intro W4 b3 e4 S4 B4
      have HD : Hid (Bag w W4 [(b1, L, d), (b2, zl, SD.zero), (b3, zl, SD.zero)]) := HC.out.add B4 e4 S4
      clear e4 S4 B4 HC
      go_wp2_with (refine sh_store (L := L) (d := d) rfl rfl (HD.out.get 2 rfl) ?_)
      intro W5 S5 G5
      have HX : Hid (Bag w W5 [(b1, L, d), (b2, zl, SD.zero), (b3, L, d)]) := HD.out.put 2 rfl S5 G5
      clear S5 G5 HD
      go_wp2_with (refine sh_set_p rfl rfl (HX.out.get 2 rfl) ?_)
      intro W6 S6 G6
      have HY : Hid (Bag w W6 [(b1, L, d), (b2, zl, SD.zero), (b3, L, { d with p := p })]) := HX.out.put 2 rfl S6 G6
      clear S6 G6 HX
      go_wp2_with (refine sh_set_q rfl rfl (HY.out.get 2 rfl) ?_)
      intro W7 S7 G7
      have HW : Hid (Bag w W7 [(b1, L, d), (b2, zl, SD.zero), (b3, L, { d with p := p, q := q })]) := HY.out.put 2 rfl S7 G7
      clear S7 G7 HY
      go_wp2_with (refine sh_loadg rfl rfl (HW.out.get 2 rfl) ?_)
      refine (specOuter L { d with p := p, q := q } _ (HI.out.t.kept HW.out.bel) s0).mono ?_
      rw [HF.out.2.1]
      rintro e W8 ⟨rfl, B8⟩
      have HV : Hid (Bag w W8 [(b1, L, d), (b2, zl, SD.zero), (b3, L, { d with p := p, q := q })]) := HW.out.all B8
      clear B8 HW
      go_wp2_with (refine sh_loadg rfl rfl (HV.out.get 2 rfl) ?_)
      refine (specReopened L { d with p := p, q := q } _ ((HI.out.kept HV.out.bel).nums p q) HSH.out).mono ?_
      rintro e W9 ⟨M, rfl, K, B9⟩
      have HU : Hid (Wkb (fun _ => False) w W9 [(b1, L, d), (b2, zl, SD.zero), (b3, L, { d with p := p, q := q })] M (reopD { d with p := p, q := q })) := wkb_of HV.out B9 K
      clear K B9 HV
      obtain ⟨D9, hD9⟩ : ∃ D9, D9 = reopD { d with p := p, q := q } := ⟨_, rfl⟩
      rw [← hD9] at HU ⊢
      have HD9 : Hid (D9 = reopD { d with p := p, q := q }) := hD9
      clear hD9
      go_wp2_with (refine sh_store (L := M) (d := D9) rfl rfl (HU.out.bag.get 1 rfl) ?_)
      intro WZ SZ GZ
      have HZ : Hid (Wkb (fun _ => False) w WZ [(b1, L, d), (b2, M, D9), (b3, L, { d with p := p, q := q })] M D9) := HU.out.put 1 rfl SZ GZ
      clear SZ GZ HU
      go_wp2_with fail
      exact bodyPost_ret (ret_shop2 rfl rfl rfl (HZ.out.bag.get 1 rfl)) rfl ⟨M, by rw [HD9.out]; rfl, by rw [← HD9.out]; exact HZ.out.post, HZ.out.bag.bel⟩

end Go.Proofs.YtcmeimfjedakeaaGreat.Crew
