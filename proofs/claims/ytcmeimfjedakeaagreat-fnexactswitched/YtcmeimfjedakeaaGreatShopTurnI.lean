/-
  impl's shopCopy, changedBy, Opened, Switched at every Shop. (Written by wip/tools/gen_shopturn.py.)
-/
import Derived.Test.YtcmeimfjedakeaaGreatShopTurnS
import Derived.Test.YtcmeimfjedakeaaGreatShopReopI
import Derived.Test.YtcmeimfjedakeaaGreatShopOkI
namespace Go.Proofs.YtcmeimfjedakeaaGreat.Crew
open Go.ChangeShapes Go.WideShapes Go.ChangeAt Go.RowKit

set_option maxRecDepth 100000 in
set_option maxHeartbeats 8000000 in
theorem implCopy14 (L : LT) (d : SD) (w : World) (I : Rd w L d) (hs : Short L) :
    Calls Tryz.prog 89 #[sv L d] w (ShPost d w) := by
  have HI : Hid (Rd w L d) := I
  clear I
  obtain ⟨s0, s1, s2, s3, s4, s5, s6, s7, s8, s9⟩ := short_parts hs
  have HSH : Hid (Short L) := hs
  clear hs
  go_enter Tryz.func89, Tryz.ntmps89
  go_wp2_with (refine sh_box rfl ?_)
  intro W1 b1 e1 S1 B1
  have HA : Hid (Bag w W1 [(b1, L, d)]) := (bag_nil w).add B1 e1 S1
  clear e1 S1 B1
  go_wp2_with (refine sh_alloc ?_)
  intro W2 b2 e2 S2 B2
  have HB : Hid (Bag w W2 [(b1, L, d), (b2, zl, SD.zero)]) := HA.out.add B2 e2 S2
  clear e2 S2 B2 HA
  go_wp2_with fail
  have HC0 : Hid (Wkb (fun _ => False) w W2.drew [(b1, L, d), (b2, zl, SD.zero)] (⟨nl, nl, nl, nl, nl, nl, nl, nl, nl, nl⟩ : LT) (⟨d.p, d.q, [], [], [], [], [], [], [], [], d.lt, d.la, [], [], d.yq, d.yt, d.w⟩ : SD)) := wkb_zl HB.out.drew d.p d.q d.lt d.la d.yq d.yt d.w
  clear HB
  refine wp_region_held_drew (S := fun W => Shp W b1 L d) (by kernel_rfl) (HC0.out.bag.get 0 rfl) (fun hHeld => ?_)
  refine tk_go 0 (v := ?r2v0) ?r2h0 ?_
  case r2h0 => intro w hSw; have hcs := (show Shp w b1 L d from hSw).bx.shop; go_simp; try with_reducible rfl
  refine tk_go 1 (v := ?r2v1) ?r2h1 ?_
  case r2h1 => intro w hSw; have hcs := (show Shp w b1 L d from hSw).bx.shop; go_simp; try with_reducible rfl
  refine tk_go 2 (v := ?r2v2) ?r2h2 ?_
  case r2h2 => intro w hSw; simp only [nrm]; have hcs := (show Shp w b1 L d from hSw).bx.shop; go_simp; try with_reducible rfl
  refine tk_go 3 (v := ?r2v3) ?r2h3 ?_
  case r2h3 => intro w hSw; simp only [nrm]; have hcs := (show Shp w b1 L d from hSw).bx.shop; go_simp; try with_reducible rfl
  refine tk_go 4 (v := ?r2v4) ?r2h4 ?_
  case r2h4 => intro w hSw; simp only [nrm]; have hcs := (show Shp w b1 L d from hSw).bx.shop; go_simp; try with_reducible rfl
  refine tk_go 5 (v := ?r2v5) ?r2h5 ?_
  case r2h5 => intro w hSw; simp only [nrm]; have hcs := (show Shp w b1 L d from hSw).bx.shop; go_simp; try with_reducible rfl
  refine tk_go 7 (v := ?r2v7) ?r2h7 ?_
  case r2h7 => intro w hSw; simp only [nrm]; have hcs := (show Shp w b1 L d from hSw).bx.shop; go_simp; try with_reducible rfl
  refine tk_go 8 (v := ?r2v8) ?r2h8 ?_
  case r2h8 => intro w hSw; simp only [nrm]; have hcs := (show Shp w b1 L d from hSw).bx.shop; go_simp; try with_reducible rfl
  refine tk_go 10 (v := ?r2v10) ?r2h10 ?_
  case r2h10 => intro w hSw; simp only [nrm]; have hcs := (show Shp w b1 L d from hSw).bx.shop; go_simp; try with_reducible rfl
  refine tk_go 11 (v := ?r2v11) ?r2h11 ?_
  case r2h11 => intro w hSw; simp only [nrm]; have hcs := (show Shp w b1 L d from hSw).bx.shop; go_simp; try with_reducible rfl
  refine tk_go 13 (v := ?r2v13) ?r2h13 ?_
  case r2h13 => intro w hSw; simp only [nrm]; have hcs := (show Shp w b1 L d from hSw).bx.shop; go_simp; try with_reducible rfl
  refine tk_go 14 (v := ?r2v14) ?r2h14 ?_
  case r2h14 => intro w hSw; simp only [nrm]; have hcs := (show Shp w b1 L d from hSw).bx.shop; go_simp; try with_reducible rfl
  refine tk_go 16 (v := ?r2v16) ?r2h16 ?_
  case r2h16 => intro w hSw; simp only [nrm]; have hcs := (show Shp w b1 L d from hSw).bx.shop; go_simp; try with_reducible rfl
  refine tk_go 17 (v := ?r2v17) ?r2h17 ?_
  case r2h17 => intro w hSw; simp only [nrm]; have hcs := (show Shp w b1 L d from hSw).bx.shop; go_simp; try with_reducible rfl
  refine tk_go 18 (v := ?r2v18) ?r2h18 ?_
  case r2h18 => intro w hSw; simp only [nrm]; have hcs := (show Shp w b1 L d from hSw).bx.shop; go_simp; try with_reducible rfl
  refine tk_go 20 (v := ?r2v20) ?r2h20 ?_
  case r2h20 => intro w hSw; simp only [nrm]; have hcs := (show Shp w b1 L d from hSw).bx.shop; go_simp; try with_reducible rfl
  refine tk_go 21 (v := ?r2v21) ?r2h21 ?_
  case r2h21 => intro w hSw; simp only [nrm]; have hcs := (show Shp w b1 L d from hSw).bx.shop; go_simp; try with_reducible rfl
  refine tk_go 22 (v := ?r2v22) ?r2h22 ?_
  case r2h22 => intro w hSw; simp only [nrm]; have hcs := (show Shp w b1 L d from hSw).bx.shop; go_simp; try with_reducible rfl
  refine tk_go 25 (v := ?r2v25) ?r2h25 ?_
  case r2h25 => intro w hSw; simp only [nrm]; have hcs := (show Shp w b1 L d from hSw).bx.shop; go_simp; try with_reducible rfl
  refine tk_go 26 (v := ?r2v26) ?r2h26 ?_
  case r2h26 => intro w hSw; simp only [nrm]; have hcs := (show Shp w b1 L d from hSw).bx.shop; go_simp; try with_reducible rfl
  refine tk_go 27 (v := ?r2v27) ?r2h27 ?_
  case r2h27 => intro w hSw; simp only [nrm]; have hcs := (show Shp w b1 L d from hSw).bx.shop; go_simp; try with_reducible rfl
  refine tk_go 29 (v := ?r2v29) ?r2h29 ?_
  case r2h29 => intro w hSw; simp only [nrm]; have hcs := (show Shp w b1 L d from hSw).bx.shop; go_simp; try with_reducible rfl
  refine tk_go 30 (v := ?r2v30) ?r2h30 ?_
  case r2h30 => intro w hSw; simp only [nrm]; have hcs := (show Shp w b1 L d from hSw).bx.shop; go_simp; try with_reducible rfl
  refine tk_go 31 (v := ?r2v31) ?r2h31 ?_
  case r2h31 => intro w hSw; simp only [nrm]; have hcs := (show Shp w b1 L d from hSw).bx.shop; go_simp; try with_reducible rfl
  refine tk_go 33 (v := ?r2v33) ?r2h33 ?_
  case r2h33 => intro w hSw; simp only [nrm]; have hcs := (show Shp w b1 L d from hSw).bx.shop; go_simp; try with_reducible rfl
  refine tk_go 34 (v := ?r2v34) ?r2h34 ?_
  case r2h34 => intro w hSw; simp only [nrm]; have hcs := (show Shp w b1 L d from hSw).bx.shop; go_simp; try with_reducible rfl
  refine tk_go 35 (v := ?r2v35) ?r2h35 ?_
  case r2h35 => intro w hSw; simp only [nrm]; have hcs := (show Shp w b1 L d from hSw).bx.shop; go_simp; try with_reducible rfl
  refine tk_go 36 (v := ?r2v36) ?r2h36 ?_
  case r2h36 => intro w hSw; simp only [nrm]; have hcs := (show Shp w b1 L d from hSw).bx.shop; go_simp; try with_reducible rfl
  refine tk_go 37 (v := ?r2v37) ?r2h37 ?_
  case r2h37 => intro w hSw; simp only [nrm]; have hcs := (show Shp w b1 L d from hSw).bx.shop; go_simp; try with_reducible rfl
  refine tk_go 38 (v := ?r2v38) ?r2h38 ?_
  case r2h38 => intro w hSw; simp only [nrm]; have hcs := (show Shp w b1 L d from hSw).bx.shop; go_simp; try with_reducible rfl
  refine tk_go 40 (v := ?r2v40) ?r2h40 ?_
  case r2h40 => intro w hSw; simp only [nrm]; have hcs := (show Shp w b1 L d from hSw).bx.shop; go_simp; try with_reducible rfl
  refine tk_go 41 (v := ?r2v41) ?r2h41 ?_
  case r2h41 => intro w hSw; simp only [nrm]; have hcs := (show Shp w b1 L d from hSw).bx.shop; go_simp; try with_reducible rfl
  refine tk_go 42 (v := ?r2v42) ?r2h42 ?_
  case r2h42 => intro w hSw; simp only [nrm]; have hcs := (show Shp w b1 L d from hSw).bx.shop; go_simp; try with_reducible rfl
  refine tk_go 44 (v := ?r2v44) ?r2h44 ?_
  case r2h44 => intro w hSw; simp only [nrm]; have hcs := (show Shp w b1 L d from hSw).bx.shop; go_simp; try with_reducible rfl
  refine tk_go 45 (v := ?r2v45) ?r2h45 ?_
  case r2h45 => intro w hSw; simp only [nrm]; have hcs := (show Shp w b1 L d from hSw).bx.shop; go_simp; try with_reducible rfl
  refine tk_go 46 (v := ?r2v46) ?r2h46 ?_
  case r2h46 => intro w hSw; simp only [nrm]; have hcs := (show Shp w b1 L d from hSw).bx.shop; go_simp; try with_reducible rfl
  refine tk_go 48 (v := ?r2v48) ?r2h48 ?_
  case r2h48 => intro w hSw; simp only [nrm]; have hcs := (show Shp w b1 L d from hSw).bx.shop; go_simp; try with_reducible rfl
  refine tk_go 49 (v := ?r2v49) ?r2h49 ?_
  case r2h49 => intro w hSw; simp only [nrm]; have hcs := (show Shp w b1 L d from hSw).bx.shop; go_simp; try with_reducible rfl
  refine tk_go 50 (v := ?r2v50) ?r2h50 ?_
  case r2h50 => intro w hSw; simp only [nrm]; have hcs := (show Shp w b1 L d from hSw).bx.shop; go_simp; try with_reducible rfl
  refine tk_go 51 (v := ?r2v51) ?r2h51 ?_
  case r2h51 => intro w hSw; simp only [nrm]; have hcs := (show Shp w b1 L d from hSw).bx.shop; go_simp; try with_reducible rfl
  refine tk_go 52 (v := ?r2v52) ?r2h52 ?_
  case r2h52 => intro w hSw; simp only [nrm]; have hcs := (show Shp w b1 L d from hSw).bx.shop; go_simp; try with_reducible rfl
  refine tk_go 53 (v := ?r2v53) ?r2h53 ?_
  case r2h53 => intro w hSw; simp only [nrm]; have hcs := (show Shp w b1 L d from hSw).bx.shop; go_simp; try with_reducible rfl
  refine tk_go 55 (v := ?r2v55) ?r2h55 ?_
  case r2h55 => intro w hSw; simp only [nrm]; have hcs := (show Shp w b1 L d from hSw).bx.shop; go_simp; try with_reducible rfl
  refine tk_go 56 (v := ?r2v56) ?r2h56 ?_
  case r2h56 => intro w hSw; simp only [nrm]; have hcs := (show Shp w b1 L d from hSw).bx.shop; go_simp; try with_reducible rfl
  refine wpAnyH_ready (rs := [6]) (by kernel_rfl) (by simp) ?_
  refine AllReadyH.cons rfl (fun K hK => ?_) AllReadyH.nil
  go_simp
  refine (copiedT_any L.t.a L.t.n L.t.c d.t _ (HI.out.t.kept HC0.out.bag.bel) s0).mono ?_
  rintro e u0 ⟨rfl, R, B⟩
  have HC1 : Hid (Wkb (fun _ => False) w u0 [(b1, L, d), (b2, zl, SD.zero)] (⟨⟨some ⟨W2.drew.heap.size, 0, none⟩, L.t.n, L.t.n⟩, nl, nl, nl, nl, nl, nl, nl, nl, nl⟩ : LT) (⟨d.p, d.q, d.t, [], [], [], [], [], [], [], d.lt, d.la, [], [], d.yq, d.yt, d.w⟩ : SD)) := HC0.out.put_t B (N := ⟨some ⟨W2.drew.heap.size, 0, none⟩, L.t.n, L.t.n⟩) (Rec.row.fit R (Nat.le_refl _) HI.out.t.1)
  clear HC0 B R
  have SX : (fun W => Shp W b1 L d) u0 := HC1.out.bag.get 0 rfl

  go_wp2_with fail
  refine hK.out _ _ SX (fun hHeld => ?_)
  clear hK K
  refine wpAnyH_ready (rs := [9]) (by kernel_rfl) (by simp) ?_
  refine AllReadyH.cons rfl (fun K hK => ?_) AllReadyH.nil
  go_simp
  refine (copied_any L.m.a L.m.n L.m.c d.m _ (HI.out.m.kept HC1.out.bag.bel) s1).mono ?_
  rintro e u1 ⟨rfl, R, B⟩
  have HC2 : Hid (Wkb (fun _ => False) w u1 [(b1, L, d), (b2, zl, SD.zero)] (⟨⟨some ⟨W2.drew.heap.size, 0, none⟩, L.t.n, L.t.n⟩, ⟨some ⟨u0.heap.size, 0, none⟩, L.m.n, L.m.n⟩, nl, nl, nl, nl, nl, nl, nl, nl⟩ : LT) (⟨d.p, d.q, d.t, d.m, [], [], [], [], [], [], d.lt, d.la, [], [], d.yq, d.yt, d.w⟩ : SD)) := HC1.out.put_m B (N := ⟨some ⟨u0.heap.size, 0, none⟩, L.m.n, L.m.n⟩) (Row.fit R (Nat.le_refl _) HI.out.m.1)
  clear HC1 B R
  have SX : (fun W => Shp W b1 L d) u1 := HC2.out.bag.get 0 rfl

  go_wp2_with fail
  refine hK.out _ _ SX (fun hHeld => ?_)
  clear hK K
  refine wpAnyH_ready (rs := [12]) (by kernel_rfl) (by simp) ?_
  refine AllReadyH.cons rfl (fun K hK => ?_) AllReadyH.nil
  go_simp
  refine (copied_any L.c.a L.c.n L.c.c d.c _ (HI.out.c.kept HC2.out.bag.bel) s2).mono ?_
  rintro e u2 ⟨rfl, R, B⟩
  have HC3 : Hid (Wkb (fun _ => False) w u2 [(b1, L, d), (b2, zl, SD.zero)] (⟨⟨some ⟨W2.drew.heap.size, 0, none⟩, L.t.n, L.t.n⟩, ⟨some ⟨u0.heap.size, 0, none⟩, L.m.n, L.m.n⟩, ⟨some ⟨u1.heap.size, 0, none⟩, L.c.n, L.c.n⟩, nl, nl, nl, nl, nl, nl, nl⟩ : LT) (⟨d.p, d.q, d.t, d.m, d.c, [], [], [], [], [], d.lt, d.la, [], [], d.yq, d.yt, d.w⟩ : SD)) := HC2.out.put_c B (N := ⟨some ⟨u1.heap.size, 0, none⟩, L.c.n, L.c.n⟩) (Row.fit R (Nat.le_refl _) HI.out.c.1)
  clear HC2 B R
  have SX : (fun W => Shp W b1 L d) u2 := HC3.out.bag.get 0 rfl

  go_wp2_with fail
  refine hK.out _ _ SX (fun hHeld => ?_)
  clear hK K
  refine wpAnyH_ready (rs := [15]) (by kernel_rfl) (by simp) ?_
  refine AllReadyH.cons rfl (fun K hK => ?_) AllReadyH.nil
  go_simp
  refine (copied_any L.n.a L.n.n L.n.c d.n _ (HI.out.n.kept HC3.out.bag.bel) s3).mono ?_
  rintro e u3 ⟨rfl, R, B⟩
  have HC4 : Hid (Wkb (fun _ => False) w u3 [(b1, L, d), (b2, zl, SD.zero)] (⟨⟨some ⟨W2.drew.heap.size, 0, none⟩, L.t.n, L.t.n⟩, ⟨some ⟨u0.heap.size, 0, none⟩, L.m.n, L.m.n⟩, ⟨some ⟨u1.heap.size, 0, none⟩, L.c.n, L.c.n⟩, ⟨some ⟨u2.heap.size, 0, none⟩, L.n.n, L.n.n⟩, nl, nl, nl, nl, nl, nl⟩ : LT) (⟨d.p, d.q, d.t, d.m, d.c, d.n, [], [], [], [], d.lt, d.la, [], [], d.yq, d.yt, d.w⟩ : SD)) := HC3.out.put_n B (N := ⟨some ⟨u2.heap.size, 0, none⟩, L.n.n, L.n.n⟩) (Row.fit R (Nat.le_refl _) HI.out.n.1)
  clear HC3 B R
  have SX : (fun W => Shp W b1 L d) u3 := HC4.out.bag.get 0 rfl

  go_wp2_with fail
  refine hK.out _ _ SX (fun hHeld => ?_)
  clear hK K
  refine wpAnyH_ready (rs := [19]) (by kernel_rfl) (by simp) ?_
  refine AllReadyH.cons rfl (fun K hK => ?_) AllReadyH.nil
  go_simp
  refine (copied_any L.s.a L.s.n L.s.c d.s _ (HI.out.s.kept HC4.out.bag.bel) s4).mono ?_
  rintro e u4 ⟨rfl, R, B⟩
  have HC5 : Hid (Wkb (fun _ => False) w u4 [(b1, L, d), (b2, zl, SD.zero)] (⟨⟨some ⟨W2.drew.heap.size, 0, none⟩, L.t.n, L.t.n⟩, ⟨some ⟨u0.heap.size, 0, none⟩, L.m.n, L.m.n⟩, ⟨some ⟨u1.heap.size, 0, none⟩, L.c.n, L.c.n⟩, ⟨some ⟨u2.heap.size, 0, none⟩, L.n.n, L.n.n⟩, ⟨some ⟨u3.heap.size, 0, none⟩, L.s.n, L.s.n⟩, nl, nl, nl, nl, nl⟩ : LT) (⟨d.p, d.q, d.t, d.m, d.c, d.n, d.s, [], [], [], d.lt, d.la, [], [], d.yq, d.yt, d.w⟩ : SD)) := HC4.out.put_s B (N := ⟨some ⟨u3.heap.size, 0, none⟩, L.s.n, L.s.n⟩) (Row.fit R (Nat.le_refl _) HI.out.s.1)
  clear HC4 B R
  have SX : (fun W => Shp W b1 L d) u4 := HC5.out.bag.get 0 rfl

  go_wp2_with fail
  refine hK.out _ _ SX (fun hHeld => ?_)
  clear hK K
  refine wpAnyH_ready (rs := [23]) (by kernel_rfl) (by simp) ?_
  refine AllReadyH.cons rfl (fun K hK => ?_) AllReadyH.nil
  go_simp
  refine (copied_any L.r.a L.r.n L.r.c d.r _ (HI.out.r.kept HC5.out.bag.bel) s5).mono ?_
  rintro e u5 ⟨rfl, R, B⟩
  have HC6 : Hid (Wkb (fun _ => False) w u5 [(b1, L, d), (b2, zl, SD.zero)] (⟨⟨some ⟨W2.drew.heap.size, 0, none⟩, L.t.n, L.t.n⟩, ⟨some ⟨u0.heap.size, 0, none⟩, L.m.n, L.m.n⟩, ⟨some ⟨u1.heap.size, 0, none⟩, L.c.n, L.c.n⟩, ⟨some ⟨u2.heap.size, 0, none⟩, L.n.n, L.n.n⟩, ⟨some ⟨u3.heap.size, 0, none⟩, L.s.n, L.s.n⟩, ⟨some ⟨u4.heap.size, 0, none⟩, L.r.n, L.r.n⟩, nl, nl, nl, nl⟩ : LT) (⟨d.p, d.q, d.t, d.m, d.c, d.n, d.s, d.r, [], [], d.lt, d.la, [], [], d.yq, d.yt, d.w⟩ : SD)) := HC5.out.put_r B (N := ⟨some ⟨u4.heap.size, 0, none⟩, L.r.n, L.r.n⟩) (Row.fit R (Nat.le_refl _) HI.out.r.1)
  clear HC5 B R
  have SX : (fun W => Shp W b1 L d) u5 := HC6.out.bag.get 0 rfl

  go_wp2_with fail
  refine hK.out _ _ SX (fun hHeld => ?_)
  clear hK K
  refine tk_go 24 (v := ?r2v24) ?r2h24 ?_
  case r2h24 => intro w hSw; have hcs := (show Shp w b1 L d from hSw).bx.shop; go_simp; try with_reducible rfl
  refine wpAnyH_ready (rs := [28]) (by kernel_rfl) (by simp) ?_
  refine AllReadyH.cons rfl (fun K hK => ?_) AllReadyH.nil
  go_simp
  refine (copied_any L.l.a L.l.n L.l.c d.l _ (HI.out.l.kept HC6.out.bag.bel) s6).mono ?_
  rintro e u6 ⟨rfl, R, B⟩
  have HC7 : Hid (Wkb (fun _ => False) w u6 [(b1, L, d), (b2, zl, SD.zero)] (⟨⟨some ⟨W2.drew.heap.size, 0, none⟩, L.t.n, L.t.n⟩, ⟨some ⟨u0.heap.size, 0, none⟩, L.m.n, L.m.n⟩, ⟨some ⟨u1.heap.size, 0, none⟩, L.c.n, L.c.n⟩, ⟨some ⟨u2.heap.size, 0, none⟩, L.n.n, L.n.n⟩, ⟨some ⟨u3.heap.size, 0, none⟩, L.s.n, L.s.n⟩, ⟨some ⟨u4.heap.size, 0, none⟩, L.r.n, L.r.n⟩, ⟨some ⟨u5.heap.size, 0, none⟩, L.l.n, L.l.n⟩, nl, nl, nl⟩ : LT) (⟨d.p, d.q, d.t, d.m, d.c, d.n, d.s, d.r, d.l, [], d.lt, d.la, [], [], d.yq, d.yt, d.w⟩ : SD)) := HC6.out.put_l B (N := ⟨some ⟨u5.heap.size, 0, none⟩, L.l.n, L.l.n⟩) (Row.fit R (Nat.le_refl _) HI.out.l.1)
  clear HC6 B R
  have SX : (fun W => Shp W b1 L d) u6 := HC7.out.bag.get 0 rfl

  go_wp2_with fail
  refine hK.out _ _ SX (fun hHeld => ?_)
  clear hK K
  refine wpAnyH_ready (rs := [32]) (by kernel_rfl) (by simp) ?_
  refine AllReadyH.cons rfl (fun K hK => ?_) AllReadyH.nil
  go_simp
  refine (copied_any L.h.a L.h.n L.h.c d.h _ (HI.out.h.kept HC7.out.bag.bel) s7).mono ?_
  rintro e u7 ⟨rfl, R, B⟩
  have HC8 : Hid (Wkb (fun _ => False) w u7 [(b1, L, d), (b2, zl, SD.zero)] (⟨⟨some ⟨W2.drew.heap.size, 0, none⟩, L.t.n, L.t.n⟩, ⟨some ⟨u0.heap.size, 0, none⟩, L.m.n, L.m.n⟩, ⟨some ⟨u1.heap.size, 0, none⟩, L.c.n, L.c.n⟩, ⟨some ⟨u2.heap.size, 0, none⟩, L.n.n, L.n.n⟩, ⟨some ⟨u3.heap.size, 0, none⟩, L.s.n, L.s.n⟩, ⟨some ⟨u4.heap.size, 0, none⟩, L.r.n, L.r.n⟩, ⟨some ⟨u5.heap.size, 0, none⟩, L.l.n, L.l.n⟩, ⟨some ⟨u6.heap.size, 0, none⟩, L.h.n, L.h.n⟩, nl, nl⟩ : LT) (⟨d.p, d.q, d.t, d.m, d.c, d.n, d.s, d.r, d.l, d.h, d.lt, d.la, [], [], d.yq, d.yt, d.w⟩ : SD)) := HC7.out.put_h B (N := ⟨some ⟨u6.heap.size, 0, none⟩, L.h.n, L.h.n⟩) (Row.fit R (Nat.le_refl _) HI.out.h.1)
  clear HC7 B R
  have SX : (fun W => Shp W b1 L d) u7 := HC8.out.bag.get 0 rfl

  go_wp2_with fail
  refine hK.out _ _ SX (fun hHeld => ?_)
  clear hK K
  refine tk_go 39 (v := ?r2v39) ?r2h39 ?_
  case r2h39 => intro w hSw; have hcs := (show Shp w b1 L d from hSw).bx.shop; go_simp; try with_reducible rfl
  refine wpAnyH_ready (rs := [43]) (by kernel_rfl) (by simp) ?_
  refine AllReadyH.cons rfl (fun K hK => ?_) AllReadyH.nil
  go_simp
  refine (copiedS_any L.y.a L.y.n L.y.c d.y _ (HI.out.y.kept HC8.out.bag.bel) s8).mono ?_
  rintro e u8 ⟨rfl, R, B⟩
  have HC9 : Hid (Wkb (fun _ => False) w u8 [(b1, L, d), (b2, zl, SD.zero)] (⟨⟨some ⟨W2.drew.heap.size, 0, none⟩, L.t.n, L.t.n⟩, ⟨some ⟨u0.heap.size, 0, none⟩, L.m.n, L.m.n⟩, ⟨some ⟨u1.heap.size, 0, none⟩, L.c.n, L.c.n⟩, ⟨some ⟨u2.heap.size, 0, none⟩, L.n.n, L.n.n⟩, ⟨some ⟨u3.heap.size, 0, none⟩, L.s.n, L.s.n⟩, ⟨some ⟨u4.heap.size, 0, none⟩, L.r.n, L.r.n⟩, ⟨some ⟨u5.heap.size, 0, none⟩, L.l.n, L.l.n⟩, ⟨some ⟨u6.heap.size, 0, none⟩, L.h.n, L.h.n⟩, ⟨some ⟨u7.heap.size, 0, none⟩, L.y.n, L.y.n⟩, nl⟩ : LT) (⟨d.p, d.q, d.t, d.m, d.c, d.n, d.s, d.r, d.l, d.h, d.lt, d.la, d.y, [], d.yq, d.yt, d.w⟩ : SD)) := HC8.out.put_y B (N := ⟨some ⟨u7.heap.size, 0, none⟩, L.y.n, L.y.n⟩) (SRow.fit R (Nat.le_refl _) HI.out.y.1)
  clear HC8 B R
  have SX : (fun W => Shp W b1 L d) u8 := HC9.out.bag.get 0 rfl

  go_wp2_with fail
  refine hK.out _ _ SX (fun hHeld => ?_)
  clear hK K
  refine wpAnyH_ready (rs := [47]) (by kernel_rfl) (by simp) ?_
  refine AllReadyH.cons rfl (fun K hK => ?_) AllReadyH.nil
  go_simp
  refine (copied_any L.z.a L.z.n L.z.c d.z _ (HI.out.z.kept HC9.out.bag.bel) s9).mono ?_
  rintro e u9 ⟨rfl, R, B⟩
  have HC10 : Hid (Wkb (fun _ => False) w u9 [(b1, L, d), (b2, zl, SD.zero)] (⟨⟨some ⟨W2.drew.heap.size, 0, none⟩, L.t.n, L.t.n⟩, ⟨some ⟨u0.heap.size, 0, none⟩, L.m.n, L.m.n⟩, ⟨some ⟨u1.heap.size, 0, none⟩, L.c.n, L.c.n⟩, ⟨some ⟨u2.heap.size, 0, none⟩, L.n.n, L.n.n⟩, ⟨some ⟨u3.heap.size, 0, none⟩, L.s.n, L.s.n⟩, ⟨some ⟨u4.heap.size, 0, none⟩, L.r.n, L.r.n⟩, ⟨some ⟨u5.heap.size, 0, none⟩, L.l.n, L.l.n⟩, ⟨some ⟨u6.heap.size, 0, none⟩, L.h.n, L.h.n⟩, ⟨some ⟨u7.heap.size, 0, none⟩, L.y.n, L.y.n⟩, ⟨some ⟨u8.heap.size, 0, none⟩, L.z.n, L.z.n⟩⟩ : LT) (⟨d.p, d.q, d.t, d.m, d.c, d.n, d.s, d.r, d.l, d.h, d.lt, d.la, d.y, d.z, d.yq, d.yt, d.w⟩ : SD)) := HC9.out.put_z B (N := ⟨some ⟨u8.heap.size, 0, none⟩, L.z.n, L.z.n⟩) (Row.fit R (Nat.le_refl _) HI.out.z.1)
  clear HC9 B R
  have SX : (fun W => Shp W b1 L d) u9 := HC10.out.bag.get 0 rfl

  go_wp2_with fail
  refine hK.out _ _ SX (fun hHeld => ?_)
  clear hK K
  refine tk_go 54 (v := ?r2v54) ?r2h54 ?_
  case r2h54 => intro w hSw; have hcs := (show Shp w b1 L d from hSw).bx.shop; go_simp; try with_reducible rfl
  refine tk_go 57 (v := ?r2v57) ?r2h57 ?_
  case r2h57 => intro w hSw; simp only [nrm]; have hcs := (show Shp w b1 L d from hSw).bx.shop; go_simp; try with_reducible rfl
  refine wpAnyH_ready (rs := [58]) (by kernel_rfl) (by simp) ?_
  refine AllReadyH.cons rfl (fun K hK => ?_) AllReadyH.nil
  rw [if_pos (by rfl)]
  refine sh_store_op (L := (⟨⟨some ⟨W2.drew.heap.size, 0, none⟩, L.t.n, L.t.n⟩, ⟨some ⟨u0.heap.size, 0, none⟩, L.m.n, L.m.n⟩, ⟨some ⟨u1.heap.size, 0, none⟩, L.c.n, L.c.n⟩, ⟨some ⟨u2.heap.size, 0, none⟩, L.n.n, L.n.n⟩, ⟨some ⟨u3.heap.size, 0, none⟩, L.s.n, L.s.n⟩, ⟨some ⟨u4.heap.size, 0, none⟩, L.r.n, L.r.n⟩, ⟨some ⟨u5.heap.size, 0, none⟩, L.l.n, L.l.n⟩, ⟨some ⟨u6.heap.size, 0, none⟩, L.h.n, L.h.n⟩, ⟨some ⟨u7.heap.size, 0, none⟩, L.y.n, L.y.n⟩, ⟨some ⟨u8.heap.size, 0, none⟩, L.z.n, L.z.n⟩⟩ : LT)) (d := (⟨d.p, d.q, d.t, d.m, d.c, d.n, d.s, d.r, d.l, d.h, d.lt, d.la, d.y, d.z, d.yq, d.yt, d.w⟩ : SD)) rfl rfl rfl (HC10.out.bag.get 1 rfl) ?_
  intro WZ SZ GZ
  have HZ : Hid (Wkb (fun _ => False) w WZ [(b1, L, d), (b2, (⟨⟨some ⟨W2.drew.heap.size, 0, none⟩, L.t.n, L.t.n⟩, ⟨some ⟨u0.heap.size, 0, none⟩, L.m.n, L.m.n⟩, ⟨some ⟨u1.heap.size, 0, none⟩, L.c.n, L.c.n⟩, ⟨some ⟨u2.heap.size, 0, none⟩, L.n.n, L.n.n⟩, ⟨some ⟨u3.heap.size, 0, none⟩, L.s.n, L.s.n⟩, ⟨some ⟨u4.heap.size, 0, none⟩, L.r.n, L.r.n⟩, ⟨some ⟨u5.heap.size, 0, none⟩, L.l.n, L.l.n⟩, ⟨some ⟨u6.heap.size, 0, none⟩, L.h.n, L.h.n⟩, ⟨some ⟨u7.heap.size, 0, none⟩, L.y.n, L.y.n⟩, ⟨some ⟨u8.heap.size, 0, none⟩, L.z.n, L.z.n⟩⟩ : LT), (⟨d.p, d.q, d.t, d.m, d.c, d.n, d.s, d.r, d.l, d.h, d.lt, d.la, d.y, d.z, d.yq, d.yt, d.w⟩ : SD))] (⟨⟨some ⟨W2.drew.heap.size, 0, none⟩, L.t.n, L.t.n⟩, ⟨some ⟨u0.heap.size, 0, none⟩, L.m.n, L.m.n⟩, ⟨some ⟨u1.heap.size, 0, none⟩, L.c.n, L.c.n⟩, ⟨some ⟨u2.heap.size, 0, none⟩, L.n.n, L.n.n⟩, ⟨some ⟨u3.heap.size, 0, none⟩, L.s.n, L.s.n⟩, ⟨some ⟨u4.heap.size, 0, none⟩, L.r.n, L.r.n⟩, ⟨some ⟨u5.heap.size, 0, none⟩, L.l.n, L.l.n⟩, ⟨some ⟨u6.heap.size, 0, none⟩, L.h.n, L.h.n⟩, ⟨some ⟨u7.heap.size, 0, none⟩, L.y.n, L.y.n⟩, ⟨some ⟨u8.heap.size, 0, none⟩, L.z.n, L.z.n⟩⟩ : LT) (⟨d.p, d.q, d.t, d.m, d.c, d.n, d.s, d.r, d.l, d.h, d.lt, d.la, d.y, d.z, d.yq, d.yt, d.w⟩ : SD)) := HC10.out.put 1 rfl SZ GZ
  clear SZ GZ HC10
  have SX : (fun W => Shp W b1 L d) WZ := HZ.out.bag.get 0 rfl

  refine hK.out _ _ SX (fun hHeld => ?_)
  clear hK K
  refine wpAnyH_done (by kernel_rfl) ?_ _
  simp only [nrm]
  clear hHeld
  go_wp2_with fail
  exact bodyPost_ret (ret_shop rfl rfl (HZ.out.bag.get 1 rfl)) rfl ⟨_, rfl, HZ.out.post, HZ.out.bag.bel⟩

set_option maxRecDepth 100000 in
set_option maxHeartbeats 8000000 in
theorem implChanged14 (L : LT) (d : SD) (id wt : Int) (w : World) (I : Rd w L d) (hs : Short L) :
    Calls Tryz.prog 82 #[.func (.func 83) #[] #[], sv L d, .int .i64 id, .int .i64 wt] w (ShPost2 (openedD d id wt) (.int .i64 (openedC d id wt)) w) := by
  have HI : Hid (Rd w L d) := I
  clear I
  obtain ⟨s0, s1, s2, s3, s4, s5, s6, s7, s8, s9⟩ := short_parts hs
  have HSH : Hid (Short L) := hs
  clear hs
  cases h : shopOk d
  · have HF : Hid (shopOk d = false ∧ openedD d id wt = SD.zero ∧ openedC d id wt = 1) := ⟨h, by rw [openedD, if_neg (by rw [h]; decide)], by rw [openedC, if_neg (by rw [h]; decide)]⟩
    rw [HF.out.2.1, HF.out.2.2]
    clear h
    go_enter Tryz.func82, Tryz.ntmps82
    go_wp2_with (refine sh_box rfl ?_)
    intro W1 b1 e1 S1 B1
    have HA : Hid (Bag w W1 [(b1, L, d)]) := (bag_nil w).add B1 e1 S1
    clear e1 S1 B1
    go_wp2_with (refine sh_alloc ?_)
    intro W2 b2 e2 S2 B2
    have HB : Hid (Bag w W2 [(b1, L, d), (b2, zl, SD.zero)]) := HA.out.add B2 e2 S2
    clear e2 S2 B2 HA
    go_wp2_with (refine sh_loadg rfl rfl (HB.out.get 0 rfl) ?_)
    refine (implShopOk L d _ (HI.out.kept HB.out.bel) HSH.out).mono ?_
    rw [HF.out.1]
    rintro e W3 ⟨rfl, B3⟩
    have HC : Hid (Bag w W3 [(b1, L, d), (b2, zl, SD.zero)]) := HB.out.all B3
    clear B3 HB
    go_wp2_with (refine sh_store (L := zl) (d := SD.zero) rfl rfl (HC.out.get 1 rfl) ?_)
    intro W4 S4 G4
    have HD : Hid (Bag w W4 [(b1, L, d), (b2, zl, SD.zero)]) := HC.out.put 1 rfl S4 G4
    clear S4 G4 HC
    go_wp2_with fail
    exact bodyPost_ret (ret_shop2 rfl rfl rfl (HD.out.get 1 rfl)) rfl ⟨zl, rfl, mk_zl _ _ _ _ _ _ _ _ _, HD.out.bel⟩
  · have HF : Hid (shopOk d = true ∧ openedD d id wt = withD d (crL d.t id wt) (crC d.t id wt) ∧ openedC d id wt = crC d.t id wt) := ⟨h, by rw [openedD, if_pos h], by rw [openedC, if_pos h]⟩
    rw [HF.out.2.1, HF.out.2.2]
    clear h
    go_enter Tryz.func82, Tryz.ntmps82
    go_wp2_with (refine sh_box rfl ?_)
    intro W1 b1 e1 S1 B1
    have HA : Hid (Bag w W1 [(b1, L, d)]) := (bag_nil w).add B1 e1 S1
    clear e1 S1 B1
    go_wp2_with (refine sh_alloc ?_)
    intro W2 b2 e2 S2 B2
    have HB : Hid (Bag w W2 [(b1, L, d), (b2, zl, SD.zero)]) := HA.out.add B2 e2 S2
    clear e2 S2 B2 HA
    go_wp2_with (refine sh_loadg rfl rfl (HB.out.get 0 rfl) ?_)
    refine (implShopOk L d _ (HI.out.kept HB.out.bel) HSH.out).mono ?_
    rw [HF.out.1]
    rintro e W3 ⟨rfl, B3⟩
    have HC : Hid (Bag w W3 [(b1, L, d), (b2, zl, SD.zero)]) := HB.out.all B3
    clear B3 HB
    have q2 := (HC.out.get 0 rfl).bx.shop.2.2.1
    go_wp2_with fail
    refine (implCreated L.t.a L.t.n L.t.c d.t id wt _ (HI.out.t.kept HC.out.bel) s0).mono ?_
    obtain ⟨kk, hkk⟩ : ∃ kk, kk = crC d.t id wt := ⟨_, rfl⟩
    obtain ⟨tt, htt⟩ : ∃ tt, tt = crL d.t id wt := ⟨_, rfl⟩
    rw [← hkk, ← htt]
    have HK : Hid (tt.length ≤ 24) := by show _ ≤ _; rw [htt]; exact (cr_small _ _ _).1
    have HKT : Hid (kk = crC d.t id wt ∧ tt = crL d.t id wt) := ⟨hkk, htt⟩
    clear hkk htt
    rintro e W4 ⟨g, n, c, rfl, R, B4⟩
    have hbg : b1 < g := Nat.lt_of_lt_of_le (HC.out.get 0 rfl).lt (Rec.fit.ge R rfl).1
    have HBG : Hid (b1 < g) := hbg
    have HD : Hid (Bag w W4 [(b1, L, d), (b2, zl, SD.zero)] ∧ TFit W4 W3.heap.size (some ⟨g, 0, none⟩) n c tt ∧ tt.length = n) := ⟨HC.out.all B4, R, R.1⟩
    clear R B4 HC q2 hbg
    by_cases hk : kk = 0
    · subst hk
      have hb : ((0 : Int) != (0 : Int)) = false := by decide
      have HE : Hid (withD d tt 0 = reopD { d with t := tt }) := by show _ = _; rw [withD, if_pos rfl]
      go_wp2_with (refine sh_set_t rfl rfl (HD.out.1.get 0 rfl) ?_)
      intro W5 S5 G5
      have HX : Hid (Bag w W5 [(b1, { L with t := ⟨some ⟨g, 0, none⟩, n, c⟩ }, { d with t := tt }), (b2, zl, SD.zero)] ∧ Tsks W5 (some ⟨g, 0, none⟩) n tt) := ⟨HD.out.1.put 0 rfl S5 G5, (Rec.fit.other HD.out.2.1 G5 (by intro x hx; cases hx; have := HBG.out; simp; omega)).sl⟩
      clear S5 G5
      go_wp2_with (refine sh_loadg rfl rfl (HX.out.1.get 0 rfl) ?_)
      refine (implReopened { L with t := ⟨some ⟨g, 0, none⟩, n, c⟩ } { d with t := tt } _ (Rd.tasks (HI.out.kept HX.out.1.bel) (N := ⟨some ⟨g, 0, none⟩, n, c⟩) HX.out.2) (Short.tasks HSH.out (N := ⟨some ⟨g, 0, none⟩, n, c⟩) (by have h1 := HD.out.2.2; have h2 := HK.out; show ((n : Nat) : Int) ≤ _; omega))).mono ?_
      rintro e W6 ⟨M, rfl, K, B6⟩
      have HY : Hid (Wkb (fun _ => False) w W6 [(b1, { L with t := ⟨some ⟨g, 0, none⟩, n, c⟩ }, { d with t := tt }), (b2, zl, SD.zero)] M (reopD { d with t := tt })) := wkb_of HX.out.1 B6 K
      clear K B6 HX HD
      obtain ⟨D9, hD9⟩ : ∃ D9, D9 = reopD { d with t := tt } := ⟨_, rfl⟩
      rw [← hD9] at HY ⊢
      have HD9 : Hid (D9 = reopD { d with t := tt }) := hD9
      clear hD9
      go_wp2_with (refine sh_store (L := M) (d := D9) rfl rfl (HY.out.bag.get 1 rfl) ?_)
      intro WZ SZ GZ
      have HZ : Hid (Wkb (fun _ => False) w WZ [(b1, { L with t := ⟨some ⟨g, 0, none⟩, n, c⟩ }, { d with t := tt }), (b2, M, D9)] M D9) := HY.out.put 1 rfl SZ GZ
      clear SZ GZ HY
      go_wp2_with fail
      exact bodyPost_ret (ret_shop2 rfl rfl rfl (HZ.out.bag.get 1 rfl)) rfl ⟨M, by rw [← HKT.out.1, ← HKT.out.2, HE.out, HD9.out]; rfl, by rw [← HKT.out.1, ← HKT.out.2, HE.out, ← HD9.out]; exact HZ.out.post, HZ.out.bag.bel⟩
    · have hb : (kk != (0 : Int)) = true := by simpa using hk
      have HE : Hid (withD d tt kk = d) := by show _ = _; rw [withD, if_neg hk]
      clear hk
      go_wp2_with (refine sh_loadg rfl rfl (HD.out.1.get 0 rfl) ?_)
      refine (implCopy14 L d _ (HI.out.kept HD.out.1.bel) HSH.out).mono ?_
      rintro e W5 ⟨M, rfl, K, B5⟩
      have HY : Hid (Wkb (fun _ => False) w W5 [(b1, L, d), (b2, zl, SD.zero)] M d) := wkb_of HD.out.1 B5 K
      clear K B5 HD
      go_wp2_with (refine sh_store (L := M) (d := d) rfl rfl (HY.out.bag.get 1 rfl) ?_)
      intro WZ SZ GZ
      have HZ : Hid (Wkb (fun _ => False) w WZ [(b1, L, d), (b2, M, d)] M d) := HY.out.put 1 rfl SZ GZ
      clear SZ GZ HY
      go_wp2_with fail
      exact bodyPost_ret (ret_shop2 rfl rfl rfl (HZ.out.bag.get 1 rfl)) rfl ⟨M, by rw [← HKT.out.1, ← HKT.out.2, HE.out]; rfl, by rw [← HKT.out.1, ← HKT.out.2, HE.out]; exact HZ.out.post, HZ.out.bag.bel⟩

set_option maxRecDepth 100000 in
set_option maxHeartbeats 8000000 in
theorem implOpened (L : LT) (d : SD) (id wt : Int) (w : World) (I : Rd w L d) (hs : Short L) :
    Calls Tryz.prog 24 #[sv L d, .int .i64 id, .int .i64 wt] w (ShPost2 (openedD d id wt) (.int .i64 (openedC d id wt)) w) := by
  have HI : Hid (Rd w L d) := I
  clear I
  obtain ⟨s0, s1, s2, s3, s4, s5, s6, s7, s8, s9⟩ := short_parts hs
  have HSH : Hid (Short L) := hs
  clear hs
  go_enter Tryz.func24, Tryz.ntmps24
  go_wp2_with (refine sh_box rfl ?_)
  intro W1 b1 e1 S1 B1
  have HA : Hid (Bag w W1 [(b1, L, d)]) := (bag_nil w).add B1 e1 S1
  clear e1 S1 B1
  go_wp2_with (refine sh_alloc ?_)
  intro W2 b2 e2 S2 B2
  have HB : Hid (Bag w W2 [(b1, L, d), (b2, zl, SD.zero)]) := HA.out.add B2 e2 S2
  clear e2 S2 B2 HA
  go_wp2_with (refine sh_loadg rfl rfl (HB.out.get 0 rfl) ?_)
  refine (implChanged14 L d id wt _ (HI.out.kept HB.out.bel) HSH.out).mono ?_
  rintro e W3 ⟨M, rfl, K, B3⟩
  have HY : Hid (Wkb (fun _ => False) w W3 [(b1, L, d), (b2, zl, SD.zero)] M (openedD d id wt)) := wkb_of HB.out B3 K
  clear K B3 HB
  obtain ⟨D9, hD9⟩ : ∃ D9, D9 = openedD d id wt := ⟨_, rfl⟩
  rw [← hD9] at HY ⊢
  have HD9 : Hid (D9 = openedD d id wt) := hD9
  clear hD9
  go_wp2_with (refine sh_store (L := M) (d := D9) rfl rfl (HY.out.bag.get 1 rfl) ?_)
  intro WZ SZ GZ
  have HZ : Hid (Wkb (fun _ => False) w WZ [(b1, L, d), (b2, M, D9)] M D9) := HY.out.put 1 rfl SZ GZ
  clear SZ GZ HY
  go_wp2_with fail
  exact bodyPost_ret (ret_shop2 rfl rfl rfl (HZ.out.bag.get 1 rfl)) rfl ⟨M, by rw [HD9.out]; rfl, by rw [← HD9.out]; exact HZ.out.post, HZ.out.bag.bel⟩

set_option maxRecDepth 100000 in
set_option maxHeartbeats 8000000 in
theorem implSwitched (L : LT) (d : SD) (p q : Int) (w : World) (I : Rd w L d) (hs : Short L) :
    Calls Tryz.prog 30 #[sv L d, .int .i64 p, .int .i64 q] w (ShPost2 (switchedD d p q) (.int .i64 (switchedC d p q)) w) := by
  have HI : Hid (Rd w L d) := I
  clear I
  obtain ⟨s0, s1, s2, s3, s4, s5, s6, s7, s8, s9⟩ := short_parts hs
  have HSH : Hid (Short L) := hs
  clear hs
  cases h : shopOk d
  · have HF : Hid (shopOk d = false ∧ switchedD d p q = SD.zero ∧ switchedC d p q = 1) := ⟨h, by rw [switchedD, if_neg (by rw [h]; decide)], by rw [switchedC, if_neg (by rw [h]; decide)]⟩
    rw [HF.out.2.1, HF.out.2.2]
    clear h
    go_enter Tryz.func30, Tryz.ntmps30
    go_wp2_with (refine sh_box rfl ?_)
    intro W1 b1 e1 S1 B1
    have HA : Hid (Bag w W1 [(b1, L, d)]) := (bag_nil w).add B1 e1 S1
    clear e1 S1 B1
    go_wp2_with (refine sh_alloc ?_)
    intro W2 b2 e2 S2 B2
    have HB : Hid (Bag w W2 [(b1, L, d), (b2, zl, SD.zero)]) := HA.out.add B2 e2 S2
    clear e2 S2 B2 HA
    go_wp2_with (refine sh_loadg rfl rfl (HB.out.get 0 rfl) ?_)
    refine (implShopOk L d _ (HI.out.kept HB.out.bel) HSH.out).mono ?_
    rw [HF.out.1]
    rintro e W3 ⟨rfl, B3⟩
    have HC : Hid (Bag w W3 [(b1, L, d), (b2, zl, SD.zero)]) := HB.out.all B3
    clear B3 HB
    go_wp2_with (refine sh_store (L := zl) (d := SD.zero) rfl rfl (HC.out.get 1 rfl) ?_)
    intro W4 S4 G4
    have HD : Hid (Bag w W4 [(b1, L, d), (b2, zl, SD.zero)]) := HC.out.put 1 rfl S4 G4
    clear S4 G4 HC
    go_wp2_with fail
    exact bodyPost_ret (ret_shop2 rfl rfl rfl (HD.out.get 1 rfl)) rfl ⟨zl, rfl, mk_zl _ _ _ _ _ _ _ _ _, HD.out.bel⟩
  · cases h2 : outerB { d with p := p, q := q }
    · have HF : Hid (shopOk d = true ∧ outerB { d with p := p, q := q } = false ∧ switchedD d p q = d ∧ switchedC d p q = 1) := ⟨h, h2, by rw [switchedD, if_pos h, if_neg (by rw [h2]; decide)], by rw [switchedC, if_pos h, if_neg (by rw [h2]; decide)]⟩
      rw [HF.out.2.2.1, HF.out.2.2.2]
      clear h h2
      go_enter Tryz.func30, Tryz.ntmps30
      go_wp2_with (refine sh_box rfl ?_)
      intro W1 b1 e1 S1 B1
      have HA : Hid (Bag w W1 [(b1, L, d)]) := (bag_nil w).add B1 e1 S1
      clear e1 S1 B1
      go_wp2_with (refine sh_alloc ?_)
      intro W2 b2 e2 S2 B2
      have HB : Hid (Bag w W2 [(b1, L, d), (b2, zl, SD.zero)]) := HA.out.add B2 e2 S2
      clear e2 S2 B2 HA
      go_wp2_with (refine sh_loadg rfl rfl (HB.out.get 0 rfl) ?_)
      refine (implShopOk L d _ (HI.out.kept HB.out.bel) HSH.out).mono ?_
      rw [HF.out.1]
      rintro e W3 ⟨rfl, B3⟩
      have HC : Hid (Bag w W3 [(b1, L, d), (b2, zl, SD.zero)]) := HB.out.all B3
      clear B3 HB
      go_wp2_with (first | (refine sh_loadg rfl rfl (HC.out.get 0 rfl) ?_) | (refine sh_alloc ?_))
      intro W4 b3 e4 S4 B4
      have HD : Hid (Bag w W4 [(b1, L, d), (b2, zl, SD.zero), (b3, zl, SD.zero)]) := HC.out.add B4 e4 S4
      clear e4 S4 B4 HC
      go_wp2_with (refine sh_store (L := L) (d := d) rfl rfl (HD.out.get 2 rfl) ?_)
      intro W5 S5 G5
      have HX : Hid (Bag w W5 [(b1, L, d), (b2, zl, SD.zero), (b3, L, d)]) := HD.out.put 2 rfl S5 G5
      clear S5 G5 HD
      go_wp2_with (refine sh_set_p rfl rfl (HX.out.get 2 rfl) ?_)
      intro W6 S6 G6
      have HY : Hid (Bag w W6 [(b1, L, d), (b2, zl, SD.zero), (b3, L, { d with p := p })]) := HX.out.put 2 rfl S6 G6
      clear S6 G6 HX
      go_wp2_with (refine sh_set_q rfl rfl (HY.out.get 2 rfl) ?_)
      intro W7 S7 G7
      have HW : Hid (Bag w W7 [(b1, L, d), (b2, zl, SD.zero), (b3, L, { d with p := p, q := q })]) := HY.out.put 2 rfl S7 G7
      clear S7 G7 HY
      go_wp2_with (refine sh_loadg rfl rfl (HW.out.get 2 rfl) ?_)
      refine (implFrame L { d with p := p, q := q } _ (HI.out.t.kept HW.out.bel) s0).mono ?_
      rw [HF.out.2.1]
      obtain ⟨v, hv⟩ : ∃ v, v = wayV p := ⟨_, rfl⟩
      rw [← hv]
      clear hv
      rintro e W8 ⟨rfl, B8⟩
      have HV : Hid (Bag w W8 [(b1, L, d), (b2, zl, SD.zero), (b3, L, { d with p := p, q := q })]) := HW.out.all B8
      clear B8 HW
      go_wp2_with (refine sh_loadg rfl rfl (HV.out.get 0 rfl) ?_)
      refine (implCopy14 L d _ (HI.out.kept HV.out.bel) HSH.out).mono ?_
      rintro e W9 ⟨M, rfl, K, B9⟩
      have HU : Hid (Wkb (fun _ => False) w W9 [(b1, L, d), (b2, zl, SD.zero), (b3, L, { d with p := p, q := q })] M d) := wkb_of HV.out B9 K
      clear K B9 HV
      go_wp2_with (refine sh_store (L := M) (d := d) rfl rfl (HU.out.bag.get 1 rfl) ?_)
      intro WZ SZ GZ
      have HZ : Hid (Wkb (fun _ => False) w WZ [(b1, L, d), (b2, M, d), (b3, L, { d with p := p, q := q })] M d) := HU.out.put 1 rfl SZ GZ
      clear SZ GZ HU
      go_wp2_with fail
      exact bodyPost_ret (ret_shop2 rfl rfl rfl (HZ.out.bag.get 1 rfl)) rfl ⟨M, rfl, HZ.out.post, HZ.out.bag.bel⟩
    · have HF : Hid (shopOk d = true ∧ outerB { d with p := p, q := q } = true ∧ switchedD d p q = reopD { d with p := p, q := q } ∧ switchedC d p q = 0) := ⟨h, h2, by rw [switchedD, if_pos h, if_pos h2], by rw [switchedC, if_pos h, if_pos h2]⟩
      rw [HF.out.2.2.1, HF.out.2.2.2]
      clear h h2
      go_enter Tryz.func30, Tryz.ntmps30
      go_wp2_with (refine sh_box rfl ?_)
      intro W1 b1 e1 S1 B1
      have HA : Hid (Bag w W1 [(b1, L, d)]) := (bag_nil w).add B1 e1 S1
      clear e1 S1 B1
      go_wp2_with (refine sh_alloc ?_)
      intro W2 b2 e2 S2 B2
      have HB : Hid (Bag w W2 [(b1, L, d), (b2, zl, SD.zero)]) := HA.out.add B2 e2 S2
      clear e2 S2 B2 HA
      go_wp2_with (refine sh_loadg rfl rfl (HB.out.get 0 rfl) ?_)
      refine (implShopOk L d _ (HI.out.kept HB.out.bel) HSH.out).mono ?_
      rw [HF.out.1]
      rintro e W3 ⟨rfl, B3⟩
      have HC : Hid (Bag w W3 [(b1, L, d), (b2, zl, SD.zero)]) := HB.out.all B3
      clear B3 HB
      go_wp2_with (first | (refine sh_loadg rfl rfl (HC.out.get 0 rfl) ?_) | (refine sh_alloc ?_))
      intro W4 b3 e4 S4 B4
      have HD : Hid (Bag w W4 [(b1, L, d), (b2, zl, SD.zero), (b3, zl, SD.zero)]) := HC.out.add B4 e4 S4
      clear e4 S4 B4 HC
      go_wp2_with (refine sh_store (L := L) (d := d) rfl rfl (HD.out.get 2 rfl) ?_)
      intro W5 S5 G5
      have HX : Hid (Bag w W5 [(b1, L, d), (b2, zl, SD.zero), (b3, L, d)]) := HD.out.put 2 rfl S5 G5
      clear S5 G5 HD
      go_wp2_with (refine sh_set_p rfl rfl (HX.out.get 2 rfl) ?_)
      intro W6 S6 G6
      have HY : Hid (Bag w W6 [(b1, L, d), (b2, zl, SD.zero), (b3, L, { d with p := p })]) := HX.out.put 2 rfl S6 G6
      clear S6 G6 HX
      go_wp2_with (refine sh_set_q rfl rfl (HY.out.get 2 rfl) ?_)
      intro W7 S7 G7
      have HW : Hid (Bag w W7 [(b1, L, d), (b2, zl, SD.zero), (b3, L, { d with p := p, q := q })]) := HY.out.put 2 rfl S7 G7
      clear S7 G7 HY
      go_wp2_with (refine sh_loadg rfl rfl (HW.out.get 2 rfl) ?_)
      refine (implFrame L { d with p := p, q := q } _ (HI.out.t.kept HW.out.bel) s0).mono ?_
      rw [HF.out.2.1]
      obtain ⟨v, hv⟩ : ∃ v, v = wayV p := ⟨_, rfl⟩
      rw [← hv]
      clear hv
      rintro e W8 ⟨rfl, B8⟩
      have HV : Hid (Bag w W8 [(b1, L, d), (b2, zl, SD.zero), (b3, L, { d with p := p, q := q })]) := HW.out.all B8
      clear B8 HW
      go_wp2_with (refine sh_loadg rfl rfl (HV.out.get 2 rfl) ?_)
      refine (implReopened L { d with p := p, q := q } _ ((HI.out.kept HV.out.bel).nums p q) HSH.out).mono ?_
      rintro e W9 ⟨M, rfl, K, B9⟩
      have HU : Hid (Wkb (fun _ => False) w W9 [(b1, L, d), (b2, zl, SD.zero), (b3, L, { d with p := p, q := q })] M (reopD { d with p := p, q := q })) := wkb_of HV.out B9 K
      clear K B9 HV
      obtain ⟨D9, hD9⟩ : ∃ D9, D9 = reopD { d with p := p, q := q } := ⟨_, rfl⟩
      rw [← hD9] at HU ⊢
      have HD9 : Hid (D9 = reopD { d with p := p, q := q }) := hD9
      clear hD9
      go_wp2_with (refine sh_store (L := M) (d := D9) rfl rfl (HU.out.bag.get 1 rfl) ?_)
      intro WZ SZ GZ
      have HZ : Hid (Wkb (fun _ => False) w WZ [(b1, L, d), (b2, M, D9), (b3, L, { d with p := p, q := q })] M D9) := HU.out.put 1 rfl SZ GZ
      clear SZ GZ HU
      go_wp2_with fail
      exact bodyPost_ret (ret_shop2 rfl rfl rfl (HZ.out.bag.get 1 rfl)) rfl ⟨M, by rw [HD9.out]; rfl, by rw [← HD9.out]; exact HZ.out.post, HZ.out.bag.bel⟩

end Go.Proofs.YtcmeimfjedakeaaGreat.Crew
