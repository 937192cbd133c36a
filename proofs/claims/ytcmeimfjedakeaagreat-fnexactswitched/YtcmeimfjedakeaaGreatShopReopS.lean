/-
  spec.Reopened at every Shop. (Written by wip/tools/gen_shopreop.py.)
-/
import Derived.Test.YtcmeimfjedakeaaGreatShopBegunI
import Derived.Test.YtcmeimfjedakeaaGreatManyNewS
import Derived.Test.YtcmeimfjedakeaaGreatListNew
namespace Go.Proofs.YtcmeimfjedakeaaGreat.Crew
open Go.ChangeShapes Go.WideShapes Go.ChangeAt Go.RowKit

set_option maxRecDepth 100000 in
set_option maxHeartbeats 8000000 in
theorem specReop_no (L : LT) (d : SD) (w : World) (I : Rd w L d) (hs : Short L) (ho : outerB d = false) :
    Calls Tryz.prog 16 #[sv L d] w (ShPost (reopD d) w) := by
  have HI : Hid (Rd w L d) := I
  obtain ⟨s0, s1, s2, s3, s4, s5, s6, s7, s8, s9⟩ := short_parts hs
  have HSH : Hid (Short L) := hs
  clear I hs
  have HF : Hid (outerB d = false ∧ reopD d = SD.zero) := ⟨ho, by rw [reopD, if_neg (by rw [ho]; decide)]⟩
  rw [HF.out.2]
  clear ho
  go_enter Tryz.func16, Tryz.ntmps16
  go_wp2_with (refine sh_box rfl ?_)
  intro W1 b1 e1 S1 B1
  have HA : Hid (Bag w W1 [(b1, L, d)]) := (bag_nil w).add B1 e1 S1
  clear e1 S1 B1
  go_wp2_with (refine sh_alloc ?_)
  intro W2 b2 e2 S2 B2
  have HB : Hid (Bag w W2 [(b1, L, d), (b2, zl, SD.zero)]) := HA.out.add B2 e2 S2
  clear e2 S2 B2 HA
  go_wp2_with (refine sh_loadg rfl rfl (HB.out.get 0 rfl) ?_)
  refine (specOuter L d _ (HI.out.t.kept HB.out.bel) s0).mono ?_
  rw [HF.out.1]
  rintro e W3 ⟨rfl, B3⟩
  have HC : Hid (Bag w W3 [(b1, L, d), (b2, zl, SD.zero)]) := HB.out.all B3
  clear B3 HB
  go_wp2_with (refine sh_store (L := zl) (d := SD.zero) rfl rfl (HC.out.get 1 rfl) ?_)
  intro W4 S4 G4
  have HD : Hid (Bag w W4 [(b1, L, d), (b2, zl, SD.zero)]) := HC.out.put 1 rfl S4 G4
  clear S4 G4 HC
  go_wp2_with fail
  exact bodyPost_ret (ret_shop rfl rfl (HD.out.get 1 rfl)) rfl ⟨zl, rfl, mk_zl _ _ _ _ _ _ _ _ _, HD.out.bel⟩

set_option maxRecDepth 100000 in
set_option maxHeartbeats 8000000 in
theorem specReop_yes (L : LT) (d : SD) (w : World) (I : Rd w L d) (hs : Short L) (ho : outerB d = true) :
    Calls Tryz.prog 16 #[sv L d] w (ShPost (reopD d) w) := by
  have HI : Hid (Rd w L d) := I
  obtain ⟨s0, s1, s2, s3, s4, s5, s6, s7, s8, s9⟩ := short_parts hs
  have HSH : Hid (Short L) := hs
  clear I hs
  have HF : Hid (outerB d = true ∧ reopD d = epoch d) := ⟨ho, by rw [reopD, if_pos ho]⟩
  rw [HF.out.2]
  clear ho
  go_enter Tryz.func16, Tryz.ntmps16
  go_wp2_with (refine sh_box rfl ?_)
  intro W1 b1 e1 S1 B1
  have HA : Hid (Bag w W1 [(b1, L, d)]) := (bag_nil w).add B1 e1 S1
  clear e1 S1 B1
  go_wp2_with (refine sh_alloc ?_)
  intro W2 b2 e2 S2 B2
  have HB : Hid (Bag w W2 [(b1, L, d), (b2, zl, SD.zero)]) := HA.out.add B2 e2 S2
  clear e2 S2 B2 HA
  go_wp2_with (refine sh_loadg rfl rfl (HB.out.get 0 rfl) ?_)
  refine (specOuter L d _ (HI.out.t.kept HB.out.bel) s0).mono ?_
  rw [HF.out.1]
  rintro e W3 ⟨rfl, B3⟩
  have HC : Hid (Bag w W3 [(b1, L, d), (b2, zl, SD.zero)]) := HB.out.all B3
  clear B3 HB
  have HB := HC
  clear HC
  go_upto_region 3 with fail
  go_cut [3] from 8 to 17 (fun s wx => ∃ b g c : Nat, s = .pointer (some ⟨b, 0, none⟩) ∧ Hid (Wkb (fun _ => False) w wx [(b1, L, d), (b2, zl, SD.zero), (b, { zl with t := ⟨some ⟨g, 0, none⟩, L.t.n, c⟩ }, (⟨d.p, d.q, d.t, [], [], [], [], [], [], [], 0, 0, [], [], 0, 0, d.w⟩ : SD))] { zl with t := ⟨some ⟨g, 0, none⟩, L.t.n, c⟩ } (⟨d.p, d.q, d.t, [], [], [], [], [], [], [], 0, 0, [], [], 0, 0, d.w⟩ : SD)))
  case first =>
    refine wp_region_held_drew (S := fun W => Shp W b1 L d) (by kernel_rfl) HB.out.drew.get0 (fun hHeld => ?_)
    refine wpAnyH_take (i := 0) (v := ?g0nv0) rfl (by kernel_rfl) (by kernel_rfl) (by kernel_rfl) (fun _ _ _ h => h) (Or.inl ⟨by kernel_rfl, ?g0nhy0⟩) (by assumption) ?g0nrest0
    case g0nhy0 =>
      intro w hSw
      obtain ⟨c0, c1, c2, c3, c4, c5, c6, c7, c8, c9, c10, c11, c12, c13, c14, c15, c16⟩ := (show Shp w b1 L d from hSw).bx.shop
      go_simp
      try with_reducible rfl
    case' g0nrest0 => try dsimp only [Act.put, List.setIfInBounds_toArray, List.set_cons_zero, List.set_cons_succ]
    refine wpAnyH_take (i := 1) (v := ?g0nv1) rfl (by kernel_rfl) (by kernel_rfl) (by kernel_rfl) (fun _ _ _ h => h) (Or.inl ⟨by kernel_rfl, ?g0nhy1⟩) (by assumption) ?g0nrest1
    case g0nhy1 =>
      intro w hSw
      obtain ⟨c0, c1, c2, c3, c4, c5, c6, c7, c8, c9, c10, c11, c12, c13, c14, c15, c16⟩ := (show Shp w b1 L d from hSw).bx.shop
      go_simp
      try with_reducible rfl
    case' g0nrest1 => try dsimp only [Act.put, List.setIfInBounds_toArray, List.set_cons_zero, List.set_cons_succ]
    refine wpAnyH_take (i := 2) (v := ?g0nv2) rfl (by kernel_rfl) (by kernel_rfl) (by kernel_rfl) (fun _ _ _ h => h) (Or.inl ⟨by kernel_rfl, ?g0nhy2⟩) (by assumption) ?g0nrest2
    case g0nhy2 =>
      intro w hSw
      try simp only [List.getElem_toArray, List.getElem_cons_succ, List.getElem_cons_zero, List.setIfInBounds_toArray, List.set_cons_zero, List.set_cons_succ]
      obtain ⟨c0, c1, c2, c3, c4, c5, c6, c7, c8, c9, c10, c11, c12, c13, c14, c15, c16⟩ := (show Shp w b1 L d from hSw).bx.shop
      go_simp
      try with_reducible rfl
    case' g0nrest2 => try dsimp only [Act.put, List.setIfInBounds_toArray, List.set_cons_zero, List.set_cons_succ]
    refine wpAnyH_take (i := 3) (v := ?g0nv3) rfl (by kernel_rfl) (by kernel_rfl) (by kernel_rfl) (fun _ _ _ h => h) (Or.inl ⟨by kernel_rfl, ?g0nhy3⟩) (by assumption) ?g0nrest3
    case g0nhy3 =>
      intro w hSw
      try simp only [List.getElem_toArray, List.getElem_cons_succ, List.getElem_cons_zero, List.setIfInBounds_toArray, List.set_cons_zero, List.set_cons_succ]
      obtain ⟨c0, c1, c2, c3, c4, c5, c6, c7, c8, c9, c10, c11, c12, c13, c14, c15, c16⟩ := (show Shp w b1 L d from hSw).bx.shop
      go_simp
      try with_reducible rfl
    case' g0nrest3 => try dsimp only [Act.put, List.setIfInBounds_toArray, List.set_cons_zero, List.set_cons_succ]
    refine wpAnyH_take (i := 4) (v := ?g0nv4) rfl (by kernel_rfl) (by kernel_rfl) (by kernel_rfl) (fun _ _ _ h => h) (Or.inl ⟨by kernel_rfl, ?g0nhy4⟩) (by assumption) ?g0nrest4
    case g0nhy4 =>
      intro w hSw
      try simp only [List.getElem_toArray, List.getElem_cons_succ, List.getElem_cons_zero, List.setIfInBounds_toArray, List.set_cons_zero, List.set_cons_succ]
      obtain ⟨c0, c1, c2, c3, c4, c5, c6, c7, c8, c9, c10, c11, c12, c13, c14, c15, c16⟩ := (show Shp w b1 L d from hSw).bx.shop
      go_simp
      try with_reducible rfl
    case' g0nrest4 => try dsimp only [Act.put, List.setIfInBounds_toArray, List.set_cons_zero, List.set_cons_succ]
    refine wpAnyH_take (i := 5) (v := ?g0nv5) rfl (by kernel_rfl) (by kernel_rfl) (by kernel_rfl) (fun _ _ _ h => h) (Or.inl ⟨by kernel_rfl, ?g0nhy5⟩) (by assumption) ?g0nrest5
    case g0nhy5 =>
      intro w hSw
      try simp only [List.getElem_toArray, List.getElem_cons_succ, List.getElem_cons_zero, List.setIfInBounds_toArray, List.set_cons_zero, List.set_cons_succ]
      obtain ⟨c0, c1, c2, c3, c4, c5, c6, c7, c8, c9, c10, c11, c12, c13, c14, c15, c16⟩ := (show Shp w b1 L d from hSw).bx.shop
      go_simp
      try with_reducible rfl
    case' g0nrest5 => try dsimp only [Act.put, List.setIfInBounds_toArray, List.set_cons_zero, List.set_cons_succ]
    refine wpAnyH_take (i := 7) (v := ?g0nv7) rfl (by kernel_rfl) (by kernel_rfl) (by kernel_rfl) (fun _ _ _ h => h) (Or.inl ⟨by kernel_rfl, ?g0nhy7⟩) (by assumption) ?g0nrest7
    case g0nhy7 =>
      intro w hSw
      obtain ⟨c0, c1, c2, c3, c4, c5, c6, c7, c8, c9, c10, c11, c12, c13, c14, c15, c16⟩ := (show Shp w b1 L d from hSw).bx.shop
      go_simp
      try with_reducible rfl
    case' g0nrest7 => try dsimp only [Act.put, List.setIfInBounds_toArray, List.set_cons_zero, List.set_cons_succ]
    refine wpAnyH_take (i := 8) (v := ?g0nv8) rfl (by kernel_rfl) (by kernel_rfl) (by kernel_rfl) (fun _ _ _ h => h) (Or.inl ⟨by kernel_rfl, ?g0nhy8⟩) (by assumption) ?g0nrest8
    case g0nhy8 =>
      intro w hSw
      try simp only [List.getElem_toArray, List.getElem_cons_succ, List.getElem_cons_zero, List.setIfInBounds_toArray, List.set_cons_zero, List.set_cons_succ]
      obtain ⟨c0, c1, c2, c3, c4, c5, c6, c7, c8, c9, c10, c11, c12, c13, c14, c15, c16⟩ := (show Shp w b1 L d from hSw).bx.shop
      go_simp
      try with_reducible rfl
    case' g0nrest8 => try dsimp only [Act.put, List.setIfInBounds_toArray, List.set_cons_zero, List.set_cons_succ]
    refine wpAnyH_ready (rs := [6, 10]) (by kernel_rfl) (by simp) ?_
    refine AllReadyH.cons rfl (fun K hK => ?_) (AllReadyH.cons rfl (fun K hK => ?_) AllReadyH.nil)
    · go_simp
      refine (specCopyT L.t.a L.t.n L.t.c d.t _ (HI.out.t.kept HB.out.drew.bel) s0).mono ?_
      rintro e u ⟨g, c, rfl, R, hg, B⟩
      have HW : Hid (Wkb (fun _ => False) w u [(b1, L, d), (b2, zl, SD.zero)] { zl with t := ⟨some ⟨g, 0, none⟩, L.t.n, c⟩ } (⟨d.p, d.q, d.t, [], [], [], [], [], [], [], 0, 0, [], [], 0, 0, d.w⟩ : SD)) := ((wkb_zl HB.out.drew d.p d.q 0 0 0 0 d.w).put_t B (N := ⟨some ⟨g, 0, none⟩, L.t.n, c⟩) (Rec.row.fit R hg HI.out.t.1))
      clear R hg B
      go_wp2_with fail
      refine hK.out _ _ (HW.out.bag.get 0 rfl) (fun hHeld => ?_)
      clear hK K
      try dsimp only [Act.put, List.setIfInBounds_toArray, List.set_cons_zero, List.set_cons_succ]
      refine wpAnyH_take (i := 9) (v := ?g0nAv9) rfl (by kernel_rfl) (by kernel_rfl) (by kernel_rfl) (fun _ _ _ h => h) (Or.inl ⟨by kernel_rfl, ?g0nAhy9⟩) (by assumption) ?g0nArest9
      case g0nAhy9 =>
        intro w hSw
        skip
        go_simp
        try with_reducible rfl
      case' g0nArest9 => try dsimp only [Act.put, List.setIfInBounds_toArray, List.set_cons_zero, List.set_cons_succ]
      refine wpAnyH_ready (rs := [10]) (by kernel_rfl) (by simp) ?_
      refine AllReadyH.cons rfl (fun K hK => ?_) AllReadyH.nil
      rw [if_pos (by rfl)]
      refine sh_alloc_op rfl ?_
      intro W b e S B
      have HX : Hid (Wkb (fun _ => False) w W [(b1, L, d), (b2, zl, SD.zero), (b, zl, SD.zero)] { zl with t := ⟨some ⟨g, 0, none⟩, L.t.n, c⟩ } (⟨d.p, d.q, d.t, [], [], [], [], [], [], [], 0, 0, [], [], 0, 0, d.w⟩ : SD)) := HW.out.add B e S
      clear e S B HW
      refine hK.out _ _ (HX.out.bag.get 0 rfl) (fun hHeld => ?_)
      clear hK K
      try dsimp only [Act.put, List.setIfInBounds_toArray, List.set_cons_zero, List.set_cons_succ]
      refine wpAnyH_ready (rs := [11]) (by kernel_rfl) (by simp) ?_
      refine AllReadyH.cons rfl (fun K hK => ?_) AllReadyH.nil
      rw [if_pos (by rfl)]
      refine sh_store_op (L := { zl with t := ⟨some ⟨g, 0, none⟩, L.t.n, c⟩ }) (d := (⟨d.p, d.q, d.t, [], [], [], [], [], [], [], 0, 0, [], [], 0, 0, d.w⟩ : SD)) rfl rfl rfl (HX.out.bag.get 2 rfl) ?_
      intro W' S G
      have HY : Hid (Wkb (fun _ => False) w W' [(b1, L, d), (b2, zl, SD.zero), (b, { zl with t := ⟨some ⟨g, 0, none⟩, L.t.n, c⟩ }, (⟨d.p, d.q, d.t, [], [], [], [], [], [], [], 0, 0, [], [], 0, 0, d.w⟩ : SD))] { zl with t := ⟨some ⟨g, 0, none⟩, L.t.n, c⟩ } (⟨d.p, d.q, d.t, [], [], [], [], [], [], [], 0, 0, [], [], 0, 0, d.w⟩ : SD)) := HX.out.put 2 rfl S G
      clear S G HX
      refine hK.out _ _ (HY.out.bag.get 0 rfl) (fun hHeld => ?_)
      clear hK K
      try dsimp only [Act.put, List.setIfInBounds_toArray, List.set_cons_zero, List.set_cons_succ]
      refine wpAnyH_done (by kernel_rfl) ?_ _
      simp only [List.getElem_toArray, List.getElem_cons_succ, List.getElem_cons_zero, List.setIfInBounds_toArray, List.set_cons_zero, List.set_cons_succ]
      clear hHeld
      go_wp2_with fail
      go_meet
      exact ⟨b, g, c, rfl, HY⟩
    · rw [if_pos (by rfl)]
      refine sh_alloc_op rfl ?_
      intro W b e S B
      have HV : Hid (Bag w W [(b1, L, d), (b2, zl, SD.zero), (b, zl, SD.zero)]) := HB.out.drew.add B e S
      clear e S B
      refine hK.out _ _ (HV.out.get 0 rfl) (fun hHeld => ?_)
      clear hK K
      try dsimp only [Act.put, List.setIfInBounds_toArray, List.set_cons_zero, List.set_cons_succ]
      refine wpAnyH_ready (rs := [6]) (by kernel_rfl) (by simp) ?_
      refine AllReadyH.cons rfl (fun K hK => ?_) AllReadyH.nil
      go_simp
      refine (specCopyT L.t.a L.t.n L.t.c d.t _ (HI.out.t.kept HV.out.bel) s0).mono ?_
      rintro e u ⟨g, c, rfl, R, hg, B⟩
      have HX : Hid (Wkb (fun _ => False) w u [(b1, L, d), (b2, zl, SD.zero), (b, zl, SD.zero)] { zl with t := ⟨some ⟨g, 0, none⟩, L.t.n, c⟩ } (⟨d.p, d.q, d.t, [], [], [], [], [], [], [], 0, 0, [], [], 0, 0, d.w⟩ : SD)) := ((wkb_zl HV.out d.p d.q 0 0 0 0 d.w).put_t B (N := ⟨some ⟨g, 0, none⟩, L.t.n, c⟩) (Rec.row.fit R hg HI.out.t.1))
      clear R hg B HV
      go_wp2_with fail
      refine hK.out _ _ (HX.out.bag.get 0 rfl) (fun hHeld => ?_)
      clear hK K
      try dsimp only [Act.put, List.setIfInBounds_toArray, List.set_cons_zero, List.set_cons_succ]
      refine wpAnyH_take (i := 9) (v := ?g0nBv9) rfl (by kernel_rfl) (by kernel_rfl) (by kernel_rfl) (fun _ _ _ h => h) (Or.inl ⟨by kernel_rfl, ?g0nBhy9⟩) (by assumption) ?g0nBrest9
      case g0nBhy9 =>
        intro w hSw
        skip
        go_simp
        try with_reducible rfl
      case' g0nBrest9 => try dsimp only [Act.put, List.setIfInBounds_toArray, List.set_cons_zero, List.set_cons_succ]
      refine wpAnyH_ready (rs := [11]) (by kernel_rfl) (by simp) ?_
      refine AllReadyH.cons rfl (fun K hK => ?_) AllReadyH.nil
      rw [if_pos (by rfl)]
      refine sh_store_op (L := { zl with t := ⟨some ⟨g, 0, none⟩, L.t.n, c⟩ }) (d := (⟨d.p, d.q, d.t, [], [], [], [], [], [], [], 0, 0, [], [], 0, 0, d.w⟩ : SD)) rfl rfl rfl (HX.out.bag.get 2 rfl) ?_
      intro W' S G
      have HY : Hid (Wkb (fun _ => False) w W' [(b1, L, d), (b2, zl, SD.zero), (b, { zl with t := ⟨some ⟨g, 0, none⟩, L.t.n, c⟩ }, (⟨d.p, d.q, d.t, [], [], [], [], [], [], [], 0, 0, [], [], 0, 0, d.w⟩ : SD))] { zl with t := ⟨some ⟨g, 0, none⟩, L.t.n, c⟩ } (⟨d.p, d.q, d.t, [], [], [], [], [], [], [], 0, 0, [], [], 0, 0, d.w⟩ : SD)) := HX.out.put 2 rfl S G
      clear S G HX
      refine hK.out _ _ (HY.out.bag.get 0 rfl) (fun hHeld => ?_)
      clear hK K
      try dsimp only [Act.put, List.setIfInBounds_toArray, List.set_cons_zero, List.set_cons_succ]
      refine wpAnyH_done (by kernel_rfl) ?_ _
      simp only [List.getElem_toArray, List.getElem_cons_succ, List.getElem_cons_zero, List.setIfInBounds_toArray, List.set_cons_zero, List.set_cons_succ]
      clear hHeld
      go_wp2_with fail
      go_meet
      exact ⟨b, g, c, rfl, HY⟩
  case rest =>
    obtain ⟨b, g, c, rfl, H⟩ := hcut
    clear HB
    obtain ⟨M1, hM1⟩ : ∃ M' : LT, M' = { zl with t := ⟨some ⟨g, 0, none⟩, L.t.n, c⟩ } := ⟨_, rfl⟩
    obtain ⟨D1, hD1⟩ : ∃ D' : SD, D' = (⟨d.p, d.q, d.t, [], [], [], [], [], [], [], 0, 0, [], [], 0, 0, d.w⟩ : SD) := ⟨_, rfl⟩
    rw [← hM1, ← hD1] at H
    have HD1 : Hid (D1 = (⟨d.p, d.q, d.t, [], [], [], [], [], [], [], 0, 0, [], [], 0, 0, d.w⟩ : SD)) := hD1
    clear hM1 hD1
    have q2 := (H.out.bag.get 0 rfl).bx.shop.2.2.1
    go_wp2_with fail
    refine (specReadyOf L.t.a L.t.n L.t.c d.t _ (HI.out.t.kept H.out.bag.bel) s0).mono ?_
    rintro e W5 ⟨g2, n2, c2, rfl, R2, B2⟩
    clear q2
    have H2 : Hid (Wkb (fun _ => False) w W5 [(b1, L, d), (b2, zl, SD.zero), (b, M1, D1)] { M1 with m := ⟨some ⟨g2, 0, none⟩, n2, c2⟩ } { D1 with m := rdyL d.t }) := H.out.put_m B2 R2
    clear R2 B2 H
    go_wp2_with (refine sh_set_m rfl rfl (H2.out.bag.get 2 rfl) ?_)
    intro W6 S6 G6
    have H3 : Hid (Wkb (fun _ => False) w W6 [(b1, L, d), (b2, zl, SD.zero), (b, { M1 with m := ⟨some ⟨g2, 0, none⟩, n2, c2⟩ }, { D1 with m := rdyL d.t })] { M1 with m := ⟨some ⟨g2, 0, none⟩, n2, c2⟩ } { D1 with m := rdyL d.t }) := H2.out.put 2 rfl S6 G6
    clear S6 G6 H2
    obtain ⟨M2, hM2⟩ : ∃ M' : LT, M' = { M1 with m := ⟨some ⟨g2, 0, none⟩, n2, c2⟩ } := ⟨_, rfl⟩
    obtain ⟨D2, hD2⟩ : ∃ D' : SD, D' = { D1 with m := rdyL d.t } := ⟨_, rfl⟩
    rw [← hM2, ← hD2] at H3
    have HD2 : Hid (D2 = { (⟨d.p, d.q, d.t, [], [], [], [], [], [], [], 0, 0, [], [], 0, 0, d.w⟩ : SD) with m := rdyL d.t }) := by show _ = _; rw [hD2, HD1.out]
    clear hM2 hD2 HD1
    have q2 := (H3.out.bag.get 0 rfl).bx.shop.2.2.1
    have q3 := (H3.out.bag.get 2 rfl).bx.shop.2.2.2.1
    go_wp2_with fail
    have J : Ints W6 M2.m.a M2.m.n (rdyL d.t) := by have := H3.out.own.m.ints; rw [HD2.out] at this; exact this
    have hml : M2.m.n ≤ 24 := by have h1 := J.1; have h2 := rdy_len d.t; omega
    have HML : Hid ((rdyL d.t).length = M2.m.n) := J.1
    refine (specCw L.t.a L.t.n L.t.c d.t M2.m.a M2.m.n M2.m.c (rdyL d.t) _ (HI.out.t.kept H3.out.bag.bel) J s0 (by omega) (fun k hk => members_there rfl (by rw [HML.out]; exact hk))).mono ?_
    rintro e W7 ⟨g3, c3, rfl, R3, hg3, B3⟩
    clear q2 q3 J
    have H4 : Hid (Wkb (fun _ => False) w W7 [(b1, L, d), (b2, zl, SD.zero), (b, M2, D2)] { M2 with c := ⟨some ⟨g3, 0, none⟩, M2.m.n, c3⟩ } { D2 with c := cw d.t (rdyL d.t) }) := H3.out.put_c B3 (N := ⟨some ⟨g3, 0, none⟩, M2.m.n, c3⟩) (Row.fit R3 hg3 (by rw [cw_len]; exact HML.out))
    clear R3 hg3 B3 H3
    go_wp2_with (refine sh_set_c rfl rfl (H4.out.bag.get 2 rfl) ?_)
    intro W8 S8 G8
    have H5 : Hid (Wkb (fun _ => False) w W8 [(b1, L, d), (b2, zl, SD.zero), (b, { M2 with c := ⟨some ⟨g3, 0, none⟩, M2.m.n, c3⟩ }, { D2 with c := cw d.t (rdyL d.t) })] { M2 with c := ⟨some ⟨g3, 0, none⟩, M2.m.n, c3⟩ } { D2 with c := cw d.t (rdyL d.t) }) := H4.out.put 2 rfl S8 G8
    clear S8 G8 H4
    have hmn : { M2 with c := ⟨some ⟨g3, 0, none⟩, M2.m.n, c3⟩ }.m.n = M2.m.n := rfl
    obtain ⟨M3, hM3⟩ : ∃ M' : LT, M' = { M2 with c := ⟨some ⟨g3, 0, none⟩, M2.m.n, c3⟩ } := ⟨_, rfl⟩
    obtain ⟨D3, hD3⟩ : ∃ D' : SD, D' = { D2 with c := cw d.t (rdyL d.t) } := ⟨_, rfl⟩
    rw [← hM3] at hmn
    rw [← hM3, ← hD3] at H5
    have HD3 : Hid (D3 = epo d) := by show _ = _; rw [hD3, HD2.out]; rfl
    rw [← hmn] at hml HML
    clear hM3 hD3 HD2 hmn
    have q3 := (H5.out.bag.get 2 rfl).bx.shop.2.2.2.1
    by_cases hz : M3.m.n = 0
    · have hbz : ((M3.m.n : Int) == (0 : Int)) = true := by simp [hz]
      have HE : Hid (epoch d = D3) := by show _ = _; rw [epoch, if_pos (by rw [HML.out]; exact hz), HD3.out]
      clear hz
      go_wp2_with (first | (refine sh_loadg rfl rfl (H5.out.bag.get 2 rfl) ?_) | (refine sh_store (L := M3) (d := D3) rfl rfl (H5.out.bag.get 1 rfl) ?_))
      intro W9 S9 G9
      have H6 : Hid (Wkb (fun _ => False) w W9 [(b1, L, d), (b2, M3, D3), (b, M3, D3)] M3 D3) := H5.out.put 1 rfl S9 G9
      clear S9 G9 H5
      go_wp2_with fail
      exact bodyPost_ret (ret_shop rfl rfl (H6.out.bag.get 1 rfl)) rfl ⟨M3, by rw [HE.out], by rw [HE.out]; exact H6.out.post, H6.out.bag.bel⟩
    · have hbz : ((M3.m.n : Int) == (0 : Int)) = false := by simp; omega
      have HZ : Hid (¬ (rdyL d.t).length = 0) := by show ¬ _; rw [HML.out]; exact hz
      have hm := made_ints M3.m.n (by omega) W8
      have q0 := (H5.out.bag.get 0 rfl).bx.shop.1
      go_wp2_with (refine sh_set_n rfl rfl ((H5.out.bag.get 2 rfl).all (below_new _ _)) ?_)
      intro W9 S9 G9
      have H6 : Hid (Wkb (fun _ => False) w (W8.alloc (.cells (zeros M3.m.n) 2)) [(b1, L, d), (b2, zl, SD.zero), (b, M3, D3)] { M3 with n := ⟨some ⟨W8.heap.size, 0, none⟩, M3.m.n, M3.m.n⟩ } { D3 with n := List.replicate M3.m.n 0 }) := H5.out.put_n (below_new _ _) (N := ⟨some ⟨W8.heap.size, 0, none⟩, M3.m.n, M3.m.n⟩) (Row.fit (row_zeros W8 M3.m.n (by omega)) (Nat.le_refl _) (List.length_replicate ..))
      have H7 : Hid (Wkb (fun _ => False) w W9 [(b1, L, d), (b2, zl, SD.zero), (b, { M3 with n := ⟨some ⟨W8.heap.size, 0, none⟩, M3.m.n, M3.m.n⟩ }, { D3 with n := List.replicate M3.m.n 0 })] { M3 with n := ⟨some ⟨W8.heap.size, 0, none⟩, M3.m.n, M3.m.n⟩ } { D3 with n := List.replicate M3.m.n 0 }) := H6.out.put 2 rfl S9 G9
      clear S9 G9 H6 H5 q3 q0 hm hbz hz
      obtain ⟨M4, hM4⟩ : ∃ M' : LT, M' = { M3 with n := ⟨some ⟨W8.heap.size, 0, none⟩, M3.m.n, M3.m.n⟩ } := ⟨_, rfl⟩
      obtain ⟨D4, hD4⟩ : ∃ D' : SD, D' = { D3 with n := List.replicate M3.m.n 0 } := ⟨_, rfl⟩
      rw [← hM4, ← hD4] at H7
      have HD4 : Hid (D4 = epoN d) := by show _ = _; rw [hD4, HD3.out, ← HML.out]; rfl
      clear hM4 hD4 HD3
      have q0 := (H7.out.bag.get 0 rfl).bx.shop.1
      have q1 := (H7.out.bag.get 0 rfl).bx.shop.2.1
      have q4 := (H7.out.bag.get 2 rfl).bx.shop.2.2.2.2.1
      have J4 : Ints W9 M4.c.a M4.c.n (cw d.t (rdyL d.t)) := by have := H7.out.own.c.ints; rw [HD4.out] at this; exact this
      have hcl : M4.c.n ≤ 24 := by have h1 := J4.1; rw [cw_len] at h1; have h2 := rdy_len d.t; omega
      have HJ4 : Hid (Ints W9 M4.c.a M4.c.n (cw d.t (rdyL d.t))) := J4
      clear J4
      by_cases h1 : d.p = 1
      · have hp1 : (d.p == (1 : Int)) = true := by simp; omega
        have HEP : Hid (epoch d = { epoN d with s := newC (cw d.t (rdyL d.t)), r := newR (cw d.t (rdyL d.t)) }) := by show _ = _; rw [epoch, if_neg HZ.out, if_pos h1]
        clear h1
        go_wp2_with fail
        refine (specNew M4.c.a M4.c.n M4.c.c (cw d.t (rdyL d.t)) _ HJ4.out (by omega)).mono ?_
        rintro e WA ⟨v1, l1, k1, v2, l2, k2, rfl, F1, F2, AP, BA⟩
        have H8 : Hid (Wkb (fun _ => False) w WA [(b1, L, d), (b2, zl, SD.zero), (b, M4, D4)] { M4 with s := ⟨v1, l1, k1⟩, r := ⟨v2, l2, k2⟩ } { D4 with s := newC (cw d.t (rdyL d.t)), r := newR (cw d.t (rdyL d.t)) }) := H7.out.put_sr BA (N := ⟨v1, l1, k1⟩) (N2 := ⟨v2, l2, k2⟩) F1 F2 AP
        clear F1 F2 AP BA H7 q0 q1 q4
        go_wp2_with (refine sh_set_sm rfl rfl (H8.out.bag.get 2 rfl) ?_)
        intro WB SB GB
        have H9 : Hid (Wkb (fun _ => False) w WB [(b1, L, d), (b2, zl, SD.zero), (b, { M4 with s := ⟨v1, l1, k1⟩, r := ⟨v2, l2, k2⟩ }, { D4 with s := newC (cw d.t (rdyL d.t)), r := newR (cw d.t (rdyL d.t)) })] { M4 with s := ⟨v1, l1, k1⟩, r := ⟨v2, l2, k2⟩ } { D4 with s := newC (cw d.t (rdyL d.t)), r := newR (cw d.t (rdyL d.t)) }) := H8.out.put 2 rfl SB GB
        clear SB GB H8
        obtain ⟨M5, hM5⟩ : ∃ M' : LT, M' = { M4 with s := ⟨v1, l1, k1⟩, r := ⟨v2, l2, k2⟩ } := ⟨_, rfl⟩
        obtain ⟨D5, hD5⟩ : ∃ D' : SD, D' = { D4 with s := newC (cw d.t (rdyL d.t)), r := newR (cw d.t (rdyL d.t)) } := ⟨_, rfl⟩
        rw [← hM5, ← hD5] at H9
        have HE : Hid (epoch d = D5) := by show _ = _; rw [HEP.out, hD5, HD4.out]
        clear hM5 hD5
        go_wp2_with (first | (refine sh_loadg rfl rfl (H9.out.bag.get 2 rfl) ?_) | (refine sh_store (L := M5) (d := D5) rfl rfl (H9.out.bag.get 1 rfl) ?_))
        intro WC S9 G9
        have HX : Hid (Wkb (fun _ => False) w WC [(b1, L, d), (b2, M5, D5), (b, M5, D5)] M5 D5) := H9.out.put 1 rfl S9 G9
        clear S9 G9 H9
        go_wp2_with fail
        exact bodyPost_ret (ret_shop rfl rfl (HX.out.bag.get 1 rfl)) rfl ⟨M5, by rw [HE.out], by rw [HE.out]; exact HX.out.post, HX.out.bag.bel⟩
      by_cases h3 : d.p = 3
      · have hp1 : (d.p == (1 : Int)) = false := by simp; omega
        have hp3 : (d.p == (3 : Int)) = true := by simp; omega
        have HEP : Hid (epoch d = { epoN d with l := newC (cw d.t (rdyL d.t)), h := newR (cw d.t (rdyL d.t)) }) := by show _ = _; rw [epoch, if_neg HZ.out, if_neg h1, if_pos h3]
        clear h1 h3
        go_wp2_with fail
        refine (specNewL M4.c.a M4.c.n M4.c.c (cw d.t (rdyL d.t)) _ HJ4.out (by omega)).mono ?_
        rintro e WA ⟨v1, l1, k1, v2, l2, k2, rfl, F1, F2, AP, BA⟩
        have H8 : Hid (Wkb (fun _ => False) w WA [(b1, L, d), (b2, zl, SD.zero), (b, M4, D4)] { M4 with l := ⟨v1, l1, k1⟩, h := ⟨v2, l2, k2⟩ } { D4 with l := newC (cw d.t (rdyL d.t)), h := newR (cw d.t (rdyL d.t)) }) := H7.out.put_lh BA (N := ⟨v1, l1, k1⟩) (N2 := ⟨v2, l2, k2⟩) F1 F2 AP
        clear F1 F2 AP BA H7 q0 q1 q4
        go_wp2_with (refine sh_set_ls rfl rfl (H8.out.bag.get 2 rfl) ?_)
        intro WB SB GB
        have H9 : Hid (Wkb (fun _ => False) w WB [(b1, L, d), (b2, zl, SD.zero), (b, { M4 with l := ⟨v1, l1, k1⟩, h := ⟨v2, l2, k2⟩ }, { D4 with l := newC (cw d.t (rdyL d.t)), h := newR (cw d.t (rdyL d.t)), lt := 0, la := 0 })] { M4 with l := ⟨v1, l1, k1⟩, h := ⟨v2, l2, k2⟩ } { D4 with l := newC (cw d.t (rdyL d.t)), h := newR (cw d.t (rdyL d.t)), lt := 0, la := 0 }) := (H8.out.nums D4.p D4.q 0 0 D4.yq D4.yt D4.w).put 2 rfl SB GB
        clear SB GB H8
        obtain ⟨M5, hM5⟩ : ∃ M' : LT, M' = { M4 with l := ⟨v1, l1, k1⟩, h := ⟨v2, l2, k2⟩ } := ⟨_, rfl⟩
        obtain ⟨D5, hD5⟩ : ∃ D' : SD, D' = { D4 with l := newC (cw d.t (rdyL d.t)), h := newR (cw d.t (rdyL d.t)), lt := 0, la := 0 } := ⟨_, rfl⟩
        rw [← hM5, ← hD5] at H9
        have HE : Hid (epoch d = D5) := by show _ = _; rw [HEP.out, hD5, HD4.out]; rfl
        clear hM5 hD5
        go_wp2_with (first | (refine sh_loadg rfl rfl (H9.out.bag.get 2 rfl) ?_) | (refine sh_store (L := M5) (d := D5) rfl rfl (H9.out.bag.get 1 rfl) ?_))
        intro WC S9 G9
        have HX : Hid (Wkb (fun _ => False) w WC [(b1, L, d), (b2, M5, D5), (b, M5, D5)] M5 D5) := H9.out.put 1 rfl S9 G9
        clear S9 G9 H9
        go_wp2_with fail
        exact bodyPost_ret (ret_shop rfl rfl (HX.out.bag.get 1 rfl)) rfl ⟨M5, by rw [HE.out], by rw [HE.out]; exact HX.out.post, HX.out.bag.bel⟩
      by_cases h5 : d.p = 5
      · have hp1 : (d.p == (1 : Int)) = false := by simp; omega
        have hp3 : (d.p == (3 : Int)) = false := by simp; omega
        have hp5 : (d.p == (5 : Int)) = true := by simp; omega
        have HEP : Hid (epoch d = { epoN d with y := nmS (adjusted (cw d.t (rdyL d.t)) d.q) d.q, z := nmN (adjusted (cw d.t (rdyL d.t)) d.q) d.q, yq := nmQ (adjusted (cw d.t (rdyL d.t)) d.q) d.q }) := by show _ = _; rw [epoch, if_neg HZ.out, if_neg h1, if_neg h3, if_pos h5]
        clear h1 h3 h5
        go_upto_region 15 with fail
        have HD0 : Hid (Wkb (fun _ => False) w W9.drew [(b1, L, d), (b2, zl, SD.zero), (b, M4, D4)] M4 D4) := H7.out.drew
        have HJ5 : Hid (Ints W9.drew M4.c.a M4.c.n (cw d.t (rdyL d.t))) := HJ4.out.drew
        clear H7 q0 q1 q4
        refine wp_region_held_drew (S := fun W => Shp W b1 L d ∧ W.cell? ⟨b, 4, none⟩ = some M4.c.v) (by kernel_rfl) ⟨HD0.out.bag.get 0 rfl, (HD0.out.bag.get 2 rfl).bx.shop.2.2.2.2.1⟩ (fun hHeld => ?_)
        refine wpAnyH_take (i := 0) (v := ?b1nv0) rfl (by kernel_rfl) (by kernel_rfl) (by kernel_rfl) (fun _ _ _ h => h) (Or.inl ⟨by kernel_rfl, ?b1nhy0⟩) (by assumption) ?b1nrest0
        case b1nhy0 =>
          intro w hSw
          obtain ⟨c0, c1, c2, c3, c4, c5, c6, c7, c8, c9, c10, c11, c12, c13, c14, c15, c16⟩ := (show Shp w b1 L d from hSw.1).bx.shop; have k4 := hSw.2
          go_simp
          try with_reducible rfl
        case' b1nrest0 => try dsimp only [Act.put, List.setIfInBounds_toArray, List.set_cons_zero, List.set_cons_succ]
        refine wpAnyH_take (i := 1) (v := ?b1nv1) rfl (by kernel_rfl) (by kernel_rfl) (by kernel_rfl) (fun _ _ _ h => h) (Or.inl ⟨by kernel_rfl, ?b1nhy1⟩) (by assumption) ?b1nrest1
        case b1nhy1 =>
          intro w hSw
          obtain ⟨c0, c1, c2, c3, c4, c5, c6, c7, c8, c9, c10, c11, c12, c13, c14, c15, c16⟩ := (show Shp w b1 L d from hSw.1).bx.shop; have k4 := hSw.2
          go_simp
          try with_reducible rfl
        case' b1nrest1 => try dsimp only [Act.put, List.setIfInBounds_toArray, List.set_cons_zero, List.set_cons_succ]
        refine wpAnyH_take (i := 2) (v := ?b1nv2) rfl (by kernel_rfl) (by kernel_rfl) (by kernel_rfl) (fun _ _ _ h => h) (Or.inl ⟨by kernel_rfl, ?b1nhy2⟩) (by assumption) ?b1nrest2
        case b1nhy2 =>
          intro w hSw
          try simp only [List.getElem_toArray, List.getElem_cons_succ, List.getElem_cons_zero, List.setIfInBounds_toArray, List.set_cons_zero, List.set_cons_succ]
          obtain ⟨c0, c1, c2, c3, c4, c5, c6, c7, c8, c9, c10, c11, c12, c13, c14, c15, c16⟩ := (show Shp w b1 L d from hSw.1).bx.shop; have k4 := hSw.2
          go_simp
          try with_reducible rfl
        case' b1nrest2 => try dsimp only [Act.put, List.setIfInBounds_toArray, List.set_cons_zero, List.set_cons_succ]
        refine wpAnyH_take (i := 3) (v := ?b1nv3) rfl (by kernel_rfl) (by kernel_rfl) (by kernel_rfl) (fun _ _ _ h => h) (Or.inl ⟨by kernel_rfl, ?b1nhy3⟩) (by assumption) ?b1nrest3
        case b1nhy3 =>
          intro w hSw
          try simp only [List.getElem_toArray, List.getElem_cons_succ, List.getElem_cons_zero, List.setIfInBounds_toArray, List.set_cons_zero, List.set_cons_succ]
          obtain ⟨c0, c1, c2, c3, c4, c5, c6, c7, c8, c9, c10, c11, c12, c13, c14, c15, c16⟩ := (show Shp w b1 L d from hSw.1).bx.shop; have k4 := hSw.2
          go_simp
          try with_reducible rfl
        case' b1nrest3 => try dsimp only [Act.put, List.setIfInBounds_toArray, List.set_cons_zero, List.set_cons_succ]
        refine wpAnyH_take (i := 5) (v := ?b1nv5) rfl (by kernel_rfl) (by kernel_rfl) (by kernel_rfl) (fun _ _ _ h => h) (Or.inl ⟨by kernel_rfl, ?b1nhy5⟩) (by assumption) ?b1nrest5
        case b1nhy5 =>
          intro w hSw
          try simp only [List.getElem_toArray, List.getElem_cons_succ, List.getElem_cons_zero, List.setIfInBounds_toArray, List.set_cons_zero, List.set_cons_succ]
          obtain ⟨c0, c1, c2, c3, c4, c5, c6, c7, c8, c9, c10, c11, c12, c13, c14, c15, c16⟩ := (show Shp w b1 L d from hSw.1).bx.shop; have k4 := hSw.2
          go_simp
          try with_reducible rfl
        case' b1nrest5 => try dsimp only [Act.put, List.setIfInBounds_toArray, List.set_cons_zero, List.set_cons_succ]
        refine wpAnyH_take (i := 6) (v := ?b1nv6) rfl (by kernel_rfl) (by kernel_rfl) (by kernel_rfl) (fun _ _ _ h => h) (Or.inl ⟨by kernel_rfl, ?b1nhy6⟩) (by assumption) ?b1nrest6
        case b1nhy6 =>
          intro w hSw
          try simp only [List.getElem_toArray, List.getElem_cons_succ, List.getElem_cons_zero, List.setIfInBounds_toArray, List.set_cons_zero, List.set_cons_succ]
          obtain ⟨c0, c1, c2, c3, c4, c5, c6, c7, c8, c9, c10, c11, c12, c13, c14, c15, c16⟩ := (show Shp w b1 L d from hSw.1).bx.shop; have k4 := hSw.2
          go_simp
          try with_reducible rfl
        case' b1nrest6 => try dsimp only [Act.put, List.setIfInBounds_toArray, List.set_cons_zero, List.set_cons_succ]
        refine wpAnyH_ready (rs := [4]) (by kernel_rfl) (by simp) ?_
        refine AllReadyH.cons rfl (fun K hK => ?_) AllReadyH.nil
        go_simp
        refine (specAdj M4.c.a M4.c.n M4.c.c (cw d.t (rdyL d.t)) d.q _ HJ5.out (by omega)).mono ?_
        rintro e u ⟨ga, ca, rfl, RA, hga, BA⟩
        have H8 : Hid (Wkb (fun _ => False) w u [(b1, L, d), (b2, zl, SD.zero), (b, M4, D4)] M4 D4 ∧ SRow u ga ca (adjusted (cw d.t (rdyL d.t)) d.q)) := ⟨HD0.out.all BA, RA⟩
        clear BA RA hga HD0
        have SX : (fun W => Shp W b1 L d ∧ W.cell? ⟨b, 4, none⟩ = some M4.c.v) u := ⟨H8.out.1.bag.get 0 rfl, (H8.out.1.bag.get 2 rfl).bx.shop.2.2.2.2.1⟩

        go_wp2_with fail
        refine hK.out _ _ SX (fun hHeld => ?_)
        clear hK K
        try dsimp only [Act.put, List.setIfInBounds_toArray, List.set_cons_zero, List.set_cons_succ]
        refine wpAnyH_ready (rs := [7]) (by kernel_rfl) (by simp) ?_
        refine AllReadyH.cons rfl (fun K hK => ?_) AllReadyH.nil
        go_simp
        refine (specNewM (some ⟨ga, 0, none⟩) (adjusted (cw d.t (rdyL d.t)) d.q).length ca (adjusted (cw d.t (rdyL d.t)) d.q) d.q _ H8.out.2.shs (by have := adjusted_len (cw d.t (rdyL d.t)) d.q; have := cw_len d.t (rdyL d.t); have := rdy_len d.t; omega)).mono ?_
        rintro e u2 ⟨v1, l1, k1, v2, l2, k2, rfl, F1, F2, AP, BA⟩
        have H9 : Hid (Wkb (fun _ => False) w u2 [(b1, L, d), (b2, zl, SD.zero), (b, M4, D4)] { M4 with y := ⟨v1, l1, k1⟩, z := ⟨v2, l2, k2⟩ } { D4 with y := nmS (adjusted (cw d.t (rdyL d.t)) d.q) d.q, z := nmN (adjusted (cw d.t (rdyL d.t)) d.q) d.q }) := H8.out.1.put_yz BA (N := ⟨v1, l1, k1⟩) (N2 := ⟨v2, l2, k2⟩) F1 F2 AP
        clear F1 F2 AP BA H8
        have SX : (fun W => Shp W b1 L d ∧ W.cell? ⟨b, 4, none⟩ = some M4.c.v) u2 := ⟨H9.out.bag.get 0 rfl, (H9.out.bag.get 2 rfl).bx.shop.2.2.2.2.1⟩

        go_wp2_with fail
        refine hK.out _ _ SX (fun hHeld => ?_)
        clear hK K
        try dsimp only [Act.put, List.setIfInBounds_toArray, List.set_cons_zero, List.set_cons_succ]
        refine wpAnyH_take (i := 8) (v := ?b1nv8) rfl (by kernel_rfl) (by kernel_rfl) (by kernel_rfl) (fun _ _ _ h => h) (Or.inl ⟨by kernel_rfl, ?b1nhy8⟩) (by assumption) ?b1nrest8
        case b1nhy8 =>
          intro w hSw
          obtain ⟨c0, c1, c2, c3, c4, c5, c6, c7, c8, c9, c10, c11, c12, c13, c14, c15, c16⟩ := (show Shp w b1 L d from hSw.1).bx.shop; have k4 := hSw.2
          go_simp
          try with_reducible rfl
        case' b1nrest8 => try dsimp only [Act.put, List.setIfInBounds_toArray, List.set_cons_zero, List.set_cons_succ]
        refine wpAnyH_take (i := 9) (v := ?b1nv9) rfl (by kernel_rfl) (by kernel_rfl) (by kernel_rfl) (fun _ _ _ h => h) (Or.inl ⟨by kernel_rfl, ?b1nhy9⟩) (by assumption) ?b1nrest9
        case b1nhy9 =>
          intro w hSw
          try simp only [List.getElem_toArray, List.getElem_cons_succ, List.getElem_cons_zero, List.setIfInBounds_toArray, List.set_cons_zero, List.set_cons_succ]
          obtain ⟨c0, c1, c2, c3, c4, c5, c6, c7, c8, c9, c10, c11, c12, c13, c14, c15, c16⟩ := (show Shp w b1 L d from hSw.1).bx.shop; have k4 := hSw.2
          go_simp
          try with_reducible rfl
        case' b1nrest9 => try dsimp only [Act.put, List.setIfInBounds_toArray, List.set_cons_zero, List.set_cons_succ]
        refine wpAnyH_take (i := 10) (v := ?b1nv10) rfl (by kernel_rfl) (by kernel_rfl) (by kernel_rfl) (fun _ _ _ h => h) (Or.inl ⟨by kernel_rfl, ?b1nhy10⟩) (by assumption) ?b1nrest10
        case b1nhy10 =>
          intro w hSw
          try simp only [List.getElem_toArray, List.getElem_cons_succ, List.getElem_cons_zero, List.setIfInBounds_toArray, List.set_cons_zero, List.set_cons_succ]
          obtain ⟨c0, c1, c2, c3, c4, c5, c6, c7, c8, c9, c10, c11, c12, c13, c14, c15, c16⟩ := (show Shp w b1 L d from hSw.1).bx.shop; have k4 := hSw.2
          go_simp
          try with_reducible rfl
        case' b1nrest10 => try dsimp only [Act.put, List.setIfInBounds_toArray, List.set_cons_zero, List.set_cons_succ]
        refine wpAnyH_take (i := 11) (v := ?b1nv11) rfl (by kernel_rfl) (by kernel_rfl) (by kernel_rfl) (fun _ _ _ h => h) (Or.inl ⟨by kernel_rfl, ?b1nhy11⟩) (by assumption) ?b1nrest11
        case b1nhy11 =>
          intro w hSw
          try simp only [List.getElem_toArray, List.getElem_cons_succ, List.getElem_cons_zero, List.setIfInBounds_toArray, List.set_cons_zero, List.set_cons_succ]
          obtain ⟨c0, c1, c2, c3, c4, c5, c6, c7, c8, c9, c10, c11, c12, c13, c14, c15, c16⟩ := (show Shp w b1 L d from hSw.1).bx.shop; have k4 := hSw.2
          go_simp
          try with_reducible rfl
        case' b1nrest11 => try dsimp only [Act.put, List.setIfInBounds_toArray, List.set_cons_zero, List.set_cons_succ]
        refine wpAnyH_ready (rs := [12]) (by kernel_rfl) (by simp) ?_
        refine AllReadyH.cons rfl (fun K hK => ?_) AllReadyH.nil
        rw [if_pos (by rfl)]
        refine sh_set_mn_op rfl rfl rfl (H9.out.bag.get 2 rfl) ?_
        intro WB SB GB
        have HA9 : Hid (Wkb (fun _ => False) w WB [(b1, L, d), (b2, zl, SD.zero), (b, { M4 with y := ⟨v1, l1, k1⟩, z := ⟨v2, l2, k2⟩ }, { D4 with y := nmS (adjusted (cw d.t (rdyL d.t)) d.q) d.q, z := nmN (adjusted (cw d.t (rdyL d.t)) d.q) d.q, yq := nmQ (adjusted (cw d.t (rdyL d.t)) d.q) d.q, yt := 0 })] { M4 with y := ⟨v1, l1, k1⟩, z := ⟨v2, l2, k2⟩ } { D4 with y := nmS (adjusted (cw d.t (rdyL d.t)) d.q) d.q, z := nmN (adjusted (cw d.t (rdyL d.t)) d.q) d.q, yq := nmQ (adjusted (cw d.t (rdyL d.t)) d.q) d.q, yt := 0 }) := (H9.out.nums D4.p D4.q D4.lt D4.la (nmQ (adjusted (cw d.t (rdyL d.t)) d.q) d.q) 0 D4.w).put 2 rfl SB GB
        clear SB GB H9
        have SX : (fun W => Shp W b1 L d ∧ W.cell? ⟨b, 4, none⟩ = some M4.c.v) WB := ⟨HA9.out.bag.get 0 rfl, (HA9.out.bag.get 2 rfl).bx.shop.2.2.2.2.1⟩
        refine hK.out _ _ SX (fun hHeld => ?_)
        clear hK K
        try dsimp only [Act.put, List.setIfInBounds_toArray, List.set_cons_zero, List.set_cons_succ]
        refine wpAnyH_done (by kernel_rfl) ?_ _
        simp only [List.getElem_toArray, List.getElem_cons_succ, List.getElem_cons_zero, List.setIfInBounds_toArray, List.set_cons_zero, List.set_cons_succ]
        clear hHeld
        obtain ⟨M5, hM5⟩ : ∃ M' : LT, M' = { M4 with y := ⟨v1, l1, k1⟩, z := ⟨v2, l2, k2⟩ } := ⟨_, rfl⟩
        obtain ⟨D5, hD5⟩ : ∃ D' : SD, D' = { D4 with y := nmS (adjusted (cw d.t (rdyL d.t)) d.q) d.q, z := nmN (adjusted (cw d.t (rdyL d.t)) d.q) d.q, yq := nmQ (adjusted (cw d.t (rdyL d.t)) d.q) d.q, yt := 0 } := ⟨_, rfl⟩
        rw [← hM5, ← hD5] at HA9
        have HE : Hid (epoch d = D5) := by show _ = _; rw [HEP.out, hD5, HD4.out]; rfl
        clear hM5 hD5
        go_wp2_with (first | (refine sh_loadg rfl rfl (HA9.out.bag.get 2 rfl) ?_) | (refine sh_store (L := M5) (d := D5) rfl rfl (HA9.out.bag.get 1 rfl) ?_))
        intro WC S9 G9
        have HX : Hid (Wkb (fun _ => False) w WC [(b1, L, d), (b2, M5, D5), (b, M5, D5)] M5 D5) := HA9.out.put 1 rfl S9 G9
        clear S9 G9 HA9
        go_wp2_with fail
        exact bodyPost_ret (ret_shop rfl rfl (HX.out.bag.get 1 rfl)) rfl ⟨M5, by rw [HE.out], by rw [HE.out]; exact HX.out.post, HX.out.bag.bel⟩
      have hp1 : (d.p == (1 : Int)) = false := by simp; omega
      have hp3 : (d.p == (3 : Int)) = false := by simp; omega
      have hp5 : (d.p == (5 : Int)) = false := by simp; omega
      have HE : Hid (epoch d = D4) := by show _ = _; rw [epoch, if_neg HZ.out, if_neg h1, if_neg h3, if_neg h5, HD4.out]
      clear h1 h3 h5
      go_wp2_with (first | (refine sh_loadg rfl rfl (H7.out.bag.get 2 rfl) ?_) | (refine sh_store (L := M4) (d := D4) rfl rfl (H7.out.bag.get 1 rfl) ?_))
      intro WA S9 G9
      have HX : Hid (Wkb (fun _ => False) w WA [(b1, L, d), (b2, M4, D4), (b, M4, D4)] M4 D4) := H7.out.put 1 rfl S9 G9
      clear S9 G9 H7
      go_wp2_with fail
      exact bodyPost_ret (ret_shop rfl rfl (HX.out.bag.get 1 rfl)) rfl ⟨M4, by rw [HE.out], by rw [HE.out]; exact HX.out.post, HX.out.bag.bel⟩

/-- spec.Reopened at every Shop. -/
theorem specReopened (L : LT) (d : SD) (w : World) (I : Rd w L d) (hs : Short L) :
    Calls Tryz.prog 16 #[sv L d] w (ShPost (reopD d) w) := by
  cases h : outerB d
  · exact specReop_no L d w I hs h
  · exact specReop_yes L d w I hs h

end Go.Proofs.YtcmeimfjedakeaaGreat.Crew
