/-
  impl.Reopened at every Shop. (Written by wip/tools/gen_shopreop.py.)
-/
import Derived.Test.YtcmeimfjedakeaaGreatShopBegunI
import Derived.Test.YtcmeimfjedakeaaGreatShopKeepI
namespace Go.Proofs.YtcmeimfjedakeaaGreat.Crew
open Go.ChangeShapes Go.WideShapes Go.ChangeAt Go.RowKit

theorem copiedTC (a : Option Addr) (len cap : Nat) (ps : List Tsk) (w : World) (I : Tsks w a len ps) (hs : (len : Int) ≤ 1048576) :
    Calls Tryz.prog 41 #[.slice a len cap] w fun e w' => ∃ g c : Nat, e = .returned (.slice (some ⟨g, 0, none⟩) len c) ∧ TRow w' g c ps ∧ w.heap.size ≤ g ∧ Below w.heap.size w w' := by
  refine (copiedT_any a len cap ps w I hs).mono ?_
  rintro e w' ⟨rfl, R, B⟩
  exact ⟨_, _, rfl, R, Nat.le_refl _, B⟩

theorem crw_in {t : List Tsk} (h : tasksOk t = true) : ∀ k, k ≤ t.length → (crwTo t k).all (fun n => within n 1 1000000) = true
  | 0, _ => rfl
  | k + 1, hk => by
    have ih := crw_in h k (by omega)
    rw [crwTo]
    split
    · rw [List.all_append, ih]
      have hk' := (ok_at h (k := k) (by omega)).1
      simp only [taskOk, Bool.and_eq_true] at hk'
      simp only [List.all_cons, List.all_nil, Bool.true_and, Bool.and_true]
      exact hk'.1.1.2
    · exact ih

theorem crew_ok {t : List Tsk} (h : tasksOk t = true) (hz : ¬ (rdyL t).length = 0) : crewOk (cw t (rdyL t)) = true := by
  have hl := rdy_len t
  rw [crewOk, cw_len, crw_all h, crw_in h _ (Nat.le_refl _)]
  simp [within]
  omega

theorem outer_all {d : SD} (h : outerB d = true) : tasksOk d.t = true ∧ procsOk d.q = true ∧ 1 ≤ d.p ∧ d.p ≤ 5 := by
  simp only [outerB, Bool.and_eq_true] at h
  have := within_yes h.1.1.1.1
  exact ⟨h.1.2, h.1.1.1.2, this.1, this.2⟩

/-- Of several processors nobody had anything. -/
theorem nm_n {d : SD} (h : outerB d = true) (hz : ¬ (rdyL d.t).length = 0) : nmN (adjusted (cw d.t (rdyL d.t)) d.q) d.q = List.replicate (rdyL d.t).length 0 := by
  have ho := outer_all h
  have hc := crew_ok ho.1 hz
  obtain ⟨c, P, W, F⟩ := fairly hc ho.2.1
  rw [nmN, if_pos (F.fits hc ho.2.1), F.is, List.length_map, cw_len]

set_option maxRecDepth 100000 in
set_option maxHeartbeats 8000000 in
theorem implReop_no (L : LT) (d : SD) (w : World) (I : Rd w L d) (hs : Short L) (ho : outerB d = false) :
    Calls Tryz.prog 15 #[sv L d] w (ShPost (reopD d) w) := by
  have HI : Hid (Rd w L d) := I
  obtain ⟨s0, s1, s2, s3, s4, s5, s6, s7, s8, s9⟩ := short_parts hs
  have HSH : Hid (Short L) := hs
  clear I hs
  have HF : Hid (outerB d = false ∧ reopD d = SD.zero) := ⟨ho, by rw [reopD, if_neg (by rw [ho]; decide)]⟩
  rw [HF.out.2]
  clear ho
  go_enter Tryz.func15, Tryz.ntmps15
  go_wp2_with (refine sh_box rfl ?_)
  intro W1 b1 e1 S1 B1
  have HA : Hid (Bag w W1 [(b1, L, d)]) := (bag_nil w).add B1 e1 S1
  clear e1 S1 B1
  go_wp2_with (refine sh_alloc ?_)
  intro W2 b2 e2 S2 B2
  have HB : Hid (Bag w W2 [(b1, L, d), (b2, zl, SD.zero)]) := HA.out.add B2 e2 S2
  clear e2 S2 B2 HA
  go_wp2_with (refine sh_loadg rfl rfl (HB.out.get 0 rfl) ?_)
  refine (implFrame L d _ (HI.out.t.kept HB.out.bel) s0).mono ?_
  rw [HF.out.1]
  obtain ⟨v, hv⟩ : ∃ v, v = wayV d.p := ⟨_, rfl⟩
  rw [← hv]
  clear hv
  rintro e W3 ⟨rfl, B3⟩
  have HC : Hid (Bag w W3 [(b1, L, d), (b2, zl, SD.zero)]) := HB.out.all B3
  clear B3 HB
  go_wp2_with (refine sh_store (L := zl) (d := SD.zero) rfl rfl (HC.out.get 1 rfl) ?_)
  intro W4 S4 G4
  have HD : Hid (Bag w W4 [(b1, L, d), (b2, zl, SD.zero)]) := HC.out.put 1 rfl S4 G4
  clear S4 G4 HC
  go_wp2_with fail
  exact bodyPost_ret (ret_shop rfl rfl (HD.out.get 1 rfl)) rfl ⟨zl, rfl, mk_zl _ _ _ _ _ _ _ _ _, HD.out.bel⟩

theorem sh_set_m_op {op : Oper} {a : Act} {w : World} {K : Act → World → Prop} {Q : Exit → Act → World → Prop} {x y : Operand} (ho : op.op = .store 27 x y) {b : Nat} {L : LT} {d : SD} {g : Option Addr} {j c : Nat}
    (hx : a.eval x = .pointer (some ⟨b, 3, none⟩)) (hy : a.eval y = .slice g j c) (S : Shp w b L d) (h : ∀ W, Shp W b { L with m := ⟨g, j, c⟩ } d → w.grownBy W (some b) → K (a.put op.dst undef) W) : op.wp Tryz.prog a w K Q := by
  have hc := S.bx.shop
  have hf := S.fr 3
  have key := h _ (S.set_m ⟨g, j, c⟩) (grown_at _ _ _ _)
  clear h
  obtain ⟨c0, c1, c2, c3, c4, c5, c6, c7, c8, c9, c10, c11, c12, c13, c14, c15, c16⟩ := hc
  unfold Oper.wp execOp
  simp only [ho, hx, hy]
  go_simp
  exact key

theorem sh_set_c_op {op : Oper} {a : Act} {w : World} {K : Act → World → Prop} {Q : Exit → Act → World → Prop} {x y : Operand} (ho : op.op = .store 27 x y) {b : Nat} {L : LT} {d : SD} {g : Option Addr} {j c : Nat}
    (hx : a.eval x = .pointer (some ⟨b, 4, none⟩)) (hy : a.eval y = .slice g j c) (S : Shp w b L d) (h : ∀ W, Shp W b { L with c := ⟨g, j, c⟩ } d → w.grownBy W (some b) → K (a.put op.dst undef) W) : op.wp Tryz.prog a w K Q := by
  have hc := S.bx.shop
  have hf := S.fr 4
  have key := h _ (S.set_c ⟨g, j, c⟩) (grown_at _ _ _ _)
  clear h
  obtain ⟨c0, c1, c2, c3, c4, c5, c6, c7, c8, c9, c10, c11, c12, c13, c14, c15, c16⟩ := hc
  unfold Oper.wp execOp
  simp only [ho, hx, hy]
  go_simp
  exact key

set_option maxRecDepth 100000 in
set_option maxHeartbeats 8000000 in
theorem implReop_yes (L : LT) (d : SD) (w : World) (I : Rd w L d) (hs : Short L) (ho : outerB d = true) :
    Calls Tryz.prog 15 #[sv L d] w (ShPost (reopD d) w) := by
  have HI : Hid (Rd w L d) := I
  obtain ⟨s0, s1, s2, s3, s4, s5, s6, s7, s8, s9⟩ := short_parts hs
  have HSH : Hid (Short L) := hs
  clear I hs
  have HF : Hid (outerB d = true ∧ reopD d = epoch d) := ⟨ho, by rw [reopD, if_pos ho]⟩
  rw [HF.out.2]
  have hpp := (outer_all ho).2.2
  have HNM : Hid (¬ (rdyL d.t).length = 0 → nmN (adjusted (cw d.t (rdyL d.t)) d.q) d.q = List.replicate (rdyL d.t).length 0) := fun hz => nm_n ho hz
  have HCR : Hid (crwTo d.t L.t.n = cw d.t (rdyL d.t)) := by show _ = _; rw [crw_all (outer_all ho).1, HI.out.t.1]
  clear ho
  go_enter Tryz.func15, Tryz.ntmps15
  go_wp2_with (refine sh_box rfl ?_)
  intro W1 b1 e1 S1 B1
  have HA : Hid (Bag w W1 [(b1, L, d)]) := (bag_nil w).add B1 e1 S1
  clear e1 S1 B1
  go_wp2_with (refine sh_alloc ?_)
  intro W2 b2 e2 S2 B2
  have HB : Hid (Bag w W2 [(b1, L, d), (b2, zl, SD.zero)]) := HA.out.add B2 e2 S2
  clear e2 S2 B2 HA
  go_wp2_with (refine sh_loadg rfl rfl (HB.out.get 0 rfl) ?_)
  refine (implFrame L d _ (HI.out.t.kept HB.out.bel) s0).mono ?_
  rw [HF.out.1]
  obtain ⟨v, hv⟩ : ∃ v, v = wayV d.p := ⟨_, rfl⟩
  rw [← hv]
  have HV : Hid (v = wayV d.p) := hv
  clear hv
  rintro e W3 ⟨rfl, B3⟩
  have HC : Hid (Bag w W3 [(b1, L, d), (b2, zl, SD.zero)]) := HB.out.all B3
  clear B3 HB
  have HB := HC
  clear HC
  go_upto_region 4 with fail
  go_cut [5] from 14 to 23 (fun s wx => ∃ b g c : Nat, s = .pointer (some ⟨b, 0, none⟩) ∧ Hid (Wkb (fun _ => False) w wx [(b1, L, d), (b2, zl, SD.zero), (b, { zl with t := ⟨some ⟨g, 0, none⟩, L.t.n, c⟩ }, (⟨d.p, d.q, d.t, [], [], [], [], [], [], [], 0, 0, [], [], 0, 0, d.w⟩ : SD))] { zl with t := ⟨some ⟨g, 0, none⟩, L.t.n, c⟩ } (⟨d.p, d.q, d.t, [], [], [], [], [], [], [], 0, 0, [], [], 0, 0, d.w⟩ : SD)))
  case first =>
    refine wp_region_held_drew (S := fun W => Shp W b1 L d) (by kernel_rfl) HB.out.drew.get0 (fun hHeld => ?_)
    refine wpAnyH_take (i := 0) (v := ?g1nv0) rfl (by kernel_rfl) (by kernel_rfl) (by kernel_rfl) (fun _ _ _ h => h) (Or.inl ⟨by kernel_rfl, ?g1nhy0⟩) (by assumption) ?g1nrest0
    case g1nhy0 =>
      intro w hSw
      obtain ⟨c0, c1, c2, c3, c4, c5, c6, c7, c8, c9, c10, c11, c12, c13, c14, c15, c16⟩ := (show Shp w b1 L d from hSw).bx.shop
      go_simp
      try with_reducible rfl
    case' g1nrest0 => try dsimp only [Act.put, List.setIfInBounds_toArray, List.set_cons_zero, List.set_cons_succ]
    refine wpAnyH_take (i := 1) (v := ?g1nv1) rfl (by kernel_rfl) (by kernel_rfl) (by kernel_rfl) (fun _ _ _ h => h) (Or.inl ⟨by kernel_rfl, ?g1nhy1⟩) (by assumption) ?g1nrest1
    case g1nhy1 =>
      intro w hSw
      obtain ⟨c0, c1, c2, c3, c4, c5, c6, c7, c8, c9, c10, c11, c12, c13, c14, c15, c16⟩ := (show Shp w b1 L d from hSw).bx.shop
      go_simp
      try with_reducible rfl
    case' g1nrest1 => try dsimp only [Act.put, List.setIfInBounds_toArray, List.set_cons_zero, List.set_cons_succ]
    refine wpAnyH_take (i := 2) (v := ?g1nv2) rfl (by kernel_rfl) (by kernel_rfl) (by kernel_rfl) (fun _ _ _ h => h) (Or.inl ⟨by kernel_rfl, ?g1nhy2⟩) (by assumption) ?g1nrest2
    case g1nhy2 =>
      intro w hSw
      try simp only [List.getElem_toArray, List.getElem_cons_succ, List.getElem_cons_zero, List.setIfInBounds_toArray, List.set_cons_zero, List.set_cons_succ]
      obtain ⟨c0, c1, c2, c3, c4, c5, c6, c7, c8, c9, c10, c11, c12, c13, c14, c15, c16⟩ := (show Shp w b1 L d from hSw).bx.shop
      go_simp
      try with_reducible rfl
    case' g1nrest2 => try dsimp only [Act.put, List.setIfInBounds_toArray, List.set_cons_zero, List.set_cons_succ]
    refine wpAnyH_take (i := 3) (v := ?g1nv3) rfl (by kernel_rfl) (by kernel_rfl) (by kernel_rfl) (fun _ _ _ h => h) (Or.inl ⟨by kernel_rfl, ?g1nhy3⟩) (by assumption) ?g1nrest3
    case g1nhy3 =>
      intro w hSw
      try simp only [List.getElem_toArray, List.getElem_cons_succ, List.getElem_cons_zero, List.setIfInBounds_toArray, List.set_cons_zero, List.set_cons_succ]
      obtain ⟨c0, c1, c2, c3, c4, c5, c6, c7, c8, c9, c10, c11, c12, c13, c14, c15, c16⟩ := (show Shp w b1 L d from hSw).bx.shop
      go_simp
      try with_reducible rfl
    case' g1nrest3 => try dsimp only [Act.put, List.setIfInBounds_toArray, List.set_cons_zero, List.set_cons_succ]
    refine wpAnyH_take (i := 4) (v := ?g1nv4) rfl (by kernel_rfl) (by kernel_rfl) (by kernel_rfl) (fun _ _ _ h => h) (Or.inl ⟨by kernel_rfl, ?g1nhy4⟩) (by assumption) ?g1nrest4
    case g1nhy4 =>
      intro w hSw
      try simp only [List.getElem_toArray, List.getElem_cons_succ, List.getElem_cons_zero, List.setIfInBounds_toArray, List.set_cons_zero, List.set_cons_succ]
      obtain ⟨c0, c1, c2, c3, c4, c5, c6, c7, c8, c9, c10, c11, c12, c13, c14, c15, c16⟩ := (show Shp w b1 L d from hSw).bx.shop
      go_simp
      try with_reducible rfl
    case' g1nrest4 => try dsimp only [Act.put, List.setIfInBounds_toArray, List.set_cons_zero, List.set_cons_succ]
    refine wpAnyH_take (i := 5) (v := ?g1nv5) rfl (by kernel_rfl) (by kernel_rfl) (by kernel_rfl) (fun _ _ _ h => h) (Or.inl ⟨by kernel_rfl, ?g1nhy5⟩) (by assumption) ?g1nrest5
    case g1nhy5 =>
      intro w hSw
      try simp only [List.getElem_toArray, List.getElem_cons_succ, List.getElem_cons_zero, List.setIfInBounds_toArray, List.set_cons_zero, List.set_cons_succ]
      obtain ⟨c0, c1, c2, c3, c4, c5, c6, c7, c8, c9, c10, c11, c12, c13, c14, c15, c16⟩ := (show Shp w b1 L d from hSw).bx.shop
      go_simp
      try with_reducible rfl
    case' g1nrest5 => try dsimp only [Act.put, List.setIfInBounds_toArray, List.set_cons_zero, List.set_cons_succ]
    refine wpAnyH_take (i := 7) (v := ?g1nv7) rfl (by kernel_rfl) (by kernel_rfl) (by kernel_rfl) (fun _ _ _ h => h) (Or.inl ⟨by kernel_rfl, ?g1nhy7⟩) (by assumption) ?g1nrest7
    case g1nhy7 =>
      intro w hSw
      obtain ⟨c0, c1, c2, c3, c4, c5, c6, c7, c8, c9, c10, c11, c12, c13, c14, c15, c16⟩ := (show Shp w b1 L d from hSw).bx.shop
      go_simp
      try with_reducible rfl
    case' g1nrest7 => try dsimp only [Act.put, List.setIfInBounds_toArray, List.set_cons_zero, List.set_cons_succ]
    refine wpAnyH_take (i := 8) (v := ?g1nv8) rfl (by kernel_rfl) (by kernel_rfl) (by kernel_rfl) (fun _ _ _ h => h) (Or.inl ⟨by kernel_rfl, ?g1nhy8⟩) (by assumption) ?g1nrest8
    case g1nhy8 =>
      intro w hSw
      try simp only [List.getElem_toArray, List.getElem_cons_succ, List.getElem_cons_zero, List.setIfInBounds_toArray, List.set_cons_zero, List.set_cons_succ]
      obtain ⟨c0, c1, c2, c3, c4, c5, c6, c7, c8, c9, c10, c11, c12, c13, c14, c15, c16⟩ := (show Shp w b1 L d from hSw).bx.shop
      go_simp
      try with_reducible rfl
    case' g1nrest8 => try dsimp only [Act.put, List.setIfInBounds_toArray, List.set_cons_zero, List.set_cons_succ]
    refine wpAnyH_ready (rs := [6, 10]) (by kernel_rfl) (by simp) ?_
    refine AllReadyH.cons rfl (fun K hK => ?_) (AllReadyH.cons rfl (fun K hK => ?_) AllReadyH.nil)
    · go_simp
      refine (copiedTC L.t.a L.t.n L.t.c d.t _ (HI.out.t.kept HB.out.drew.bel) s0).mono ?_
      rintro e u ⟨g, c, rfl, R, hg, B⟩
      have HW : Hid (Wkb (fun _ => False) w u [(b1, L, d), (b2, zl, SD.zero)] { zl with t := ⟨some ⟨g, 0, none⟩, L.t.n, c⟩ } (⟨d.p, d.q, d.t, [], [], [], [], [], [], [], 0, 0, [], [], 0, 0, d.w⟩ : SD)) := ((wkb_zl HB.out.drew d.p d.q 0 0 0 0 d.w).put_t B (N := ⟨some ⟨g, 0, none⟩, L.t.n, c⟩) (Rec.row.fit R hg HI.out.t.1))
      clear R hg B
      go_wp2_with fail
      refine hK.out _ _ (HW.out.bag.get 0 rfl) (fun hHeld => ?_)
      clear hK K
      try dsimp only [Act.put, List.setIfInBounds_toArray, List.set_cons_zero, List.set_cons_succ]
      refine wpAnyH_take (i := 9) (v := ?g1nAv9) rfl (by kernel_rfl) (by kernel_rfl) (by kernel_rfl) (fun _ _ _ h => h) (Or.inl ⟨by kernel_rfl, ?g1nAhy9⟩) (by assumption) ?g1nArest9
      case g1nAhy9 =>
        intro w hSw
        skip
        go_simp
        try with_reducible rfl
      case' g1nArest9 => try dsimp only [Act.put, List.setIfInBounds_toArray, List.set_cons_zero, List.set_cons_succ]
      refine wpAnyH_ready (rs := [10]) (by kernel_rfl) (by simp) ?_
      refine AllReadyH.cons rfl (fun K hK => ?_) AllReadyH.nil
      rw [if_pos (by rfl)]
      refine sh_alloc_op rfl ?_
      intro W b e S B
      have HX : Hid (Wkb (fun _ => False) w W [(b1, L, d), (b2, zl, SD.zero), (b, zl, SD.zero)] { zl with t := ⟨some ⟨g, 0, none⟩, L.t.n, c⟩ } (⟨d.p, d.q, d.t, [], [], [], [], [], [], [], 0, 0, [], [], 0, 0, d.w⟩ : SD)) := HW.out.add B e S
      clear e S B HW
      refine hK.out _ _ (HX.out.bag.get 0 rfl) (fun hHeld => ?_)
      clear hK K
      try dsimp only [Act.put, List.setIfInBounds_toArray, List.set_cons_zero, List.set_cons_succ]
      refine wpAnyH_ready (rs := [11]) (by kernel_rfl) (by simp) ?_
      refine AllReadyH.cons rfl (fun K hK => ?_) AllReadyH.nil
      rw [if_pos (by rfl)]
      refine sh_store_op (L := { zl with t := ⟨some ⟨g, 0, none⟩, L.t.n, c⟩ }) (d := (⟨d.p, d.q, d.t, [], [], [], [], [], [], [], 0, 0, [], [], 0, 0, d.w⟩ : SD)) rfl rfl rfl (HX.out.bag.get 2 rfl) ?_
      intro W' S G
      have HY : Hid (Wkb (fun _ => False) w W' [(b1, L, d), (b2, zl, SD.zero), (b, { zl with t := ⟨some ⟨g, 0, none⟩, L.t.n, c⟩ }, (⟨d.p, d.q, d.t, [], [], [], [], [], [], [], 0, 0, [], [], 0, 0, d.w⟩ : SD))] { zl with t := ⟨some ⟨g, 0, none⟩, L.t.n, c⟩ } (⟨d.p, d.q, d.t, [], [], [], [], [], [], [], 0, 0, [], [], 0, 0, d.w⟩ : SD)) := HX.out.put 2 rfl S G
      clear S G HX
      refine hK.out _ _ (HY.out.bag.get 0 rfl) (fun hHeld => ?_)
      clear hK K
      try dsimp only [Act.put, List.setIfInBounds_toArray, List.set_cons_zero, List.set_cons_succ]
      refine wpAnyH_done (by kernel_rfl) ?_ _
      simp only [List.getElem_toArray, List.getElem_cons_succ, List.getElem_cons_zero, List.setIfInBounds_toArray, List.set_cons_zero, List.set_cons_succ]
      clear hHeld
      go_wp2_with fail
      go_meet
      exact ⟨b, g, c, rfl, HY⟩
    · rw [if_pos (by rfl)]
      refine sh_alloc_op rfl ?_
      intro W b e S B
      have HV : Hid (Bag w W [(b1, L, d), (b2, zl, SD.zero), (b, zl, SD.zero)]) := HB.out.drew.add B e S
      clear e S B
      refine hK.out _ _ (HV.out.get 0 rfl) (fun hHeld => ?_)
      clear hK K
      try dsimp only [Act.put, List.setIfInBounds_toArray, List.set_cons_zero, List.set_cons_succ]
      refine wpAnyH_ready (rs := [6]) (by kernel_rfl) (by simp) ?_
      refine AllReadyH.cons rfl (fun K hK => ?_) AllReadyH.nil
      go_simp
      refine (copiedTC L.t.a L.t.n L.t.c d.t _ (HI.out.t.kept HV.out.bel) s0).mono ?_
      rintro e u ⟨g, c, rfl, R, hg, B⟩
      have HX : Hid (Wkb (fun _ => False) w u [(b1, L, d), (b2, zl, SD.zero), (b, zl, SD.zero)] { zl with t := ⟨some ⟨g, 0, none⟩, L.t.n, c⟩ } (⟨d.p, d.q, d.t, [], [], [], [], [], [], [], 0, 0, [], [], 0, 0, d.w⟩ : SD)) := ((wkb_zl HV.out d.p d.q 0 0 0 0 d.w).put_t B (N := ⟨some ⟨g, 0, none⟩, L.t.n, c⟩) (Rec.row.fit R hg HI.out.t.1))
      clear R hg B HV
      go_wp2_with fail
      refine hK.out _ _ (HX.out.bag.get 0 rfl) (fun hHeld => ?_)
      clear hK K
      try dsimp only [Act.put, List.setIfInBounds_toArray, List.set_cons_zero, List.set_cons_succ]
      refine wpAnyH_take (i := 9) (v := ?g1nBv9) rfl (by kernel_rfl) (by kernel_rfl) (by kernel_rfl) (fun _ _ _ h => h) (Or.inl ⟨by kernel_rfl, ?g1nBhy9⟩) (by assumption) ?g1nBrest9
      case g1nBhy9 =>
        intro w hSw
        skip
        go_simp
        try with_reducible rfl
      case' g1nBrest9 => try dsimp only [Act.put, List.setIfInBounds_toArray, List.set_cons_zero, List.set_cons_succ]
      refine wpAnyH_ready (rs := [11]) (by kernel_rfl) (by simp) ?_
      refine AllReadyH.cons rfl (fun K hK => ?_) AllReadyH.nil
      rw [if_pos (by rfl)]
      refine sh_store_op (L := { zl with t := ⟨some ⟨g, 0, none⟩, L.t.n, c⟩ }) (d := (⟨d.p, d.q, d.t, [], [], [], [], [], [], [], 0, 0, [], [], 0, 0, d.w⟩ : SD)) rfl rfl rfl (HX.out.bag.get 2 rfl) ?_
      intro W' S G
      have HY : Hid (Wkb (fun _ => False) w W' [(b1, L, d), (b2, zl, SD.zero), (b, { zl with t := ⟨some ⟨g, 0, none⟩, L.t.n, c⟩ }, (⟨d.p, d.q, d.t, [], [], [], [], [], [], [], 0, 0, [], [], 0, 0, d.w⟩ : SD))] { zl with t := ⟨some ⟨g, 0, none⟩, L.t.n, c⟩ } (⟨d.p, d.q, d.t, [], [], [], [], [], [], [], 0, 0, [], [], 0, 0, d.w⟩ : SD)) := HX.out.put 2 rfl S G
      clear S G HX
      refine hK.out _ _ (HY.out.bag.get 0 rfl) (fun hHeld => ?_)
      clear hK K
      try dsimp only [Act.put, List.setIfInBounds_toArray, List.set_cons_zero, List.set_cons_succ]
      refine wpAnyH_done (by kernel_rfl) ?_ _
      simp only [List.getElem_toArray, List.getElem_cons_succ, List.getElem_cons_zero, List.setIfInBounds_toArray, List.set_cons_zero, List.set_cons_succ]
      clear hHeld
      go_wp2_with fail
      go_meet
      exact ⟨b, g, c, rfl, HY⟩
  case rest =>
    obtain ⟨b, g, c, rfl, H⟩ := hcut
    clear HB
    obtain ⟨M1, hM1⟩ : ∃ M' : LT, M' = { zl with t := ⟨some ⟨g, 0, none⟩, L.t.n, c⟩ } := ⟨_, rfl⟩
    obtain ⟨D1, hD1⟩ : ∃ D' : SD, D' = (⟨d.p, d.q, d.t, [], [], [], [], [], [], [], 0, 0, [], [], 0, 0, d.w⟩ : SD) := ⟨_, rfl⟩
    rw [← hM1, ← hD1] at H
    have htn : M1.t.n = L.t.n := by rw [hM1]
    have HD1 : Hid (D1 = (⟨d.p, d.q, d.t, [], [], [], [], [], [], [], 0, 0, [], [], 0, 0, d.w⟩ : SD) ∧ M1.t.n = L.t.n) := ⟨hD1, htn⟩
    clear hM1 hD1 htn
    go_upto_region 5 with fail
    have H1 : Hid (Wkb (fun _ => False) w wc.drew [(b1, L, d), (b2, zl, SD.zero), (b, M1, D1)] M1 D1) := H.out.drew
    have HJT : Hid (Tsks wc.drew M1.t.a M1.t.n d.t ∧ (M1.t.n : Int) ≤ 1048576) := ⟨by have := H1.out.own.t.sl; rw [HD1.out.1] at this; exact this, by rw [HD1.out.2]; exact s0⟩
    clear H
    refine wp_region_held_drew (S := fun W => W.cell? ⟨b, 2, none⟩ = some M1.t.v) (by kernel_rfl) (H1.out.bag.get 2 rfl).bx.shop.2.2.1 (fun hHeld => ?_)
    refine wpAnyH_take (i := 0) (v := ?b3nv0) rfl (by kernel_rfl) (by kernel_rfl) (by kernel_rfl) (fun _ _ _ h => h) (Or.inl ⟨by kernel_rfl, ?b3nhy0⟩) (by assumption) ?b3nrest0
    case b3nhy0 =>
      intro w hSw
      have k2 := hSw
      go_simp
      try with_reducible rfl
    case' b3nrest0 => try dsimp only [Act.put, List.setIfInBounds_toArray, List.set_cons_zero, List.set_cons_succ]
    refine wpAnyH_take (i := 1) (v := ?b3nv1) rfl (by kernel_rfl) (by kernel_rfl) (by kernel_rfl) (fun _ _ _ h => h) (Or.inl ⟨by kernel_rfl, ?b3nhy1⟩) (by assumption) ?b3nrest1
    case b3nhy1 =>
      intro w hSw
      have k2 := hSw
      go_simp
      try with_reducible rfl
    case' b3nrest1 => try dsimp only [Act.put, List.setIfInBounds_toArray, List.set_cons_zero, List.set_cons_succ]
    refine wpAnyH_take (i := 3) (v := ?b3nv3) rfl (by kernel_rfl) (by kernel_rfl) (by kernel_rfl) (fun _ _ _ h => h) (Or.inl ⟨by kernel_rfl, ?b3nhy3⟩) (by assumption) ?b3nrest3
    case b3nhy3 =>
      intro w hSw
      try simp only [List.getElem_toArray, List.getElem_cons_succ, List.getElem_cons_zero, List.setIfInBounds_toArray, List.set_cons_zero, List.set_cons_succ]
      have k2 := hSw
      go_simp
      try with_reducible rfl
    case' b3nrest3 => try dsimp only [Act.put, List.setIfInBounds_toArray, List.set_cons_zero, List.set_cons_succ]
    refine wpAnyH_take (i := 4) (v := ?b3nv4) rfl (by kernel_rfl) (by kernel_rfl) (by kernel_rfl) (fun _ _ _ h => h) (Or.inl ⟨by kernel_rfl, ?b3nhy4⟩) (by assumption) ?b3nrest4
    case b3nhy4 =>
      intro w hSw
      try simp only [List.getElem_toArray, List.getElem_cons_succ, List.getElem_cons_zero, List.setIfInBounds_toArray, List.set_cons_zero, List.set_cons_succ]
      have k2 := hSw
      go_simp
      try with_reducible rfl
    case' b3nrest4 => try dsimp only [Act.put, List.setIfInBounds_toArray, List.set_cons_zero, List.set_cons_succ]
    refine wpAnyH_ready (rs := [2]) (by kernel_rfl) (by simp) ?_
    refine AllReadyH.cons rfl (fun K hK => ?_) AllReadyH.nil
    go_simp
    refine (implReadyOf M1.t.a M1.t.n M1.t.c d.t _ HJT.out.1 HJT.out.2).mono ?_
    rintro e u ⟨g2, n2, c2, rfl, R2, B2⟩
    have H2 : Hid (Wkb (fun _ => False) w u [(b1, L, d), (b2, zl, SD.zero), (b, M1, D1)] { M1 with m := ⟨some ⟨g2, 0, none⟩, n2, c2⟩ } { D1 with m := rdyL d.t } ∧ Tsks u M1.t.a M1.t.n d.t) := ⟨H1.out.put_m B2 R2, HJT.out.1.kept B2⟩
    clear R2 B2 H1
    have SX : (fun W => W.cell? ⟨b, 2, none⟩ = some M1.t.v) u := (H2.out.1.bag.get 2 rfl).bx.shop.2.2.1

    go_wp2_with fail
    refine hK.out _ _ SX (fun hHeld => ?_)
    clear hK K
    try dsimp only [Act.put, List.setIfInBounds_toArray, List.set_cons_zero, List.set_cons_succ]
    refine wpAnyH_take (i := 6) (v := ?b3nv6) rfl (by kernel_rfl) (by kernel_rfl) (by kernel_rfl) (fun _ _ _ h => h) (Or.inl ⟨by kernel_rfl, ?b3nhy6⟩) (by assumption) ?b3nrest6
    case b3nhy6 =>
      intro w hSw
      have k2 := hSw
      go_simp
      try with_reducible rfl
    case' b3nrest6 => try dsimp only [Act.put, List.setIfInBounds_toArray, List.set_cons_zero, List.set_cons_succ]
    refine wpAnyH_ready (rs := [5]) (by kernel_rfl) (by simp) ?_
    refine AllReadyH.cons rfl (fun K hK => ?_) AllReadyH.nil
    go_simp
    refine (implCrewOf M1.t.a M1.t.n M1.t.c d.t _ H2.out.2 HJT.out.2).mono ?_
    rintro e u3 ⟨g3, n3, c3, rfl, R3, B3⟩
    have H3 : Hid (Wkb (fun _ => False) w u3 [(b1, L, d), (b2, zl, SD.zero), (b, M1, D1)] { M1 with m := ⟨some ⟨g2, 0, none⟩, n2, c2⟩, c := ⟨some ⟨g3, 0, none⟩, n3, c3⟩ } { D1 with m := rdyL d.t, c := crwTo d.t M1.t.n }) := H2.out.1.put_c B3 R3
    clear R3 B3 H2
    have SX : (fun W => W.cell? ⟨b, 2, none⟩ = some M1.t.v) u3 := (H3.out.bag.get 2 rfl).bx.shop.2.2.1

    go_wp2_with fail
    refine hK.out _ _ SX (fun hHeld => ?_)
    clear hK K
    try dsimp only [Act.put, List.setIfInBounds_toArray, List.set_cons_zero, List.set_cons_succ]
    refine wpAnyH_ready (rs := [7]) (by kernel_rfl) (by simp) ?_
    refine AllReadyH.cons rfl (fun K hK => ?_) AllReadyH.nil
    rw [if_pos (by rfl)]
    refine sh_set_m_op rfl rfl rfl (H3.out.bag.get 2 rfl) ?_
    intro WM SM GM
    have H4 : Hid (Wkb (fun _ => False) w WM [(b1, L, d), (b2, zl, SD.zero), (b, { M1 with m := ⟨some ⟨g2, 0, none⟩, n2, c2⟩ }, D1)] { M1 with m := ⟨some ⟨g2, 0, none⟩, n2, c2⟩, c := ⟨some ⟨g3, 0, none⟩, n3, c3⟩ } { D1 with m := rdyL d.t, c := crwTo d.t M1.t.n }) := H3.out.put 2 rfl SM GM
    clear SM GM H3
    have SX : (fun W => W.cell? ⟨b, 2, none⟩ = some M1.t.v) WM := (H4.out.bag.get 2 rfl).bx.shop.2.2.1
    refine hK.out _ _ SX (fun hHeld => ?_)
    clear hK K
    try dsimp only [Act.put, List.setIfInBounds_toArray, List.set_cons_zero, List.set_cons_succ]
    refine wpAnyH_take (i := 8) (v := ?b3nv8) rfl (by kernel_rfl) (by kernel_rfl) (by kernel_rfl) (fun _ _ _ h => h) (Or.inl ⟨by kernel_rfl, ?b3nhy8⟩) (by assumption) ?b3nrest8
    case b3nhy8 =>
      intro w hSw
      have k2 := hSw
      go_simp
      try with_reducible rfl
    case' b3nrest8 => try dsimp only [Act.put, List.setIfInBounds_toArray, List.set_cons_zero, List.set_cons_succ]
    refine wpAnyH_ready (rs := [9]) (by kernel_rfl) (by simp) ?_
    refine AllReadyH.cons rfl (fun K hK => ?_) AllReadyH.nil
    rw [if_pos (by rfl)]
    refine sh_set_c_op rfl rfl rfl (H4.out.bag.get 2 rfl) ?_
    intro WN SN GN
    have H5 : Hid (Wkb (fun _ => False) w WN [(b1, L, d), (b2, zl, SD.zero), (b, { M1 with m := ⟨some ⟨g2, 0, none⟩, n2, c2⟩, c := ⟨some ⟨g3, 0, none⟩, n3, c3⟩ }, { D1 with m := rdyL d.t, c := crwTo d.t M1.t.n })] { M1 with m := ⟨some ⟨g2, 0, none⟩, n2, c2⟩, c := ⟨some ⟨g3, 0, none⟩, n3, c3⟩ } { D1 with m := rdyL d.t, c := crwTo d.t M1.t.n }) := H4.out.put 2 rfl SN GN
    clear SN GN H4
    have SX : (fun W => W.cell? ⟨b, 2, none⟩ = some M1.t.v) WN := (H5.out.bag.get 2 rfl).bx.shop.2.2.1
    refine hK.out _ _ SX (fun hHeld => ?_)
    clear hK K
    try dsimp only [Act.put, List.setIfInBounds_toArray, List.set_cons_zero, List.set_cons_succ]
    refine wpAnyH_done (by kernel_rfl) ?_ _
    simp only [List.getElem_toArray, List.getElem_cons_succ, List.getElem_cons_zero, List.setIfInBounds_toArray, List.set_cons_zero, List.set_cons_succ]
    clear hHeld
    obtain ⟨M3, hM3⟩ : ∃ M' : LT, M' = { M1 with m := ⟨some ⟨g2, 0, none⟩, n2, c2⟩, c := ⟨some ⟨g3, 0, none⟩, n3, c3⟩ } := ⟨_, rfl⟩
    obtain ⟨D3, hD3⟩ : ∃ D' : SD, D' = { D1 with m := rdyL d.t, c := crwTo d.t M1.t.n } := ⟨_, rfl⟩
    rw [← hM3, ← hD3] at H5
    have HD3 : Hid (D3 = epo d) := by show _ = _; rw [hD3, HD1.out.1, HD1.out.2, HCR.out]; rfl
    clear hM3 hD3 HD1 HJT
    have HML : Hid ((rdyL d.t).length = M3.m.n) := by have := H5.out.own.m.1; rw [HD3.out] at this; exact this
    have hml : M3.m.n ≤ 24 := by have h2 := rdy_len d.t; have := HML.out; omega
    have HCL : Hid ((M3.c.n : Int) ≤ 1048576) := by
      have h1 := H5.out.own.c.1
      rw [HD3.out] at h1
      have h2 : (cw d.t (rdyL d.t)).length = M3.c.n := h1
      rw [cw_len] at h2
      have h3 := rdy_len d.t
      show _ ≤ _
      omega
    have HCL2 : Hid (M3.c.n = (rdyL d.t).length) := by
      have h1 := H5.out.own.c.1
      rw [HD3.out] at h1
      have h2 : (cw d.t (rdyL d.t)).length = M3.c.n := h1
      rw [cw_len] at h2
      exact h2.symm
    have q3 := (H5.out.bag.get 2 rfl).bx.shop.2.2.2.1
    by_cases hz : M3.m.n = 0
    · have hbz : ((M3.m.n : Int) == (0 : Int)) = true := by simp [hz]
      have HE : Hid (epoch d = D3) := by show _ = _; rw [epoch, if_pos (by rw [HML.out]; exact hz), HD3.out]
      clear hz
      go_wp2_with (first | (refine sh_loadg rfl rfl (H5.out.bag.get 2 rfl) ?_) | (refine sh_store (L := M3) (d := D3) rfl rfl (H5.out.bag.get 1 rfl) ?_))
      intro W9 S9 G9
      have H6 : Hid (Wkb (fun _ => False) w W9 [(b1, L, d), (b2, M3, D3), (b, M3, D3)] M3 D3) := H5.out.put 1 rfl S9 G9
      clear S9 G9 H5
      go_wp2_with fail
      exact bodyPost_ret (ret_shop rfl rfl (H6.out.bag.get 1 rfl)) rfl ⟨M3, by rw [HE.out], by rw [HE.out]; exact H6.out.post, H6.out.bag.bel⟩
    · have hbz : ((M3.m.n : Int) == (0 : Int)) = false := by simp; omega
      have HZ : Hid (¬ (rdyL d.t).length = 0) := by show ¬ _; rw [HML.out]; exact hz
      clear hz
      go_upto_region 8 with fail
      clear q3 hbz hml
      by_cases h1 : d.p = 1
      · have e : v = .iface 126 (.agg #[]) := by rw [HV.out, h1]; simp [wayV]
        subst e
        have fB := finds_begun1
        obtain ⟨D9, hD9⟩ : ∃ D' : SD, D' = { D3 with n := List.replicate M3.c.n 0, s := newC D3.c, r := newR D3.c } := ⟨_, rfl⟩
        have HE : Hid (epoch d = D9) := by show _ = _; rw [epoch, if_neg HZ.out, if_pos h1, hD9]; rw [HD3.out, HCL2.out]; rfl
        clear h1
        go_wp2_with (refine sh_loadg rfl rfl (H5.out.bag.get 2 rfl) ?_)
        refine (bg_smooth M3 D3 _ H5.out.own H5.out.par HCL.out).mono ?_
        rw [← hD9]
        clear hD9
        rintro e WA ⟨M9, rfl, O9, P9, f9, B9⟩
        have H6 : Hid (Wkb (fun _ => False) w WA [(b1, L, d), (b2, zl, SD.zero), (b, M3, D3)] M9 D9) := H5.out.begun B9 O9 P9 f9
        clear O9 P9 f9 B9 H5
        go_wp2_with (refine sh_store (L := M9) (d := D9) rfl rfl (H6.out.bag.get 1 rfl) ?_)
        intro WB SB GB
        have H7 : Hid (Wkb (fun _ => False) w WB [(b1, L, d), (b2, M9, D9), (b, M3, D3)] M9 D9) := H6.out.put 1 rfl SB GB
        clear SB GB H6
        go_wp2_with fail
        exact bodyPost_ret (ret_shop rfl rfl (H7.out.bag.get 1 rfl)) rfl ⟨M9, by rw [HE.out], by rw [HE.out]; exact H7.out.post, H7.out.bag.bel⟩
      by_cases h2 : d.p = 2
      · have e : v = .iface 151 (.agg #[]) := by rw [HV.out, h2]; simp [wayV]
        subst e
        have fB := finds_begun2
        obtain ⟨D9, hD9⟩ : ∃ D' : SD, D' = { D3 with n := List.replicate M3.c.n 0 } := ⟨_, rfl⟩
        have HE : Hid (epoch d = D9) := by show _ = _; rw [epoch, if_neg HZ.out, if_neg (show ¬ d.p = 1 by omega), if_neg (show ¬ d.p = 3 by omega), if_neg (show ¬ d.p = 5 by omega), hD9]; rw [HD3.out, HCL2.out]; rfl
        clear h1 h2
        go_wp2_with (refine sh_loadg rfl rfl (H5.out.bag.get 2 rfl) ?_)
        refine (bg_one M3 D3 _ H5.out.own H5.out.par HCL.out).mono ?_
        rw [← hD9]
        clear hD9
        rintro e WA ⟨M9, rfl, O9, P9, f9, B9⟩
        have H6 : Hid (Wkb (fun _ => False) w WA [(b1, L, d), (b2, zl, SD.zero), (b, M3, D3)] M9 D9) := H5.out.begun B9 O9 P9 f9
        clear O9 P9 f9 B9 H5
        go_wp2_with (refine sh_store (L := M9) (d := D9) rfl rfl (H6.out.bag.get 1 rfl) ?_)
        intro WB SB GB
        have H7 : Hid (Wkb (fun _ => False) w WB [(b1, L, d), (b2, M9, D9), (b, M3, D3)] M9 D9) := H6.out.put 1 rfl SB GB
        clear SB GB H6
        go_wp2_with fail
        exact bodyPost_ret (ret_shop rfl rfl (H7.out.bag.get 1 rfl)) rfl ⟨M9, by rw [HE.out], by rw [HE.out]; exact H7.out.post, H7.out.bag.bel⟩
      by_cases h3 : d.p = 3
      · have e : v = .iface 127 (.agg #[]) := by rw [HV.out, h3]; simp [wayV]
        subst e
        have fB := finds_begun3
        obtain ⟨D9, hD9⟩ : ∃ D' : SD, D' = { D3 with n := List.replicate M3.c.n 0, l := newC D3.c, h := newR D3.c, lt := 0, la := 0 } := ⟨_, rfl⟩
        have HE : Hid (epoch d = D9) := by show _ = _; rw [epoch, if_neg HZ.out, if_neg (show ¬ d.p = 1 by omega), if_pos h3, hD9]; rw [HD3.out, HCL2.out]; rfl
        clear h1 h2 h3
        go_wp2_with (refine sh_loadg rfl rfl (H5.out.bag.get 2 rfl) ?_)
        refine (bg_list M3 D3 _ H5.out.own H5.out.par HCL.out).mono ?_
        rw [← hD9]
        clear hD9
        rintro e WA ⟨M9, rfl, O9, P9, f9, B9⟩
        have H6 : Hid (Wkb (fun _ => False) w WA [(b1, L, d), (b2, zl, SD.zero), (b, M3, D3)] M9 D9) := H5.out.begun B9 O9 P9 f9
        clear O9 P9 f9 B9 H5
        go_wp2_with (refine sh_store (L := M9) (d := D9) rfl rfl (H6.out.bag.get 1 rfl) ?_)
        intro WB SB GB
        have H7 : Hid (Wkb (fun _ => False) w WB [(b1, L, d), (b2, M9, D9), (b, M3, D3)] M9 D9) := H6.out.put 1 rfl SB GB
        clear SB GB H6
        go_wp2_with fail
        exact bodyPost_ret (ret_shop rfl rfl (H7.out.bag.get 1 rfl)) rfl ⟨M9, by rw [HE.out], by rw [HE.out]; exact H7.out.post, H7.out.bag.bel⟩
      by_cases h4 : d.p = 4
      · have e : v = .iface 152 (.agg #[]) := by rw [HV.out, h4]; simp [wayV]
        subst e
        have fB := finds_begun4
        obtain ⟨D9, hD9⟩ : ∃ D' : SD, D' = { D3 with n := List.replicate M3.c.n 0 } := ⟨_, rfl⟩
        have HE : Hid (epoch d = D9) := by show _ = _; rw [epoch, if_neg HZ.out, if_neg (show ¬ d.p = 1 by omega), if_neg (show ¬ d.p = 3 by omega), if_neg (show ¬ d.p = 5 by omega), hD9]; rw [HD3.out, HCL2.out]; rfl
        clear h1 h2 h3 h4
        go_wp2_with (refine sh_loadg rfl rfl (H5.out.bag.get 2 rfl) ?_)
        refine (bg_one M3 D3 _ H5.out.own H5.out.par HCL.out).mono ?_
        rw [← hD9]
        clear hD9
        rintro e WA ⟨M9, rfl, O9, P9, f9, B9⟩
        have H6 : Hid (Wkb (fun _ => False) w WA [(b1, L, d), (b2, zl, SD.zero), (b, M3, D3)] M9 D9) := H5.out.begun B9 O9 P9 f9
        clear O9 P9 f9 B9 H5
        go_wp2_with (refine sh_store (L := M9) (d := D9) rfl rfl (H6.out.bag.get 1 rfl) ?_)
        intro WB SB GB
        have H7 : Hid (Wkb (fun _ => False) w WB [(b1, L, d), (b2, M9, D9), (b, M3, D3)] M9 D9) := H6.out.put 1 rfl SB GB
        clear SB GB H6
        go_wp2_with fail
        exact bodyPost_ret (ret_shop rfl rfl (H7.out.bag.get 1 rfl)) rfl ⟨M9, by rw [HE.out], by rw [HE.out]; exact H7.out.post, H7.out.bag.bel⟩
      by_cases h5 : d.p = 5
      · have e : v = .iface 128 (.agg #[]) := by rw [HV.out, h5]; simp [wayV]
        subst e
        have fB := finds_begun5
        obtain ⟨D9, hD9⟩ : ∃ D' : SD, D' = { D3 with y := nmS (adjusted D3.c D3.q) D3.q, z := nmN (adjusted D3.c D3.q) D3.q, yq := nmQ (adjusted D3.c D3.q) D3.q, yt := 0, n := nmN (adjusted D3.c D3.q) D3.q } := ⟨_, rfl⟩
        have HE : Hid (epoch d = D9) := by show _ = _; rw [epoch, if_neg HZ.out, if_neg (show ¬ d.p = 1 by omega), if_neg (show ¬ d.p = 3 by omega), if_pos h5, hD9]; rw [HD3.out]; have hn := HNM.out HZ.out; show { epoN d with y := nmS (adjusted (cw d.t (rdyL d.t)) d.q) d.q, z := nmN (adjusted (cw d.t (rdyL d.t)) d.q) d.q, yq := nmQ (adjusted (cw d.t (rdyL d.t)) d.q) d.q } = { epo d with y := nmS (adjusted (cw d.t (rdyL d.t)) d.q) d.q, z := nmN (adjusted (cw d.t (rdyL d.t)) d.q) d.q, yq := nmQ (adjusted (cw d.t (rdyL d.t)) d.q) d.q, yt := 0, n := nmN (adjusted (cw d.t (rdyL d.t)) d.q) d.q }; rw [hn]; rfl
        clear h1 h2 h3 h4 h5
        go_wp2_with (refine sh_loadg rfl rfl (H5.out.bag.get 2 rfl) ?_)
        refine (bg_many M3 D3 _ H5.out.own H5.out.par HCL.out).mono ?_
        rw [← hD9]
        clear hD9
        rintro e WA ⟨M9, rfl, O9, P9, f9, B9⟩
        have H6 : Hid (Wkb (fun _ => False) w WA [(b1, L, d), (b2, zl, SD.zero), (b, M3, D3)] M9 D9) := H5.out.begun B9 O9 P9 f9
        clear O9 P9 f9 B9 H5
        go_wp2_with (refine sh_store (L := M9) (d := D9) rfl rfl (H6.out.bag.get 1 rfl) ?_)
        intro WB SB GB
        have H7 : Hid (Wkb (fun _ => False) w WB [(b1, L, d), (b2, M9, D9), (b, M3, D3)] M9 D9) := H6.out.put 1 rfl SB GB
        clear SB GB H6
        go_wp2_with fail
        exact bodyPost_ret (ret_shop rfl rfl (H7.out.bag.get 1 rfl)) rfl ⟨M9, by rw [HE.out], by rw [HE.out]; exact H7.out.post, H7.out.bag.bel⟩
      exact absurd hpp (by omega)

/-- impl.Reopened at every Shop. -/
theorem implReopened (L : LT) (d : SD) (w : World) (I : Rd w L d) (hs : Short L) :
    Calls Tryz.prog 15 #[sv L d] w (ShPost (reopD d) w) := by
  cases h : outerB d
  · exact implReop_no L d w I hs h
  · exact implReop_yes L d w I hs h

end Go.Proofs.YtcmeimfjedakeaaGreat.Crew
