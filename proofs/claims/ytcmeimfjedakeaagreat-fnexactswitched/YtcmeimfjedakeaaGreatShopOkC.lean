/-
  spec.ShopOk of the ways that keep nothing of their own. (Written by wip/tools/gen_shopok.py.)
-/
import Derived.Test.YtcmeimfjedakeaaGreatShopOkA
namespace Go.Proofs.YtcmeimfjedakeaaGreat.Crew
open Go.ChangeShapes Go.WideShapes Go.ChangeAt Go.RowKit

set_option maxRecDepth 100000 in
set_option maxHeartbeats 8000000 in
theorem shopOk_rest (L : LT) (d : SD) (w : World) (I : Rd w L d) (hs : Short L) (ho : outerB d = true) (hm : d.m = rdyL d.t) (hc : d.c = cw d.t d.m) (hz : ¬ L.m.n = 0) (hr1 : ¬ d.p = 1) (hr3 : ¬ d.p = 3) (hr5 : ¬ d.p = 5) :
    Calls Tryz.prog 33 #[sv L d] w fun e w' => e = .returned (.bool (shopOk d)) ∧ Below w.heap.size w w' := by
  have HI : Hid (Rd w L d) := I
  obtain ⟨s0, s1, s2, s3, s4, s5, s6, s7, s8, s9⟩ := short_parts hs
  have HSH : Hid (Short L) := hs
  have HLM : Hid (d.m.length = L.m.n ∧ d.n.length = L.n.n) := ⟨I.m.1, I.n.1⟩
  clear I hs
  have hbz : ((L.m.n : Int) == (0 : Int)) = false := by simp; omega
  have HZ : Hid (¬ L.m.n = 0) := hz
  clear hz
  have hq1 : (d.p != (1 : Int)) = true := by simpa using hr1
  have hq3 : (d.p != (3 : Int)) = true := by simpa using hr3
  have hq5 : (d.p != (5 : Int)) = true := by simpa using hr5
  have HP : Hid ((¬ d.p = 1) ∧ (¬ d.p = 3) ∧ ¬ d.p = 5) := ⟨hr1, hr3, hr5⟩
  clear hr1 hr3 hr5
  have HM : Hid (∀ k, k < L.m.n → 0 ≤ findT d.t (d.m.getD k 0)) := fun k hk => members_found hm (by rw [HLM.out.1]; exact hk)
  have HR : Hid (∀ (X : World) (g c : Nat), Row X g c (cw d.t d.m) → Ints X (some ⟨g, 0, none⟩) L.m.n (cw d.t d.m)) := fun X g c R => by
    have h := R.ints
    rw [cw_len, HLM.out.1] at h
    exact h
  have HF : Hid (outerB d = true ∧ decide (d.m = rdyL d.t) = true ∧ decide (d.c = cw d.t d.m) = true) := ⟨ho, decide_eq_true hm, decide_eq_true hc⟩
  have HW : Hid (shopOk d = (!kept d && (if d.m.length = 0 then decide (d.n.length = 0) else innerB d))) := by show _ = _; rw [shopOk, ho, decide_eq_true hm, decide_eq_true hc]; rfl
  clear ho hm hc
  obtain ⟨W0, hW0⟩ : ∃ W0, W0 = w.alloc (.cells (sc L d) 36) := ⟨_, rfl⟩
  have SW : Sw w W0 L d := by rw [hW0]; exact sw_new _ _ _
  go_enter Tryz.func33, Tryz.ntmps33
  obtain ⟨c0, c1, c2, c3, c4, c5, c6, c7, c8, c9, c10, c11, c12, c13, c14, c15, c16⟩ := SW.bx.shop
  rw [hW0] at c0 c1 c2 c3 c4 c5 c6 c7 c8 c9 c10 c11 c12 c13 c14 c15 c16
  go_wp2_with fail
  rw [← hW0] at c0 c1 c2 c3 c4 c5 c6 c7 c8 c9 c10 c11 c12 c13 c14 c15 c16 ⊢
  have m0 := SW.bx.1
  clear hW0
  refine wp_region_held_drew (S := fun w' => w'.cell? ⟨w.heap.size, 0, none⟩ = some (.int .i64 d.p) ∧ w'.cell? ⟨w.heap.size, 1, none⟩ = some (.int .i64 d.q) ∧ w'.cell? ⟨w.heap.size, 2, none⟩ = some L.t.v ∧ w'.cell? ⟨w.heap.size, 3, none⟩ = some L.m.v ∧ w'.cell? ⟨w.heap.size, 4, none⟩ = some L.c.v ∧ w'.cell? ⟨w.heap.size, 5, none⟩ = some L.n.v ∧ w'.cell? ⟨w.heap.size, 6, none⟩ = some L.s.v ∧ w'.cell? ⟨w.heap.size, 7, none⟩ = some L.r.v ∧ w'.cell? ⟨w.heap.size, 8, none⟩ = some L.l.v ∧ w'.cell? ⟨w.heap.size, 9, none⟩ = some L.h.v ∧ w'.cell? ⟨w.heap.size, 10, none⟩ = some (.int .i64 d.lt) ∧ w'.cell? ⟨w.heap.size, 11, none⟩ = some (.int .i64 d.la) ∧ w'.cell? ⟨w.heap.size, 12, none⟩ = some L.y.v ∧ w'.cell? ⟨w.heap.size, 13, none⟩ = some L.z.v ∧ w'.cell? ⟨w.heap.size, 14, none⟩ = some (.int .i64 d.yq) ∧ w'.cell? ⟨w.heap.size, 15, none⟩ = some (.int .i64 d.yt) ∧ w'.cell? ⟨w.heap.size, 16, none⟩ = some (.int .i64 d.w)) (by kernel_rfl) (by simp [*]) (fun hHeld => ?_)
  refine wpAnyH_take (i := 0) (v := ?a12nv0) rfl (by kernel_rfl) (by kernel_rfl) (by kernel_rfl) (fun _ _ _ h => h) (Or.inl ⟨by kernel_rfl, ?a12nhy0⟩) (by assumption) ?a12nrest0
  case a12nhy0 =>
    intro w hSw
    try dsimp only at hSw
    go_simp
    try with_reducible rfl
  case' a12nrest0 => try dsimp only [Act.put, List.setIfInBounds_toArray, List.set_cons_zero, List.set_cons_succ]
  refine wpAnyH_ready (rs := [1]) (by kernel_rfl) (by simp) ?_
  refine AllReadyH.cons rfl (fun K hK => ?_) AllReadyH.nil
  go_simp
  refine (specOuter L d _ (HI.out.t.kept (by first | with_reducible exact SW.bel | with_reducible exact SW.drew.bel)) s0).mono ?_
  rw [HF.out.1]
  rintro e u ⟨rfl, B⟩
  have SW : Sw w u L d := (by first | with_reducible exact SW.all B | with_reducible exact SW.drew.all B)
  obtain ⟨c0, c1, c2, c3, c4, c5, c6, c7, c8, c9, c10, c11, c12, c13, c14, c15, c16⟩ := SW.bx.shop
  have m0 := SW.bx.1
  go_wp2_with fail
  refine hK.out _ _ (by simp [*]) (fun hHeld => ?_)
  clear hK K
  try dsimp only [Act.put, List.setIfInBounds_toArray, List.set_cons_zero, List.set_cons_succ]
  refine wpAnyH_take (i := 2) (v := ?a12nv2) rfl (by kernel_rfl) (by kernel_rfl) (by kernel_rfl) (fun _ _ _ h => h) (Or.inl ⟨by kernel_rfl, ?a12nhy2⟩) (by assumption) ?a12nrest2
  case a12nhy2 =>
    intro w hSw
    try dsimp only at hSw
    go_simp
    try with_reducible rfl
  case' a12nrest2 => try dsimp only [Act.put, List.setIfInBounds_toArray, List.set_cons_zero, List.set_cons_succ]
  refine wpAnyH_take (i := 3) (v := ?a12nv3) rfl (by kernel_rfl) (by kernel_rfl) (by kernel_rfl) (fun _ _ _ h => h) (Or.inl ⟨by kernel_rfl, ?a12nhy3⟩) (by assumption) ?a12nrest3
  case a12nhy3 =>
    intro w hSw
    try dsimp only at hSw
    go_simp
    try with_reducible rfl
  case' a12nrest3 => try dsimp only [Act.put, List.setIfInBounds_toArray, List.set_cons_zero, List.set_cons_succ]
  refine wpAnyH_take (i := 4) (v := ?a12nv4) rfl (by kernel_rfl) (by kernel_rfl) (by kernel_rfl) (fun _ _ _ h => h) (Or.inl ⟨by kernel_rfl, ?a12nhy4⟩) (by assumption) ?a12nrest4
  case a12nhy4 =>
    intro w hSw
    try dsimp only at hSw
    go_simp
    try with_reducible rfl
  case' a12nrest4 => try dsimp only [Act.put, List.setIfInBounds_toArray, List.set_cons_zero, List.set_cons_succ]
  refine wpAnyH_take (i := 5) (v := ?a12nv5) rfl (by kernel_rfl) (by kernel_rfl) (by kernel_rfl) (fun _ _ _ h => h) (Or.inl ⟨by kernel_rfl, ?a12nhy5⟩) (by assumption) ?a12nrest5
  case a12nhy5 =>
    intro w hSw
    try dsimp only at hSw
    go_simp
    try with_reducible rfl
  case' a12nrest5 => try dsimp only [Act.put, List.setIfInBounds_toArray, List.set_cons_zero, List.set_cons_succ]
  refine wpAnyH_take (i := 6) (v := ?a12nv6) rfl (by kernel_rfl) (by kernel_rfl) (by kernel_rfl) (fun _ _ _ h => h) (Or.inl ⟨by kernel_rfl, ?a12nhy6⟩) (by assumption) ?a12nrest6
  case a12nhy6 =>
    intro w hSw
    try dsimp only at hSw
    go_simp
    try with_reducible rfl
  case' a12nrest6 => try dsimp only [Act.put, List.setIfInBounds_toArray, List.set_cons_zero, List.set_cons_succ]
  refine wpAnyH_take (i := 7) (v := ?a12nv7) rfl (by kernel_rfl) (by kernel_rfl) (by kernel_rfl) (fun _ _ _ h => h) (Or.inl ⟨by kernel_rfl, ?a12nhy7⟩) (by assumption) ?a12nrest7
  case a12nhy7 =>
    intro w hSw
    try dsimp only at hSw
    go_simp
    try with_reducible rfl
  case' a12nrest7 => try dsimp only [Act.put, List.setIfInBounds_toArray, List.set_cons_zero, List.set_cons_succ]
  refine wpAnyH_ready (rs := [8]) (by kernel_rfl) (by simp) ?_
  refine AllReadyH.cons rfl (fun K hK => ?_) AllReadyH.nil
  go_simp
  refine (specReadyOf L.t.a L.t.n L.t.c d.t _ (HI.out.t.kept (by first | with_reducible exact SW.bel | with_reducible exact SW.drew.bel)) s0).mono ?_
  rintro e u ⟨g, n, c, rfl, F, B⟩
  have SW : Sw w u L d := (by first | with_reducible exact SW.all B | with_reducible exact SW.drew.all B)
  obtain ⟨c0, c1, c2, c3, c4, c5, c6, c7, c8, c9, c10, c11, c12, c13, c14, c15, c16⟩ := SW.bx.shop
  have m0 := SW.bx.1
  go_wp2_with fail
  refine hK.out _ _ (by simp [*]) (fun hHeld => ?_)
  clear hK K
  try dsimp only [Act.put, List.setIfInBounds_toArray, List.set_cons_zero, List.set_cons_succ]
  refine wpAnyH_ready (rs := [9]) (by kernel_rfl) (by simp) ?_
  refine AllReadyH.cons rfl (fun K hK => ?_) AllReadyH.nil
  go_simp
  refine (specSame L.m.a L.m.n L.m.c d.m (some ⟨g, 0, none⟩) n c (rdyL d.t) _ (HI.out.m.kept (by first | with_reducible exact SW.bel | with_reducible exact SW.drew.bel)) (by first | exact F.ints | exact F.ints.drew) s1).mono ?_
  rw [HF.out.2.1]
  rintro e u ⟨rfl, B⟩
  have SW : Sw w u L d := (by first | with_reducible exact SW.all B | with_reducible exact SW.drew.all B)
  obtain ⟨c0, c1, c2, c3, c4, c5, c6, c7, c8, c9, c10, c11, c12, c13, c14, c15, c16⟩ := SW.bx.shop
  have m0 := SW.bx.1
  go_wp2_with fail
  refine hK.out _ _ (by simp [*]) (fun hHeld => ?_)
  clear hK K
  try dsimp only [Act.put, List.setIfInBounds_toArray, List.set_cons_zero, List.set_cons_succ]
  refine wpAnyH_take (i := 10) (v := ?a12nv10) rfl (by kernel_rfl) (by kernel_rfl) (by kernel_rfl) (fun _ _ _ h => h) (Or.inl ⟨by kernel_rfl, ?a12nhy10⟩) (by assumption) ?a12nrest10
  case a12nhy10 =>
    intro w hSw
    try dsimp only at hSw
    go_simp
    try with_reducible rfl
  case' a12nrest10 => try dsimp only [Act.put, List.setIfInBounds_toArray, List.set_cons_zero, List.set_cons_succ]
  refine wpAnyH_take (i := 11) (v := ?a12nv11) rfl (by kernel_rfl) (by kernel_rfl) (by kernel_rfl) (fun _ _ _ h => h) (Or.inl ⟨by kernel_rfl, ?a12nhy11⟩) (by assumption) ?a12nrest11
  case a12nhy11 =>
    intro w hSw
    try dsimp only at hSw
    go_simp
    try with_reducible rfl
  case' a12nrest11 => try dsimp only [Act.put, List.setIfInBounds_toArray, List.set_cons_zero, List.set_cons_succ]
  refine wpAnyH_take (i := 12) (v := ?a12nv12) rfl (by kernel_rfl) (by kernel_rfl) (by kernel_rfl) (fun _ _ _ h => h) (Or.inl ⟨by kernel_rfl, ?a12nhy12⟩) (by assumption) ?a12nrest12
  case a12nhy12 =>
    intro w hSw
    try dsimp only at hSw
    go_simp
    try with_reducible rfl
  case' a12nrest12 => try dsimp only [Act.put, List.setIfInBounds_toArray, List.set_cons_zero, List.set_cons_succ]
  refine wpAnyH_take (i := 13) (v := ?a12nv13) rfl (by kernel_rfl) (by kernel_rfl) (by kernel_rfl) (fun _ _ _ h => h) (Or.inl ⟨by kernel_rfl, ?a12nhy13⟩) (by assumption) ?a12nrest13
  case a12nhy13 =>
    intro w hSw
    try dsimp only at hSw
    go_simp
    try with_reducible rfl
  case' a12nrest13 => try dsimp only [Act.put, List.setIfInBounds_toArray, List.set_cons_zero, List.set_cons_succ]
  refine wpAnyH_take (i := 14) (v := ?a12nv14) rfl (by kernel_rfl) (by kernel_rfl) (by kernel_rfl) (fun _ _ _ h => h) (Or.inl ⟨by kernel_rfl, ?a12nhy14⟩) (by assumption) ?a12nrest14
  case a12nhy14 =>
    intro w hSw
    try dsimp only at hSw
    go_simp
    try with_reducible rfl
  case' a12nrest14 => try dsimp only [Act.put, List.setIfInBounds_toArray, List.set_cons_zero, List.set_cons_succ]
  refine wpAnyH_take (i := 15) (v := ?a12nv15) rfl (by kernel_rfl) (by kernel_rfl) (by kernel_rfl) (fun _ _ _ h => h) (Or.inl ⟨by kernel_rfl, ?a12nhy15⟩) (by assumption) ?a12nrest15
  case a12nhy15 =>
    intro w hSw
    try dsimp only at hSw
    go_simp
    try with_reducible rfl
  case' a12nrest15 => try dsimp only [Act.put, List.setIfInBounds_toArray, List.set_cons_zero, List.set_cons_succ]
  refine wpAnyH_take (i := 16) (v := ?a12nv16) rfl (by kernel_rfl) (by kernel_rfl) (by kernel_rfl) (fun _ _ _ h => h) (Or.inl ⟨by kernel_rfl, ?a12nhy16⟩) (by assumption) ?a12nrest16
  case a12nhy16 =>
    intro w hSw
    try dsimp only at hSw
    go_simp
    try with_reducible rfl
  case' a12nrest16 => try dsimp only [Act.put, List.setIfInBounds_toArray, List.set_cons_zero, List.set_cons_succ]
  refine wpAnyH_take (i := 17) (v := ?a12nv17) rfl (by kernel_rfl) (by kernel_rfl) (by kernel_rfl) (fun _ _ _ h => h) (Or.inl ⟨by kernel_rfl, ?a12nhy17⟩) (by assumption) ?a12nrest17
  case a12nhy17 =>
    intro w hSw
    try dsimp only at hSw
    go_simp
    try with_reducible rfl
  case' a12nrest17 => try dsimp only [Act.put, List.setIfInBounds_toArray, List.set_cons_zero, List.set_cons_succ]
  refine wpAnyH_take (i := 18) (v := ?a12nv18) rfl (by kernel_rfl) (by kernel_rfl) (by kernel_rfl) (fun _ _ _ h => h) (Or.inl ⟨by kernel_rfl, ?a12nhy18⟩) (by assumption) ?a12nrest18
  case a12nhy18 =>
    intro w hSw
    try dsimp only at hSw
    go_simp
    try with_reducible rfl
  case' a12nrest18 => try dsimp only [Act.put, List.setIfInBounds_toArray, List.set_cons_zero, List.set_cons_succ]
  refine wpAnyH_ready (rs := [19]) (by kernel_rfl) (by simp) ?_
  refine AllReadyH.cons rfl (fun K hK => ?_) AllReadyH.nil
  go_simp
  refine (specCw L.t.a L.t.n L.t.c d.t L.m.a L.m.n L.m.c d.m _ (HI.out.t.kept (by first | with_reducible exact SW.bel | with_reducible exact SW.drew.bel)) (HI.out.m.kept (by first | with_reducible exact SW.bel | with_reducible exact SW.drew.bel)) s0 s1 HM.out).mono ?_
  rintro e u ⟨g2, k2, rfl, R, hg, B⟩
  have SW : Sw w u L d := (by first | with_reducible exact SW.all B | with_reducible exact SW.drew.all B)
  obtain ⟨c0, c1, c2, c3, c4, c5, c6, c7, c8, c9, c10, c11, c12, c13, c14, c15, c16⟩ := SW.bx.shop
  have m0 := SW.bx.1
  go_wp2_with fail
  refine hK.out _ _ (by simp [*]) (fun hHeld => ?_)
  clear hK K
  try dsimp only [Act.put, List.setIfInBounds_toArray, List.set_cons_zero, List.set_cons_succ]
  refine wpAnyH_ready (rs := [20]) (by kernel_rfl) (by simp) ?_
  refine AllReadyH.cons rfl (fun K hK => ?_) AllReadyH.nil
  go_simp
  refine (specSame L.c.a L.c.n L.c.c d.c (some ⟨g2, 0, none⟩) L.m.n k2 (cw d.t d.m) _ (HI.out.c.kept (by first | with_reducible exact SW.bel | with_reducible exact SW.drew.bel)) (by first | exact HR.out _ _ _ R | exact HR.out _ _ _ R.drew) s2).mono ?_
  rw [HF.out.2.2]
  rintro e u ⟨rfl, B⟩
  have SW : Sw w u L d := (by first | with_reducible exact SW.all B | with_reducible exact SW.drew.all B)
  obtain ⟨c0, c1, c2, c3, c4, c5, c6, c7, c8, c9, c10, c11, c12, c13, c14, c15, c16⟩ := SW.bx.shop
  have m0 := SW.bx.1
  go_wp2_with fail
  refine hK.out _ _ (by simp [*]) (fun hHeld => ?_)
  clear hK K
  try dsimp only [Act.put, List.setIfInBounds_toArray, List.set_cons_zero, List.set_cons_succ]
  refine wpAnyH_take (i := 21) (v := ?a12nv21) rfl (by kernel_rfl) (by kernel_rfl) (by kernel_rfl) (fun _ _ _ h => h) (Or.inl ⟨by kernel_rfl, ?a12nhy21⟩) (by assumption) ?a12nrest21
  case a12nhy21 =>
    intro w hSw
    try dsimp only at hSw
    go_simp
    try with_reducible rfl
  case' a12nrest21 => try dsimp only [Act.put, List.setIfInBounds_toArray, List.set_cons_zero, List.set_cons_succ]
  refine wpAnyH_take (i := 22) (v := ?a12nv22) rfl (by kernel_rfl) (by kernel_rfl) (by kernel_rfl) (fun _ _ _ h => h) (Or.inl ⟨by kernel_rfl, ?a12nhy22⟩) (by assumption) ?a12nrest22
  case a12nhy22 =>
    intro w hSw
    try dsimp only at hSw
    go_simp
    try with_reducible rfl
  case' a12nrest22 => try dsimp only [Act.put, List.setIfInBounds_toArray, List.set_cons_zero, List.set_cons_succ]
  refine wpAnyH_done (by kernel_rfl) ?_ _
  simp only [List.getElem_toArray, List.getElem_cons_succ, List.getElem_cons_zero, List.setIfInBounds_toArray, List.set_cons_zero, List.set_cons_succ]
  have HS : Hid (Sw w u L d) := SW
  clear SW c0 c1 c2 c3 c4 c5 c6 c7 c8 c9 c10 c11 c12 c13 c14 c15 c16 m0 hHeld
  obtain ⟨c0, c1, c2, c3, c4, c5, c6, c7, c8, c9, c10, c11, c12, c13, c14, c15, c16⟩ := HS.out.bx.shop
  have SW1 : Hid (Sw w u L d) := HS.out
  cases hS : noS d.s d.r
  · have XS : Hid (noS d.s d.r = false) := hS
    have HE : Hid (shopOk d = false) := by
      show _ = _
      have e : keptS d = true := by rw [keptS, hS, show decide (d.p ≠ 1) = true from decide_eq_true HP.out.1, Bool.or_true]; rfl
      rw [HW.out, kept, e]
      simp
    clear hS
    go_wp2_with fail
    refine (specNoS L.s.a L.s.n L.s.c L.r.a L.r.n L.r.c d.s d.r _ HI.out.s.1 HI.out.r.1).mono ?_
    rw [XS.out]
    rintro e w2 ⟨rfl, B2⟩
    have SW2 : Hid (Sw w w2 L d) := SW1.out.all B2
    clear B2
    obtain ⟨c0, c1, c2, c3, c4, c5, c6, c7, c8, c9, c10, c11, c12, c13, c14, c15, c16⟩ := SW2.out.bx.shop
    go_wp2_with fail
    go_ret
    exact ⟨by rw [HE.out]; rfl, SW2.out.bel⟩
  have XS : Hid (noS d.s d.r = true) := hS
  clear hS
  go_wp2_with fail
  refine (specNoS L.s.a L.s.n L.s.c L.r.a L.r.n L.r.c d.s d.r _ HI.out.s.1 HI.out.r.1).mono ?_
  rw [XS.out]
  rintro e w2 ⟨rfl, B2⟩
  have SW2 : Hid (Sw w w2 L d) := SW1.out.all B2
  clear B2
  obtain ⟨c0, c1, c2, c3, c4, c5, c6, c7, c8, c9, c10, c11, c12, c13, c14, c15, c16⟩ := SW2.out.bx.shop
  cases hL : noL d.l d.h d.lt d.la
  · have XL : Hid (noL d.l d.h d.lt d.la = false) := hL
    have HE : Hid (shopOk d = false) := by
      show _ = _
      have e : keptL d = true := by rw [keptL, hL, show decide (d.p ≠ 3) = true from decide_eq_true HP.out.2.1, Bool.or_true]; rfl
      rw [HW.out, kept, e]
      simp
    clear hL
    go_wp2_with fail
    refine (specNoL L.l.a L.l.n L.l.c L.h.a L.h.n L.h.c d.l d.h d.lt d.la _ HI.out.l.1 HI.out.h.1).mono ?_
    rw [XL.out]
    rintro e w3 ⟨rfl, B3⟩
    have SW3 : Hid (Sw w w3 L d) := SW2.out.all B3
    clear B3
    obtain ⟨c0, c1, c2, c3, c4, c5, c6, c7, c8, c9, c10, c11, c12, c13, c14, c15, c16⟩ := SW3.out.bx.shop
    go_wp2_with fail
    go_ret
    exact ⟨by rw [HE.out]; rfl, SW3.out.bel⟩
  have XL : Hid (noL d.l d.h d.lt d.la = true) := hL
  clear hL
  go_wp2_with fail
  refine (specNoL L.l.a L.l.n L.l.c L.h.a L.h.n L.h.c d.l d.h d.lt d.la _ HI.out.l.1 HI.out.h.1).mono ?_
  rw [XL.out]
  rintro e w3 ⟨rfl, B3⟩
  have SW3 : Hid (Sw w w3 L d) := SW2.out.all B3
  clear B3
  obtain ⟨c0, c1, c2, c3, c4, c5, c6, c7, c8, c9, c10, c11, c12, c13, c14, c15, c16⟩ := SW3.out.bx.shop
  cases hM : noM d.y d.z d.yq d.yt
  · have XM : Hid (noM d.y d.z d.yq d.yt = false) := hM
    have HE : Hid (shopOk d = false) := by
      show _ = _
      have e : keptM d = true := by rw [keptM, hM, show decide (d.p ≠ 5) = true from decide_eq_true HP.out.2.2, Bool.or_true]; rfl
      rw [HW.out, kept, e]
      simp
    clear hM
    go_wp2_with fail
    refine (specNoM L.y.a L.y.n L.y.c L.z.a L.z.n L.z.c d.y d.z d.yq d.yt _ HI.out.y.1 HI.out.z.1).mono ?_
    rw [XM.out]
    rintro e w4 ⟨rfl, B4⟩
    have SW4 : Hid (Sw w w4 L d) := SW3.out.all B4
    clear B4
    obtain ⟨c0, c1, c2, c3, c4, c5, c6, c7, c8, c9, c10, c11, c12, c13, c14, c15, c16⟩ := SW4.out.bx.shop
    go_wp2_with fail
    go_ret
    exact ⟨by rw [HE.out]; rfl, SW4.out.bel⟩
  have XM : Hid (noM d.y d.z d.yq d.yt = true) := hM
  clear hM
  go_wp2_with fail
  refine (specNoM L.y.a L.y.n L.y.c L.z.a L.z.n L.z.c d.y d.z d.yq d.yt _ HI.out.y.1 HI.out.z.1).mono ?_
  rw [XM.out]
  rintro e w4 ⟨rfl, B4⟩
  have SW4 : Hid (Sw w w4 L d) := SW3.out.all B4
  clear B4
  obtain ⟨c0, c1, c2, c3, c4, c5, c6, c7, c8, c9, c10, c11, c12, c13, c14, c15, c16⟩ := SW4.out.bx.shop
  have HE : Hid (shopOk d = innerB d) := by
    show _ = _
    have hk : kept d = false := by rw [kept, keptS, keptL, keptM, XS.out, XL.out, XM.out, show decide (d.m.length = 0) = false from decide_eq_false (by rw [HLM.out.1]; exact HZ.out)]; simp [HP.out]
    rw [HW.out, hk, if_neg (by rw [HLM.out.1]; exact HZ.out)]
    rfl
  go_wp2_with fail
  refine (specInner L d _ (HI.out.kept SW4.out.bel) HSH.out).mono ?_
  rintro e w9 ⟨rfl, B9⟩
  have S9 : Hid (Sw w w9 L d) := SW4.out.all B9
  clear B9
  go_wp2_with fail
  go_ret
  exact ⟨by rw [HE.out]; rfl, S9.out.bel⟩

end Go.Proofs.YtcmeimfjedakeaaGreat.Crew
