/-
  spec.ShopOk where the policy is PcSmooth or PcList. (Written by wip/tools/gen_shopok.py.)
-/
import Derived.Test.YtcmeimfjedakeaaGreatShopOkA
namespace Go.Proofs.YtcmeimfjedakeaaGreat.Crew
open Go.ChangeShapes Go.WideShapes Go.ChangeAt Go.RowKit

set_option maxRecDepth 100000 in
set_option maxHeartbeats 8000000 in
theorem shopOk_p1 (L : LT) (d : SD) (w : World) (I : Rd w L d) (hs : Short L) (ho : outerB d = true) (hm : d.m = rdyL d.t) (hc : d.c = cw d.t d.m) (hz : ¬ L.m.n = 0) (hp : d.p = 1) :
    Calls Tryz.prog 33 #[sv L d] w fun e w' => e = .returned (.bool (shopOk d)) ∧ Below w.heap.size w w' := by
  have HI : Hid (Rd w L d) := I
  obtain ⟨s0, s1, s2, s3, s4, s5, s6, s7, s8, s9⟩ := short_parts hs
  have HSH : Hid (Short L) := hs
  have HLM : Hid (d.m.length = L.m.n ∧ d.n.length = L.n.n) := ⟨I.m.1, I.n.1⟩
  clear I hs
  have hbz : ((L.m.n : Int) == (0 : Int)) = false := by simp; omega
  have HZ : Hid (¬ L.m.n = 0) := hz
  clear hz
  have hq1 : (d.p != (1 : Int)) = false := by simp [hp]
  have hq3 : (d.p != (3 : Int)) = true := by simp [hp]
  have hq5 : (d.p != (5 : Int)) = true := by simp [hp]
  have HP : Hid (d.p = 1) := hp
  clear hp
  have HM : Hid (∀ k, k < L.m.n → 0 ≤ findT d.t (d.m.getD k 0)) := fun k hk => members_found hm (by rw [HLM.out.1]; exact hk)
  have HR : Hid (∀ (X : World) (g c : Nat), Row X g c (cw d.t d.m) → Ints X (some ⟨g, 0, none⟩) L.m.n (cw d.t d.m)) := fun X g c R => by
    have h := R.ints
    rw [cw_len, HLM.out.1] at h
    exact h
  have HF : Hid (outerB d = true ∧ decide (d.m = rdyL d.t) = true ∧ decide (d.c = cw d.t d.m) = true) := ⟨ho, decide_eq_true hm, decide_eq_true hc⟩
  have HW : Hid (shopOk d = (!kept d && (if d.m.length = 0 then decide (d.n.length = 0) else innerB d))) := by show _ = _; rw [shopOk, ho, decide_eq_true hm, decide_eq_true hc]; rfl
  clear ho hm hc
  obtain ⟨W0, hW0⟩ : ∃ W0, W0 = w.alloc (.cells (sc L d) 36) := ⟨_, rfl⟩
  have SW : Sw w W0 L d := by rw [hW0]; exact sw_new _ _ _
  go_enter Tryz.func33, Tryz.ntmps33
  obtain ⟨c0, c1, c2, c3, c4, c5, c6, c7, c8, c9, c10, c11, c12, c13, c14, c15, c16⟩ := SW.bx.shop
  rw [hW0] at c0 c1 c2 c3 c4 c5 c6 c7 c8 c9 c10 c11 c12 c13 c14 c15 c16
  go_wp2_with fail
  rw [← hW0] at c0 c1 c2 c3 c4 c5 c6 c7 c8 c9 c10 c11 c12 c13 c14 c15 c16 ⊢
  have m0 := SW.bx.1
  clear hW0
  refine wp_region_held_drew (S := fun w' => w'.cell? ⟨w.heap.size, 0, none⟩ = some (.int .i64 d.p) ∧ w'.cell? ⟨w.heap.size, 1, none⟩ = some (.int .i64 d.q) ∧ w'.cell? ⟨w.heap.size, 2, none⟩ = some L.t.v ∧ w'.cell? ⟨w.heap.size, 3, none⟩ = some L.m.v ∧ w'.cell? ⟨w.heap.size, 4, none⟩ = some L.c.v ∧ w'.cell? ⟨w.heap.size, 5, none⟩ = some L.n.v ∧ w'.cell? ⟨w.heap.size, 6, none⟩ = some L.s.v ∧ w'.cell? ⟨w.heap.size, 7, none⟩ = some L.r.v ∧ w'.cell? ⟨w.heap.size, 8, none⟩ = some L.l.v ∧ w'.cell? ⟨w.heap.size, 9, none⟩ = some L.h.v ∧ w'.cell? ⟨w.heap.size, 10, none⟩ = some (.int .i64 d.lt) ∧ w'.cell? ⟨w.heap.size, 11, none⟩ = some (.int .i64 d.la) ∧ w'.cell? ⟨w.heap.size, 12, none⟩ = some L.y.v ∧ w'.cell? ⟨w.heap.size, 13, none⟩ = some L.z.v ∧ w'.cell? ⟨w.heap.size, 14, none⟩ = some (.int .i64 d.yq) ∧ w'.cell? ⟨w.heap.size, 15, none⟩ = some (.int .i64 d.yt) ∧ w'.cell? ⟨w.heap.size, 16, none⟩ = some (.int .i64 d.w)) (by kernel_rfl) (by simp [*]) (fun hHeld => ?_)
  refine tk_go 0 (v := ?a9nv0) ?a9nhy0 ?_
  case a9nhy0 => intro w hSw; (try dsimp only at hSw); go_simp; try with_reducible rfl
  refine wpAnyH_ready (rs := [1]) (by kernel_rfl) (by simp) ?_
  refine AllReadyH.cons rfl (fun K hK => ?_) AllReadyH.nil
  go_simp
  refine (specOuter L d _ (HI.out.t.kept (by first | with_reducible exact SW.bel | with_reducible exact SW.drew.bel)) s0).mono ?_
  rw [HF.out.1]
  rintro e u ⟨rfl, B⟩
  have SW : Sw w u L d := (by first | with_reducible exact SW.all B | with_reducible exact SW.drew.all B)
  obtain ⟨c0, c1, c2, c3, c4, c5, c6, c7, c8, c9, c10, c11, c12, c13, c14, c15, c16⟩ := SW.bx.shop
  have m0 := SW.bx.1
  go_wp2_with fail
  refine hK.out _ _ (by simp [*]) (fun hHeld => ?_)
  clear hK K
  refine tk_go 2 (v := ?a9nv2) ?a9nhy2 ?_
  case a9nhy2 => intro w hSw; (try dsimp only at hSw); go_simp; try with_reducible rfl
  refine tk_go 3 (v := ?a9nv3) ?a9nhy3 ?_
  case a9nhy3 => intro w hSw; simp only [nrm]; (try dsimp only at hSw); go_simp; try with_reducible rfl
  refine tk_go 4 (v := ?a9nv4) ?a9nhy4 ?_
  case a9nhy4 => intro w hSw; simp only [nrm]; (try dsimp only at hSw); go_simp; try with_reducible rfl
  refine tk_go 5 (v := ?a9nv5) ?a9nhy5 ?_
  case a9nhy5 => intro w hSw; simp only [nrm]; (try dsimp only at hSw); go_simp; try with_reducible rfl
  refine tk_go 6 (v := ?a9nv6) ?a9nhy6 ?_
  case a9nhy6 => intro w hSw; simp only [nrm]; (try dsimp only at hSw); go_simp; try with_reducible rfl
  refine tk_go 7 (v := ?a9nv7) ?a9nhy7 ?_
  case a9nhy7 => intro w hSw; simp only [nrm]; (try dsimp only at hSw); go_simp; try with_reducible rfl
  refine wpAnyH_ready (rs := [8]) (by kernel_rfl) (by simp) ?_
  refine AllReadyH.cons rfl (fun K hK => ?_) AllReadyH.nil
  go_simp
  refine (specReadyOf L.t.a L.t.n L.t.c d.t _ (HI.out.t.kept (by first | with_reducible exact SW.bel | with_reducible exact SW.drew.bel)) s0).mono ?_
  rintro e u ⟨g, n, c, rfl, F, B⟩
  have SW : Sw w u L d := (by first | with_reducible exact SW.all B | with_reducible exact SW.drew.all B)
  obtain ⟨c0, c1, c2, c3, c4, c5, c6, c7, c8, c9, c10, c11, c12, c13, c14, c15, c16⟩ := SW.bx.shop
  have m0 := SW.bx.1
  go_wp2_with fail
  refine hK.out _ _ (by simp [*]) (fun hHeld => ?_)
  clear hK K
  refine wpAnyH_ready (rs := [9]) (by kernel_rfl) (by simp) ?_
  refine AllReadyH.cons rfl (fun K hK => ?_) AllReadyH.nil
  go_simp
  refine (specSame L.m.a L.m.n L.m.c d.m (some ⟨g, 0, none⟩) n c (rdyL d.t) _ (HI.out.m.kept (by first | with_reducible exact SW.bel | with_reducible exact SW.drew.bel)) (by first | exact F.ints | exact F.ints.drew) s1).mono ?_
  rw [HF.out.2.1]
  rintro e u ⟨rfl, B⟩
  have SW : Sw w u L d := (by first | with_reducible exact SW.all B | with_reducible exact SW.drew.all B)
  obtain ⟨c0, c1, c2, c3, c4, c5, c6, c7, c8, c9, c10, c11, c12, c13, c14, c15, c16⟩ := SW.bx.shop
  have m0 := SW.bx.1
  go_wp2_with fail
  refine hK.out _ _ (by simp [*]) (fun hHeld => ?_)
  clear hK K
  refine tk_go 10 (v := ?a9nv10) ?a9nhy10 ?_
  case a9nhy10 => intro w hSw; (try dsimp only at hSw); go_simp; try with_reducible rfl
  refine tk_go 11 (v := ?a9nv11) ?a9nhy11 ?_
  case a9nhy11 => intro w hSw; simp only [nrm]; (try dsimp only at hSw); go_simp; try with_reducible rfl
  refine tk_go 12 (v := ?a9nv12) ?a9nhy12 ?_
  case a9nhy12 => intro w hSw; simp only [nrm]; (try dsimp only at hSw); go_simp; try with_reducible rfl
  refine tk_go 13 (v := ?a9nv13) ?a9nhy13 ?_
  case a9nhy13 => intro w hSw; simp only [nrm]; (try dsimp only at hSw); go_simp; try with_reducible rfl
  refine tk_go 14 (v := ?a9nv14) ?a9nhy14 ?_
  case a9nhy14 => intro w hSw; simp only [nrm]; (try dsimp only at hSw); go_simp; try with_reducible rfl
  refine tk_go 15 (v := ?a9nv15) ?a9nhy15 ?_
  case a9nhy15 => intro w hSw; simp only [nrm]; (try dsimp only at hSw); go_simp; try with_reducible rfl
  refine tk_go 16 (v := ?a9nv16) ?a9nhy16 ?_
  case a9nhy16 => intro w hSw; simp only [nrm]; (try dsimp only at hSw); go_simp; try with_reducible rfl
  refine tk_go 17 (v := ?a9nv17) ?a9nhy17 ?_
  case a9nhy17 => intro w hSw; simp only [nrm]; (try dsimp only at hSw); go_simp; try with_reducible rfl
  refine tk_go 18 (v := ?a9nv18) ?a9nhy18 ?_
  case a9nhy18 => intro w hSw; simp only [nrm]; (try dsimp only at hSw); go_simp; try with_reducible rfl
  refine wpAnyH_ready (rs := [19]) (by kernel_rfl) (by simp) ?_
  refine AllReadyH.cons rfl (fun K hK => ?_) AllReadyH.nil
  go_simp
  refine (specCw L.t.a L.t.n L.t.c d.t L.m.a L.m.n L.m.c d.m _ (HI.out.t.kept (by first | with_reducible exact SW.bel | with_reducible exact SW.drew.bel)) (HI.out.m.kept (by first | with_reducible exact SW.bel | with_reducible exact SW.drew.bel)) s0 s1 HM.out).mono ?_
  rintro e u ⟨g2, k2, rfl, R, hg, B⟩
  have SW : Sw w u L d := (by first | with_reducible exact SW.all B | with_reducible exact SW.drew.all B)
  obtain ⟨c0, c1, c2, c3, c4, c5, c6, c7, c8, c9, c10, c11, c12, c13, c14, c15, c16⟩ := SW.bx.shop
  have m0 := SW.bx.1
  go_wp2_with fail
  refine hK.out _ _ (by simp [*]) (fun hHeld => ?_)
  clear hK K
  refine wpAnyH_ready (rs := [20]) (by kernel_rfl) (by simp) ?_
  refine AllReadyH.cons rfl (fun K hK => ?_) AllReadyH.nil
  go_simp
  refine (specSame L.c.a L.c.n L.c.c d.c (some ⟨g2, 0, none⟩) L.m.n k2 (cw d.t d.m) _ (HI.out.c.kept (by first | with_reducible exact SW.bel | with_reducible exact SW.drew.bel)) (by first | exact HR.out _ _ _ R | exact HR.out _ _ _ R.drew) s2).mono ?_
  rw [HF.out.2.2]
  rintro e u ⟨rfl, B⟩
  have SW : Sw w u L d := (by first | with_reducible exact SW.all B | with_reducible exact SW.drew.all B)
  obtain ⟨c0, c1, c2, c3, c4, c5, c6, c7, c8, c9, c10, c11, c12, c13, c14, c15, c16⟩ := SW.bx.shop
  have m0 := SW.bx.1
  go_wp2_with fail
  refine hK.out _ _ (by simp [*]) (fun hHeld => ?_)
  clear hK K
  refine tk_go 21 (v := ?a9nv21) ?a9nhy21 ?_
  case a9nhy21 => intro w hSw; (try dsimp only at hSw); go_simp; try with_reducible rfl
  refine tk_go 22 (v := ?a9nv22) ?a9nhy22 ?_
  case a9nhy22 => intro w hSw; simp only [nrm]; (try dsimp only at hSw); go_simp; try with_reducible rfl
  refine wpAnyH_done (by kernel_rfl) ?_ _
  simp only [Act.put, nrm]
  have HS : Hid (Sw w u L d) := SW
  clear SW c0 c1 c2 c3 c4 c5 c6 c7 c8 c9 c10 c11 c12 c13 c14 c15 c16 m0 hHeld
  obtain ⟨c0, c1, c2, c3, c4, c5, c6, c7, c8, c9, c10, c11, c12, c13, c14, c15, c16⟩ := HS.out.bx.shop
  have SW1 : Hid (Sw w u L d) := HS.out
  cases hL : noL d.l d.h d.lt d.la
  · have XL : Hid (noL d.l d.h d.lt d.la = false) := hL
    have HE : Hid (shopOk d = false) := by
      show _ = _
      have e : keptL d = true := by rw [keptL, hL, show decide (d.p ≠ 3) = true from decide_eq_true (by rw [HP.out]; decide), Bool.or_true]; rfl
      rw [HW.out, kept, e]
      simp
    clear hL
    go_wp2_with fail
    refine (specNoL L.l.a L.l.n L.l.c L.h.a L.h.n L.h.c d.l d.h d.lt d.la _ HI.out.l.1 HI.out.h.1).mono ?_
    rw [XL.out]
    rintro e w2 ⟨rfl, B2⟩
    have SW2 : Hid (Sw w w2 L d) := SW1.out.all B2
    clear B2
    obtain ⟨c0, c1, c2, c3, c4, c5, c6, c7, c8, c9, c10, c11, c12, c13, c14, c15, c16⟩ := SW2.out.bx.shop
    go_wp2_with fail
    go_ret
    exact ⟨by rw [HE.out]; rfl, SW2.out.bel⟩
  have XL : Hid (noL d.l d.h d.lt d.la = true) := hL
  clear hL
  go_wp2_with fail
  refine (specNoL L.l.a L.l.n L.l.c L.h.a L.h.n L.h.c d.l d.h d.lt d.la _ HI.out.l.1 HI.out.h.1).mono ?_
  rw [XL.out]
  rintro e w2 ⟨rfl, B2⟩
  have SW2 : Hid (Sw w w2 L d) := SW1.out.all B2
  clear B2
  obtain ⟨c0, c1, c2, c3, c4, c5, c6, c7, c8, c9, c10, c11, c12, c13, c14, c15, c16⟩ := SW2.out.bx.shop
  cases hM : noM d.y d.z d.yq d.yt
  · have XM : Hid (noM d.y d.z d.yq d.yt = false) := hM
    have HE : Hid (shopOk d = false) := by
      show _ = _
      have e : keptM d = true := by rw [keptM, hM, show decide (d.p ≠ 5) = true from decide_eq_true (by rw [HP.out]; decide), Bool.or_true]; rfl
      rw [HW.out, kept, e]
      simp
    clear hM
    go_wp2_with fail
    refine (specNoM L.y.a L.y.n L.y.c L.z.a L.z.n L.z.c d.y d.z d.yq d.yt _ HI.out.y.1 HI.out.z.1).mono ?_
    rw [XM.out]
    rintro e w3 ⟨rfl, B3⟩
    have SW3 : Hid (Sw w w3 L d) := SW2.out.all B3
    clear B3
    obtain ⟨c0, c1, c2, c3, c4, c5, c6, c7, c8, c9, c10, c11, c12, c13, c14, c15, c16⟩ := SW3.out.bx.shop
    go_wp2_with fail
    go_ret
    exact ⟨by rw [HE.out]; rfl, SW3.out.bel⟩
  have XM : Hid (noM d.y d.z d.yq d.yt = true) := hM
  clear hM
  go_wp2_with fail
  refine (specNoM L.y.a L.y.n L.y.c L.z.a L.z.n L.z.c d.y d.z d.yq d.yt _ HI.out.y.1 HI.out.z.1).mono ?_
  rw [XM.out]
  rintro e w3 ⟨rfl, B3⟩
  have SW3 : Hid (Sw w w3 L d) := SW2.out.all B3
  clear B3
  obtain ⟨c0, c1, c2, c3, c4, c5, c6, c7, c8, c9, c10, c11, c12, c13, c14, c15, c16⟩ := SW3.out.bx.shop
  have HE : Hid (shopOk d = innerB d) := by
    show _ = _
    have hk : kept d = false := by rw [kept, keptS, keptL, keptM, XL.out, XM.out, show decide (d.m.length = 0) = false from decide_eq_false (by rw [HLM.out.1]; exact HZ.out)]; simp [HP.out]
    rw [HW.out, hk, if_neg (by rw [HLM.out.1]; exact HZ.out)]
    rfl
  go_wp2_with fail
  refine (specInner L d _ (HI.out.kept SW3.out.bel) HSH.out).mono ?_
  rintro e w9 ⟨rfl, B9⟩
  have S9 : Hid (Sw w w9 L d) := SW3.out.all B9
  clear B9
  go_wp2_with fail
  go_ret
  exact ⟨by rw [HE.out]; rfl, S9.out.bel⟩

set_option maxRecDepth 100000 in
set_option maxHeartbeats 8000000 in
theorem shopOk_p3 (L : LT) (d : SD) (w : World) (I : Rd w L d) (hs : Short L) (ho : outerB d = true) (hm : d.m = rdyL d.t) (hc : d.c = cw d.t d.m) (hz : ¬ L.m.n = 0) (hp : d.p = 3) :
    Calls Tryz.prog 33 #[sv L d] w fun e w' => e = .returned (.bool (shopOk d)) ∧ Below w.heap.size w w' := by
  have HI : Hid (Rd w L d) := I
  obtain ⟨s0, s1, s2, s3, s4, s5, s6, s7, s8, s9⟩ := short_parts hs
  have HSH : Hid (Short L) := hs
  have HLM : Hid (d.m.length = L.m.n ∧ d.n.length = L.n.n) := ⟨I.m.1, I.n.1⟩
  clear I hs
  have hbz : ((L.m.n : Int) == (0 : Int)) = false := by simp; omega
  have HZ : Hid (¬ L.m.n = 0) := hz
  clear hz
  have hq1 : (d.p != (1 : Int)) = true := by simp [hp]
  have hq3 : (d.p != (3 : Int)) = false := by simp [hp]
  have hq5 : (d.p != (5 : Int)) = true := by simp [hp]
  have HP : Hid (d.p = 3) := hp
  clear hp
  have HM : Hid (∀ k, k < L.m.n → 0 ≤ findT d.t (d.m.getD k 0)) := fun k hk => members_found hm (by rw [HLM.out.1]; exact hk)
  have HR : Hid (∀ (X : World) (g c : Nat), Row X g c (cw d.t d.m) → Ints X (some ⟨g, 0, none⟩) L.m.n (cw d.t d.m)) := fun X g c R => by
    have h := R.ints
    rw [cw_len, HLM.out.1] at h
    exact h
  have HF : Hid (outerB d = true ∧ decide (d.m = rdyL d.t) = true ∧ decide (d.c = cw d.t d.m) = true) := ⟨ho, decide_eq_true hm, decide_eq_true hc⟩
  have HW : Hid (shopOk d = (!kept d && (if d.m.length = 0 then decide (d.n.length = 0) else innerB d))) := by show _ = _; rw [shopOk, ho, decide_eq_true hm, decide_eq_true hc]; rfl
  clear ho hm hc
  obtain ⟨W0, hW0⟩ : ∃ W0, W0 = w.alloc (.cells (sc L d) 36) := ⟨_, rfl⟩
  have SW : Sw w W0 L d := by rw [hW0]; exact sw_new _ _ _
  go_enter Tryz.func33, Tryz.ntmps33
  obtain ⟨c0, c1, c2, c3, c4, c5, c6, c7, c8, c9, c10, c11, c12, c13, c14, c15, c16⟩ := SW.bx.shop
  rw [hW0] at c0 c1 c2 c3 c4 c5 c6 c7 c8 c9 c10 c11 c12 c13 c14 c15 c16
  go_wp2_with fail
  rw [← hW0] at c0 c1 c2 c3 c4 c5 c6 c7 c8 c9 c10 c11 c12 c13 c14 c15 c16 ⊢
  have m0 := SW.bx.1
  clear hW0
  refine wp_region_held_drew (S := fun w' => w'.cell? ⟨w.heap.size, 0, none⟩ = some (.int .i64 d.p) ∧ w'.cell? ⟨w.heap.size, 1, none⟩ = some (.int .i64 d.q) ∧ w'.cell? ⟨w.heap.size, 2, none⟩ = some L.t.v ∧ w'.cell? ⟨w.heap.size, 3, none⟩ = some L.m.v ∧ w'.cell? ⟨w.heap.size, 4, none⟩ = some L.c.v ∧ w'.cell? ⟨w.heap.size, 5, none⟩ = some L.n.v ∧ w'.cell? ⟨w.heap.size, 6, none⟩ = some L.s.v ∧ w'.cell? ⟨w.heap.size, 7, none⟩ = some L.r.v ∧ w'.cell? ⟨w.heap.size, 8, none⟩ = some L.l.v ∧ w'.cell? ⟨w.heap.size, 9, none⟩ = some L.h.v ∧ w'.cell? ⟨w.heap.size, 10, none⟩ = some (.int .i64 d.lt) ∧ w'.cell? ⟨w.heap.size, 11, none⟩ = some (.int .i64 d.la) ∧ w'.cell? ⟨w.heap.size, 12, none⟩ = some L.y.v ∧ w'.cell? ⟨w.heap.size, 13, none⟩ = some L.z.v ∧ w'.cell? ⟨w.heap.size, 14, none⟩ = some (.int .i64 d.yq) ∧ w'.cell? ⟨w.heap.size, 15, none⟩ = some (.int .i64 d.yt) ∧ w'.cell? ⟨w.heap.size, 16, none⟩ = some (.int .i64 d.w)) (by kernel_rfl) (by simp [*]) (fun hHeld => ?_)
  refine tk_go 0 (v := ?a10nv0) ?a10nhy0 ?_
  case a10nhy0 => intro w hSw; (try dsimp only at hSw); go_simp; try with_reducible rfl
  refine wpAnyH_ready (rs := [1]) (by kernel_rfl) (by simp) ?_
  refine AllReadyH.cons rfl (fun K hK => ?_) AllReadyH.nil
  go_simp
  refine (specOuter L d _ (HI.out.t.kept (by first | with_reducible exact SW.bel | with_reducible exact SW.drew.bel)) s0).mono ?_
  rw [HF.out.1]
  rintro e u ⟨rfl, B⟩
  have SW : Sw w u L d := (by first | with_reducible exact SW.all B | with_reducible exact SW.drew.all B)
  obtain ⟨c0, c1, c2, c3, c4, c5, c6, c7, c8, c9, c10, c11, c12, c13, c14, c15, c16⟩ := SW.bx.shop
  have m0 := SW.bx.1
  go_wp2_with fail
  refine hK.out _ _ (by simp [*]) (fun hHeld => ?_)
  clear hK K
  refine tk_go 2 (v := ?a10nv2) ?a10nhy2 ?_
  case a10nhy2 => intro w hSw; (try dsimp only at hSw); go_simp; try with_reducible rfl
  refine tk_go 3 (v := ?a10nv3) ?a10nhy3 ?_
  case a10nhy3 => intro w hSw; simp only [nrm]; (try dsimp only at hSw); go_simp; try with_reducible rfl
  refine tk_go 4 (v := ?a10nv4) ?a10nhy4 ?_
  case a10nhy4 => intro w hSw; simp only [nrm]; (try dsimp only at hSw); go_simp; try with_reducible rfl
  refine tk_go 5 (v := ?a10nv5) ?a10nhy5 ?_
  case a10nhy5 => intro w hSw; simp only [nrm]; (try dsimp only at hSw); go_simp; try with_reducible rfl
  refine tk_go 6 (v := ?a10nv6) ?a10nhy6 ?_
  case a10nhy6 => intro w hSw; simp only [nrm]; (try dsimp only at hSw); go_simp; try with_reducible rfl
  refine tk_go 7 (v := ?a10nv7) ?a10nhy7 ?_
  case a10nhy7 => intro w hSw; simp only [nrm]; (try dsimp only at hSw); go_simp; try with_reducible rfl
  refine wpAnyH_ready (rs := [8]) (by kernel_rfl) (by simp) ?_
  refine AllReadyH.cons rfl (fun K hK => ?_) AllReadyH.nil
  go_simp
  refine (specReadyOf L.t.a L.t.n L.t.c d.t _ (HI.out.t.kept (by first | with_reducible exact SW.bel | with_reducible exact SW.drew.bel)) s0).mono ?_
  rintro e u ⟨g, n, c, rfl, F, B⟩
  have SW : Sw w u L d := (by first | with_reducible exact SW.all B | with_reducible exact SW.drew.all B)
  obtain ⟨c0, c1, c2, c3, c4, c5, c6, c7, c8, c9, c10, c11, c12, c13, c14, c15, c16⟩ := SW.bx.shop
  have m0 := SW.bx.1
  go_wp2_with fail
  refine hK.out _ _ (by simp [*]) (fun hHeld => ?_)
  clear hK K
  refine wpAnyH_ready (rs := [9]) (by kernel_rfl) (by simp) ?_
  refine AllReadyH.cons rfl (fun K hK => ?_) AllReadyH.nil
  go_simp
  refine (specSame L.m.a L.m.n L.m.c d.m (some ⟨g, 0, none⟩) n c (rdyL d.t) _ (HI.out.m.kept (by first | with_reducible exact SW.bel | with_reducible exact SW.drew.bel)) (by first | exact F.ints | exact F.ints.drew) s1).mono ?_
  rw [HF.out.2.1]
  rintro e u ⟨rfl, B⟩
  have SW : Sw w u L d := (by first | with_reducible exact SW.all B | with_reducible exact SW.drew.all B)
  obtain ⟨c0, c1, c2, c3, c4, c5, c6, c7, c8, c9, c10, c11, c12, c13, c14, c15, c16⟩ := SW.bx.shop
  have m0 := SW.bx.1
  go_wp2_with fail
  refine hK.out _ _ (by simp [*]) (fun hHeld => ?_)
  clear hK K
  refine tk_go 10 (v := ?a10nv10) ?a10nhy10 ?_
  case a10nhy10 => intro w hSw; (try dsimp only at hSw); go_simp; try with_reducible rfl
  refine tk_go 11 (v := ?a10nv11) ?a10nhy11 ?_
  case a10nhy11 => intro w hSw; simp only [nrm]; (try dsimp only at hSw); go_simp; try with_reducible rfl
  refine tk_go 12 (v := ?a10nv12) ?a10nhy12 ?_
  case a10nhy12 => intro w hSw; simp only [nrm]; (try dsimp only at hSw); go_simp; try with_reducible rfl
  refine tk_go 13 (v := ?a10nv13) ?a10nhy13 ?_
  case a10nhy13 => intro w hSw; simp only [nrm]; (try dsimp only at hSw); go_simp; try with_reducible rfl
  refine tk_go 14 (v := ?a10nv14) ?a10nhy14 ?_
  case a10nhy14 => intro w hSw; simp only [nrm]; (try dsimp only at hSw); go_simp; try with_reducible rfl
  refine tk_go 15 (v := ?a10nv15) ?a10nhy15 ?_
  case a10nhy15 => intro w hSw; simp only [nrm]; (try dsimp only at hSw); go_simp; try with_reducible rfl
  refine tk_go 16 (v := ?a10nv16) ?a10nhy16 ?_
  case a10nhy16 => intro w hSw; simp only [nrm]; (try dsimp only at hSw); go_simp; try with_reducible rfl
  refine tk_go 17 (v := ?a10nv17) ?a10nhy17 ?_
  case a10nhy17 => intro w hSw; simp only [nrm]; (try dsimp only at hSw); go_simp; try with_reducible rfl
  refine tk_go 18 (v := ?a10nv18) ?a10nhy18 ?_
  case a10nhy18 => intro w hSw; simp only [nrm]; (try dsimp only at hSw); go_simp; try with_reducible rfl
  refine wpAnyH_ready (rs := [19]) (by kernel_rfl) (by simp) ?_
  refine AllReadyH.cons rfl (fun K hK => ?_) AllReadyH.nil
  go_simp
  refine (specCw L.t.a L.t.n L.t.c d.t L.m.a L.m.n L.m.c d.m _ (HI.out.t.kept (by first | with_reducible exact SW.bel | with_reducible exact SW.drew.bel)) (HI.out.m.kept (by first | with_reducible exact SW.bel | with_reducible exact SW.drew.bel)) s0 s1 HM.out).mono ?_
  rintro e u ⟨g2, k2, rfl, R, hg, B⟩
  have SW : Sw w u L d := (by first | with_reducible exact SW.all B | with_reducible exact SW.drew.all B)
  obtain ⟨c0, c1, c2, c3, c4, c5, c6, c7, c8, c9, c10, c11, c12, c13, c14, c15, c16⟩ := SW.bx.shop
  have m0 := SW.bx.1
  go_wp2_with fail
  refine hK.out _ _ (by simp [*]) (fun hHeld => ?_)
  clear hK K
  refine wpAnyH_ready (rs := [20]) (by kernel_rfl) (by simp) ?_
  refine AllReadyH.cons rfl (fun K hK => ?_) AllReadyH.nil
  go_simp
  refine (specSame L.c.a L.c.n L.c.c d.c (some ⟨g2, 0, none⟩) L.m.n k2 (cw d.t d.m) _ (HI.out.c.kept (by first | with_reducible exact SW.bel | with_reducible exact SW.drew.bel)) (by first | exact HR.out _ _ _ R | exact HR.out _ _ _ R.drew) s2).mono ?_
  rw [HF.out.2.2]
  rintro e u ⟨rfl, B⟩
  have SW : Sw w u L d := (by first | with_reducible exact SW.all B | with_reducible exact SW.drew.all B)
  obtain ⟨c0, c1, c2, c3, c4, c5, c6, c7, c8, c9, c10, c11, c12, c13, c14, c15, c16⟩ := SW.bx.shop
  have m0 := SW.bx.1
  go_wp2_with fail
  refine hK.out _ _ (by simp [*]) (fun hHeld => ?_)
  clear hK K
  refine tk_go 21 (v := ?a10nv21) ?a10nhy21 ?_
  case a10nhy21 => intro w hSw; (try dsimp only at hSw); go_simp; try with_reducible rfl
  refine tk_go 22 (v := ?a10nv22) ?a10nhy22 ?_
  case a10nhy22 => intro w hSw; simp only [nrm]; (try dsimp only at hSw); go_simp; try with_reducible rfl
  refine wpAnyH_done (by kernel_rfl) ?_ _
  simp only [Act.put, nrm]
  have HS : Hid (Sw w u L d) := SW
  clear SW c0 c1 c2 c3 c4 c5 c6 c7 c8 c9 c10 c11 c12 c13 c14 c15 c16 m0 hHeld
  obtain ⟨c0, c1, c2, c3, c4, c5, c6, c7, c8, c9, c10, c11, c12, c13, c14, c15, c16⟩ := HS.out.bx.shop
  have SW1 : Hid (Sw w u L d) := HS.out
  cases hS : noS d.s d.r
  · have XS : Hid (noS d.s d.r = false) := hS
    have HE : Hid (shopOk d = false) := by
      show _ = _
      have e : keptS d = true := by rw [keptS, hS, show decide (d.p ≠ 1) = true from decide_eq_true (by rw [HP.out]; decide), Bool.or_true]; rfl
      rw [HW.out, kept, e]
      simp
    clear hS
    go_wp2_with fail
    refine (specNoS L.s.a L.s.n L.s.c L.r.a L.r.n L.r.c d.s d.r _ HI.out.s.1 HI.out.r.1).mono ?_
    rw [XS.out]
    rintro e w2 ⟨rfl, B2⟩
    have SW2 : Hid (Sw w w2 L d) := SW1.out.all B2
    clear B2
    obtain ⟨c0, c1, c2, c3, c4, c5, c6, c7, c8, c9, c10, c11, c12, c13, c14, c15, c16⟩ := SW2.out.bx.shop
    go_wp2_with fail
    go_ret
    exact ⟨by rw [HE.out]; rfl, SW2.out.bel⟩
  have XS : Hid (noS d.s d.r = true) := hS
  clear hS
  go_wp2_with fail
  refine (specNoS L.s.a L.s.n L.s.c L.r.a L.r.n L.r.c d.s d.r _ HI.out.s.1 HI.out.r.1).mono ?_
  rw [XS.out]
  rintro e w2 ⟨rfl, B2⟩
  have SW2 : Hid (Sw w w2 L d) := SW1.out.all B2
  clear B2
  obtain ⟨c0, c1, c2, c3, c4, c5, c6, c7, c8, c9, c10, c11, c12, c13, c14, c15, c16⟩ := SW2.out.bx.shop
  cases hM : noM d.y d.z d.yq d.yt
  · have XM : Hid (noM d.y d.z d.yq d.yt = false) := hM
    have HE : Hid (shopOk d = false) := by
      show _ = _
      have e : keptM d = true := by rw [keptM, hM, show decide (d.p ≠ 5) = true from decide_eq_true (by rw [HP.out]; decide), Bool.or_true]; rfl
      rw [HW.out, kept, e]
      simp
    clear hM
    go_wp2_with fail
    refine (specNoM L.y.a L.y.n L.y.c L.z.a L.z.n L.z.c d.y d.z d.yq d.yt _ HI.out.y.1 HI.out.z.1).mono ?_
    rw [XM.out]
    rintro e w3 ⟨rfl, B3⟩
    have SW3 : Hid (Sw w w3 L d) := SW2.out.all B3
    clear B3
    obtain ⟨c0, c1, c2, c3, c4, c5, c6, c7, c8, c9, c10, c11, c12, c13, c14, c15, c16⟩ := SW3.out.bx.shop
    go_wp2_with fail
    go_ret
    exact ⟨by rw [HE.out]; rfl, SW3.out.bel⟩
  have XM : Hid (noM d.y d.z d.yq d.yt = true) := hM
  clear hM
  go_wp2_with fail
  refine (specNoM L.y.a L.y.n L.y.c L.z.a L.z.n L.z.c d.y d.z d.yq d.yt _ HI.out.y.1 HI.out.z.1).mono ?_
  rw [XM.out]
  rintro e w3 ⟨rfl, B3⟩
  have SW3 : Hid (Sw w w3 L d) := SW2.out.all B3
  clear B3
  obtain ⟨c0, c1, c2, c3, c4, c5, c6, c7, c8, c9, c10, c11, c12, c13, c14, c15, c16⟩ := SW3.out.bx.shop
  have HE : Hid (shopOk d = innerB d) := by
    show _ = _
    have hk : kept d = false := by rw [kept, keptS, keptL, keptM, XS.out, XM.out, show decide (d.m.length = 0) = false from decide_eq_false (by rw [HLM.out.1]; exact HZ.out)]; simp [HP.out]
    rw [HW.out, hk, if_neg (by rw [HLM.out.1]; exact HZ.out)]
    rfl
  go_wp2_with fail
  refine (specInner L d _ (HI.out.kept SW3.out.bel) HSH.out).mono ?_
  rintro e w9 ⟨rfl, B9⟩
  have S9 : Hid (Sw w w9 L d) := SW3.out.all B9
  clear B9
  go_wp2_with fail
  go_ret
  exact ⟨by rw [HE.out]; rfl, S9.out.bel⟩

end Go.Proofs.YtcmeimfjedakeaaGreat.Crew
