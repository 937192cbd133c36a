/-
  impl.ShopOk at every Shop. (Written by wip/tools/gen_shopoki.py.)
-/
import Derived.Test.YtcmeimfjedakeaaGreatShopRightI
import Derived.Test.YtcmeimfjedakeaaGreatShopOkA
import Derived.Test.YtcmeimfjedakeaaGreatShopKeepI
namespace Go.Proofs.YtcmeimfjedakeaaGreat.Crew
open Go.ChangeShapes Go.WideShapes Go.ChangeAt Go.RowKit

theorem ok_none {d : SD} (ho : outerB d = true) (hm : d.m = rdyL d.t) (hc : d.c = cw d.t d.m) (hz : d.m.length = 0) : shopOk d = (decide (d.n.length = 0) && keepB d) := by
  rw [shopOk, ho, decide_eq_true hm, decide_eq_true hc, if_pos hz, kept, keptS, keptL, keptM, decide_eq_true hz, keepB]
  cases noS d.s d.r <;> cases noL d.l d.h d.lt d.la <;> cases noM d.y d.z d.yq d.yt <;> simp

theorem ok_some {d : SD} (ho : outerB d = true) (hm : d.m = rdyL d.t) (hc : d.c = cw d.t d.m) (hz : ¬ d.m.length = 0) : shopOk d = (rightB d && keepB (cutD d)) := by
  rw [shopOk, ho, decide_eq_true hm, decide_eq_true hc, if_neg hz, kept, keptS, keptL, keptM, decide_eq_false hz, right_inner, cutD]
  by_cases h1 : d.p = 1
  · rw [if_pos h1, keepB]
    have e3 : ¬ d.p = 3 := by omega
    have e5 : ¬ d.p = 5 := by omega
    cases innerB d <;> cases noL d.l d.h d.lt d.la <;> cases noM d.y d.z d.yq d.yt <;> simp [h1, noS]
  rw [if_neg h1]
  by_cases h3 : d.p = 3
  · rw [if_pos h3, keepB]
    cases innerB d <;> cases noS d.s d.r <;> cases noM d.y d.z d.yq d.yt <;> simp [h3, noL]
  rw [if_neg h3]
  by_cases h5 : d.p = 5
  · rw [if_pos h5, keepB]
    cases innerB d <;> cases noS d.s d.r <;> cases noL d.l d.h d.lt d.la <;> simp [h5, noM]
  rw [if_neg h5, keepB]
  cases innerB d <;> cases noS d.s d.r <;> cases noL d.l d.h d.lt d.la <;> cases noM d.y d.z d.yq d.yt <;> simp [h1, h3, h5]

theorem outer_tasks {d : SD} (h : outerB d = true) : tasksOk d.t = true ∧ 1 ≤ d.p ∧ d.p ≤ 5 := by
  simp only [outerB, Bool.and_eq_true] at h
  have := within_yes h.1.1.1.1
  exact ⟨h.1.2, this.1, this.2⟩

set_option maxRecDepth 100000 in
set_option maxHeartbeats 8000000 in
theorem okI_outer (L : LT) (d : SD) (w : World) (I : Rd w L d) (hs : Short L) (ho : outerB d = false) :
    Calls Tryz.prog 17 #[sv L d] w fun e w' => e = .returned (.bool false) ∧ Below w.heap.size w w' := by
  have HI : Hid (Rd w L d) := I
  obtain ⟨s0, s1, s2, s3, s4, s5, s6, s7, s8, s9⟩ := short_parts hs
  have HSH : Hid (Short L) := hs
  have HLN : Hid (d.m.length = L.m.n ∧ d.n.length = L.n.n) := ⟨I.m.1, I.n.1⟩
  clear I hs
  have HF : Hid (outerB d = false ∧ True) := ⟨ho, trivial⟩
  clear ho
  go_enter Tryz.func17, Tryz.ntmps17
  go_wp2_with (refine sh_box rfl ?_)
  intro W1 b1 hW1 S1 B1
  have HS : Hid (Shp W1 b1 L d ∧ Below w.heap.size w W1) := ⟨S1, B1⟩
  clear S1 B1 hW1
  go_wp2_with (refine sh_loadg rfl rfl HS.out.1 ?_)
  refine (implFrame L d _ (HI.out.t.kept HS.out.2) s0).mono ?_
  rw [HF.out.1]
  obtain ⟨v, hv⟩ : ∃ v, v = wayV d.p := ⟨_, rfl⟩
  rw [← hv]
  have HV : Hid (v = wayV d.p) := hv
  clear hv
  rintro e W2 ⟨rfl, B⟩
  have HS' : Hid (Shp W2 b1 L d ∧ Below w.heap.size w W2) := ⟨HS.out.1.all B, below_call HS.out.2 HS.out.2.size B⟩
  clear B
  clear HS
  have HS := HS'
  clear HS'
  go_upto_region 2 with fail
  have HS' : Hid (Shp W2.drew b1 L d ∧ Below w.heap.size w W2.drew) := ⟨HS.out.1.drew, below_call HS.out.2 HS.out.2.size (below_drewN (Below.refl _ _) 1)⟩
  clear HS
  have HS := HS'
  clear HS'
  refine wp_region_held_drew (S := fun w' => Shp w' b1 L d) (by kernel_rfl) HS.out.1 (fun hHeld => ?_)
  refine tk_go 0 (v := ?r1v0) ?r1h0 ?_
  case r1h0 => intro w hSw; have hcs := (show Shp w b1 L d from hSw).bx.shop; go_simp; try with_reducible rfl
  refine tk_go 1 (v := ?r1v1) ?r1h1 ?_
  case r1h1 => intro w hSw; have hcs := (show Shp w b1 L d from hSw).bx.shop; go_simp; try with_reducible rfl
  refine tk_go 2 (v := ?r1v2) ?r1h2 ?_
  case r1h2 => intro w hSw; simp only [nrm]; have hcs := (show Shp w b1 L d from hSw).bx.shop; go_simp; try with_reducible rfl
  refine tk_no 3 ?_
  refine tk_no 4 ?_
  refine tk_no 5 ?_
  refine tk_no 6 ?_
  refine tk_no 7 ?_
  refine tk_no 8 ?_
  refine tk_no 9 ?_
  refine tk_go 10 (v := ?r1v10) ?r1h10 ?_
  case r1h10 => intro w hSw; simp only [nrm]; have hcs := (show Shp w b1 L d from hSw).bx.shop; go_simp; try with_reducible rfl
  refine tk_go 11 (v := ?r1v11) ?r1h11 ?_
  case r1h11 => intro w hSw; simp only [nrm]; have hcs := (show Shp w b1 L d from hSw).bx.shop; go_simp; try with_reducible rfl
  refine tk_no 12 ?_
  refine tk_no 13 ?_
  refine tk_no 14 ?_
  refine tk_no 15 ?_
  refine tk_no 16 ?_
  refine tk_no 17 ?_
  refine tk_no 18 ?_
  refine tk_go 19 (v := ?r1v19) ?r1h19 ?_
  case r1h19 => intro w hSw; simp only [nrm]; have hcs := (show Shp w b1 L d from hSw).bx.shop; go_simp; try with_reducible rfl
  refine wpAnyH_done (by kernel_rfl) ?_ _
  simp only [Act.put, nrm]
  clear hHeld
  go_wp2_with fail
  go_ret
  exact ⟨rfl, HS.out.2⟩

set_option maxRecDepth 100000 in
set_option maxHeartbeats 8000000 in
theorem okI_members (L : LT) (d : SD) (w : World) (I : Rd w L d) (hs : Short L) (ho : outerB d = true) (hm : ¬ d.m = rdyL d.t) :
    Calls Tryz.prog 17 #[sv L d] w fun e w' => e = .returned (.bool false) ∧ Below w.heap.size w w' := by
  have HI : Hid (Rd w L d) := I
  obtain ⟨s0, s1, s2, s3, s4, s5, s6, s7, s8, s9⟩ := short_parts hs
  have HSH : Hid (Short L) := hs
  have HLN : Hid (d.m.length = L.m.n ∧ d.n.length = L.n.n) := ⟨I.m.1, I.n.1⟩
  clear I hs
  have HF : Hid (outerB d = true ∧ decide (d.m = rdyL d.t) = false ∧ True) := ⟨ho, decide_eq_false hm, trivial⟩
  clear ho hm
  go_enter Tryz.func17, Tryz.ntmps17
  go_wp2_with (refine sh_box rfl ?_)
  intro W1 b1 hW1 S1 B1
  have HS : Hid (Shp W1 b1 L d ∧ Below w.heap.size w W1) := ⟨S1, B1⟩
  clear S1 B1 hW1
  go_wp2_with (refine sh_loadg rfl rfl HS.out.1 ?_)
  refine (implFrame L d _ (HI.out.t.kept HS.out.2) s0).mono ?_
  rw [HF.out.1]
  obtain ⟨v, hv⟩ : ∃ v, v = wayV d.p := ⟨_, rfl⟩
  rw [← hv]
  have HV : Hid (v = wayV d.p) := hv
  clear hv
  rintro e W2 ⟨rfl, B⟩
  have HS' : Hid (Shp W2 b1 L d ∧ Below w.heap.size w W2) := ⟨HS.out.1.all B, below_call HS.out.2 HS.out.2.size B⟩
  clear B
  clear HS
  have HS := HS'
  clear HS'
  go_upto_region 2 with fail
  have HS' : Hid (Shp W2.drew b1 L d ∧ Below w.heap.size w W2.drew) := ⟨HS.out.1.drew, below_call HS.out.2 HS.out.2.size (below_drewN (Below.refl _ _) 1)⟩
  clear HS
  have HS := HS'
  clear HS'
  refine wp_region_held_drew (S := fun w' => Shp w' b1 L d) (by kernel_rfl) HS.out.1 (fun hHeld => ?_)
  refine tk_go 0 (v := ?r2v0) ?r2h0 ?_
  case r2h0 => intro w hSw; have hcs := (show Shp w b1 L d from hSw).bx.shop; go_simp; try with_reducible rfl
  refine tk_go 1 (v := ?r2v1) ?r2h1 ?_
  case r2h1 => intro w hSw; have hcs := (show Shp w b1 L d from hSw).bx.shop; go_simp; try with_reducible rfl
  refine tk_go 2 (v := ?r2v2) ?r2h2 ?_
  case r2h2 => intro w hSw; simp only [nrm]; have hcs := (show Shp w b1 L d from hSw).bx.shop; go_simp; try with_reducible rfl
  refine tk_go 3 (v := ?r2v3) ?r2h3 ?_
  case r2h3 => intro w hSw; simp only [nrm]; have hcs := (show Shp w b1 L d from hSw).bx.shop; go_simp; try with_reducible rfl
  refine tk_go 4 (v := ?r2v4) ?r2h4 ?_
  case r2h4 => intro w hSw; simp only [nrm]; have hcs := (show Shp w b1 L d from hSw).bx.shop; go_simp; try with_reducible rfl
  refine tk_go 5 (v := ?r2v5) ?r2h5 ?_
  case r2h5 => intro w hSw; simp only [nrm]; have hcs := (show Shp w b1 L d from hSw).bx.shop; go_simp; try with_reducible rfl
  refine tk_go 6 (v := ?r2v6) ?r2h6 ?_
  case r2h6 => intro w hSw; simp only [nrm]; have hcs := (show Shp w b1 L d from hSw).bx.shop; go_simp; try with_reducible rfl
  refine wpAnyH_ready (rs := [7]) (by kernel_rfl) (by simp) ?_
  refine AllReadyH.cons rfl (fun K hK => ?_) AllReadyH.nil
  go_simp
  refine (implReadyOf L.t.a L.t.n L.t.c d.t _ (HI.out.t.kept HS.out.2) s0).mono ?_
  rintro e u ⟨g, n, c, rfl, R, B⟩
  have HS' : Hid (Shp u b1 L d ∧ Below w.heap.size w u) := ⟨HS.out.1.all B, below_call HS.out.2 HS.out.2.size B⟩
  clear B
  have HR : Hid (Ints u (some ⟨g, 0, none⟩) n (rdyL d.t)) := R.ints
  clear R
  clear HS
  have HS := HS'
  clear HS'
  have SX : (fun w' => Shp w' b1 L d) u := HS.out.1

  go_wp2_with fail
  refine hK.out _ _ SX (fun hHeld => ?_)
  clear hK K
  refine wpAnyH_ready (rs := [8]) (by kernel_rfl) (by simp) ?_
  refine AllReadyH.cons rfl (fun K hK => ?_) AllReadyH.nil
  go_simp
  refine (eqInts_at L.m.a L.m.n L.m.c d.m (some ⟨g, 0, none⟩) n c (rdyL d.t) _ (HI.out.m.kept HS.out.2) HR.out s1).mono ?_
  rw [HF.out.2.1]
  rintro e u ⟨rfl, B⟩
  have HS' : Hid (Shp u b1 L d ∧ Below w.heap.size w u) := ⟨HS.out.1.all B, below_call HS.out.2 HS.out.2.size B⟩
  clear B HR
  clear HS
  have HS := HS'
  clear HS'
  have SX : (fun w' => Shp w' b1 L d) u := HS.out.1

  go_wp2_with fail
  refine hK.out _ _ SX (fun hHeld => ?_)
  clear hK K
  refine tk_go 9 (v := ?r2v9) ?r2h9 ?_
  case r2h9 => intro w hSw; have hcs := (show Shp w b1 L d from hSw).bx.shop; go_simp; try with_reducible rfl
  refine tk_go 10 (v := ?r2v10) ?r2h10 ?_
  case r2h10 => intro w hSw; simp only [nrm]; have hcs := (show Shp w b1 L d from hSw).bx.shop; go_simp; try with_reducible rfl
  refine tk_go 11 (v := ?r2v11) ?r2h11 ?_
  case r2h11 => intro w hSw; simp only [nrm]; have hcs := (show Shp w b1 L d from hSw).bx.shop; go_simp; try with_reducible rfl
  refine tk_no 12 ?_
  refine tk_no 13 ?_
  refine tk_no 14 ?_
  refine tk_no 15 ?_
  refine tk_no 16 ?_
  refine tk_no 17 ?_
  refine tk_no 18 ?_
  refine tk_go 19 (v := ?r2v19) ?r2h19 ?_
  case r2h19 => intro w hSw; simp only [nrm]; have hcs := (show Shp w b1 L d from hSw).bx.shop; go_simp; try with_reducible rfl
  refine wpAnyH_done (by kernel_rfl) ?_ _
  simp only [Act.put, nrm]
  clear hHeld
  go_wp2_with fail
  go_ret
  exact ⟨rfl, HS.out.2⟩

set_option maxRecDepth 100000 in
set_option maxHeartbeats 8000000 in
theorem okI_crew (L : LT) (d : SD) (w : World) (I : Rd w L d) (hs : Short L) (ho : outerB d = true) (hm : d.m = rdyL d.t) (hc : ¬ d.c = crwTo d.t L.t.n) :
    Calls Tryz.prog 17 #[sv L d] w fun e w' => e = .returned (.bool false) ∧ Below w.heap.size w w' := by
  have HI : Hid (Rd w L d) := I
  obtain ⟨s0, s1, s2, s3, s4, s5, s6, s7, s8, s9⟩ := short_parts hs
  have HSH : Hid (Short L) := hs
  have HLN : Hid (d.m.length = L.m.n ∧ d.n.length = L.n.n) := ⟨I.m.1, I.n.1⟩
  clear I hs
  have HF : Hid (outerB d = true ∧ decide (d.m = rdyL d.t) = true ∧ decide (d.c = crwTo d.t L.t.n) = false) := ⟨ho, decide_eq_true hm, decide_eq_false hc⟩
  clear ho hm hc
  go_enter Tryz.func17, Tryz.ntmps17
  go_wp2_with (refine sh_box rfl ?_)
  intro W1 b1 hW1 S1 B1
  have HS : Hid (Shp W1 b1 L d ∧ Below w.heap.size w W1) := ⟨S1, B1⟩
  clear S1 B1 hW1
  go_wp2_with (refine sh_loadg rfl rfl HS.out.1 ?_)
  refine (implFrame L d _ (HI.out.t.kept HS.out.2) s0).mono ?_
  rw [HF.out.1]
  obtain ⟨v, hv⟩ : ∃ v, v = wayV d.p := ⟨_, rfl⟩
  rw [← hv]
  have HV : Hid (v = wayV d.p) := hv
  clear hv
  rintro e W2 ⟨rfl, B⟩
  have HS' : Hid (Shp W2 b1 L d ∧ Below w.heap.size w W2) := ⟨HS.out.1.all B, below_call HS.out.2 HS.out.2.size B⟩
  clear B
  clear HS
  have HS := HS'
  clear HS'
  go_upto_region 2 with fail
  have HS' : Hid (Shp W2.drew b1 L d ∧ Below w.heap.size w W2.drew) := ⟨HS.out.1.drew, below_call HS.out.2 HS.out.2.size (below_drewN (Below.refl _ _) 1)⟩
  clear HS
  have HS := HS'
  clear HS'
  refine wp_region_held_drew (S := fun w' => Shp w' b1 L d) (by kernel_rfl) HS.out.1 (fun hHeld => ?_)
  refine tk_go 0 (v := ?r3v0) ?r3h0 ?_
  case r3h0 => intro w hSw; have hcs := (show Shp w b1 L d from hSw).bx.shop; go_simp; try with_reducible rfl
  refine tk_go 1 (v := ?r3v1) ?r3h1 ?_
  case r3h1 => intro w hSw; have hcs := (show Shp w b1 L d from hSw).bx.shop; go_simp; try with_reducible rfl
  refine tk_go 2 (v := ?r3v2) ?r3h2 ?_
  case r3h2 => intro w hSw; simp only [nrm]; have hcs := (show Shp w b1 L d from hSw).bx.shop; go_simp; try with_reducible rfl
  refine tk_go 3 (v := ?r3v3) ?r3h3 ?_
  case r3h3 => intro w hSw; simp only [nrm]; have hcs := (show Shp w b1 L d from hSw).bx.shop; go_simp; try with_reducible rfl
  refine tk_go 4 (v := ?r3v4) ?r3h4 ?_
  case r3h4 => intro w hSw; simp only [nrm]; have hcs := (show Shp w b1 L d from hSw).bx.shop; go_simp; try with_reducible rfl
  refine tk_go 5 (v := ?r3v5) ?r3h5 ?_
  case r3h5 => intro w hSw; simp only [nrm]; have hcs := (show Shp w b1 L d from hSw).bx.shop; go_simp; try with_reducible rfl
  refine tk_go 6 (v := ?r3v6) ?r3h6 ?_
  case r3h6 => intro w hSw; simp only [nrm]; have hcs := (show Shp w b1 L d from hSw).bx.shop; go_simp; try with_reducible rfl
  refine wpAnyH_ready (rs := [7]) (by kernel_rfl) (by simp) ?_
  refine AllReadyH.cons rfl (fun K hK => ?_) AllReadyH.nil
  go_simp
  refine (implReadyOf L.t.a L.t.n L.t.c d.t _ (HI.out.t.kept HS.out.2) s0).mono ?_
  rintro e u ⟨g, n, c, rfl, R, B⟩
  have HS' : Hid (Shp u b1 L d ∧ Below w.heap.size w u) := ⟨HS.out.1.all B, below_call HS.out.2 HS.out.2.size B⟩
  clear B
  have HR : Hid (Ints u (some ⟨g, 0, none⟩) n (rdyL d.t)) := R.ints
  clear R
  clear HS
  have HS := HS'
  clear HS'
  have SX : (fun w' => Shp w' b1 L d) u := HS.out.1

  go_wp2_with fail
  refine hK.out _ _ SX (fun hHeld => ?_)
  clear hK K
  refine wpAnyH_ready (rs := [8]) (by kernel_rfl) (by simp) ?_
  refine AllReadyH.cons rfl (fun K hK => ?_) AllReadyH.nil
  go_simp
  refine (eqInts_at L.m.a L.m.n L.m.c d.m (some ⟨g, 0, none⟩) n c (rdyL d.t) _ (HI.out.m.kept HS.out.2) HR.out s1).mono ?_
  rw [HF.out.2.1]
  rintro e u ⟨rfl, B⟩
  have HS' : Hid (Shp u b1 L d ∧ Below w.heap.size w u) := ⟨HS.out.1.all B, below_call HS.out.2 HS.out.2.size B⟩
  clear B HR
  clear HS
  have HS := HS'
  clear HS'
  have SX : (fun w' => Shp w' b1 L d) u := HS.out.1

  go_wp2_with fail
  refine hK.out _ _ SX (fun hHeld => ?_)
  clear hK K
  refine tk_go 9 (v := ?r3v9) ?r3h9 ?_
  case r3h9 => intro w hSw; have hcs := (show Shp w b1 L d from hSw).bx.shop; go_simp; try with_reducible rfl
  refine tk_go 10 (v := ?r3v10) ?r3h10 ?_
  case r3h10 => intro w hSw; simp only [nrm]; have hcs := (show Shp w b1 L d from hSw).bx.shop; go_simp; try with_reducible rfl
  refine tk_go 11 (v := ?r3v11) ?r3h11 ?_
  case r3h11 => intro w hSw; simp only [nrm]; have hcs := (show Shp w b1 L d from hSw).bx.shop; go_simp; try with_reducible rfl
  refine tk_go 12 (v := ?r3v12) ?r3h12 ?_
  case r3h12 => intro w hSw; simp only [nrm]; have hcs := (show Shp w b1 L d from hSw).bx.shop; go_simp; try with_reducible rfl
  refine tk_go 13 (v := ?r3v13) ?r3h13 ?_
  case r3h13 => intro w hSw; simp only [nrm]; have hcs := (show Shp w b1 L d from hSw).bx.shop; go_simp; try with_reducible rfl
  refine tk_go 14 (v := ?r3v14) ?r3h14 ?_
  case r3h14 => intro w hSw; simp only [nrm]; have hcs := (show Shp w b1 L d from hSw).bx.shop; go_simp; try with_reducible rfl
  refine tk_go 15 (v := ?r3v15) ?r3h15 ?_
  case r3h15 => intro w hSw; simp only [nrm]; have hcs := (show Shp w b1 L d from hSw).bx.shop; go_simp; try with_reducible rfl
  refine wpAnyH_ready (rs := [16]) (by kernel_rfl) (by simp) ?_
  refine AllReadyH.cons rfl (fun K hK => ?_) AllReadyH.nil
  go_simp
  refine (implCrewOf L.t.a L.t.n L.t.c d.t _ (HI.out.t.kept HS.out.2) s0).mono ?_
  rintro e u ⟨g, n, c, rfl, R, B⟩
  have HS' : Hid (Shp u b1 L d ∧ Below w.heap.size w u) := ⟨HS.out.1.all B, below_call HS.out.2 HS.out.2.size B⟩
  clear B
  have HR : Hid (Ints u (some ⟨g, 0, none⟩) n (crwTo d.t L.t.n)) := R.ints
  clear R
  clear HS
  have HS := HS'
  clear HS'
  have SX : (fun w' => Shp w' b1 L d) u := HS.out.1

  go_wp2_with fail
  refine hK.out _ _ SX (fun hHeld => ?_)
  clear hK K
  refine wpAnyH_ready (rs := [17]) (by kernel_rfl) (by simp) ?_
  refine AllReadyH.cons rfl (fun K hK => ?_) AllReadyH.nil
  go_simp
  refine (eqInts_at L.c.a L.c.n L.c.c d.c (some ⟨g, 0, none⟩) n c (crwTo d.t L.t.n) _ (HI.out.c.kept HS.out.2) HR.out s2).mono ?_
  rw [HF.out.2.2]
  rintro e u ⟨rfl, B⟩
  have HS' : Hid (Shp u b1 L d ∧ Below w.heap.size w u) := ⟨HS.out.1.all B, below_call HS.out.2 HS.out.2.size B⟩
  clear B HR
  clear HS
  have HS := HS'
  clear HS'
  have SX : (fun w' => Shp w' b1 L d) u := HS.out.1

  go_wp2_with fail
  refine hK.out _ _ SX (fun hHeld => ?_)
  clear hK K
  refine tk_go 18 (v := ?r3v18) ?r3h18 ?_
  case r3h18 => intro w hSw; have hcs := (show Shp w b1 L d from hSw).bx.shop; go_simp; try with_reducible rfl
  refine tk_go 19 (v := ?r3v19) ?r3h19 ?_
  case r3h19 => intro w hSw; simp only [nrm]; have hcs := (show Shp w b1 L d from hSw).bx.shop; go_simp; try with_reducible rfl
  refine wpAnyH_done (by kernel_rfl) ?_ _
  simp only [Act.put, nrm]
  clear hHeld
  go_wp2_with fail
  go_ret
  exact ⟨rfl, HS.out.2⟩

set_option maxRecDepth 100000 in
set_option maxHeartbeats 8000000 in
theorem okI_none (L : LT) (d : SD) (w : World) (I : Rd w L d) (hs : Short L) (ho : outerB d = true) (hm : d.m = rdyL d.t) (hc : d.c = crwTo d.t L.t.n) (hz : L.m.n = 0) :
    Calls Tryz.prog 17 #[sv L d] w fun e w' => e = .returned (.bool (decide (d.n.length = 0) && keepB d)) ∧ Below w.heap.size w w' := by
  have HI : Hid (Rd w L d) := I
  obtain ⟨s0, s1, s2, s3, s4, s5, s6, s7, s8, s9⟩ := short_parts hs
  have HSH : Hid (Short L) := hs
  have HLN : Hid (d.m.length = L.m.n ∧ d.n.length = L.n.n) := ⟨I.m.1, I.n.1⟩
  clear I hs
  have HF : Hid (outerB d = true ∧ decide (d.m = rdyL d.t) = true ∧ decide (d.c = crwTo d.t L.t.n) = true) := ⟨ho, decide_eq_true hm, decide_eq_true hc⟩
  have hbm : ((L.m.n : Int) == (0 : Int)) = true := by simp [hz]
  clear ho hm hc hz
  go_enter Tryz.func17, Tryz.ntmps17
  go_wp2_with (refine sh_box rfl ?_)
  intro W1 b1 hW1 S1 B1
  have HS : Hid (Shp W1 b1 L d ∧ Below w.heap.size w W1) := ⟨S1, B1⟩
  clear S1 B1 hW1
  go_wp2_with (refine sh_loadg rfl rfl HS.out.1 ?_)
  refine (implFrame L d _ (HI.out.t.kept HS.out.2) s0).mono ?_
  rw [HF.out.1]
  obtain ⟨v, hv⟩ : ∃ v, v = wayV d.p := ⟨_, rfl⟩
  rw [← hv]
  have HV : Hid (v = wayV d.p) := hv
  clear hv
  rintro e W2 ⟨rfl, B⟩
  have HS' : Hid (Shp W2 b1 L d ∧ Below w.heap.size w W2) := ⟨HS.out.1.all B, below_call HS.out.2 HS.out.2.size B⟩
  clear B
  clear HS
  have HS := HS'
  clear HS'
  go_upto_region 2 with fail
  have HS' : Hid (Shp W2.drew b1 L d ∧ Below w.heap.size w W2.drew) := ⟨HS.out.1.drew, below_call HS.out.2 HS.out.2.size (below_drewN (Below.refl _ _) 1)⟩
  clear HS
  have HS := HS'
  clear HS'
  refine wp_region_held_drew (S := fun w' => Shp w' b1 L d) (by kernel_rfl) HS.out.1 (fun hHeld => ?_)
  refine tk_go 0 (v := ?r4v0) ?r4h0 ?_
  case r4h0 => intro w hSw; have hcs := (show Shp w b1 L d from hSw).bx.shop; go_simp; try with_reducible rfl
  refine tk_go 1 (v := ?r4v1) ?r4h1 ?_
  case r4h1 => intro w hSw; have hcs := (show Shp w b1 L d from hSw).bx.shop; go_simp; try with_reducible rfl
  refine tk_go 2 (v := ?r4v2) ?r4h2 ?_
  case r4h2 => intro w hSw; simp only [nrm]; have hcs := (show Shp w b1 L d from hSw).bx.shop; go_simp; try with_reducible rfl
  refine tk_go 3 (v := ?r4v3) ?r4h3 ?_
  case r4h3 => intro w hSw; simp only [nrm]; have hcs := (show Shp w b1 L d from hSw).bx.shop; go_simp; try with_reducible rfl
  refine tk_go 4 (v := ?r4v4) ?r4h4 ?_
  case r4h4 => intro w hSw; simp only [nrm]; have hcs := (show Shp w b1 L d from hSw).bx.shop; go_simp; try with_reducible rfl
  refine tk_go 5 (v := ?r4v5) ?r4h5 ?_
  case r4h5 => intro w hSw; simp only [nrm]; have hcs := (show Shp w b1 L d from hSw).bx.shop; go_simp; try with_reducible rfl
  refine tk_go 6 (v := ?r4v6) ?r4h6 ?_
  case r4h6 => intro w hSw; simp only [nrm]; have hcs := (show Shp w b1 L d from hSw).bx.shop; go_simp; try with_reducible rfl
  refine wpAnyH_ready (rs := [7]) (by kernel_rfl) (by simp) ?_
  refine AllReadyH.cons rfl (fun K hK => ?_) AllReadyH.nil
  go_simp
  refine (implReadyOf L.t.a L.t.n L.t.c d.t _ (HI.out.t.kept HS.out.2) s0).mono ?_
  rintro e u ⟨g, n, c, rfl, R, B⟩
  have HS' : Hid (Shp u b1 L d ∧ Below w.heap.size w u) := ⟨HS.out.1.all B, below_call HS.out.2 HS.out.2.size B⟩
  clear B
  have HR : Hid (Ints u (some ⟨g, 0, none⟩) n (rdyL d.t)) := R.ints
  clear R
  clear HS
  have HS := HS'
  clear HS'
  have SX : (fun w' => Shp w' b1 L d) u := HS.out.1

  go_wp2_with fail
  refine hK.out _ _ SX (fun hHeld => ?_)
  clear hK K
  refine wpAnyH_ready (rs := [8]) (by kernel_rfl) (by simp) ?_
  refine AllReadyH.cons rfl (fun K hK => ?_) AllReadyH.nil
  go_simp
  refine (eqInts_at L.m.a L.m.n L.m.c d.m (some ⟨g, 0, none⟩) n c (rdyL d.t) _ (HI.out.m.kept HS.out.2) HR.out s1).mono ?_
  rw [HF.out.2.1]
  rintro e u ⟨rfl, B⟩
  have HS' : Hid (Shp u b1 L d ∧ Below w.heap.size w u) := ⟨HS.out.1.all B, below_call HS.out.2 HS.out.2.size B⟩
  clear B HR
  clear HS
  have HS := HS'
  clear HS'
  have SX : (fun w' => Shp w' b1 L d) u := HS.out.1

  go_wp2_with fail
  refine hK.out _ _ SX (fun hHeld => ?_)
  clear hK K
  refine tk_go 9 (v := ?r4v9) ?r4h9 ?_
  case r4h9 => intro w hSw; have hcs := (show Shp w b1 L d from hSw).bx.shop; go_simp; try with_reducible rfl
  refine tk_go 10 (v := ?r4v10) ?r4h10 ?_
  case r4h10 => intro w hSw; simp only [nrm]; have hcs := (show Shp w b1 L d from hSw).bx.shop; go_simp; try with_reducible rfl
  refine tk_go 11 (v := ?r4v11) ?r4h11 ?_
  case r4h11 => intro w hSw; simp only [nrm]; have hcs := (show Shp w b1 L d from hSw).bx.shop; go_simp; try with_reducible rfl
  refine tk_go 12 (v := ?r4v12) ?r4h12 ?_
  case r4h12 => intro w hSw; simp only [nrm]; have hcs := (show Shp w b1 L d from hSw).bx.shop; go_simp; try with_reducible rfl
  refine tk_go 13 (v := ?r4v13) ?r4h13 ?_
  case r4h13 => intro w hSw; simp only [nrm]; have hcs := (show Shp w b1 L d from hSw).bx.shop; go_simp; try with_reducible rfl
  refine tk_go 14 (v := ?r4v14) ?r4h14 ?_
  case r4h14 => intro w hSw; simp only [nrm]; have hcs := (show Shp w b1 L d from hSw).bx.shop; go_simp; try with_reducible rfl
  refine tk_go 15 (v := ?r4v15) ?r4h15 ?_
  case r4h15 => intro w hSw; simp only [nrm]; have hcs := (show Shp w b1 L d from hSw).bx.shop; go_simp; try with_reducible rfl
  refine wpAnyH_ready (rs := [16]) (by kernel_rfl) (by simp) ?_
  refine AllReadyH.cons rfl (fun K hK => ?_) AllReadyH.nil
  go_simp
  refine (implCrewOf L.t.a L.t.n L.t.c d.t _ (HI.out.t.kept HS.out.2) s0).mono ?_
  rintro e u ⟨g, n, c, rfl, R, B⟩
  have HS' : Hid (Shp u b1 L d ∧ Below w.heap.size w u) := ⟨HS.out.1.all B, below_call HS.out.2 HS.out.2.size B⟩
  clear B
  have HR : Hid (Ints u (some ⟨g, 0, none⟩) n (crwTo d.t L.t.n)) := R.ints
  clear R
  clear HS
  have HS := HS'
  clear HS'
  have SX : (fun w' => Shp w' b1 L d) u := HS.out.1

  go_wp2_with fail
  refine hK.out _ _ SX (fun hHeld => ?_)
  clear hK K
  refine wpAnyH_ready (rs := [17]) (by kernel_rfl) (by simp) ?_
  refine AllReadyH.cons rfl (fun K hK => ?_) AllReadyH.nil
  go_simp
  refine (eqInts_at L.c.a L.c.n L.c.c d.c (some ⟨g, 0, none⟩) n c (crwTo d.t L.t.n) _ (HI.out.c.kept HS.out.2) HR.out s2).mono ?_
  rw [HF.out.2.2]
  rintro e u ⟨rfl, B⟩
  have HS' : Hid (Shp u b1 L d ∧ Below w.heap.size w u) := ⟨HS.out.1.all B, below_call HS.out.2 HS.out.2.size B⟩
  clear B HR
  clear HS
  have HS := HS'
  clear HS'
  have SX : (fun w' => Shp w' b1 L d) u := HS.out.1

  go_wp2_with fail
  refine hK.out _ _ SX (fun hHeld => ?_)
  clear hK K
  refine tk_go 18 (v := ?r4v18) ?r4h18 ?_
  case r4h18 => intro w hSw; have hcs := (show Shp w b1 L d from hSw).bx.shop; go_simp; try with_reducible rfl
  refine tk_go 19 (v := ?r4v19) ?r4h19 ?_
  case r4h19 => intro w hSw; simp only [nrm]; have hcs := (show Shp w b1 L d from hSw).bx.shop; go_simp; try with_reducible rfl
  refine wpAnyH_done (by kernel_rfl) ?_ _
  simp only [Act.put, nrm]
  clear hHeld
  go_upto_region 4 with fail
  obtain ⟨c0, c1, c2, c3, c4, c5, c6, c7, c8, c9, c10, c11, c12, c13, c14, c15, c16⟩ := HS.out.1.bx.shop
  have m0 := HS.out.1.lt
  by_cases hn : L.n.n = 0
  · have hbn : ((L.n.n : Int) == (0 : Int)) = true := by simp [hn]
    have HE : Hid (decide (d.n.length = 0) = true) := by show _ = _; rw [HLN.out.2, hn]; rfl
    clear hn
    go_wp2_with (refine sh_loadg rfl rfl HS.out.1 ?_)
    refine (implKeeps L d _ (HI.out.kept HS.out.2)).mono ?_
    rintro e W3 ⟨rfl, B⟩
    clear c0 c1 c2 c3 c4 c5 c6 c7 c8 c9 c10 c11 c12 c13 c14 c15 c16 m0
    have HS' : Hid (Shp W3 b1 L d ∧ Below w.heap.size w W3) := ⟨HS.out.1.all B, below_call HS.out.2 HS.out.2.size B⟩
    clear B
    clear HS
    have HS := HS'
    clear HS'
    go_wp2_with fail
    go_ret
    exact ⟨by rw [HE.out]; rfl, HS.out.2⟩
  · have hbn : ((L.n.n : Int) == (0 : Int)) = false := by simp; omega
    have HE : Hid (decide (d.n.length = 0) = false) := by show _ = _; rw [HLN.out.2]; exact decide_eq_false hn
    clear hn
    go_wp2_with fail
    go_ret
    exact ⟨by rw [HE.out]; rfl, HS.out.2⟩

set_option maxRecDepth 100000 in
set_option maxHeartbeats 8000000 in
theorem okI_some (L : LT) (d : SD) (w : World) (I : Rd w L d) (hs : Short L) (ho : outerB d = true) (hm : d.m = rdyL d.t) (hc : d.c = crwTo d.t L.t.n) (hz : ¬ L.m.n = 0) :
    Calls Tryz.prog 17 #[sv L d] w fun e w' => e = .returned (.bool (rightB d && keepB (cutD d))) ∧ Below w.heap.size w w' := by
  have HI : Hid (Rd w L d) := I
  obtain ⟨s0, s1, s2, s3, s4, s5, s6, s7, s8, s9⟩ := short_parts hs
  have HSH : Hid (Short L) := hs
  have HLN : Hid (d.m.length = L.m.n ∧ d.n.length = L.n.n) := ⟨I.m.1, I.n.1⟩
  clear I hs
  have HF : Hid (outerB d = true ∧ decide (d.m = rdyL d.t) = true ∧ decide (d.c = crwTo d.t L.t.n) = true) := ⟨ho, decide_eq_true hm, decide_eq_true hc⟩
  have hbm : ((L.m.n : Int) == (0 : Int)) = false := by simp; omega
  have hp := (outer_tasks ho).2
  clear ho hm hc hz
  go_enter Tryz.func17, Tryz.ntmps17
  go_wp2_with (refine sh_box rfl ?_)
  intro W1 b1 hW1 S1 B1
  have HS : Hid (Shp W1 b1 L d ∧ Below w.heap.size w W1) := ⟨S1, B1⟩
  clear S1 B1 hW1
  go_wp2_with (refine sh_loadg rfl rfl HS.out.1 ?_)
  refine (implFrame L d _ (HI.out.t.kept HS.out.2) s0).mono ?_
  rw [HF.out.1]
  obtain ⟨v, hv⟩ : ∃ v, v = wayV d.p := ⟨_, rfl⟩
  rw [← hv]
  have HV : Hid (v = wayV d.p) := hv
  clear hv
  rintro e W2 ⟨rfl, B⟩
  have HS' : Hid (Shp W2 b1 L d ∧ Below w.heap.size w W2) := ⟨HS.out.1.all B, below_call HS.out.2 HS.out.2.size B⟩
  clear B
  clear HS
  have HS := HS'
  clear HS'
  go_upto_region 2 with fail
  have HS' : Hid (Shp W2.drew b1 L d ∧ Below w.heap.size w W2.drew) := ⟨HS.out.1.drew, below_call HS.out.2 HS.out.2.size (below_drewN (Below.refl _ _) 1)⟩
  clear HS
  have HS := HS'
  clear HS'
  refine wp_region_held_drew (S := fun w' => Shp w' b1 L d) (by kernel_rfl) HS.out.1 (fun hHeld => ?_)
  refine tk_go 0 (v := ?r4v0) ?r4h0 ?_
  case r4h0 => intro w hSw; have hcs := (show Shp w b1 L d from hSw).bx.shop; go_simp; try with_reducible rfl
  refine tk_go 1 (v := ?r4v1) ?r4h1 ?_
  case r4h1 => intro w hSw; have hcs := (show Shp w b1 L d from hSw).bx.shop; go_simp; try with_reducible rfl
  refine tk_go 2 (v := ?r4v2) ?r4h2 ?_
  case r4h2 => intro w hSw; simp only [nrm]; have hcs := (show Shp w b1 L d from hSw).bx.shop; go_simp; try with_reducible rfl
  refine tk_go 3 (v := ?r4v3) ?r4h3 ?_
  case r4h3 => intro w hSw; simp only [nrm]; have hcs := (show Shp w b1 L d from hSw).bx.shop; go_simp; try with_reducible rfl
  refine tk_go 4 (v := ?r4v4) ?r4h4 ?_
  case r4h4 => intro w hSw; simp only [nrm]; have hcs := (show Shp w b1 L d from hSw).bx.shop; go_simp; try with_reducible rfl
  refine tk_go 5 (v := ?r4v5) ?r4h5 ?_
  case r4h5 => intro w hSw; simp only [nrm]; have hcs := (show Shp w b1 L d from hSw).bx.shop; go_simp; try with_reducible rfl
  refine tk_go 6 (v := ?r4v6) ?r4h6 ?_
  case r4h6 => intro w hSw; simp only [nrm]; have hcs := (show Shp w b1 L d from hSw).bx.shop; go_simp; try with_reducible rfl
  refine wpAnyH_ready (rs := [7]) (by kernel_rfl) (by simp) ?_
  refine AllReadyH.cons rfl (fun K hK => ?_) AllReadyH.nil
  go_simp
  refine (implReadyOf L.t.a L.t.n L.t.c d.t _ (HI.out.t.kept HS.out.2) s0).mono ?_
  rintro e u ⟨g, n, c, rfl, R, B⟩
  have HS' : Hid (Shp u b1 L d ∧ Below w.heap.size w u) := ⟨HS.out.1.all B, below_call HS.out.2 HS.out.2.size B⟩
  clear B
  have HR : Hid (Ints u (some ⟨g, 0, none⟩) n (rdyL d.t)) := R.ints
  clear R
  clear HS
  have HS := HS'
  clear HS'
  have SX : (fun w' => Shp w' b1 L d) u := HS.out.1

  go_wp2_with fail
  refine hK.out _ _ SX (fun hHeld => ?_)
  clear hK K
  refine wpAnyH_ready (rs := [8]) (by kernel_rfl) (by simp) ?_
  refine AllReadyH.cons rfl (fun K hK => ?_) AllReadyH.nil
  go_simp
  refine (eqInts_at L.m.a L.m.n L.m.c d.m (some ⟨g, 0, none⟩) n c (rdyL d.t) _ (HI.out.m.kept HS.out.2) HR.out s1).mono ?_
  rw [HF.out.2.1]
  rintro e u ⟨rfl, B⟩
  have HS' : Hid (Shp u b1 L d ∧ Below w.heap.size w u) := ⟨HS.out.1.all B, below_call HS.out.2 HS.out.2.size B⟩
  clear B HR
  clear HS
  have HS := HS'
  clear HS'
  have SX : (fun w' => Shp w' b1 L d) u := HS.out.1

  go_wp2_with fail
  refine hK.out _ _ SX (fun hHeld => ?_)
  clear hK K
  refine tk_go 9 (v := ?r4v9) ?r4h9 ?_
  case r4h9 => intro w hSw; have hcs := (show Shp w b1 L d from hSw).bx.shop; go_simp; try with_reducible rfl
  refine tk_go 10 (v := ?r4v10) ?r4h10 ?_
  case r4h10 => intro w hSw; simp only [nrm]; have hcs := (show Shp w b1 L d from hSw).bx.shop; go_simp; try with_reducible rfl
  refine tk_go 11 (v := ?r4v11) ?r4h11 ?_
  case r4h11 => intro w hSw; simp only [nrm]; have hcs := (show Shp w b1 L d from hSw).bx.shop; go_simp; try with_reducible rfl
  refine tk_go 12 (v := ?r4v12) ?r4h12 ?_
  case r4h12 => intro w hSw; simp only [nrm]; have hcs := (show Shp w b1 L d from hSw).bx.shop; go_simp; try with_reducible rfl
  refine tk_go 13 (v := ?r4v13) ?r4h13 ?_
  case r4h13 => intro w hSw; simp only [nrm]; have hcs := (show Shp w b1 L d from hSw).bx.shop; go_simp; try with_reducible rfl
  refine tk_go 14 (v := ?r4v14) ?r4h14 ?_
  case r4h14 => intro w hSw; simp only [nrm]; have hcs := (show Shp w b1 L d from hSw).bx.shop; go_simp; try with_reducible rfl
  refine tk_go 15 (v := ?r4v15) ?r4h15 ?_
  case r4h15 => intro w hSw; simp only [nrm]; have hcs := (show Shp w b1 L d from hSw).bx.shop; go_simp; try with_reducible rfl
  refine wpAnyH_ready (rs := [16]) (by kernel_rfl) (by simp) ?_
  refine AllReadyH.cons rfl (fun K hK => ?_) AllReadyH.nil
  go_simp
  refine (implCrewOf L.t.a L.t.n L.t.c d.t _ (HI.out.t.kept HS.out.2) s0).mono ?_
  rintro e u ⟨g, n, c, rfl, R, B⟩
  have HS' : Hid (Shp u b1 L d ∧ Below w.heap.size w u) := ⟨HS.out.1.all B, below_call HS.out.2 HS.out.2.size B⟩
  clear B
  have HR : Hid (Ints u (some ⟨g, 0, none⟩) n (crwTo d.t L.t.n)) := R.ints
  clear R
  clear HS
  have HS := HS'
  clear HS'
  have SX : (fun w' => Shp w' b1 L d) u := HS.out.1

  go_wp2_with fail
  refine hK.out _ _ SX (fun hHeld => ?_)
  clear hK K
  refine wpAnyH_ready (rs := [17]) (by kernel_rfl) (by simp) ?_
  refine AllReadyH.cons rfl (fun K hK => ?_) AllReadyH.nil
  go_simp
  refine (eqInts_at L.c.a L.c.n L.c.c d.c (some ⟨g, 0, none⟩) n c (crwTo d.t L.t.n) _ (HI.out.c.kept HS.out.2) HR.out s2).mono ?_
  rw [HF.out.2.2]
  rintro e u ⟨rfl, B⟩
  have HS' : Hid (Shp u b1 L d ∧ Below w.heap.size w u) := ⟨HS.out.1.all B, below_call HS.out.2 HS.out.2.size B⟩
  clear B HR
  clear HS
  have HS := HS'
  clear HS'
  have SX : (fun w' => Shp w' b1 L d) u := HS.out.1

  go_wp2_with fail
  refine hK.out _ _ SX (fun hHeld => ?_)
  clear hK K
  refine tk_go 18 (v := ?r4v18) ?r4h18 ?_
  case r4h18 => intro w hSw; have hcs := (show Shp w b1 L d from hSw).bx.shop; go_simp; try with_reducible rfl
  refine tk_go 19 (v := ?r4v19) ?r4h19 ?_
  case r4h19 => intro w hSw; simp only [nrm]; have hcs := (show Shp w b1 L d from hSw).bx.shop; go_simp; try with_reducible rfl
  refine wpAnyH_done (by kernel_rfl) ?_ _
  simp only [Act.put, nrm]
  clear hHeld
  go_upto_region 4 with fail
  obtain ⟨c0, c1, c2, c3, c4, c5, c6, c7, c8, c9, c10, c11, c12, c13, c14, c15, c16⟩ := HS.out.1.bx.shop
  have m0 := HS.out.1.lt
  go_upto_region 6 with fail
  clear c0 c1 c2 c3 c4 c5 c6 c7 c8 c9 c10 c11 c12 c13 c14 c15 c16 m0
  by_cases h1 : d.p = 1
  · have e : v = .iface 126 (.agg #[]) := by rw [HV.out, h1]; simp [wayV]
    subst e
    have fR := finds_right1
    have HK : Hid (cutD d = { d with s := [], r := [] } ∧ cutL d.p L = { L with s := nl, r := nl }) := ⟨by simp [cutD, h1], by simp [cutL, h1]⟩
    have hrk : rightB d = (countsOk d.c d.n && (smoothOk d.s d.r && decide (d.s = d.c))) := by simp [rightB, h1]
    have HRK : Hid (rightB d = (countsOk d.c d.n && (smoothOk d.s d.r && decide (d.s = d.c)))) := hrk
    clear hrk
    clear h1
    go_wp2_with (refine sh_loadg rfl rfl HS.out.1 ?_)
    refine (right_smooth L d _ (HI.out.kept HS.out.2) HSH.out).mono ?_
    rw [← HRK.out]
    obtain ⟨rb, hrb⟩ : ∃ rb, rb = rightB d := ⟨_, rfl⟩
    rw [← hrb]
    have HRB : Hid (rb = rightB d) := hrb
    clear hrb
    rintro e W3 ⟨rfl, B⟩
    have HS' : Hid (Shp W3 b1 L d ∧ Below w.heap.size w W3) := ⟨HS.out.1.all B, below_call HS.out.2 HS.out.2.size B⟩
    clear B
    clear HS
    have HS := HS'
    clear HS'
    cases rb
    · go_wp2_with fail
      go_ret
      exact ⟨by rw [← HRB.out]; rfl, HS.out.2⟩
    · go_wp2_with (refine sh_loadg rfl rfl HS.out.1 ?_)
      refine (without_1 L d _).mono ?_
      rintro e W4 ⟨rfl, B⟩
      have HS' : Hid (Shp W4 b1 L d ∧ Below w.heap.size w W4) := ⟨HS.out.1.all B, below_call HS.out.2 HS.out.2.size B⟩
      clear B
      clear HS
      have HS := HS'
      clear HS'
      have RD := cut_rd (HI.out.kept HS.out.2)
      rw [HK.out.1, HK.out.2] at RD
      have HRD : Hid (Rd W4 { L with s := nl, r := nl } { d with s := [], r := [] }) := RD
      clear RD
      go_wp2_with fail
      refine (implKeeps ({ L with s := nl, r := nl }) ({ d with s := [], r := [] }) _ HRD.out).mono ?_
      rintro e W5 ⟨rfl, B⟩
      have HS' : Hid (Shp W5 b1 L d ∧ Below w.heap.size w W5) := ⟨HS.out.1.all B, below_call HS.out.2 HS.out.2.size B⟩
      clear B
      clear HS
      have HS := HS'
      clear HS'
      go_wp2_with fail
      go_ret
      exact ⟨by rw [← HRB.out, HK.out.1]; rfl, HS.out.2⟩
  by_cases h2 : d.p = 2
  · have e : v = .iface 151 (.agg #[]) := by rw [HV.out, h2]; simp [wayV]
    subst e
    have fR := finds_right2
    have HK : Hid (cutD d = d ∧ cutL d.p L = L) := ⟨by simp [cutD, h2], by simp [cutL, h2]⟩
    have hrk : rightB d = (countsOk d.c d.n) := by simp [rightB, h2]
    have HRK : Hid (rightB d = (countsOk d.c d.n)) := hrk
    clear hrk
    clear h1 h2
    go_wp2_with (refine sh_loadg rfl rfl HS.out.1 ?_)
    refine (right_one L d _ (HI.out.kept HS.out.2) HSH.out).mono ?_
    rw [← HRK.out]
    obtain ⟨rb, hrb⟩ : ∃ rb, rb = rightB d := ⟨_, rfl⟩
    rw [← hrb]
    have HRB : Hid (rb = rightB d) := hrb
    clear hrb
    rintro e W3 ⟨rfl, B⟩
    have HS' : Hid (Shp W3 b1 L d ∧ Below w.heap.size w W3) := ⟨HS.out.1.all B, below_call HS.out.2 HS.out.2.size B⟩
    clear B
    clear HS
    have HS := HS'
    clear HS'
    cases rb
    · go_wp2_with fail
      go_ret
      exact ⟨by rw [← HRB.out]; rfl, HS.out.2⟩
    · go_wp2_with (refine sh_loadg rfl rfl HS.out.1 ?_)
      refine (without_2 L d _).mono ?_
      rintro e W4 ⟨rfl, B⟩
      have HS' : Hid (Shp W4 b1 L d ∧ Below w.heap.size w W4) := ⟨HS.out.1.all B, below_call HS.out.2 HS.out.2.size B⟩
      clear B
      clear HS
      have HS := HS'
      clear HS'
      have RD := cut_rd (HI.out.kept HS.out.2)
      rw [HK.out.1, HK.out.2] at RD
      have HRD : Hid (Rd W4 L d) := RD
      clear RD
      go_wp2_with fail
      refine (implKeeps L d _ HRD.out).mono ?_
      rintro e W5 ⟨rfl, B⟩
      have HS' : Hid (Shp W5 b1 L d ∧ Below w.heap.size w W5) := ⟨HS.out.1.all B, below_call HS.out.2 HS.out.2.size B⟩
      clear B
      clear HS
      have HS := HS'
      clear HS'
      go_wp2_with fail
      go_ret
      exact ⟨by rw [← HRB.out, HK.out.1]; rfl, HS.out.2⟩
  by_cases h3 : d.p = 3
  · have e : v = .iface 127 (.agg #[]) := by rw [HV.out, h3]; simp [wayV]
    subst e
    have fR := finds_right3
    have HK : Hid (cutD d = { d with l := [], h := [], lt := 0, la := 0 } ∧ cutL d.p L = { L with l := nl, h := nl }) := ⟨by simp [cutD, h3], by simp [cutL, h3]⟩
    have hrk : rightB d = (countsOk d.c d.n && (listOk d.l d.h d.lt d.la && decide (d.l = d.c))) := by simp [rightB, h3]
    have HRK : Hid (rightB d = (countsOk d.c d.n && (listOk d.l d.h d.lt d.la && decide (d.l = d.c)))) := hrk
    clear hrk
    clear h1 h2 h3
    go_wp2_with (refine sh_loadg rfl rfl HS.out.1 ?_)
    refine (right_list L d _ (HI.out.kept HS.out.2) HSH.out).mono ?_
    rw [← HRK.out]
    obtain ⟨rb, hrb⟩ : ∃ rb, rb = rightB d := ⟨_, rfl⟩
    rw [← hrb]
    have HRB : Hid (rb = rightB d) := hrb
    clear hrb
    rintro e W3 ⟨rfl, B⟩
    have HS' : Hid (Shp W3 b1 L d ∧ Below w.heap.size w W3) := ⟨HS.out.1.all B, below_call HS.out.2 HS.out.2.size B⟩
    clear B
    clear HS
    have HS := HS'
    clear HS'
    cases rb
    · go_wp2_with fail
      go_ret
      exact ⟨by rw [← HRB.out]; rfl, HS.out.2⟩
    · go_wp2_with (refine sh_loadg rfl rfl HS.out.1 ?_)
      refine (without_3 L d _).mono ?_
      rintro e W4 ⟨rfl, B⟩
      have HS' : Hid (Shp W4 b1 L d ∧ Below w.heap.size w W4) := ⟨HS.out.1.all B, below_call HS.out.2 HS.out.2.size B⟩
      clear B
      clear HS
      have HS := HS'
      clear HS'
      have RD := cut_rd (HI.out.kept HS.out.2)
      rw [HK.out.1, HK.out.2] at RD
      have HRD : Hid (Rd W4 { L with l := nl, h := nl } { d with l := [], h := [], lt := 0, la := 0 }) := RD
      clear RD
      go_wp2_with fail
      refine (implKeeps ({ L with l := nl, h := nl }) ({ d with l := [], h := [], lt := 0, la := 0 }) _ HRD.out).mono ?_
      rintro e W5 ⟨rfl, B⟩
      have HS' : Hid (Shp W5 b1 L d ∧ Below w.heap.size w W5) := ⟨HS.out.1.all B, below_call HS.out.2 HS.out.2.size B⟩
      clear B
      clear HS
      have HS := HS'
      clear HS'
      go_wp2_with fail
      go_ret
      exact ⟨by rw [← HRB.out, HK.out.1]; rfl, HS.out.2⟩
  by_cases h4 : d.p = 4
  · have e : v = .iface 152 (.agg #[]) := by rw [HV.out, h4]; simp [wayV]
    subst e
    have fR := finds_right4
    have HK : Hid (cutD d = d ∧ cutL d.p L = L) := ⟨by simp [cutD, h4], by simp [cutL, h4]⟩
    have hrk : rightB d = (countsOk d.c d.n) := by simp [rightB, h4]
    have HRK : Hid (rightB d = (countsOk d.c d.n)) := hrk
    clear hrk
    clear h1 h2 h3 h4
    go_wp2_with (refine sh_loadg rfl rfl HS.out.1 ?_)
    refine (right_one L d _ (HI.out.kept HS.out.2) HSH.out).mono ?_
    rw [← HRK.out]
    obtain ⟨rb, hrb⟩ : ∃ rb, rb = rightB d := ⟨_, rfl⟩
    rw [← hrb]
    have HRB : Hid (rb = rightB d) := hrb
    clear hrb
    rintro e W3 ⟨rfl, B⟩
    have HS' : Hid (Shp W3 b1 L d ∧ Below w.heap.size w W3) := ⟨HS.out.1.all B, below_call HS.out.2 HS.out.2.size B⟩
    clear B
    clear HS
    have HS := HS'
    clear HS'
    cases rb
    · go_wp2_with fail
      go_ret
      exact ⟨by rw [← HRB.out]; rfl, HS.out.2⟩
    · go_wp2_with (refine sh_loadg rfl rfl HS.out.1 ?_)
      refine (without_4 L d _).mono ?_
      rintro e W4 ⟨rfl, B⟩
      have HS' : Hid (Shp W4 b1 L d ∧ Below w.heap.size w W4) := ⟨HS.out.1.all B, below_call HS.out.2 HS.out.2.size B⟩
      clear B
      clear HS
      have HS := HS'
      clear HS'
      have RD := cut_rd (HI.out.kept HS.out.2)
      rw [HK.out.1, HK.out.2] at RD
      have HRD : Hid (Rd W4 L d) := RD
      clear RD
      go_wp2_with fail
      refine (implKeeps L d _ HRD.out).mono ?_
      rintro e W5 ⟨rfl, B⟩
      have HS' : Hid (Shp W5 b1 L d ∧ Below w.heap.size w W5) := ⟨HS.out.1.all B, below_call HS.out.2 HS.out.2.size B⟩
      clear B
      clear HS
      have HS := HS'
      clear HS'
      go_wp2_with fail
      go_ret
      exact ⟨by rw [← HRB.out, HK.out.1]; rfl, HS.out.2⟩
  by_cases h5 : d.p = 5
  · have e : v = .iface 128 (.agg #[]) := by rw [HV.out, h5]; simp [wayV]
    subst e
    have fR := finds_right5
    have HK : Hid (cutD d = { d with y := [], z := [], yq := 0, yt := 0 } ∧ cutL d.p L = { L with y := nl, z := nl }) := ⟨by simp [cutD, h5], by simp [cutL, h5]⟩
    have hrk : rightB d = (manyOk d.y d.z d.yq d.yt && decide (d.yq = d.q) && decide (d.y = adjusted d.c d.q) && decide (d.n = d.z)) := by simp [rightB, h5]
    have HRK : Hid (rightB d = (manyOk d.y d.z d.yq d.yt && decide (d.yq = d.q) && decide (d.y = adjusted d.c d.q) && decide (d.n = d.z))) := hrk
    clear hrk
    clear h1 h2 h3 h4 h5
    go_wp2_with (refine sh_loadg rfl rfl HS.out.1 ?_)
    refine (right_many L d _ (HI.out.kept HS.out.2) HSH.out).mono ?_
    rw [← HRK.out]
    obtain ⟨rb, hrb⟩ : ∃ rb, rb = rightB d := ⟨_, rfl⟩
    rw [← hrb]
    have HRB : Hid (rb = rightB d) := hrb
    clear hrb
    rintro e W3 ⟨rfl, B⟩
    have HS' : Hid (Shp W3 b1 L d ∧ Below w.heap.size w W3) := ⟨HS.out.1.all B, below_call HS.out.2 HS.out.2.size B⟩
    clear B
    clear HS
    have HS := HS'
    clear HS'
    cases rb
    · go_wp2_with fail
      go_ret
      exact ⟨by rw [← HRB.out]; rfl, HS.out.2⟩
    · go_wp2_with (refine sh_loadg rfl rfl HS.out.1 ?_)
      refine (without_5 L d _).mono ?_
      rintro e W4 ⟨rfl, B⟩
      have HS' : Hid (Shp W4 b1 L d ∧ Below w.heap.size w W4) := ⟨HS.out.1.all B, below_call HS.out.2 HS.out.2.size B⟩
      clear B
      clear HS
      have HS := HS'
      clear HS'
      have RD := cut_rd (HI.out.kept HS.out.2)
      rw [HK.out.1, HK.out.2] at RD
      have HRD : Hid (Rd W4 { L with y := nl, z := nl } { d with y := [], z := [], yq := 0, yt := 0 }) := RD
      clear RD
      go_wp2_with fail
      refine (implKeeps ({ L with y := nl, z := nl }) ({ d with y := [], z := [], yq := 0, yt := 0 }) _ HRD.out).mono ?_
      rintro e W5 ⟨rfl, B⟩
      have HS' : Hid (Shp W5 b1 L d ∧ Below w.heap.size w W5) := ⟨HS.out.1.all B, below_call HS.out.2 HS.out.2.size B⟩
      clear B
      clear HS
      have HS := HS'
      clear HS'
      go_wp2_with fail
      go_ret
      exact ⟨by rw [← HRB.out, HK.out.1]; rfl, HS.out.2⟩
  exact absurd hp (by omega)

/-- impl.ShopOk at every Shop. -/
theorem implShopOk (L : LT) (d : SD) (w : World) (I : Rd w L d) (hs : Short L) :
    Calls Tryz.prog 17 #[sv L d] w fun e w' => e = .returned (.bool (shopOk d)) ∧ Below w.heap.size w w' := by
  cases ho : outerB d
  · have e : shopOk d = false := by rw [shopOk, ho]; rfl
    rw [e]
    exact okI_outer L d w I hs ho
  by_cases hm : d.m = rdyL d.t
  · have e : crwTo d.t L.t.n = cw d.t d.m := by rw [hm, crw_all (outer_tasks ho).1, I.t.1]
    by_cases hc : d.c = cw d.t d.m
    · by_cases hz : L.m.n = 0
      · rw [ok_none ho hm hc (by rw [I.m.1]; exact hz)]
        exact okI_none L d w I hs ho hm (by rw [e]; exact hc) hz
      · rw [ok_some ho hm hc (by rw [I.m.1]; exact hz)]
        exact okI_some L d w I hs ho hm (by rw [e]; exact hc) hz
    · have e2 : shopOk d = false := by rw [shopOk, decide_eq_false hc]; simp
      rw [e2]
      exact okI_crew L d w I hs ho hm (by rw [e]; exact hc)
  · have e : shopOk d = false := by rw [shopOk, decide_eq_false hm]; simp
    rw [e]
    exact okI_members L d w I hs ho hm

end Go.Proofs.YtcmeimfjedakeaaGreat.Crew
