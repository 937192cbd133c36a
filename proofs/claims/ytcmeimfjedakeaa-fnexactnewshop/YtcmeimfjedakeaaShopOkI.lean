/-
  impl.ShopOk at every Shop. (Written by wip/tools/gen_shopoki.py.)
-/
import Derived.Test.YtcmeimfjedakeaaShopRightI
import Derived.Test.YtcmeimfjedakeaaShopWayI
import Derived.Test.YtcmeimfjedakeaaShopKeepI
namespace Go.Proofs.Ytcmeimfjedakeaa.Crew
open Go.ChangeShapes Go.WideShapes Go.ChangeAt Go.RowKit

theorem ok_none {d : SD} (ho : outerB d = true) (hm : d.m = rdyL d.t) (hc : d.c = cw d.t d.m) (hz : d.m.length = 0) : shopOk d = (decide (d.n.length = 0) && keepB d) := by
  rw [shopOk, ho, decide_eq_true hm, decide_eq_true hc, if_pos hz, kept, keptS, keptL, keptM, decide_eq_true hz, keepB]
  cases noS d.s d.r <;> cases noL d.l d.h d.lt d.la <;> cases noM d.y d.z d.yq d.yt <;> simp

theorem ok_some {d : SD} (ho : outerB d = true) (hm : d.m = rdyL d.t) (hc : d.c = cw d.t d.m) (hz : ¬ d.m.length = 0) : shopOk d = (rightB d && keepB (cutD d)) := by
  rw [shopOk, ho, decide_eq_true hm, decide_eq_true hc, if_neg hz, kept, keptS, keptL, keptM, decide_eq_false hz, right_inner, cutD]
  by_cases h1 : d.p = 1
  · rw [if_pos h1, keepB]
    have e3 : ¬ d.p = 3 := by omega
    have e5 : ¬ d.p = 5 := by omega
    cases innerB d <;> cases noL d.l d.h d.lt d.la <;> cases noM d.y d.z d.yq d.yt <;> simp [h1, noS]
  rw [if_neg h1]
  by_cases h3 : d.p = 3
  · rw [if_pos h3, keepB]
    cases innerB d <;> cases noS d.s d.r <;> cases noM d.y d.z d.yq d.yt <;> simp [h3, noL]
  rw [if_neg h3]
  by_cases h5 : d.p = 5
  · rw [if_pos h5, keepB]
    cases innerB d <;> cases noS d.s d.r <;> cases noL d.l d.h d.lt d.la <;> simp [h5, noM]
  rw [if_neg h5, keepB]
  cases innerB d <;> cases noS d.s d.r <;> cases noL d.l d.h d.lt d.la <;> cases noM d.y d.z d.yq d.yt <;> simp [h1, h3, h5]

theorem outer_tasks {d : SD} (h : outerB d = true) : tasksOk d.t = true ∧ 1 ≤ d.p ∧ d.p ≤ 5 := by
  simp only [outerB, Bool.and_eq_true] at h
  have := within_yes h.1.1.1.1
  exact ⟨h.1.2, this.1, this.2⟩

set_option maxRecDepth 100000 in
set_option maxHeartbeats 8000000 in
theorem okI_outer (L : LT) (d : SD) (w : World) (I : Rd w L d) (hs : Short L) (ho : outerB d = false) :
    Calls Try.prog 8 #[sv L d] w fun e w' => e = .returned (.bool false) ∧ Below w.heap.size w w' := by
  have HI : Hid (Rd w L d) := I
  obtain ⟨s0, s1, s2, s3, s4, s5, s6, s7, s8, s9⟩ := short_parts hs
  have HSH : Hid (Short L) := hs
  have HLN : Hid (d.m.length = L.m.n ∧ d.n.length = L.n.n) := ⟨I.m.1, I.n.1⟩
  clear I hs
  have HF : Hid (outerB d = false ∧ True) := ⟨ho, trivial⟩
  clear ho
  go_enter Try.func8, Try.ntmps8
  go_wp2_with (refine sh_box rfl ?_)
  intro W1 b1 hW1 S1 B1
  have HS : Hid (Shp W1 b1 L d ∧ Below w.heap.size w W1) := ⟨S1, B1⟩
  clear S1 B1 hW1
  go_wp2_with (refine sh_loadg rfl rfl HS.out.1 ?_)
  refine (implFrame L d _ (HI.out.t.kept HS.out.2) s0).mono ?_
  rw [HF.out.1]
  obtain ⟨v, hv⟩ : ∃ v, v = wayV d.p := ⟨_, rfl⟩
  rw [← hv]
  have HV : Hid (v = wayV d.p) := hv
  clear hv
  rintro e W2 ⟨rfl, B⟩
  have HS' : Hid (Shp W2 b1 L d ∧ Below w.heap.size w W2) := ⟨HS.out.1.all B, below_call HS.out.2 HS.out.2.size B⟩
  clear B
  clear HS
  have HS := HS'
  clear HS'
  go_upto_region 2 with fail
  have HS' : Hid (Shp W2.drew b1 L d ∧ Below w.heap.size w W2.drew) := ⟨HS.out.1.drew, below_call HS.out.2 HS.out.2.size (below_drewN (Below.refl _ _) 1)⟩
  clear HS
  have HS := HS'
  clear HS'
  refine wp_region_held_drew (S := fun w' => Shp w' b1 L d) (by kernel_rfl) HS.out.1 (fun hHeld => ?_)
  refine wpAnyH_take (i := 0) (v := ?b1nv0) rfl (by kernel_rfl) (by kernel_rfl) (by kernel_rfl) (fun _ _ _ h => h) (Or.inl ⟨by kernel_rfl, ?b1nhy0⟩) (by assumption) ?b1nrest0
  case b1nhy0 =>
    intro w hSw
    obtain ⟨c0, c1, c2, c3, c4, c5, c6, c7, c8, c9, c10, c11, c12, c13, c14, c15, c16⟩ := (show Shp w b1 L d from hSw).bx.shop
    go_simp
    try with_reducible rfl
  case' b1nrest0 => try dsimp only [Act.put, List.setIfInBounds_toArray, List.set_cons_zero, List.set_cons_succ]
  refine wpAnyH_take (i := 1) (v := ?b1nv1) rfl (by kernel_rfl) (by kernel_rfl) (by kernel_rfl) (fun _ _ _ h => h) (Or.inl ⟨by kernel_rfl, ?b1nhy1⟩) (by assumption) ?b1nrest1
  case b1nhy1 =>
    intro w hSw
    obtain ⟨c0, c1, c2, c3, c4, c5, c6, c7, c8, c9, c10, c11, c12, c13, c14, c15, c16⟩ := (show Shp w b1 L d from hSw).bx.shop
    go_simp
    try with_reducible rfl
  case' b1nrest1 => try dsimp only [Act.put, List.setIfInBounds_toArray, List.set_cons_zero, List.set_cons_succ]
  refine wpAnyH_take (i := 2) (v := ?b1nv2) rfl (by kernel_rfl) (by kernel_rfl) (by kernel_rfl) (fun _ _ _ h => h) (Or.inl ⟨by kernel_rfl, ?b1nhy2⟩) (by assumption) ?b1nrest2
  case b1nhy2 =>
    intro w hSw
    try simp only [List.getElem_toArray, List.getElem_cons_succ, List.getElem_cons_zero, List.setIfInBounds_toArray, List.set_cons_zero, List.set_cons_succ]
    obtain ⟨c0, c1, c2, c3, c4, c5, c6, c7, c8, c9, c10, c11, c12, c13, c14, c15, c16⟩ := (show Shp w b1 L d from hSw).bx.shop
    go_simp
    try with_reducible rfl
  case' b1nrest2 => try dsimp only [Act.put, List.setIfInBounds_toArray, List.set_cons_zero, List.set_cons_succ]
  refine wpAnyH_take (i := 3) (v := undef) rfl (by kernel_rfl) (by kernel_rfl) (by kernel_rfl) (fun _ _ _ h => h) (Or.inr ⟨by kernel_rfl, rfl⟩) (by assumption) ?_
  try dsimp only [Act.put, List.setIfInBounds_toArray, List.set_cons_zero, List.set_cons_succ]
  refine wpAnyH_take (i := 4) (v := undef) rfl (by kernel_rfl) (by kernel_rfl) (by kernel_rfl) (fun _ _ _ h => h) (Or.inr ⟨by kernel_rfl, rfl⟩) (by assumption) ?_
  try dsimp only [Act.put, List.setIfInBounds_toArray, List.set_cons_zero, List.set_cons_succ]
  refine wpAnyH_take (i := 5) (v := undef) rfl (by kernel_rfl) (by kernel_rfl) (by kernel_rfl) (fun _ _ _ h => h) (Or.inr ⟨by kernel_rfl, rfl⟩) (by assumption) ?_
  try dsimp only [Act.put, List.setIfInBounds_toArray, List.set_cons_zero, List.set_cons_succ]
  refine wpAnyH_take (i := 6) (v := undef) rfl (by kernel_rfl) (by kernel_rfl) (by kernel_rfl) (fun _ _ _ h => h) (Or.inr ⟨by kernel_rfl, rfl⟩) (by assumption) ?_
  try dsimp only [Act.put, List.setIfInBounds_toArray, List.set_cons_zero, List.set_cons_succ]
  refine wpAnyH_take (i := 7) (v := undef) rfl (by kernel_rfl) (by kernel_rfl) (by kernel_rfl) (fun _ _ _ h => h) (Or.inr ⟨by kernel_rfl, rfl⟩) (by assumption) ?_
  try dsimp only [Act.put, List.setIfInBounds_toArray, List.set_cons_zero, List.set_cons_succ]
  refine wpAnyH_take (i := 8) (v := undef) rfl (by kernel_rfl) (by kernel_rfl) (by kernel_rfl) (fun _ _ _ h => h) (Or.inr ⟨by kernel_rfl, rfl⟩) (by assumption) ?_
  try dsimp only [Act.put, List.setIfInBounds_toArray, List.set_cons_zero, List.set_cons_succ]
  refine wpAnyH_take (i := 9) (v := undef) rfl (by kernel_rfl) (by kernel_rfl) (by kernel_rfl) (fun _ _ _ h => h) (Or.inr ⟨by kernel_rfl, rfl⟩) (by assumption) ?_
  try dsimp only [Act.put, List.setIfInBounds_toArray, List.set_cons_zero, List.set_cons_succ]
  refine wpAnyH_take (i := 10) (v := ?b1nv10) rfl (by kernel_rfl) (by kernel_rfl) (by kernel_rfl) (fun _ _ _ h => h) (Or.inl ⟨by kernel_rfl, ?b1nhy10⟩) (by assumption) ?b1nrest10
  case b1nhy10 =>
    intro w hSw
    try simp only [List.getElem_toArray, List.getElem_cons_succ, List.getElem_cons_zero, List.setIfInBounds_toArray, List.set_cons_zero, List.set_cons_succ]
    obtain ⟨c0, c1, c2, c3, c4, c5, c6, c7, c8, c9, c10, c11, c12, c13, c14, c15, c16⟩ := (show Shp w b1 L d from hSw).bx.shop
    go_simp
    try with_reducible rfl
  case' b1nrest10 => try dsimp only [Act.put, List.setIfInBounds_toArray, List.set_cons_zero, List.set_cons_succ]
  refine wpAnyH_take (i := 11) (v := ?b1nv11) rfl (by kernel_rfl) (by kernel_rfl) (by kernel_rfl) (fun _ _ _ h => h) (Or.inl ⟨by kernel_rfl, ?b1nhy11⟩) (by assumption) ?b1nrest11
  case b1nhy11 =>
    intro w hSw
    try simp only [List.getElem_toArray, List.getElem_cons_succ, List.getElem_cons_zero, List.setIfInBounds_toArray, List.set_cons_zero, List.set_cons_succ]
    obtain ⟨c0, c1, c2, c3, c4, c5, c6, c7, c8, c9, c10, c11, c12, c13, c14, c15, c16⟩ := (show Shp w b1 L d from hSw).bx.shop
    go_simp
    try with_reducible rfl
  case' b1nrest11 => try dsimp only [Act.put, List.setIfInBounds_toArray, List.set_cons_zero, List.set_cons_succ]
  refine wpAnyH_take (i := 12) (v := undef) rfl (by kernel_rfl) (by kernel_rfl) (by kernel_rfl) (fun _ _ _ h => h) (Or.inr ⟨by kernel_rfl, rfl⟩) (by assumption) ?_
  try dsimp only [Act.put, List.setIfInBounds_toArray, List.set_cons_zero, List.set_cons_succ]
  refine wpAnyH_take (i := 13) (v := undef) rfl (by kernel_rfl) (by kernel_rfl) (by kernel_rfl) (fun _ _ _ h => h) (Or.inr ⟨by kernel_rfl, rfl⟩) (by assumption) ?_
  try dsimp only [Act.put, List.setIfInBounds_toArray, List.set_cons_zero, List.set_cons_succ]
  refine wpAnyH_take (i := 14) (v := undef) rfl (by kernel_rfl) (by kernel_rfl) (by kernel_rfl) (fun _ _ _ h => h) (Or.inr ⟨by kernel_rfl, rfl⟩) (by assumption) ?_
  try dsimp only [Act.put, List.setIfInBounds_toArray, List.set_cons_zero, List.set_cons_succ]
  refine wpAnyH_take (i := 15) (v := undef) rfl (by kernel_rfl) (by kernel_rfl) (by kernel_rfl) (fun _ _ _ h => h) (Or.inr ⟨by kernel_rfl, rfl⟩) (by assumption) ?_
  try dsimp only [Act.put, List.setIfInBounds_toArray, List.set_cons_zero, List.set_cons_succ]
  refine wpAnyH_take (i := 16) (v := undef) rfl (by kernel_rfl) (by kernel_rfl) (by kernel_rfl) (fun _ _ _ h => h) (Or.inr ⟨by kernel_rfl, rfl⟩) (by assumption) ?_
  try dsimp only [Act.put, List.setIfInBounds_toArray, List.set_cons_zero, List.set_cons_succ]
  refine wpAnyH_take (i := 17) (v := undef) rfl (by kernel_rfl) (by kernel_rfl) (by kernel_rfl) (fun _ _ _ h => h) (Or.inr ⟨by kernel_rfl, rfl⟩) (by assumption) ?_
  try dsimp only [Act.put, List.setIfInBounds_toArray, List.set_cons_zero, List.set_cons_succ]
  refine wpAnyH_take (i := 18) (v := undef) rfl (by kernel_rfl) (by kernel_rfl) (by kernel_rfl) (fun _ _ _ h => h) (Or.inr ⟨by kernel_rfl, rfl⟩) (by assumption) ?_
  try dsimp only [Act.put, List.setIfInBounds_toArray, List.set_cons_zero, List.set_cons_succ]
  refine wpAnyH_take (i := 19) (v := ?b1nv19) rfl (by kernel_rfl) (by kernel_rfl) (by kernel_rfl) (fun _ _ _ h => h) (Or.inl ⟨by kernel_rfl, ?b1nhy19⟩) (by assumption) ?b1nrest19
  case b1nhy19 =>
    intro w hSw
    try simp only [List.getElem_toArray, List.getElem_cons_succ, List.getElem_cons_zero, List.setIfInBounds_toArray, List.set_cons_zero, List.set_cons_succ]
    obtain ⟨c0, c1, c2, c3, c4, c5, c6, c7, c8, c9, c10, c11, c12, c13, c14, c15, c16⟩ := (show Shp w b1 L d from hSw).bx.shop
    go_simp
    try with_reducible rfl
  case' b1nrest19 => try dsimp only [Act.put, List.setIfInBounds_toArray, List.set_cons_zero, List.set_cons_succ]
  refine wpAnyH_done (by kernel_rfl) ?_ _
  simp only [List.getElem_toArray, List.getElem_cons_succ, List.getElem_cons_zero, List.setIfInBounds_toArray, List.set_cons_zero, List.set_cons_succ]
  clear hHeld
  go_wp2_with fail
  go_ret
  exact ⟨rfl, HS.out.2⟩

set_option maxRecDepth 100000 in
set_option maxHeartbeats 8000000 in
theorem okI_members (L : LT) (d : SD) (w : World) (I : Rd w L d) (hs : Short L) (ho : outerB d = true) (hm : ¬ d.m = rdyL d.t) :
    Calls Try.prog 8 #[sv L d] w fun e w' => e = .returned (.bool false) ∧ Below w.heap.size w w' := by
  have HI : Hid (Rd w L d) := I
  obtain ⟨s0, s1, s2, s3, s4, s5, s6, s7, s8, s9⟩ := short_parts hs
  have HSH : Hid (Short L) := hs
  have HLN : Hid (d.m.length = L.m.n ∧ d.n.length = L.n.n) := ⟨I.m.1, I.n.1⟩
  clear I hs
  have HF : Hid (outerB d = true ∧ decide (d.m = rdyL d.t) = false ∧ True) := ⟨ho, decide_eq_false hm, trivial⟩
  clear ho hm
  go_enter Try.func8, Try.ntmps8
  go_wp2_with (refine sh_box rfl ?_)
  intro W1 b1 hW1 S1 B1
  have HS : Hid (Shp W1 b1 L d ∧ Below w.heap.size w W1) := ⟨S1, B1⟩
  clear S1 B1 hW1
  go_wp2_with (refine sh_loadg rfl rfl HS.out.1 ?_)
  refine (implFrame L d _ (HI.out.t.kept HS.out.2) s0).mono ?_
  rw [HF.out.1]
  obtain ⟨v, hv⟩ : ∃ v, v = wayV d.p := ⟨_, rfl⟩
  rw [← hv]
  have HV : Hid (v = wayV d.p) := hv
  clear hv
  rintro e W2 ⟨rfl, B⟩
  have HS' : Hid (Shp W2 b1 L d ∧ Below w.heap.size w W2) := ⟨HS.out.1.all B, below_call HS.out.2 HS.out.2.size B⟩
  clear B
  clear HS
  have HS := HS'
  clear HS'
  go_upto_region 2 with fail
  have HS' : Hid (Shp W2.drew b1 L d ∧ Below w.heap.size w W2.drew) := ⟨HS.out.1.drew, below_call HS.out.2 HS.out.2.size (below_drewN (Below.refl _ _) 1)⟩
  clear HS
  have HS := HS'
  clear HS'
  refine wp_region_held_drew (S := fun w' => Shp w' b1 L d) (by kernel_rfl) HS.out.1 (fun hHeld => ?_)
  refine wpAnyH_take (i := 0) (v := ?b2nv0) rfl (by kernel_rfl) (by kernel_rfl) (by kernel_rfl) (fun _ _ _ h => h) (Or.inl ⟨by kernel_rfl, ?b2nhy0⟩) (by assumption) ?b2nrest0
  case b2nhy0 =>
    intro w hSw
    obtain ⟨c0, c1, c2, c3, c4, c5, c6, c7, c8, c9, c10, c11, c12, c13, c14, c15, c16⟩ := (show Shp w b1 L d from hSw).bx.shop
    go_simp
    try with_reducible rfl
  case' b2nrest0 => try dsimp only [Act.put, List.setIfInBounds_toArray, List.set_cons_zero, List.set_cons_succ]
  refine wpAnyH_take (i := 1) (v := ?b2nv1) rfl (by kernel_rfl) (by kernel_rfl) (by kernel_rfl) (fun _ _ _ h => h) (Or.inl ⟨by kernel_rfl, ?b2nhy1⟩) (by assumption) ?b2nrest1
  case b2nhy1 =>
    intro w hSw
    obtain ⟨c0, c1, c2, c3, c4, c5, c6, c7, c8, c9, c10, c11, c12, c13, c14, c15, c16⟩ := (show Shp w b1 L d from hSw).bx.shop
    go_simp
    try with_reducible rfl
  case' b2nrest1 => try dsimp only [Act.put, List.setIfInBounds_toArray, List.set_cons_zero, List.set_cons_succ]
  refine wpAnyH_take (i := 2) (v := ?b2nv2) rfl (by kernel_rfl) (by kernel_rfl) (by kernel_rfl) (fun _ _ _ h => h) (Or.inl ⟨by kernel_rfl, ?b2nhy2⟩) (by assumption) ?b2nrest2
  case b2nhy2 =>
    intro w hSw
    try simp only [List.getElem_toArray, List.getElem_cons_succ, List.getElem_cons_zero, List.setIfInBounds_toArray, List.set_cons_zero, List.set_cons_succ]
    obtain ⟨c0, c1, c2, c3, c4, c5, c6, c7, c8, c9, c10, c11, c12, c13, c14, c15, c16⟩ := (show Shp w b1 L d from hSw).bx.shop
    go_simp
    try with_reducible rfl
  case' b2nrest2 => try dsimp only [Act.put, List.setIfInBounds_toArray, List.set_cons_zero, List.set_cons_succ]
  refine wpAnyH_take (i := 3) (v := ?b2nv3) rfl (by kernel_rfl) (by kernel_rfl) (by kernel_rfl) (fun _ _ _ h => h) (Or.inl ⟨by kernel_rfl, ?b2nhy3⟩) (by assumption) ?b2nrest3
  case b2nhy3 =>
    intro w hSw
    try simp only [List.getElem_toArray, List.getElem_cons_succ, List.getElem_cons_zero, List.setIfInBounds_toArray, List.set_cons_zero, List.set_cons_succ]
    obtain ⟨c0, c1, c2, c3, c4, c5, c6, c7, c8, c9, c10, c11, c12, c13, c14, c15, c16⟩ := (show Shp w b1 L d from hSw).bx.shop
    go_simp
    try with_reducible rfl
  case' b2nrest3 => try dsimp only [Act.put, List.setIfInBounds_toArray, List.set_cons_zero, List.set_cons_succ]
  refine wpAnyH_take (i := 4) (v := ?b2nv4) rfl (by kernel_rfl) (by kernel_rfl) (by kernel_rfl) (fun _ _ _ h => h) (Or.inl ⟨by kernel_rfl, ?b2nhy4⟩) (by assumption) ?b2nrest4
  case b2nhy4 =>
    intro w hSw
    try simp only [List.getElem_toArray, List.getElem_cons_succ, List.getElem_cons_zero, List.setIfInBounds_toArray, List.set_cons_zero, List.set_cons_succ]
    obtain ⟨c0, c1, c2, c3, c4, c5, c6, c7, c8, c9, c10, c11, c12, c13, c14, c15, c16⟩ := (show Shp w b1 L d from hSw).bx.shop
    go_simp
    try with_reducible rfl
  case' b2nrest4 => try dsimp only [Act.put, List.setIfInBounds_toArray, List.set_cons_zero, List.set_cons_succ]
  refine wpAnyH_take (i := 5) (v := ?b2nv5) rfl (by kernel_rfl) (by kernel_rfl) (by kernel_rfl) (fun _ _ _ h => h) (Or.inl ⟨by kernel_rfl, ?b2nhy5⟩) (by assumption) ?b2nrest5
  case b2nhy5 =>
    intro w hSw
    try simp only [List.getElem_toArray, List.getElem_cons_succ, List.getElem_cons_zero, List.setIfInBounds_toArray, List.set_cons_zero, List.set_cons_succ]
    obtain ⟨c0, c1, c2, c3, c4, c5, c6, c7, c8, c9, c10, c11, c12, c13, c14, c15, c16⟩ := (show Shp w b1 L d from hSw).bx.shop
    go_simp
    try with_reducible rfl
  case' b2nrest5 => try dsimp only [Act.put, List.setIfInBounds_toArray, List.set_cons_zero, List.set_cons_succ]
  refine wpAnyH_take (i := 6) (v := ?b2nv6) rfl (by kernel_rfl) (by kernel_rfl) (by kernel_rfl) (fun _ _ _ h => h) (Or.inl ⟨by kernel_rfl, ?b2nhy6⟩) (by assumption) ?b2nrest6
  case b2nhy6 =>
    intro w hSw
    try simp only [List.getElem_toArray, List.getElem_cons_succ, List.getElem_cons_zero, List.setIfInBounds_toArray, List.set_cons_zero, List.set_cons_succ]
    obtain ⟨c0, c1, c2, c3, c4, c5, c6, c7, c8, c9, c10, c11, c12, c13, c14, c15, c16⟩ := (show Shp w b1 L d from hSw).bx.shop
    go_simp
    try with_reducible rfl
  case' b2nrest6 => try dsimp only [Act.put, List.setIfInBounds_toArray, List.set_cons_zero, List.set_cons_succ]
  refine wpAnyH_ready (rs := [7]) (by kernel_rfl) (by simp) ?_
  refine AllReadyH.cons rfl (fun K hK => ?_) AllReadyH.nil
  go_simp
  refine (implReadyOf L.t.a L.t.n L.t.c d.t _ (HI.out.t.kept HS.out.2) s0).mono ?_
  rintro e u ⟨g, n, c, rfl, R, B⟩
  have HS' : Hid (Shp u b1 L d ∧ Below w.heap.size w u) := ⟨HS.out.1.all B, below_call HS.out.2 HS.out.2.size B⟩
  clear B
  have HR : Hid (Ints u (some ⟨g, 0, none⟩) n (rdyL d.t)) := R.ints
  clear R
  clear HS
  have HS := HS'
  clear HS'
  have SX : (fun w' => Shp w' b1 L d) u := HS.out.1

  go_wp2_with fail
  refine hK.out _ _ SX (fun hHeld => ?_)
  clear hK K
  try dsimp only [Act.put, List.setIfInBounds_toArray, List.set_cons_zero, List.set_cons_succ]
  refine wpAnyH_ready (rs := [8]) (by kernel_rfl) (by simp) ?_
  refine AllReadyH.cons rfl (fun K hK => ?_) AllReadyH.nil
  go_simp
  refine (eqInts_at L.m.a L.m.n L.m.c d.m (some ⟨g, 0, none⟩) n c (rdyL d.t) _ (HI.out.m.kept HS.out.2) HR.out s1).mono ?_
  rw [HF.out.2.1]
  rintro e u ⟨rfl, B⟩
  have HS' : Hid (Shp u b1 L d ∧ Below w.heap.size w u) := ⟨HS.out.1.all B, below_call HS.out.2 HS.out.2.size B⟩
  clear B HR
  clear HS
  have HS := HS'
  clear HS'
  have SX : (fun w' => Shp w' b1 L d) u := HS.out.1

  go_wp2_with fail
  refine hK.out _ _ SX (fun hHeld => ?_)
  clear hK K
  try dsimp only [Act.put, List.setIfInBounds_toArray, List.set_cons_zero, List.set_cons_succ]
  refine wpAnyH_take (i := 9) (v := ?b2nv9) rfl (by kernel_rfl) (by kernel_rfl) (by kernel_rfl) (fun _ _ _ h => h) (Or.inl ⟨by kernel_rfl, ?b2nhy9⟩) (by assumption) ?b2nrest9
  case b2nhy9 =>
    intro w hSw
    obtain ⟨c0, c1, c2, c3, c4, c5, c6, c7, c8, c9, c10, c11, c12, c13, c14, c15, c16⟩ := (show Shp w b1 L d from hSw).bx.shop
    go_simp
    try with_reducible rfl
  case' b2nrest9 => try dsimp only [Act.put, List.setIfInBounds_toArray, List.set_cons_zero, List.set_cons_succ]
  refine wpAnyH_take (i := 10) (v := ?b2nv10) rfl (by kernel_rfl) (by kernel_rfl) (by kernel_rfl) (fun _ _ _ h => h) (Or.inl ⟨by kernel_rfl, ?b2nhy10⟩) (by assumption) ?b2nrest10
  case b2nhy10 =>
    intro w hSw
    try simp only [List.getElem_toArray, List.getElem_cons_succ, List.getElem_cons_zero, List.setIfInBounds_toArray, List.set_cons_zero, List.set_cons_succ]
    obtain ⟨c0, c1, c2, c3, c4, c5, c6, c7, c8, c9, c10, c11, c12, c13, c14, c15, c16⟩ := (show Shp w b1 L d from hSw).bx.shop
    go_simp
    try with_reducible rfl
  case' b2nrest10 => try dsimp only [Act.put, List.setIfInBounds_toArray, List.set_cons_zero, List.set_cons_succ]
  refine wpAnyH_take (i := 11) (v := ?b2nv11) rfl (by kernel_rfl) (by kernel_rfl) (by kernel_rfl) (fun _ _ _ h => h) (Or.inl ⟨by kernel_rfl, ?b2nhy11⟩) (by assumption) ?b2nrest11
  case b2nhy11 =>
    intro w hSw
    try simp only [List.getElem_toArray, List.getElem_cons_succ, List.getElem_cons_zero, List.setIfInBounds_toArray, List.set_cons_zero, List.set_cons_succ]
    obtain ⟨c0, c1, c2, c3, c4, c5, c6, c7, c8, c9, c10, c11, c12, c13, c14, c15, c16⟩ := (show Shp w b1 L d from hSw).bx.shop
    go_simp
    try with_reducible rfl
  case' b2nrest11 => try dsimp only [Act.put, List.setIfInBounds_toArray, List.set_cons_zero, List.set_cons_succ]
  refine wpAnyH_take (i := 12) (v := undef) rfl (by kernel_rfl) (by kernel_rfl) (by kernel_rfl) (fun _ _ _ h => h) (Or.inr ⟨by kernel_rfl, rfl⟩) (by assumption) ?_
  try dsimp only [Act.put, List.setIfInBounds_toArray, List.set_cons_zero, List.set_cons_succ]
  refine wpAnyH_take (i := 13) (v := undef) rfl (by kernel_rfl) (by kernel_rfl) (by kernel_rfl) (fun _ _ _ h => h) (Or.inr ⟨by kernel_rfl, rfl⟩) (by assumption) ?_
  try dsimp only [Act.put, List.setIfInBounds_toArray, List.set_cons_zero, List.set_cons_succ]
  refine wpAnyH_take (i := 14) (v := undef) rfl (by kernel_rfl) (by kernel_rfl) (by kernel_rfl) (fun _ _ _ h => h) (Or.inr ⟨by kernel_rfl, rfl⟩) (by assumption) ?_
  try dsimp only [Act.put, List.setIfInBounds_toArray, List.set_cons_zero, List.set_cons_succ]
  refine wpAnyH_take (i := 15) (v := undef) rfl (by kernel_rfl) (by kernel_rfl) (by kernel_rfl) (fun _ _ _ h => h) (Or.inr ⟨by kernel_rfl, rfl⟩) (by assumption) ?_
  try dsimp only [Act.put, List.setIfInBounds_toArray, List.set_cons_zero, List.set_cons_succ]
  refine wpAnyH_take (i := 16) (v := undef) rfl (by kernel_rfl) (by kernel_rfl) (by kernel_rfl) (fun _ _ _ h => h) (Or.inr ⟨by kernel_rfl, rfl⟩) (by assumption) ?_
  try dsimp only [Act.put, List.setIfInBounds_toArray, List.set_cons_zero, List.set_cons_succ]
  refine wpAnyH_take (i := 17) (v := undef) rfl (by kernel_rfl) (by kernel_rfl) (by kernel_rfl) (fun _ _ _ h => h) (Or.inr ⟨by kernel_rfl, rfl⟩) (by assumption) ?_
  try dsimp only [Act.put, List.setIfInBounds_toArray, List.set_cons_zero, List.set_cons_succ]
  refine wpAnyH_take (i := 18) (v := undef) rfl (by kernel_rfl) (by kernel_rfl) (by kernel_rfl) (fun _ _ _ h => h) (Or.inr ⟨by kernel_rfl, rfl⟩) (by assumption) ?_
  try dsimp only [Act.put, List.setIfInBounds_toArray, List.set_cons_zero, List.set_cons_succ]
  refine wpAnyH_take (i := 19) (v := ?b2nv19) rfl (by kernel_rfl) (by kernel_rfl) (by kernel_rfl) (fun _ _ _ h => h) (Or.inl ⟨by kernel_rfl, ?b2nhy19⟩) (by assumption) ?b2nrest19
  case b2nhy19 =>
    intro w hSw
    try simp only [List.getElem_toArray, List.getElem_cons_succ, List.getElem_cons_zero, List.setIfInBounds_toArray, List.set_cons_zero, List.set_cons_succ]
    obtain ⟨c0, c1, c2, c3, c4, c5, c6, c7, c8, c9, c10, c11, c12, c13, c14, c15, c16⟩ := (show Shp w b1 L d from hSw).bx.shop
    go_simp
    try with_reducible rfl
  case' b2nrest19 => try dsimp only [Act.put, List.setIfInBounds_toArray, List.set_cons_zero, List.set_cons_succ]
  refine wpAnyH_done (by kernel_rfl) ?_ _
  simp only [List.getElem_toArray, List.getElem_cons_succ, List.getElem_cons_zero, List.setIfInBounds_toArray, List.set_cons_zero, List.set_cons_succ]
  clear hHeld
  go_wp2_with fail
  go_ret
  exact ⟨rfl, HS.out.2⟩

set_option maxRecDepth 100000 in
set_option maxHeartbeats 8000000 in
theorem okI_crew (L : LT) (d : SD) (w : World) (I : Rd w L d) (hs : Short L) (ho : outerB d = true) (hm : d.m = rdyL d.t) (hc : ¬ d.c = crwTo d.t L.t.n) :
    Calls Try.prog 8 #[sv L d] w fun e w' => e = .returned (.bool false) ∧ Below w.heap.size w w' := by
  have HI : Hid (Rd w L d) := I
  obtain ⟨s0, s1, s2, s3, s4, s5, s6, s7, s8, s9⟩ := short_parts hs
  have HSH : Hid (Short L) := hs
  have HLN : Hid (d.m.length = L.m.n ∧ d.n.length = L.n.n) := ⟨I.m.1, I.n.1⟩
  clear I hs
  have HF : Hid (outerB d = true ∧ decide (d.m = rdyL d.t) = true ∧ decide (d.c = crwTo d.t L.t.n) = false) := ⟨ho, decide_eq_true hm, decide_eq_false hc⟩
  clear ho hm hc
  go_enter Try.func8, Try.ntmps8
  go_wp2_with (refine sh_box rfl ?_)
  intro W1 b1 hW1 S1 B1
  have HS : Hid (Shp W1 b1 L d ∧ Below w.heap.size w W1) := ⟨S1, B1⟩
  clear S1 B1 hW1
  go_wp2_with (refine sh_loadg rfl rfl HS.out.1 ?_)
  refine (implFrame L d _ (HI.out.t.kept HS.out.2) s0).mono ?_
  rw [HF.out.1]
  obtain ⟨v, hv⟩ : ∃ v, v = wayV d.p := ⟨_, rfl⟩
  rw [← hv]
  have HV : Hid (v = wayV d.p) := hv
  clear hv
  rintro e W2 ⟨rfl, B⟩
  have HS' : Hid (Shp W2 b1 L d ∧ Below w.heap.size w W2) := ⟨HS.out.1.all B, below_call HS.out.2 HS.out.2.size B⟩
  clear B
  clear HS
  have HS := HS'
  clear HS'
  go_upto_region 2 with fail
  have HS' : Hid (Shp W2.drew b1 L d ∧ Below w.heap.size w W2.drew) := ⟨HS.out.1.drew, below_call HS.out.2 HS.out.2.size (below_drewN (Below.refl _ _) 1)⟩
  clear HS
  have HS := HS'
  clear HS'
  refine wp_region_held_drew (S := fun w' => Shp w' b1 L d) (by kernel_rfl) HS.out.1 (fun hHeld => ?_)
  refine wpAnyH_take (i := 0) (v := ?b3nv0) rfl (by kernel_rfl) (by kernel_rfl) (by kernel_rfl) (fun _ _ _ h => h) (Or.inl ⟨by kernel_rfl, ?b3nhy0⟩) (by assumption) ?b3nrest0
  case b3nhy0 =>
    intro w hSw
    obtain ⟨c0, c1, c2, c3, c4, c5, c6, c7, c8, c9, c10, c11, c12, c13, c14, c15, c16⟩ := (show Shp w b1 L d from hSw).bx.shop
    go_simp
    try with_reducible rfl
  case' b3nrest0 => try dsimp only [Act.put, List.setIfInBounds_toArray, List.set_cons_zero, List.set_cons_succ]
  refine wpAnyH_take (i := 1) (v := ?b3nv1) rfl (by kernel_rfl) (by kernel_rfl) (by kernel_rfl) (fun _ _ _ h => h) (Or.inl ⟨by kernel_rfl, ?b3nhy1⟩) (by assumption) ?b3nrest1
  case b3nhy1 =>
    intro w hSw
    obtain ⟨c0, c1, c2, c3, c4, c5, c6, c7, c8, c9, c10, c11, c12, c13, c14, c15, c16⟩ := (show Shp w b1 L d from hSw).bx.shop
    go_simp
    try with_reducible rfl
  case' b3nrest1 => try dsimp only [Act.put, List.setIfInBounds_toArray, List.set_cons_zero, List.set_cons_succ]
  refine wpAnyH_take (i := 2) (v := ?b3nv2) rfl (by kernel_rfl) (by kernel_rfl) (by kernel_rfl) (fun _ _ _ h => h) (Or.inl ⟨by kernel_rfl, ?b3nhy2⟩) (by assumption) ?b3nrest2
  case b3nhy2 =>
    intro w hSw
    try simp only [List.getElem_toArray, List.getElem_cons_succ, List.getElem_cons_zero, List.setIfInBounds_toArray, List.set_cons_zero, List.set_cons_succ]
    obtain ⟨c0, c1, c2, c3, c4, c5, c6, c7, c8, c9, c10, c11, c12, c13, c14, c15, c16⟩ := (show Shp w b1 L d from hSw).bx.shop
    go_simp
    try with_reducible rfl
  case' b3nrest2 => try dsimp only [Act.put, List.setIfInBounds_toArray, List.set_cons_zero, List.set_cons_succ]
  refine wpAnyH_take (i := 3) (v := ?b3nv3) rfl (by kernel_rfl) (by kernel_rfl) (by kernel_rfl) (fun _ _ _ h => h) (Or.inl ⟨by kernel_rfl, ?b3nhy3⟩) (by assumption) ?b3nrest3
  case b3nhy3 =>
    intro w hSw
    try simp only [List.getElem_toArray, List.getElem_cons_succ, List.getElem_cons_zero, List.setIfInBounds_toArray, List.set_cons_zero, List.set_cons_succ]
    obtain ⟨c0, c1, c2, c3, c4, c5, c6, c7, c8, c9, c10, c11, c12, c13, c14, c15, c16⟩ := (show Shp w b1 L d from hSw).bx.shop
    go_simp
    try with_reducible rfl
  case' b3nrest3 => try dsimp only [Act.put, List.setIfInBounds_toArray, List.set_cons_zero, List.set_cons_succ]
  refine wpAnyH_take (i := 4) (v := ?b3nv4) rfl (by kernel_rfl) (by kernel_rfl) (by kernel_rfl) (fun _ _ _ h => h) (Or.inl ⟨by kernel_rfl, ?b3nhy4⟩) (by assumption) ?b3nrest4
  case b3nhy4 =>
    intro w hSw
    try simp only [List.getElem_toArray, List.getElem_cons_succ, List.getElem_cons_zero, List.setIfInBounds_toArray, List.set_cons_zero, List.set_cons_succ]
    obtain ⟨c0, c1, c2, c3, c4, c5, c6, c7, c8, c9, c10, c11, c12, c13, c14, c15, c16⟩ := (show Shp w b1 L d from hSw).bx.shop
    go_simp
    try with_reducible rfl
  case' b3nrest4 => try dsimp only [Act.put, List.setIfInBounds_toArray, List.set_cons_zero, List.set_cons_succ]
  refine wpAnyH_take (i := 5) (v := ?b3nv5) rfl (by kernel_rfl) (by kernel_rfl) (by kernel_rfl) (fun _ _ _ h => h) (Or.inl ⟨by kernel_rfl, ?b3nhy5⟩) (by assumption) ?b3nrest5
  case b3nhy5 =>
    intro w hSw
    try simp only [List.getElem_toArray, List.getElem_cons_succ, List.getElem_cons_zero, List.setIfInBounds_toArray, List.set_cons_zero, List.set_cons_succ]
    obtain ⟨c0, c1, c2, c3, c4, c5, c6, c7, c8, c9, c10, c11, c12, c13, c14, c15, c16⟩ := (show Shp w b1 L d from hSw).bx.shop
    go_simp
    try with_reducible rfl
  case' b3nrest5 => try dsimp only [Act.put, List.setIfInBounds_toArray, List.set_cons_zero, List.set_cons_succ]
  refine wpAnyH_take (i := 6) (v := ?b3nv6) rfl (by kernel_rfl) (by kernel_rfl) (by kernel_rfl) (fun _ _ _ h => h) (Or.inl ⟨by kernel_rfl, ?b3nhy6⟩) (by assumption) ?b3nrest6
  case b3nhy6 =>
    intro w hSw
    try simp only [List.getElem_toArray, List.getElem_cons_succ, List.getElem_cons_zero, List.setIfInBounds_toArray, List.set_cons_zero, List.set_cons_succ]
    obtain ⟨c0, c1, c2, c3, c4, c5, c6, c7, c8, c9, c10, c11, c12, c13, c14, c15, c16⟩ := (show Shp w b1 L d from hSw).bx.shop
    go_simp
    try with_reducible rfl
  case' b3nrest6 => try dsimp only [Act.put, List.setIfInBounds_toArray, List.set_cons_zero, List.set_cons_succ]
  refine wpAnyH_ready (rs := [7]) (by kernel_rfl) (by simp) ?_
  refine AllReadyH.cons rfl (fun K hK => ?_) AllReadyH.nil
  go_simp
  refine (implReadyOf L.t.a L.t.n L.t.c d.t _ (HI.out.t.kept HS.out.2) s0).mono ?_
  rintro e u ⟨g, n, c, rfl, R, B⟩
  have HS' : Hid (Shp u b1 L d ∧ Below w.heap.size w u) := ⟨HS.out.1.all B, below_call HS.out.2 HS.out.2.size B⟩
  clear B
  have HR : Hid (Ints u (some ⟨g, 0, none⟩) n (rdyL d.t)) := R.ints
  clear R
  clear HS
  have HS := HS'
  clear HS'
  have SX : (fun w' => Shp w' b1 L d) u := HS.out.1

  go_wp2_with fail
  refine hK.out _ _ SX (fun hHeld => ?_)
  clear hK K
  try dsimp only [Act.put, List.setIfInBounds_toArray, List.set_cons_zero, List.set_cons_succ]
  refine wpAnyH_ready (rs := [8]) (by kernel_rfl) (by simp) ?_
  refine AllReadyH.cons rfl (fun K hK => ?_) AllReadyH.nil
  go_simp
  refine (eqInts_at L.m.a L.m.n L.m.c d.m (some ⟨g, 0, none⟩) n c (rdyL d.t) _ (HI.out.m.kept HS.out.2) HR.out s1).mono ?_
  rw [HF.out.2.1]
  rintro e u ⟨rfl, B⟩
  have HS' : Hid (Shp u b1 L d ∧ Below w.heap.size w u) := ⟨HS.out.1.all B, below_call HS.out.2 HS.out.2.size B⟩
  clear B HR
  clear HS
  have HS := HS'
  clear HS'
  have SX : (fun w' => Shp w' b1 L d) u := HS.out.1

  go_wp2_with fail
  refine hK.out _ _ SX (fun hHeld => ?_)
  clear hK K
  try dsimp only [Act.put, List.setIfInBounds_toArray, List.set_cons_zero, List.set_cons_succ]
  refine wpAnyH_take (i := 9) (v := ?b3nv9) rfl (by kernel_rfl) (by kernel_rfl) (by kernel_rfl) (fun _ _ _ h => h) (Or.inl ⟨by kernel_rfl, ?b3nhy9⟩) (by assumption) ?b3nrest9
  case b3nhy9 =>
    intro w hSw
    obtain ⟨c0, c1, c2, c3, c4, c5, c6, c7, c8, c9, c10, c11, c12, c13, c14, c15, c16⟩ := (show Shp w b1 L d from hSw).bx.shop
    go_simp
    try with_reducible rfl
  case' b3nrest9 => try dsimp only [Act.put, List.setIfInBounds_toArray, List.set_cons_zero, List.set_cons_succ]
  refine wpAnyH_take (i := 10) (v := ?b3nv10) rfl (by kernel_rfl) (by kernel_rfl) (by kernel_rfl) (fun _ _ _ h => h) (Or.inl ⟨by kernel_rfl, ?b3nhy10⟩) (by assumption) ?b3nrest10
  case b3nhy10 =>
    intro w hSw
    try simp only [List.getElem_toArray, List.getElem_cons_succ, List.getElem_cons_zero, List.setIfInBounds_toArray, List.set_cons_zero, List.set_cons_succ]
    obtain ⟨c0, c1, c2, c3, c4, c5, c6, c7, c8, c9, c10, c11, c12, c13, c14, c15, c16⟩ := (show Shp w b1 L d from hSw).bx.shop
    go_simp
    try with_reducible rfl
  case' b3nrest10 => try dsimp only [Act.put, List.setIfInBounds_toArray, List.set_cons_zero, List.set_cons_succ]
  refine wpAnyH_take (i := 11) (v := ?b3nv11) rfl (by kernel_rfl) (by kernel_rfl) (by kernel_rfl) (fun _ _ _ h => h) (Or.inl ⟨by kernel_rfl, ?b3nhy11⟩) (by assumption) ?b3nrest11
  case b3nhy11 =>
    intro w hSw
    try simp only [List.getElem_toArray, List.getElem_cons_succ, List.getElem_cons_zero, List.setIfInBounds_toArray, List.set_cons_zero, List.set_cons_succ]
    obtain ⟨c0, c1, c2, c3, c4, c5, c6, c7, c8, c9, c10, c11, c12, c13, c14, c15, c16⟩ := (show Shp w b1 L d from hSw).bx.shop
    go_simp
    try with_reducible rfl
  case' b3nrest11 => try dsimp only [Act.put, List.setIfInBounds_toArray, List.set_cons_zero, List.set_cons_succ]
  refine wpAnyH_take (i := 12) (v := ?b3nv12) rfl (by kernel_rfl) (by kernel_rfl) (by kernel_rfl) (fun _ _ _ h => h) (Or.inl ⟨by kernel_rfl, ?b3nhy12⟩) (by assumption) ?b3nrest12
  case b3nhy12 =>
    intro w hSw
    try simp only [List.getElem_toArray, List.getElem_cons_succ, List.getElem_cons_zero, List.setIfInBounds_toArray, List.set_cons_zero, List.set_cons_succ]
    obtain ⟨c0, c1, c2, c3, c4, c5, c6, c7, c8, c9, c10, c11, c12, c13, c14, c15, c16⟩ := (show Shp w b1 L d from hSw).bx.shop
    go_simp
    try with_reducible rfl
  case' b3nrest12 => try dsimp only [Act.put, List.setIfInBounds_toArray, List.set_cons_zero, List.set_cons_succ]
  refine wpAnyH_take (i := 13) (v := ?b3nv13) rfl (by kernel_rfl) (by kernel_rfl) (by kernel_rfl) (fun _ _ _ h => h) (Or.inl ⟨by kernel_rfl, ?b3nhy13⟩) (by assumption) ?b3nrest13
  case b3nhy13 =>
    intro w hSw
    try simp only [List.getElem_toArray, List.getElem_cons_succ, List.getElem_cons_zero, List.setIfInBounds_toArray, List.set_cons_zero, List.set_cons_succ]
    obtain ⟨c0, c1, c2, c3, c4, c5, c6, c7, c8, c9, c10, c11, c12, c13, c14, c15, c16⟩ := (show Shp w b1 L d from hSw).bx.shop
    go_simp
    try with_reducible rfl
  case' b3nrest13 => try dsimp only [Act.put, List.setIfInBounds_toArray, List.set_cons_zero, List.set_cons_succ]
  refine wpAnyH_take (i := 14) (v := ?b3nv14) rfl (by kernel_rfl) (by kernel_rfl) (by kernel_rfl) (fun _ _ _ h => h) (Or.inl ⟨by kernel_rfl, ?b3nhy14⟩) (by assumption) ?b3nrest14
  case b3nhy14 =>
    intro w hSw
    try simp only [List.getElem_toArray, List.getElem_cons_succ, List.getElem_cons_zero, List.setIfInBounds_toArray, List.set_cons_zero, List.set_cons_succ]
    obtain ⟨c0, c1, c2, c3, c4, c5, c6, c7, c8, c9, c10, c11, c12, c13, c14, c15, c16⟩ := (show Shp w b1 L d from hSw).bx.shop
    go_simp
    try with_reducible rfl
  case' b3nrest14 => try dsimp only [Act.put, List.setIfInBounds_toArray, List.set_cons_zero, List.set_cons_succ]
  refine wpAnyH_take (i := 15) (v := ?b3nv15) rfl (by kernel_rfl) (by kernel_rfl) (by kernel_rfl) (fun _ _ _ h => h) (Or.inl ⟨by kernel_rfl, ?b3nhy15⟩) (by assumption) ?b3nrest15
  case b3nhy15 =>
    intro w hSw
    try simp only [List.getElem_toArray, List.getElem_cons_succ, List.getElem_cons_zero, List.setIfInBounds_toArray, List.set_cons_zero, List.set_cons_succ]
    obtain ⟨c0, c1, c2, c3, c4, c5, c6, c7, c8, c9, c10, c11, c12, c13, c14, c15, c16⟩ := (show Shp w b1 L d from hSw).bx.shop
    go_simp
    try with_reducible rfl
  case' b3nrest15 => try dsimp only [Act.put, List.setIfInBounds_toArray, List.set_cons_zero, List.set_cons_succ]
  refine wpAnyH_ready (rs := [16]) (by kernel_rfl) (by simp) ?_
  refine AllReadyH.cons rfl (fun K hK => ?_) AllReadyH.nil
  go_simp
  refine (implCrewOf L.t.a L.t.n L.t.c d.t _ (HI.out.t.kept HS.out.2) s0).mono ?_
  rintro e u ⟨g, n, c, rfl, R, B⟩
  have HS' : Hid (Shp u b1 L d ∧ Below w.heap.size w u) := ⟨HS.out.1.all B, below_call HS.out.2 HS.out.2.size B⟩
  clear B
  have HR : Hid (Ints u (some ⟨g, 0, none⟩) n (crwTo d.t L.t.n)) := R.ints
  clear R
  clear HS
  have HS := HS'
  clear HS'
  have SX : (fun w' => Shp w' b1 L d) u := HS.out.1

  go_wp2_with fail
  refine hK.out _ _ SX (fun hHeld => ?_)
  clear hK K
  try dsimp only [Act.put, List.setIfInBounds_toArray, List.set_cons_zero, List.set_cons_succ]
  refine wpAnyH_ready (rs := [17]) (by kernel_rfl) (by simp) ?_
  refine AllReadyH.cons rfl (fun K hK => ?_) AllReadyH.nil
  go_simp
  refine (eqInts_at L.c.a L.c.n L.c.c d.c (some ⟨g, 0, none⟩) n c (crwTo d.t L.t.n) _ (HI.out.c.kept HS.out.2) HR.out s2).mono ?_
  rw [HF.out.2.2]
  rintro e u ⟨rfl, B⟩
  have HS' : Hid (Shp u b1 L d ∧ Below w.heap.size w u) := ⟨HS.out.1.all B, below_call HS.out.2 HS.out.2.size B⟩
  clear B HR
  clear HS
  have HS := HS'
  clear HS'
  have SX : (fun w' => Shp w' b1 L d) u := HS.out.1

  go_wp2_with fail
  refine hK.out _ _ SX (fun hHeld => ?_)
  clear hK K
  try dsimp only [Act.put, List.setIfInBounds_toArray, List.set_cons_zero, List.set_cons_succ]
  refine wpAnyH_take (i := 18) (v := ?b3nv18) rfl (by kernel_rfl) (by kernel_rfl) (by kernel_rfl) (fun _ _ _ h => h) (Or.inl ⟨by kernel_rfl, ?b3nhy18⟩) (by assumption) ?b3nrest18
  case b3nhy18 =>
    intro w hSw
    obtain ⟨c0, c1, c2, c3, c4, c5, c6, c7, c8, c9, c10, c11, c12, c13, c14, c15, c16⟩ := (show Shp w b1 L d from hSw).bx.shop
    go_simp
    try with_reducible rfl
  case' b3nrest18 => try dsimp only [Act.put, List.setIfInBounds_toArray, List.set_cons_zero, List.set_cons_succ]
  refine wpAnyH_take (i := 19) (v := ?b3nv19) rfl (by kernel_rfl) (by kernel_rfl) (by kernel_rfl) (fun _ _ _ h => h) (Or.inl ⟨by kernel_rfl, ?b3nhy19⟩) (by assumption) ?b3nrest19
  case b3nhy19 =>
    intro w hSw
    try simp only [List.getElem_toArray, List.getElem_cons_succ, List.getElem_cons_zero, List.setIfInBounds_toArray, List.set_cons_zero, List.set_cons_succ]
    obtain ⟨c0, c1, c2, c3, c4, c5, c6, c7, c8, c9, c10, c11, c12, c13, c14, c15, c16⟩ := (show Shp w b1 L d from hSw).bx.shop
    go_simp
    try with_reducible rfl
  case' b3nrest19 => try dsimp only [Act.put, List.setIfInBounds_toArray, List.set_cons_zero, List.set_cons_succ]
  refine wpAnyH_done (by kernel_rfl) ?_ _
  simp only [List.getElem_toArray, List.getElem_cons_succ, List.getElem_cons_zero, List.setIfInBounds_toArray, List.set_cons_zero, List.set_cons_succ]
  clear hHeld
  go_wp2_with fail
  go_ret
  exact ⟨rfl, HS.out.2⟩

set_option maxRecDepth 100000 in
set_option maxHeartbeats 8000000 in
theorem okI_none (L : LT) (d : SD) (w : World) (I : Rd w L d) (hs : Short L) (ho : outerB d = true) (hm : d.m = rdyL d.t) (hc : d.c = crwTo d.t L.t.n) (hz : L.m.n = 0) :
    Calls Try.prog 8 #[sv L d] w fun e w' => e = .returned (.bool (decide (d.n.length = 0) && keepB d)) ∧ Below w.heap.size w w' := by
  have HI : Hid (Rd w L d) := I
  obtain ⟨s0, s1, s2, s3, s4, s5, s6, s7, s8, s9⟩ := short_parts hs
  have HSH : Hid (Short L) := hs
  have HLN : Hid (d.m.length = L.m.n ∧ d.n.length = L.n.n) := ⟨I.m.1, I.n.1⟩
  clear I hs
  have HF : Hid (outerB d = true ∧ decide (d.m = rdyL d.t) = true ∧ decide (d.c = crwTo d.t L.t.n) = true) := ⟨ho, decide_eq_true hm, decide_eq_true hc⟩
  have hbm : ((L.m.n : Int) == (0 : Int)) = true := by simp [hz]
  clear ho hm hc hz
  go_enter Try.func8, Try.ntmps8
  go_wp2_with (refine sh_box rfl ?_)
  intro W1 b1 hW1 S1 B1
  have HS : Hid (Shp W1 b1 L d ∧ Below w.heap.size w W1) := ⟨S1, B1⟩
  clear S1 B1 hW1
  go_wp2_with (refine sh_loadg rfl rfl HS.out.1 ?_)
  refine (implFrame L d _ (HI.out.t.kept HS.out.2) s0).mono ?_
  rw [HF.out.1]
  obtain ⟨v, hv⟩ : ∃ v, v = wayV d.p := ⟨_, rfl⟩
  rw [← hv]
  have HV : Hid (v = wayV d.p) := hv
  clear hv
  rintro e W2 ⟨rfl, B⟩
  have HS' : Hid (Shp W2 b1 L d ∧ Below w.heap.size w W2) := ⟨HS.out.1.all B, below_call HS.out.2 HS.out.2.size B⟩
  clear B
  clear HS
  have HS := HS'
  clear HS'
  go_upto_region 2 with fail
  have HS' : Hid (Shp W2.drew b1 L d ∧ Below w.heap.size w W2.drew) := ⟨HS.out.1.drew, below_call HS.out.2 HS.out.2.size (below_drewN (Below.refl _ _) 1)⟩
  clear HS
  have HS := HS'
  clear HS'
  refine wp_region_held_drew (S := fun w' => Shp w' b1 L d) (by kernel_rfl) HS.out.1 (fun hHeld => ?_)
  refine wpAnyH_take (i := 0) (v := ?b4nv0) rfl (by kernel_rfl) (by kernel_rfl) (by kernel_rfl) (fun _ _ _ h => h) (Or.inl ⟨by kernel_rfl, ?b4nhy0⟩) (by assumption) ?b4nrest0
  case b4nhy0 =>
    intro w hSw
    obtain ⟨c0, c1, c2, c3, c4, c5, c6, c7, c8, c9, c10, c11, c12, c13, c14, c15, c16⟩ := (show Shp w b1 L d from hSw).bx.shop
    go_simp
    try with_reducible rfl
  case' b4nrest0 => try dsimp only [Act.put, List.setIfInBounds_toArray, List.set_cons_zero, List.set_cons_succ]
  refine wpAnyH_take (i := 1) (v := ?b4nv1) rfl (by kernel_rfl) (by kernel_rfl) (by kernel_rfl) (fun _ _ _ h => h) (Or.inl ⟨by kernel_rfl, ?b4nhy1⟩) (by assumption) ?b4nrest1
  case b4nhy1 =>
    intro w hSw
    obtain ⟨c0, c1, c2, c3, c4, c5, c6, c7, c8, c9, c10, c11, c12, c13, c14, c15, c16⟩ := (show Shp w b1 L d from hSw).bx.shop
    go_simp
    try with_reducible rfl
  case' b4nrest1 => try dsimp only [Act.put, List.setIfInBounds_toArray, List.set_cons_zero, List.set_cons_succ]
  refine wpAnyH_take (i := 2) (v := ?b4nv2) rfl (by kernel_rfl) (by kernel_rfl) (by kernel_rfl) (fun _ _ _ h => h) (Or.inl ⟨by kernel_rfl, ?b4nhy2⟩) (by assumption) ?b4nrest2
  case b4nhy2 =>
    intro w hSw
    try simp only [List.getElem_toArray, List.getElem_cons_succ, List.getElem_cons_zero, List.setIfInBounds_toArray, List.set_cons_zero, List.set_cons_succ]
    obtain ⟨c0, c1, c2, c3, c4, c5, c6, c7, c8, c9, c10, c11, c12, c13, c14, c15, c16⟩ := (show Shp w b1 L d from hSw).bx.shop
    go_simp
    try with_reducible rfl
  case' b4nrest2 => try dsimp only [Act.put, List.setIfInBounds_toArray, List.set_cons_zero, List.set_cons_succ]
  refine wpAnyH_take (i := 3) (v := ?b4nv3) rfl (by kernel_rfl) (by kernel_rfl) (by kernel_rfl) (fun _ _ _ h => h) (Or.inl ⟨by kernel_rfl, ?b4nhy3⟩) (by assumption) ?b4nrest3
  case b4nhy3 =>
    intro w hSw
    try simp only [List.getElem_toArray, List.getElem_cons_succ, List.getElem_cons_zero, List.setIfInBounds_toArray, List.set_cons_zero, List.set_cons_succ]
    obtain ⟨c0, c1, c2, c3, c4, c5, c6, c7, c8, c9, c10, c11, c12, c13, c14, c15, c16⟩ := (show Shp w b1 L d from hSw).bx.shop
    go_simp
    try with_reducible rfl
  case' b4nrest3 => try dsimp only [Act.put, List.setIfInBounds_toArray, List.set_cons_zero, List.set_cons_succ]
  refine wpAnyH_take (i := 4) (v := ?b4nv4) rfl (by kernel_rfl) (by kernel_rfl) (by kernel_rfl) (fun _ _ _ h => h) (Or.inl ⟨by kernel_rfl, ?b4nhy4⟩) (by assumption) ?b4nrest4
  case b4nhy4 =>
    intro w hSw
    try simp only [List.getElem_toArray, List.getElem_cons_succ, List.getElem_cons_zero, List.setIfInBounds_toArray, List.set_cons_zero, List.set_cons_succ]
    obtain ⟨c0, c1, c2, c3, c4, c5, c6, c7, c8, c9, c10, c11, c12, c13, c14, c15, c16⟩ := (show Shp w b1 L d from hSw).bx.shop
    go_simp
    try with_reducible rfl
  case' b4nrest4 => try dsimp only [Act.put, List.setIfInBounds_toArray, List.set_cons_zero, List.set_cons_succ]
  refine wpAnyH_take (i := 5) (v := ?b4nv5) rfl (by kernel_rfl) (by kernel_rfl) (by kernel_rfl) (fun _ _ _ h => h) (Or.inl ⟨by kernel_rfl, ?b4nhy5⟩) (by assumption) ?b4nrest5
  case b4nhy5 =>
    intro w hSw
    try simp only [List.getElem_toArray, List.getElem_cons_succ, List.getElem_cons_zero, List.setIfInBounds_toArray, List.set_cons_zero, List.set_cons_succ]
    obtain ⟨c0, c1, c2, c3, c4, c5, c6, c7, c8, c9, c10, c11, c12, c13, c14, c15, c16⟩ := (show Shp w b1 L d from hSw).bx.shop
    go_simp
    try with_reducible rfl
  case' b4nrest5 => try dsimp only [Act.put, List.setIfInBounds_toArray, List.set_cons_zero, List.set_cons_succ]
  refine wpAnyH_take (i := 6) (v := ?b4nv6) rfl (by kernel_rfl) (by kernel_rfl) (by kernel_rfl) (fun _ _ _ h => h) (Or.inl ⟨by kernel_rfl, ?b4nhy6⟩) (by assumption) ?b4nrest6
  case b4nhy6 =>
    intro w hSw
    try simp only [List.getElem_toArray, List.getElem_cons_succ, List.getElem_cons_zero, List.setIfInBounds_toArray, List.set_cons_zero, List.set_cons_succ]
    obtain ⟨c0, c1, c2, c3, c4, c5, c6, c7, c8, c9, c10, c11, c12, c13, c14, c15, c16⟩ := (show Shp w b1 L d from hSw).bx.shop
    go_simp
    try with_reducible rfl
  case' b4nrest6 => try dsimp only [Act.put, List.setIfInBounds_toArray, List.set_cons_zero, List.set_cons_succ]
  refine wpAnyH_ready (rs := [7]) (by kernel_rfl) (by simp) ?_
  refine AllReadyH.cons rfl (fun K hK => ?_) AllReadyH.nil
  go_simp
  refine (implReadyOf L.t.a L.t.n L.t.c d.t _ (HI.out.t.kept HS.out.2) s0).mono ?_
  rintro e u ⟨g, n, c, rfl, R, B⟩
  have HS' : Hid (Shp u b1 L d ∧ Below w.heap.size w u) := ⟨HS.out.1.all B, below_call HS.out.2 HS.out.2.size B⟩
  clear B
  have HR : Hid (Ints u (some ⟨g, 0, none⟩) n (rdyL d.t)) := R.ints
  clear R
  clear HS
  have HS := HS'
  clear HS'
  have SX : (fun w' => Shp w' b1 L d) u := HS.out.1

  go_wp2_with fail
  refine hK.out _ _ SX (fun hHeld => ?_)
  clear hK K
  try dsimp only [Act.put, List.setIfInBounds_toArray, List.set_cons_zero, List.set_cons_succ]
  refine wpAnyH_ready (rs := [8]) (by kernel_rfl) (by simp) ?_
  refine AllReadyH.cons rfl (fun K hK => ?_) AllReadyH.nil
  go_simp
  refine (eqInts_at L.m.a L.m.n L.m.c d.m (some ⟨g, 0, none⟩) n c (rdyL d.t) _ (HI.out.m.kept HS.out.2) HR.out s1).mono ?_
  rw [HF.out.2.1]
  rintro e u ⟨rfl, B⟩
  have HS' : Hid (Shp u b1 L d ∧ Below w.heap.size w u) := ⟨HS.out.1.all B, below_call HS.out.2 HS.out.2.size B⟩
  clear B HR
  clear HS
  have HS := HS'
  clear HS'
  have SX : (fun w' => Shp w' b1 L d) u := HS.out.1

  go_wp2_with fail
  refine hK.out _ _ SX (fun hHeld => ?_)
  clear hK K
  try dsimp only [Act.put, List.setIfInBounds_toArray, List.set_cons_zero, List.set_cons_succ]
  refine wpAnyH_take (i := 9) (v := ?b4nv9) rfl (by kernel_rfl) (by kernel_rfl) (by kernel_rfl) (fun _ _ _ h => h) (Or.inl ⟨by kernel_rfl, ?b4nhy9⟩) (by assumption) ?b4nrest9
  case b4nhy9 =>
    intro w hSw
    obtain ⟨c0, c1, c2, c3, c4, c5, c6, c7, c8, c9, c10, c11, c12, c13, c14, c15, c16⟩ := (show Shp w b1 L d from hSw).bx.shop
    go_simp
    try with_reducible rfl
  case' b4nrest9 => try dsimp only [Act.put, List.setIfInBounds_toArray, List.set_cons_zero, List.set_cons_succ]
  refine wpAnyH_take (i := 10) (v := ?b4nv10) rfl (by kernel_rfl) (by kernel_rfl) (by kernel_rfl) (fun _ _ _ h => h) (Or.inl ⟨by kernel_rfl, ?b4nhy10⟩) (by assumption) ?b4nrest10
  case b4nhy10 =>
    intro w hSw
    try simp only [List.getElem_toArray, List.getElem_cons_succ, List.getElem_cons_zero, List.setIfInBounds_toArray, List.set_cons_zero, List.set_cons_succ]
    obtain ⟨c0, c1, c2, c3, c4, c5, c6, c7, c8, c9, c10, c11, c12, c13, c14, c15, c16⟩ := (show Shp w b1 L d from hSw).bx.shop
    go_simp
    try with_reducible rfl
  case' b4nrest10 => try dsimp only [Act.put, List.setIfInBounds_toArray, List.set_cons_zero, List.set_cons_succ]
  refine wpAnyH_take (i := 11) (v := ?b4nv11) rfl (by kernel_rfl) (by kernel_rfl) (by kernel_rfl) (fun _ _ _ h => h) (Or.inl ⟨by kernel_rfl, ?b4nhy11⟩) (by assumption) ?b4nrest11
  case b4nhy11 =>
    intro w hSw
    try simp only [List.getElem_toArray, List.getElem_cons_succ, List.getElem_cons_zero, List.setIfInBounds_toArray, List.set_cons_zero, List.set_cons_succ]
    obtain ⟨c0, c1, c2, c3, c4, c5, c6, c7, c8, c9, c10, c11, c12, c13, c14, c15, c16⟩ := (show Shp w b1 L d from hSw).bx.shop
    go_simp
    try with_reducible rfl
  case' b4nrest11 => try dsimp only [Act.put, List.setIfInBounds_toArray, List.set_cons_zero, List.set_cons_succ]
  refine wpAnyH_take (i := 12) (v := ?b4nv12) rfl (by kernel_rfl) (by kernel_rfl) (by kernel_rfl) (fun _ _ _ h => h) (Or.inl ⟨by kernel_rfl, ?b4nhy12⟩) (by assumption) ?b4nrest12
  case b4nhy12 =>
    intro w hSw
    try simp only [List.getElem_toArray, List.getElem_cons_succ, List.getElem_cons_zero, List.setIfInBounds_toArray, List.set_cons_zero, List.set_cons_succ]
    obtain ⟨c0, c1, c2, c3, c4, c5, c6, c7, c8, c9, c10, c11, c12, c13, c14, c15, c16⟩ := (show Shp w b1 L d from hSw).bx.shop
    go_simp
    try with_reducible rfl
  case' b4nrest12 => try dsimp only [Act.put, List.setIfInBounds_toArray, List.set_cons_zero, List.set_cons_succ]
  refine wpAnyH_take (i := 13) (v := ?b4nv13) rfl (by kernel_rfl) (by kernel_rfl) (by kernel_rfl) (fun _ _ _ h => h) (Or.inl ⟨by kernel_rfl, ?b4nhy13⟩) (by assumption) ?b4nrest13
  case b4nhy13 =>
    intro w hSw
    try simp only [List.getElem_toArray, List.getElem_cons_succ, List.getElem_cons_zero, List.setIfInBounds_toArray, List.set_cons_zero, List.set_cons_succ]
    obtain ⟨c0, c1, c2, c3, c4, c5, c6, c7, c8, c9, c10, c11, c12, c13, c14, c15, c16⟩ := (show Shp w b1 L d from hSw).bx.shop
    go_simp
    try with_reducible rfl
  case' b4nrest13 => try dsimp only [Act.put, List.setIfInBounds_toArray, List.set_cons_zero, List.set_cons_succ]
  refine wpAnyH_take (i := 14) (v := ?b4nv14) rfl (by kernel_rfl) (by kernel_rfl) (by kernel_rfl) (fun _ _ _ h => h) (Or.inl ⟨by kernel_rfl, ?b4nhy14⟩) (by assumption) ?b4nrest14
  case b4nhy14 =>
    intro w hSw
    try simp only [List.getElem_toArray, List.getElem_cons_succ, List.getElem_cons_zero, List.setIfInBounds_toArray, List.set_cons_zero, List.set_cons_succ]
    obtain ⟨c0, c1, c2, c3, c4, c5, c6, c7, c8, c9, c10, c11, c12, c13, c14, c15, c16⟩ := (show Shp w b1 L d from hSw).bx.shop
    go_simp
    try with_reducible rfl
  case' b4nrest14 => try dsimp only [Act.put, List.setIfInBounds_toArray, List.set_cons_zero, List.set_cons_succ]
  refine wpAnyH_take (i := 15) (v := ?b4nv15) rfl (by kernel_rfl) (by kernel_rfl) (by kernel_rfl) (fun _ _ _ h => h) (Or.inl ⟨by kernel_rfl, ?b4nhy15⟩) (by assumption) ?b4nrest15
  case b4nhy15 =>
    intro w hSw
    try simp only [List.getElem_toArray, List.getElem_cons_succ, List.getElem_cons_zero, List.setIfInBounds_toArray, List.set_cons_zero, List.set_cons_succ]
    obtain ⟨c0, c1, c2, c3, c4, c5, c6, c7, c8, c9, c10, c11, c12, c13, c14, c15, c16⟩ := (show Shp w b1 L d from hSw).bx.shop
    go_simp
    try with_reducible rfl
  case' b4nrest15 => try dsimp only [Act.put, List.setIfInBounds_toArray, List.set_cons_zero, List.set_cons_succ]
  refine wpAnyH_ready (rs := [16]) (by kernel_rfl) (by simp) ?_
  refine AllReadyH.cons rfl (fun K hK => ?_) AllReadyH.nil
  go_simp
  refine (implCrewOf L.t.a L.t.n L.t.c d.t _ (HI.out.t.kept HS.out.2) s0).mono ?_
  rintro e u ⟨g, n, c, rfl, R, B⟩
  have HS' : Hid (Shp u b1 L d ∧ Below w.heap.size w u) := ⟨HS.out.1.all B, below_call HS.out.2 HS.out.2.size B⟩
  clear B
  have HR : Hid (Ints u (some ⟨g, 0, none⟩) n (crwTo d.t L.t.n)) := R.ints
  clear R
  clear HS
  have HS := HS'
  clear HS'
  have SX : (fun w' => Shp w' b1 L d) u := HS.out.1

  go_wp2_with fail
  refine hK.out _ _ SX (fun hHeld => ?_)
  clear hK K
  try dsimp only [Act.put, List.setIfInBounds_toArray, List.set_cons_zero, List.set_cons_succ]
  refine wpAnyH_ready (rs := [17]) (by kernel_rfl) (by simp) ?_
  refine AllReadyH.cons rfl (fun K hK => ?_) AllReadyH.nil
  go_simp
  refine (eqInts_at L.c.a L.c.n L.c.c d.c (some ⟨g, 0, none⟩) n c (crwTo d.t L.t.n) _ (HI.out.c.kept HS.out.2) HR.out s2).mono ?_
  rw [HF.out.2.2]
  rintro e u ⟨rfl, B⟩
  have HS' : Hid (Shp u b1 L d ∧ Below w.heap.size w u) := ⟨HS.out.1.all B, below_call HS.out.2 HS.out.2.size B⟩
  clear B HR
  clear HS
  have HS := HS'
  clear HS'
  have SX : (fun w' => Shp w' b1 L d) u := HS.out.1

  go_wp2_with fail
  refine hK.out _ _ SX (fun hHeld => ?_)
  clear hK K
  try dsimp only [Act.put, List.setIfInBounds_toArray, List.set_cons_zero, List.set_cons_succ]
  refine wpAnyH_take (i := 18) (v := ?b4nv18) rfl (by kernel_rfl) (by kernel_rfl) (by kernel_rfl) (fun _ _ _ h => h) (Or.inl ⟨by kernel_rfl, ?b4nhy18⟩) (by assumption) ?b4nrest18
  case b4nhy18 =>
    intro w hSw
    obtain ⟨c0, c1, c2, c3, c4, c5, c6, c7, c8, c9, c10, c11, c12, c13, c14, c15, c16⟩ := (show Shp w b1 L d from hSw).bx.shop
    go_simp
    try with_reducible rfl
  case' b4nrest18 => try dsimp only [Act.put, List.setIfInBounds_toArray, List.set_cons_zero, List.set_cons_succ]
  refine wpAnyH_take (i := 19) (v := ?b4nv19) rfl (by kernel_rfl) (by kernel_rfl) (by kernel_rfl) (fun _ _ _ h => h) (Or.inl ⟨by kernel_rfl, ?b4nhy19⟩) (by assumption) ?b4nrest19
  case b4nhy19 =>
    intro w hSw
    try simp only [List.getElem_toArray, List.getElem_cons_succ, List.getElem_cons_zero, List.setIfInBounds_toArray, List.set_cons_zero, List.set_cons_succ]
    obtain ⟨c0, c1, c2, c3, c4, c5, c6, c7, c8, c9, c10, c11, c12, c13, c14, c15, c16⟩ := (show Shp w b1 L d from hSw).bx.shop
    go_simp
    try with_reducible rfl
  case' b4nrest19 => try dsimp only [Act.put, List.setIfInBounds_toArray, List.set_cons_zero, List.set_cons_succ]
  refine wpAnyH_done (by kernel_rfl) ?_ _
  simp only [List.getElem_toArray, List.getElem_cons_succ, List.getElem_cons_zero, List.setIfInBounds_toArray, List.set_cons_zero, List.set_cons_succ]
  clear hHeld
  go_upto_region 4 with fail
  obtain ⟨c0, c1, c2, c3, c4, c5, c6, c7, c8, c9, c10, c11, c12, c13, c14, c15, c16⟩ := HS.out.1.bx.shop
  have m0 := HS.out.1.lt
  by_cases hn : L.n.n = 0
  · have hbn : ((L.n.n : Int) == (0 : Int)) = true := by simp [hn]
    have HE : Hid (decide (d.n.length = 0) = true) := by show _ = _; rw [HLN.out.2, hn]; rfl
    clear hn
    go_wp2_with (refine sh_loadg rfl rfl HS.out.1 ?_)
    refine (implKeeps L d _ (HI.out.kept HS.out.2)).mono ?_
    rintro e W3 ⟨rfl, B⟩
    clear c0 c1 c2 c3 c4 c5 c6 c7 c8 c9 c10 c11 c12 c13 c14 c15 c16 m0
    have HS' : Hid (Shp W3 b1 L d ∧ Below w.heap.size w W3) := ⟨HS.out.1.all B, below_call HS.out.2 HS.out.2.size B⟩
    clear B
    clear HS
    have HS := HS'
    clear HS'
    go_wp2_with fail
    go_ret
    exact ⟨by rw [HE.out]; rfl, HS.out.2⟩
  · have hbn : ((L.n.n : Int) == (0 : Int)) = false := by simp; omega
    have HE : Hid (decide (d.n.length = 0) = false) := by show _ = _; rw [HLN.out.2]; exact decide_eq_false hn
    clear hn
    go_wp2_with fail
    go_ret
    exact ⟨by rw [HE.out]; rfl, HS.out.2⟩

set_option maxRecDepth 100000 in
set_option maxHeartbeats 8000000 in
theorem okI_some (L : LT) (d : SD) (w : World) (I : Rd w L d) (hs : Short L) (ho : outerB d = true) (hm : d.m = rdyL d.t) (hc : d.c = crwTo d.t L.t.n) (hz : ¬ L.m.n = 0) :
    Calls Try.prog 8 #[sv L d] w fun e w' => e = .returned (.bool (rightB d && keepB (cutD d))) ∧ Below w.heap.size w w' := by
  have HI : Hid (Rd w L d) := I
  obtain ⟨s0, s1, s2, s3, s4, s5, s6, s7, s8, s9⟩ := short_parts hs
  have HSH : Hid (Short L) := hs
  have HLN : Hid (d.m.length = L.m.n ∧ d.n.length = L.n.n) := ⟨I.m.1, I.n.1⟩
  clear I hs
  have HF : Hid (outerB d = true ∧ decide (d.m = rdyL d.t) = true ∧ decide (d.c = crwTo d.t L.t.n) = true) := ⟨ho, decide_eq_true hm, decide_eq_true hc⟩
  have hbm : ((L.m.n : Int) == (0 : Int)) = false := by simp; omega
  have hp := (outer_tasks ho).2
  clear ho hm hc hz
  go_enter Try.func8, Try.ntmps8
  go_wp2_with (refine sh_box rfl ?_)
  intro W1 b1 hW1 S1 B1
  have HS : Hid (Shp W1 b1 L d ∧ Below w.heap.size w W1) := ⟨S1, B1⟩
  clear S1 B1 hW1
  go_wp2_with (refine sh_loadg rfl rfl HS.out.1 ?_)
  refine (implFrame L d _ (HI.out.t.kept HS.out.2) s0).mono ?_
  rw [HF.out.1]
  obtain ⟨v, hv⟩ : ∃ v, v = wayV d.p := ⟨_, rfl⟩
  rw [← hv]
  have HV : Hid (v = wayV d.p) := hv
  clear hv
  rintro e W2 ⟨rfl, B⟩
  have HS' : Hid (Shp W2 b1 L d ∧ Below w.heap.size w W2) := ⟨HS.out.1.all B, below_call HS.out.2 HS.out.2.size B⟩
  clear B
  clear HS
  have HS := HS'
  clear HS'
  go_upto_region 2 with fail
  have HS' : Hid (Shp W2.drew b1 L d ∧ Below w.heap.size w W2.drew) := ⟨HS.out.1.drew, below_call HS.out.2 HS.out.2.size (below_drewN (Below.refl _ _) 1)⟩
  clear HS
  have HS := HS'
  clear HS'
  refine wp_region_held_drew (S := fun w' => Shp w' b1 L d) (by kernel_rfl) HS.out.1 (fun hHeld => ?_)
  refine wpAnyH_take (i := 0) (v := ?b4nv0) rfl (by kernel_rfl) (by kernel_rfl) (by kernel_rfl) (fun _ _ _ h => h) (Or.inl ⟨by kernel_rfl, ?b4nhy0⟩) (by assumption) ?b4nrest0
  case b4nhy0 =>
    intro w hSw
    obtain ⟨c0, c1, c2, c3, c4, c5, c6, c7, c8, c9, c10, c11, c12, c13, c14, c15, c16⟩ := (show Shp w b1 L d from hSw).bx.shop
    go_simp
    try with_reducible rfl
  case' b4nrest0 => try dsimp only [Act.put, List.setIfInBounds_toArray, List.set_cons_zero, List.set_cons_succ]
  refine wpAnyH_take (i := 1) (v := ?b4nv1) rfl (by kernel_rfl) (by kernel_rfl) (by kernel_rfl) (fun _ _ _ h => h) (Or.inl ⟨by kernel_rfl, ?b4nhy1⟩) (by assumption) ?b4nrest1
  case b4nhy1 =>
    intro w hSw
    obtain ⟨c0, c1, c2, c3, c4, c5, c6, c7, c8, c9, c10, c11, c12, c13, c14, c15, c16⟩ := (show Shp w b1 L d from hSw).bx.shop
    go_simp
    try with_reducible rfl
  case' b4nrest1 => try dsimp only [Act.put, List.setIfInBounds_toArray, List.set_cons_zero, List.set_cons_succ]
  refine wpAnyH_take (i := 2) (v := ?b4nv2) rfl (by kernel_rfl) (by kernel_rfl) (by kernel_rfl) (fun _ _ _ h => h) (Or.inl ⟨by kernel_rfl, ?b4nhy2⟩) (by assumption) ?b4nrest2
  case b4nhy2 =>
    intro w hSw
    try simp only [List.getElem_toArray, List.getElem_cons_succ, List.getElem_cons_zero, List.setIfInBounds_toArray, List.set_cons_zero, List.set_cons_succ]
    obtain ⟨c0, c1, c2, c3, c4, c5, c6, c7, c8, c9, c10, c11, c12, c13, c14, c15, c16⟩ := (show Shp w b1 L d from hSw).bx.shop
    go_simp
    try with_reducible rfl
  case' b4nrest2 => try dsimp only [Act.put, List.setIfInBounds_toArray, List.set_cons_zero, List.set_cons_succ]
  refine wpAnyH_take (i := 3) (v := ?b4nv3) rfl (by kernel_rfl) (by kernel_rfl) (by kernel_rfl) (fun _ _ _ h => h) (Or.inl ⟨by kernel_rfl, ?b4nhy3⟩) (by assumption) ?b4nrest3
  case b4nhy3 =>
    intro w hSw
    try simp only [List.getElem_toArray, List.getElem_cons_succ, List.getElem_cons_zero, List.setIfInBounds_toArray, List.set_cons_zero, List.set_cons_succ]
    obtain ⟨c0, c1, c2, c3, c4, c5, c6, c7, c8, c9, c10, c11, c12, c13, c14, c15, c16⟩ := (show Shp w b1 L d from hSw).bx.shop
    go_simp
    try with_reducible rfl
  case' b4nrest3 => try dsimp only [Act.put, List.setIfInBounds_toArray, List.set_cons_zero, List.set_cons_succ]
  refine wpAnyH_take (i := 4) (v := ?b4nv4) rfl (by kernel_rfl) (by kernel_rfl) (by kernel_rfl) (fun _ _ _ h => h) (Or.inl ⟨by kernel_rfl, ?b4nhy4⟩) (by assumption) ?b4nrest4
  case b4nhy4 =>
    intro w hSw
    try simp only [List.getElem_toArray, List.getElem_cons_succ, List.getElem_cons_zero, List.setIfInBounds_toArray, List.set_cons_zero, List.set_cons_succ]
    obtain ⟨c0, c1, c2, c3, c4, c5, c6, c7, c8, c9, c10, c11, c12, c13, c14, c15, c16⟩ := (show Shp w b1 L d from hSw).bx.shop
    go_simp
    try with_reducible rfl
  case' b4nrest4 => try dsimp only [Act.put, List.setIfInBounds_toArray, List.set_cons_zero, List.set_cons_succ]
  refine wpAnyH_take (i := 5) (v := ?b4nv5) rfl (by kernel_rfl) (by kernel_rfl) (by kernel_rfl) (fun _ _ _ h => h) (Or.inl ⟨by kernel_rfl, ?b4nhy5⟩) (by assumption) ?b4nrest5
  case b4nhy5 =>
    intro w hSw
    try simp only [List.getElem_toArray, List.getElem_cons_succ, List.getElem_cons_zero, List.setIfInBounds_toArray, List.set_cons_zero, List.set_cons_succ]
    obtain ⟨c0, c1, c2, c3, c4, c5, c6, c7, c8, c9, c10, c11, c12, c13, c14, c15, c16⟩ := (show Shp w b1 L d from hSw).bx.shop
    go_simp
    try with_reducible rfl
  case' b4nrest5 => try dsimp only [Act.put, List.setIfInBounds_toArray, List.set_cons_zero, List.set_cons_succ]
  refine wpAnyH_take (i := 6) (v := ?b4nv6) rfl (by kernel_rfl) (by kernel_rfl) (by kernel_rfl) (fun _ _ _ h => h) (Or.inl ⟨by kernel_rfl, ?b4nhy6⟩) (by assumption) ?b4nrest6
  case b4nhy6 =>
    intro w hSw
    try simp only [List.getElem_toArray, List.getElem_cons_succ, List.getElem_cons_zero, List.setIfInBounds_toArray, List.set_cons_zero, List.set_cons_succ]
    obtain ⟨c0, c1, c2, c3, c4, c5, c6, c7, c8, c9, c10, c11, c12, c13, c14, c15, c16⟩ := (show Shp w b1 L d from hSw).bx.shop
    go_simp
    try with_reducible rfl
  case' b4nrest6 => try dsimp only [Act.put, List.setIfInBounds_toArray, List.set_cons_zero, List.set_cons_succ]
  refine wpAnyH_ready (rs := [7]) (by kernel_rfl) (by simp) ?_
  refine AllReadyH.cons rfl (fun K hK => ?_) AllReadyH.nil
  go_simp
  refine (implReadyOf L.t.a L.t.n L.t.c d.t _ (HI.out.t.kept HS.out.2) s0).mono ?_
  rintro e u ⟨g, n, c, rfl, R, B⟩
  have HS' : Hid (Shp u b1 L d ∧ Below w.heap.size w u) := ⟨HS.out.1.all B, below_call HS.out.2 HS.out.2.size B⟩
  clear B
  have HR : Hid (Ints u (some ⟨g, 0, none⟩) n (rdyL d.t)) := R.ints
  clear R
  clear HS
  have HS := HS'
  clear HS'
  have SX : (fun w' => Shp w' b1 L d) u := HS.out.1

  go_wp2_with fail
  refine hK.out _ _ SX (fun hHeld => ?_)
  clear hK K
  try dsimp only [Act.put, List.setIfInBounds_toArray, List.set_cons_zero, List.set_cons_succ]
  refine wpAnyH_ready (rs := [8]) (by kernel_rfl) (by simp) ?_
  refine AllReadyH.cons rfl (fun K hK => ?_) AllReadyH.nil
  go_simp
  refine (eqInts_at L.m.a L.m.n L.m.c d.m (some ⟨g, 0, none⟩) n c (rdyL d.t) _ (HI.out.m.kept HS.out.2) HR.out s1).mono ?_
  rw [HF.out.2.1]
  rintro e u ⟨rfl, B⟩
  have HS' : Hid (Shp u b1 L d ∧ Below w.heap.size w u) := ⟨HS.out.1.all B, below_call HS.out.2 HS.out.2.size B⟩
  clear B HR
  clear HS
  have HS := HS'
  clear HS'
  have SX : (fun w' => Shp w' b1 L d) u := HS.out.1

  go_wp2_with fail
  refine hK.out _ _ SX (fun hHeld => ?_)
  clear hK K
  try dsimp only [Act.put, List.setIfInBounds_toArray, List.set_cons_zero, List.set_cons_succ]
  refine wpAnyH_take (i := 9) (v := ?b4nv9) rfl (by kernel_rfl) (by kernel_rfl) (by kernel_rfl) (fun _ _ _ h => h) (Or.inl ⟨by kernel_rfl, ?b4nhy9⟩) (by assumption) ?b4nrest9
  case b4nhy9 =>
    intro w hSw
    obtain ⟨c0, c1, c2, c3, c4, c5, c6, c7, c8, c9, c10, c11, c12, c13, c14, c15, c16⟩ := (show Shp w b1 L d from hSw).bx.shop
    go_simp
    try with_reducible rfl
  case' b4nrest9 => try dsimp only [Act.put, List.setIfInBounds_toArray, List.set_cons_zero, List.set_cons_succ]
  refine wpAnyH_take (i := 10) (v := ?b4nv10) rfl (by kernel_rfl) (by kernel_rfl) (by kernel_rfl) (fun _ _ _ h => h) (Or.inl ⟨by kernel_rfl, ?b4nhy10⟩) (by assumption) ?b4nrest10
  case b4nhy10 =>
    intro w hSw
    try simp only [List.getElem_toArray, List.getElem_cons_succ, List.getElem_cons_zero, List.setIfInBounds_toArray, List.set_cons_zero, List.set_cons_succ]
    obtain ⟨c0, c1, c2, c3, c4, c5, c6, c7, c8, c9, c10, c11, c12, c13, c14, c15, c16⟩ := (show Shp w b1 L d from hSw).bx.shop
    go_simp
    try with_reducible rfl
  case' b4nrest10 => try dsimp only [Act.put, List.setIfInBounds_toArray, List.set_cons_zero, List.set_cons_succ]
  refine wpAnyH_take (i := 11) (v := ?b4nv11) rfl (by kernel_rfl) (by kernel_rfl) (by kernel_rfl) (fun _ _ _ h => h) (Or.inl ⟨by kernel_rfl, ?b4nhy11⟩) (by assumption) ?b4nrest11
  case b4nhy11 =>
    intro w hSw
    try simp only [List.getElem_toArray, List.getElem_cons_succ, List.getElem_cons_zero, List.setIfInBounds_toArray, List.set_cons_zero, List.set_cons_succ]
    obtain ⟨c0, c1, c2, c3, c4, c5, c6, c7, c8, c9, c10, c11, c12, c13, c14, c15, c16⟩ := (show Shp w b1 L d from hSw).bx.shop
    go_simp
    try with_reducible rfl
  case' b4nrest11 => try dsimp only [Act.put, List.setIfInBounds_toArray, List.set_cons_zero, List.set_cons_succ]
  refine wpAnyH_take (i := 12) (v := ?b4nv12) rfl (by kernel_rfl) (by kernel_rfl) (by kernel_rfl) (fun _ _ _ h => h) (Or.inl ⟨by kernel_rfl, ?b4nhy12⟩) (by assumption) ?b4nrest12
  case b4nhy12 =>
    intro w hSw
    try simp only [List.getElem_toArray, List.getElem_cons_succ, List.getElem_cons_zero, List.setIfInBounds_toArray, List.set_cons_zero, List.set_cons_succ]
    obtain ⟨c0, c1, c2, c3, c4, c5, c6, c7, c8, c9, c10, c11, c12, c13, c14, c15, c16⟩ := (show Shp w b1 L d from hSw).bx.shop
    go_simp
    try with_reducible rfl
  case' b4nrest12 => try dsimp only [Act.put, List.setIfInBounds_toArray, List.set_cons_zero, List.set_cons_succ]
  refine wpAnyH_take (i := 13) (v := ?b4nv13) rfl (by kernel_rfl) (by kernel_rfl) (by kernel_rfl) (fun _ _ _ h => h) (Or.inl ⟨by kernel_rfl, ?b4nhy13⟩) (by assumption) ?b4nrest13
  case b4nhy13 =>
    intro w hSw
    try simp only [List.getElem_toArray, List.getElem_cons_succ, List.getElem_cons_zero, List.setIfInBounds_toArray, List.set_cons_zero, List.set_cons_succ]
    obtain ⟨c0, c1, c2, c3, c4, c5, c6, c7, c8, c9, c10, c11, c12, c13, c14, c15, c16⟩ := (show Shp w b1 L d from hSw).bx.shop
    go_simp
    try with_reducible rfl
  case' b4nrest13 => try dsimp only [Act.put, List.setIfInBounds_toArray, List.set_cons_zero, List.set_cons_succ]
  refine wpAnyH_take (i := 14) (v := ?b4nv14) rfl (by kernel_rfl) (by kernel_rfl) (by kernel_rfl) (fun _ _ _ h => h) (Or.inl ⟨by kernel_rfl, ?b4nhy14⟩) (by assumption) ?b4nrest14
  case b4nhy14 =>
    intro w hSw
    try simp only [List.getElem_toArray, List.getElem_cons_succ, List.getElem_cons_zero, List.setIfInBounds_toArray, List.set_cons_zero, List.set_cons_succ]
    obtain ⟨c0, c1, c2, c3, c4, c5, c6, c7, c8, c9, c10, c11, c12, c13, c14, c15, c16⟩ := (show Shp w b1 L d from hSw).bx.shop
    go_simp
    try with_reducible rfl
  case' b4nrest14 => try dsimp only [Act.put, List.setIfInBounds_toArray, List.set_cons_zero, List.set_cons_succ]
  refine wpAnyH_take (i := 15) (v := ?b4nv15) rfl (by kernel_rfl) (by kernel_rfl) (by kernel_rfl) (fun _ _ _ h => h) (Or.inl ⟨by kernel_rfl, ?b4nhy15⟩) (by assumption) ?b4nrest15
  case b4nhy15 =>
    intro w hSw
    try simp only [List.getElem_toArray, List.getElem_cons_succ, List.getElem_cons_zero, List.setIfInBounds_toArray, List.set_cons_zero, List.set_cons_succ]
    obtain ⟨c0, c1, c2, c3, c4, c5, c6, c7, c8, c9, c10, c11, c12, c13, c14, c15, c16⟩ := (show Shp w b1 L d from hSw).bx.shop
    go_simp
    try with_reducible rfl
  case' b4nrest15 => try dsimp only [Act.put, List.setIfInBounds_toArray, List.set_cons_zero, List.set_cons_succ]
  refine wpAnyH_ready (rs := [16]) (by kernel_rfl) (by simp) ?_
  refine AllReadyH.cons rfl (fun K hK => ?_) AllReadyH.nil
  go_simp
  refine (implCrewOf L.t.a L.t.n L.t.c d.t _ (HI.out.t.kept HS.out.2) s0).mono ?_
  rintro e u ⟨g, n, c, rfl, R, B⟩
  have HS' : Hid (Shp u b1 L d ∧ Below w.heap.size w u) := ⟨HS.out.1.all B, below_call HS.out.2 HS.out.2.size B⟩
  clear B
  have HR : Hid (Ints u (some ⟨g, 0, none⟩) n (crwTo d.t L.t.n)) := R.ints
  clear R
  clear HS
  have HS := HS'
  clear HS'
  have SX : (fun w' => Shp w' b1 L d) u := HS.out.1

  go_wp2_with fail
  refine hK.out _ _ SX (fun hHeld => ?_)
  clear hK K
  try dsimp only [Act.put, List.setIfInBounds_toArray, List.set_cons_zero, List.set_cons_succ]
  refine wpAnyH_ready (rs := [17]) (by kernel_rfl) (by simp) ?_
  refine AllReadyH.cons rfl (fun K hK => ?_) AllReadyH.nil
  go_simp
  refine (eqInts_at L.c.a L.c.n L.c.c d.c (some ⟨g, 0, none⟩) n c (crwTo d.t L.t.n) _ (HI.out.c.kept HS.out.2) HR.out s2).mono ?_
  rw [HF.out.2.2]
  rintro e u ⟨rfl, B⟩
  have HS' : Hid (Shp u b1 L d ∧ Below w.heap.size w u) := ⟨HS.out.1.all B, below_call HS.out.2 HS.out.2.size B⟩
  clear B HR
  clear HS
  have HS := HS'
  clear HS'
  have SX : (fun w' => Shp w' b1 L d) u := HS.out.1

  go_wp2_with fail
  refine hK.out _ _ SX (fun hHeld => ?_)
  clear hK K
  try dsimp only [Act.put, List.setIfInBounds_toArray, List.set_cons_zero, List.set_cons_succ]
  refine wpAnyH_take (i := 18) (v := ?b4nv18) rfl (by kernel_rfl) (by kernel_rfl) (by kernel_rfl) (fun _ _ _ h => h) (Or.inl ⟨by kernel_rfl, ?b4nhy18⟩) (by assumption) ?b4nrest18
  case b4nhy18 =>
    intro w hSw
    obtain ⟨c0, c1, c2, c3, c4, c5, c6, c7, c8, c9, c10, c11, c12, c13, c14, c15, c16⟩ := (show Shp w b1 L d from hSw).bx.shop
    go_simp
    try with_reducible rfl
  case' b4nrest18 => try dsimp only [Act.put, List.setIfInBounds_toArray, List.set_cons_zero, List.set_cons_succ]
  refine wpAnyH_take (i := 19) (v := ?b4nv19) rfl (by kernel_rfl) (by kernel_rfl) (by kernel_rfl) (fun _ _ _ h => h) (Or.inl ⟨by kernel_rfl, ?b4nhy19⟩) (by assumption) ?b4nrest19
  case b4nhy19 =>
    intro w hSw
    try simp only [List.getElem_toArray, List.getElem_cons_succ, List.getElem_cons_zero, List.setIfInBounds_toArray, List.set_cons_zero, List.set_cons_succ]
    obtain ⟨c0, c1, c2, c3, c4, c5, c6, c7, c8, c9, c10, c11, c12, c13, c14, c15, c16⟩ := (show Shp w b1 L d from hSw).bx.shop
    go_simp
    try with_reducible rfl
  case' b4nrest19 => try dsimp only [Act.put, List.setIfInBounds_toArray, List.set_cons_zero, List.set_cons_succ]
  refine wpAnyH_done (by kernel_rfl) ?_ _
  simp only [List.getElem_toArray, List.getElem_cons_succ, List.getElem_cons_zero, List.setIfInBounds_toArray, List.set_cons_zero, List.set_cons_succ]
  clear hHeld
  go_upto_region 4 with fail
  obtain ⟨c0, c1, c2, c3, c4, c5, c6, c7, c8, c9, c10, c11, c12, c13, c14, c15, c16⟩ := HS.out.1.bx.shop
  have m0 := HS.out.1.lt
  go_upto_region 6 with fail
  clear c0 c1 c2 c3 c4 c5 c6 c7 c8 c9 c10 c11 c12 c13 c14 c15 c16 m0
  by_cases h1 : d.p = 1
  · have e : v = .iface 95 (.agg #[]) := by rw [HV.out, h1]; simp [wayV]
    subst e
    have fR := finds_right1
    have HK : Hid (cutD d = { d with s := [], r := [] } ∧ cutL d.p L = { L with s := nl, r := nl }) := ⟨by simp [cutD, h1], by simp [cutL, h1]⟩
    have hrk : rightB d = (countsOk d.c d.n && (smoothOk d.s d.r && decide (d.s = d.c))) := by simp [rightB, h1]
    have HRK : Hid (rightB d = (countsOk d.c d.n && (smoothOk d.s d.r && decide (d.s = d.c)))) := hrk
    clear hrk
    clear h1
    go_wp2_with (refine sh_loadg rfl rfl HS.out.1 ?_)
    refine (right_smooth L d _ (HI.out.kept HS.out.2) HSH.out).mono ?_
    rw [← HRK.out]
    obtain ⟨rb, hrb⟩ : ∃ rb, rb = rightB d := ⟨_, rfl⟩
    rw [← hrb]
    have HRB : Hid (rb = rightB d) := hrb
    clear hrb
    rintro e W3 ⟨rfl, B⟩
    have HS' : Hid (Shp W3 b1 L d ∧ Below w.heap.size w W3) := ⟨HS.out.1.all B, below_call HS.out.2 HS.out.2.size B⟩
    clear B
    clear HS
    have HS := HS'
    clear HS'
    cases rb
    · go_wp2_with fail
      go_ret
      exact ⟨by rw [← HRB.out]; rfl, HS.out.2⟩
    · go_wp2_with (refine sh_loadg rfl rfl HS.out.1 ?_)
      refine (without_1 L d _).mono ?_
      rintro e W4 ⟨rfl, B⟩
      have HS' : Hid (Shp W4 b1 L d ∧ Below w.heap.size w W4) := ⟨HS.out.1.all B, below_call HS.out.2 HS.out.2.size B⟩
      clear B
      clear HS
      have HS := HS'
      clear HS'
      have RD := cut_rd (HI.out.kept HS.out.2)
      rw [HK.out.1, HK.out.2] at RD
      have HRD : Hid (Rd W4 { L with s := nl, r := nl } { d with s := [], r := [] }) := RD
      clear RD
      go_wp2_with fail
      refine (implKeeps ({ L with s := nl, r := nl }) ({ d with s := [], r := [] }) _ HRD.out).mono ?_
      rintro e W5 ⟨rfl, B⟩
      have HS' : Hid (Shp W5 b1 L d ∧ Below w.heap.size w W5) := ⟨HS.out.1.all B, below_call HS.out.2 HS.out.2.size B⟩
      clear B
      clear HS
      have HS := HS'
      clear HS'
      go_wp2_with fail
      go_ret
      exact ⟨by rw [← HRB.out, HK.out.1]; rfl, HS.out.2⟩
  by_cases h2 : d.p = 2
  · have e : v = .iface 107 (.agg #[]) := by rw [HV.out, h2]; simp [wayV]
    subst e
    have fR := finds_right2
    have HK : Hid (cutD d = d ∧ cutL d.p L = L) := ⟨by simp [cutD, h2], by simp [cutL, h2]⟩
    have hrk : rightB d = (countsOk d.c d.n) := by simp [rightB, h2]
    have HRK : Hid (rightB d = (countsOk d.c d.n)) := hrk
    clear hrk
    clear h1 h2
    go_wp2_with (refine sh_loadg rfl rfl HS.out.1 ?_)
    refine (right_one L d _ (HI.out.kept HS.out.2) HSH.out).mono ?_
    rw [← HRK.out]
    obtain ⟨rb, hrb⟩ : ∃ rb, rb = rightB d := ⟨_, rfl⟩
    rw [← hrb]
    have HRB : Hid (rb = rightB d) := hrb
    clear hrb
    rintro e W3 ⟨rfl, B⟩
    have HS' : Hid (Shp W3 b1 L d ∧ Below w.heap.size w W3) := ⟨HS.out.1.all B, below_call HS.out.2 HS.out.2.size B⟩
    clear B
    clear HS
    have HS := HS'
    clear HS'
    cases rb
    · go_wp2_with fail
      go_ret
      exact ⟨by rw [← HRB.out]; rfl, HS.out.2⟩
    · go_wp2_with (refine sh_loadg rfl rfl HS.out.1 ?_)
      refine (without_2 L d _).mono ?_
      rintro e W4 ⟨rfl, B⟩
      have HS' : Hid (Shp W4 b1 L d ∧ Below w.heap.size w W4) := ⟨HS.out.1.all B, below_call HS.out.2 HS.out.2.size B⟩
      clear B
      clear HS
      have HS := HS'
      clear HS'
      have RD := cut_rd (HI.out.kept HS.out.2)
      rw [HK.out.1, HK.out.2] at RD
      have HRD : Hid (Rd W4 L d) := RD
      clear RD
      go_wp2_with fail
      refine (implKeeps L d _ HRD.out).mono ?_
      rintro e W5 ⟨rfl, B⟩
      have HS' : Hid (Shp W5 b1 L d ∧ Below w.heap.size w W5) := ⟨HS.out.1.all B, below_call HS.out.2 HS.out.2.size B⟩
      clear B
      clear HS
      have HS := HS'
      clear HS'
      go_wp2_with fail
      go_ret
      exact ⟨by rw [← HRB.out, HK.out.1]; rfl, HS.out.2⟩
  by_cases h3 : d.p = 3
  · have e : v = .iface 96 (.agg #[]) := by rw [HV.out, h3]; simp [wayV]
    subst e
    have fR := finds_right3
    have HK : Hid (cutD d = { d with l := [], h := [], lt := 0, la := 0 } ∧ cutL d.p L = { L with l := nl, h := nl }) := ⟨by simp [cutD, h3], by simp [cutL, h3]⟩
    have hrk : rightB d = (countsOk d.c d.n && (listOk d.l d.h d.lt d.la && decide (d.l = d.c))) := by simp [rightB, h3]
    have HRK : Hid (rightB d = (countsOk d.c d.n && (listOk d.l d.h d.lt d.la && decide (d.l = d.c)))) := hrk
    clear hrk
    clear h1 h2 h3
    go_wp2_with (refine sh_loadg rfl rfl HS.out.1 ?_)
    refine (right_list L d _ (HI.out.kept HS.out.2) HSH.out).mono ?_
    rw [← HRK.out]
    obtain ⟨rb, hrb⟩ : ∃ rb, rb = rightB d := ⟨_, rfl⟩
    rw [← hrb]
    have HRB : Hid (rb = rightB d) := hrb
    clear hrb
    rintro e W3 ⟨rfl, B⟩
    have HS' : Hid (Shp W3 b1 L d ∧ Below w.heap.size w W3) := ⟨HS.out.1.all B, below_call HS.out.2 HS.out.2.size B⟩
    clear B
    clear HS
    have HS := HS'
    clear HS'
    cases rb
    · go_wp2_with fail
      go_ret
      exact ⟨by rw [← HRB.out]; rfl, HS.out.2⟩
    · go_wp2_with (refine sh_loadg rfl rfl HS.out.1 ?_)
      refine (without_3 L d _).mono ?_
      rintro e W4 ⟨rfl, B⟩
      have HS' : Hid (Shp W4 b1 L d ∧ Below w.heap.size w W4) := ⟨HS.out.1.all B, below_call HS.out.2 HS.out.2.size B⟩
      clear B
      clear HS
      have HS := HS'
      clear HS'
      have RD := cut_rd (HI.out.kept HS.out.2)
      rw [HK.out.1, HK.out.2] at RD
      have HRD : Hid (Rd W4 { L with l := nl, h := nl } { d with l := [], h := [], lt := 0, la := 0 }) := RD
      clear RD
      go_wp2_with fail
      refine (implKeeps ({ L with l := nl, h := nl }) ({ d with l := [], h := [], lt := 0, la := 0 }) _ HRD.out).mono ?_
      rintro e W5 ⟨rfl, B⟩
      have HS' : Hid (Shp W5 b1 L d ∧ Below w.heap.size w W5) := ⟨HS.out.1.all B, below_call HS.out.2 HS.out.2.size B⟩
      clear B
      clear HS
      have HS := HS'
      clear HS'
      go_wp2_with fail
      go_ret
      exact ⟨by rw [← HRB.out, HK.out.1]; rfl, HS.out.2⟩
  by_cases h4 : d.p = 4
  · have e : v = .iface 108 (.agg #[]) := by rw [HV.out, h4]; simp [wayV]
    subst e
    have fR := finds_right4
    have HK : Hid (cutD d = d ∧ cutL d.p L = L) := ⟨by simp [cutD, h4], by simp [cutL, h4]⟩
    have hrk : rightB d = (countsOk d.c d.n) := by simp [rightB, h4]
    have HRK : Hid (rightB d = (countsOk d.c d.n)) := hrk
    clear hrk
    clear h1 h2 h3 h4
    go_wp2_with (refine sh_loadg rfl rfl HS.out.1 ?_)
    refine (right_one L d _ (HI.out.kept HS.out.2) HSH.out).mono ?_
    rw [← HRK.out]
    obtain ⟨rb, hrb⟩ : ∃ rb, rb = rightB d := ⟨_, rfl⟩
    rw [← hrb]
    have HRB : Hid (rb = rightB d) := hrb
    clear hrb
    rintro e W3 ⟨rfl, B⟩
    have HS' : Hid (Shp W3 b1 L d ∧ Below w.heap.size w W3) := ⟨HS.out.1.all B, below_call HS.out.2 HS.out.2.size B⟩
    clear B
    clear HS
    have HS := HS'
    clear HS'
    cases rb
    · go_wp2_with fail
      go_ret
      exact ⟨by rw [← HRB.out]; rfl, HS.out.2⟩
    · go_wp2_with (refine sh_loadg rfl rfl HS.out.1 ?_)
      refine (without_4 L d _).mono ?_
      rintro e W4 ⟨rfl, B⟩
      have HS' : Hid (Shp W4 b1 L d ∧ Below w.heap.size w W4) := ⟨HS.out.1.all B, below_call HS.out.2 HS.out.2.size B⟩
      clear B
      clear HS
      have HS := HS'
      clear HS'
      have RD := cut_rd (HI.out.kept HS.out.2)
      rw [HK.out.1, HK.out.2] at RD
      have HRD : Hid (Rd W4 L d) := RD
      clear RD
      go_wp2_with fail
      refine (implKeeps L d _ HRD.out).mono ?_
      rintro e W5 ⟨rfl, B⟩
      have HS' : Hid (Shp W5 b1 L d ∧ Below w.heap.size w W5) := ⟨HS.out.1.all B, below_call HS.out.2 HS.out.2.size B⟩
      clear B
      clear HS
      have HS := HS'
      clear HS'
      go_wp2_with fail
      go_ret
      exact ⟨by rw [← HRB.out, HK.out.1]; rfl, HS.out.2⟩
  by_cases h5 : d.p = 5
  · have e : v = .iface 97 (.agg #[]) := by rw [HV.out, h5]; simp [wayV]
    subst e
    have fR := finds_right5
    have HK : Hid (cutD d = { d with y := [], z := [], yq := 0, yt := 0 } ∧ cutL d.p L = { L with y := nl, z := nl }) := ⟨by simp [cutD, h5], by simp [cutL, h5]⟩
    have hrk : rightB d = (manyOk d.y d.z d.yq d.yt && decide (d.yq = d.q) && decide (d.y = adjusted d.c d.q) && decide (d.n = d.z)) := by simp [rightB, h5]
    have HRK : Hid (rightB d = (manyOk d.y d.z d.yq d.yt && decide (d.yq = d.q) && decide (d.y = adjusted d.c d.q) && decide (d.n = d.z))) := hrk
    clear hrk
    clear h1 h2 h3 h4 h5
    go_wp2_with (refine sh_loadg rfl rfl HS.out.1 ?_)
    refine (right_many L d _ (HI.out.kept HS.out.2) HSH.out).mono ?_
    rw [← HRK.out]
    obtain ⟨rb, hrb⟩ : ∃ rb, rb = rightB d := ⟨_, rfl⟩
    rw [← hrb]
    have HRB : Hid (rb = rightB d) := hrb
    clear hrb
    rintro e W3 ⟨rfl, B⟩
    have HS' : Hid (Shp W3 b1 L d ∧ Below w.heap.size w W3) := ⟨HS.out.1.all B, below_call HS.out.2 HS.out.2.size B⟩
    clear B
    clear HS
    have HS := HS'
    clear HS'
    cases rb
    · go_wp2_with fail
      go_ret
      exact ⟨by rw [← HRB.out]; rfl, HS.out.2⟩
    · go_wp2_with (refine sh_loadg rfl rfl HS.out.1 ?_)
      refine (without_5 L d _).mono ?_
      rintro e W4 ⟨rfl, B⟩
      have HS' : Hid (Shp W4 b1 L d ∧ Below w.heap.size w W4) := ⟨HS.out.1.all B, below_call HS.out.2 HS.out.2.size B⟩
      clear B
      clear HS
      have HS := HS'
      clear HS'
      have RD := cut_rd (HI.out.kept HS.out.2)
      rw [HK.out.1, HK.out.2] at RD
      have HRD : Hid (Rd W4 { L with y := nl, z := nl } { d with y := [], z := [], yq := 0, yt := 0 }) := RD
      clear RD
      go_wp2_with fail
      refine (implKeeps ({ L with y := nl, z := nl }) ({ d with y := [], z := [], yq := 0, yt := 0 }) _ HRD.out).mono ?_
      rintro e W5 ⟨rfl, B⟩
      have HS' : Hid (Shp W5 b1 L d ∧ Below w.heap.size w W5) := ⟨HS.out.1.all B, below_call HS.out.2 HS.out.2.size B⟩
      clear B
      clear HS
      have HS := HS'
      clear HS'
      go_wp2_with fail
      go_ret
      exact ⟨by rw [← HRB.out, HK.out.1]; rfl, HS.out.2⟩
  exact absurd hp (by omega)

/-- impl.ShopOk at every Shop. -/
theorem implShopOk (L : LT) (d : SD) (w : World) (I : Rd w L d) (hs : Short L) :
    Calls Try.prog 8 #[sv L d] w fun e w' => e = .returned (.bool (shopOk d)) ∧ Below w.heap.size w w' := by
  cases ho : outerB d
  · have e : shopOk d = false := by rw [shopOk, ho]; rfl
    rw [e]
    exact okI_outer L d w I hs ho
  by_cases hm : d.m = rdyL d.t
  · have e : crwTo d.t L.t.n = cw d.t d.m := by rw [hm, crw_all (outer_tasks ho).1, I.t.1]
    by_cases hc : d.c = cw d.t d.m
    · by_cases hz : L.m.n = 0
      · rw [ok_none ho hm hc (by rw [I.m.1]; exact hz)]
        exact okI_none L d w I hs ho hm (by rw [e]; exact hc) hz
      · rw [ok_some ho hm hc (by rw [I.m.1]; exact hz)]
        exact okI_some L d w I hs ho hm (by rw [e]; exact hc) hz
    · have e2 : shopOk d = false := by rw [shopOk, decide_eq_false hc]; simp
      rw [e2]
      exact okI_crew L d w I hs ho hm (by rw [e]; exact hc)
  · have e : shopOk d = false := by rw [shopOk, decide_eq_false hm]; simp
    rw [e]
    exact okI_members L d w I hs ho hm

end Go.Proofs.Ytcmeimfjedakeaa.Crew
