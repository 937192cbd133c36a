/-
  The law FnExactSwitched: whatever the arguments, it answers true and nothing that was there is written. (Written by wip/tools/genlaw8.py.)
-/
import Derived.Test.YtcmeimfjedakeaaGreatShopLawK
import Derived.Test.YtcmeimfjedakeaaGreatShopTurnS
import Derived.Test.YtcmeimfjedakeaaGreatShopTurnI
namespace Go.Proofs.YtcmeimfjedakeaaGreat.Crew
open Go.ChangeShapes Go.WideShapes Go.ChangeAt Go.RowKit

set_option maxRecDepth 100000 in
set_option maxHeartbeats 16000000 in
theorem lawSwitched (L : LT) (d : SD) (a1 : Int) (a2 : Int) (w : World) (I : Rd w L d) (hl : Lens L) :
    Calls Tryz.prog 8 #[sv L d, .int .i64 a1, .int .i64 a2] w fun e w' => e = .returned (.bool true) ∧ Below w.heap.size w w' := by
  have HI : Hid (Rd w L d) := I
  have HLE : Hid (Lens L) := hl
  clear I hl
  by_cases hs : ¬ L.sum ≤ 1048576
  · have HN : Hid (1048576 < L.sum) := by show _ < _; omega
    clear hs
    go_enter Tryz.func8, Tryz.ntmps8
    go_wp2_with (refine shl_box rfl ?_)
    intro W0 bT e0 T0 B0
    have IbT : Hid (w.heap.size ≤ bT ∧ bT < W0.heap.size) := ⟨by show _ ≤ _; omega, T0.1⟩
    clear e0
    have Z0 : Hid (w.heap.size ≤ W0.heap.size) := B0.size
    have H0 : Hid (Below w.heap.size w W0 ∧ Shl W0 bT L d) := ⟨B0, T0⟩
    clear B0 T0
    go_wp2_with (first | (refine shl_loadg rfl rfl H0.out.2 ?_))
    refine (szShop_no L d _ HLE.out (by have := HN.out; omega)).mono ?_
    rintro e W1 ⟨rfl, B⟩
    have Z1 : Hid (W0.heap.size ≤ W1.heap.size) := B.size
    have H1 : Hid (Below w.heap.size w W1 ∧ Shl W1 bT L d) := ⟨below_call H0.out.1 H0.out.1.size B, Shl.all H0.out.2 B⟩
    clear H0
    clear B
    go_wp2_with (first | (refine shl_loadg rfl rfl H1.out.2 ?_))
    go_ret
    exact ⟨rfl, H1.out.1⟩
  · have hy : L.sum ≤ 1048576 := by omega
    have hS : Short L := short_of_sum hy
    have hSd : Small10 d := small_of_short HI.out hS
    have HY : Hid (L.sum ≤ 1048576) := hy
    clear hs hy
    obtain ⟨D0, hD0⟩ : ∃ D, D = switchedD d a1 a2 := ⟨_, rfl⟩
    have HD0 : Hid (D0 = switchedD d a1 a2) := hD0
    have hD : Small10 D0 := by rw [hD0]; exact switched_small hSd
    clear hD0
    obtain ⟨D1, hD1⟩ : ∃ D, D = switchedC d a1 a2 := ⟨_, rfl⟩
    have HD1 : Hid (D1 = switchedC d a1 a2) := hD1
    have hne : (D1 != D1) = false := by simp
    clear hD1
    go_enter Tryz.func8, Tryz.ntmps8
    go_wp2_with (refine shl_box rfl ?_)
    intro W0 bT e0 T0 B0
    have IbT : Hid (w.heap.size ≤ bT ∧ bT < W0.heap.size) := ⟨by show _ ≤ _; omega, T0.1⟩
    clear e0
    have Z0 : Hid (w.heap.size ≤ W0.heap.size) := B0.size
    have H0 : Hid (Below w.heap.size w W0 ∧ Shl W0 bT L d) := ⟨B0, T0⟩
    clear B0 T0
    go_wp2_with (first | (refine shl_loadg rfl rfl H0.out.2 ?_))
    refine (szShop_yes L d _ HY.out).mono ?_
    rintro e W1 ⟨rfl, B⟩
    have Z1 : Hid (W0.heap.size ≤ W1.heap.size) := B.size
    have H1 : Hid (Below w.heap.size w W1 ∧ Shl W1 bT L d) := ⟨below_call H0.out.1 H0.out.1.size B, Shl.all H0.out.2 B⟩
    clear H0
    clear B
    have hp : ¬ (1048576 - L.sum) < 0 := by have := HY.out; omega
    go_wp2_with (first | (refine shl_loadg rfl rfl H1.out.2 ?_))
    clear hp
    refine (toShop_any L d _ (HI.out.kept H1.out.1) hS).mono ?_
    rintro e W2 ⟨MA, rfl, O, P, f, B⟩
    have K : Mk W1.heap.size W2 MA d := ⟨O, P, f⟩
    clear O P f
    have IMA : Hid (∀ j, Has MA j → W1.heap.size ≤ j ∧ j < W2.heap.size) := fun j e => ⟨K.fre j e, K.own.lt j e⟩
    have Z2 : Hid (W1.heap.size ≤ W2.heap.size) := B.size
    have H2 : Hid (Below w.heap.size w W2 ∧ Shl W2 bT L d ∧ Mk W1.heap.size W2 MA d) := ⟨below_call H1.out.1 H1.out.1.size B, Shl.all H1.out.2 B, K⟩
    clear H1
    clear B
    clear K
    go_wp2_with (first | (refine shl_loadg rfl rfl H2.out.2.1 ?_))
    refine (specSwitched MA d a1 a2 _ H2.out.2.2.own.rd (short_of_small H2.out.2.2.own.rd hSd)).mono ?_
    rw [← HD0.out, ← HD1.out]
    rintro e W3 ⟨MW, rfl, K, B⟩
    have IMW : Hid (∀ j, Has MW j → W2.heap.size ≤ j ∧ j < W3.heap.size) := fun j e => ⟨K.fre j e, K.own.lt j e⟩
    have Z3 : Hid (W2.heap.size ≤ W3.heap.size) := B.size
    have H3 : Hid (Below w.heap.size w W3 ∧ Shl W3 bT L d ∧ Mk W2.heap.size W3 MW D0) := ⟨below_call H2.out.1 H2.out.1.size B, Shl.all H2.out.2.1 B, K⟩
    clear H2
    clear B
    clear K
    go_wp2_with (first | (refine shl_loadg rfl rfl H3.out.2.1 ?_) | (refine sh_new (L := MW) (d := D0) (fun _ => rfl) (fun _ => rfl) ?_))
    intro W4 bw e0 S0 B0
    have Ibw : Hid (W3.heap.size ≤ bw ∧ bw < W4.heap.size) := ⟨by show _ ≤ _; omega, S0.lt⟩
    clear e0
    have Z4 : Hid (W3.heap.size ≤ W4.heap.size) := B0.size
    have H4 : Hid (Below w.heap.size w W4 ∧ Shl W4 bT L d ∧ Mk W2.heap.size W4 MW D0 ∧ Shp W4 bw MW D0) := ⟨below_call H3.out.1 H3.out.1.size B0, Shl.all H3.out.2.1 B0, Mk.all H3.out.2.2 B0, S0⟩
    clear H3
    clear B0
    clear S0
    go_wp2_with (first | (refine shl_loadg rfl rfl H4.out.2.1 ?_) | (refine sh_loadg rfl rfl H4.out.2.2.2 ?_))
    refine (toShop_any L d _ (HI.out.kept H4.out.1) hS).mono ?_
    rintro e W5 ⟨MX, rfl, O, P, f, B⟩
    have K : Mk W4.heap.size W5 MX d := ⟨O, P, f⟩
    clear O P f
    have IMX : Hid (∀ j, Has MX j → W4.heap.size ≤ j ∧ j < W5.heap.size) := fun j e => ⟨K.fre j e, K.own.lt j e⟩
    have Z5 : Hid (W4.heap.size ≤ W5.heap.size) := B.size
    have H5 : Hid (Below w.heap.size w W5 ∧ Shl W5 bT L d ∧ Mk W2.heap.size W5 MW D0 ∧ Shp W5 bw MW D0 ∧ Mk W4.heap.size W5 MX d) := ⟨below_call H4.out.1 H4.out.1.size B, Shl.all H4.out.2.1 B, Mk.all H4.out.2.2.1 B, Shp.all H4.out.2.2.2 B, K⟩
    clear H4
    clear B
    clear K
    go_wp2_with (first | (refine shl_loadg rfl rfl H5.out.2.1 ?_) | (refine sh_loadg rfl rfl H5.out.2.2.2.1 ?_) | (refine sh_new (L := MX) (d := d) (fun _ => rfl) (fun _ => rfl) ?_))
    intro W6 bx e0 S0 B0
    have Ibx : Hid (W5.heap.size ≤ bx ∧ bx < W6.heap.size) := ⟨by show _ ≤ _; omega, S0.lt⟩
    clear e0
    have Z6 : Hid (W5.heap.size ≤ W6.heap.size) := B0.size
    have H6 : Hid (Below w.heap.size w W6 ∧ Shl W6 bT L d ∧ Mk W2.heap.size W6 MW D0 ∧ Shp W6 bw MW D0 ∧ Mk W4.heap.size W6 MX d ∧ Shp W6 bx MX d) := ⟨below_call H5.out.1 H5.out.1.size B0, Shl.all H5.out.2.1 B0, Mk.all H5.out.2.2.1 B0, Shp.all H5.out.2.2.2.1 B0, Mk.all H5.out.2.2.2.2 B0, S0⟩
    clear H5
    clear B0
    clear S0
    go_wp2_with (first | (refine shl_loadg rfl rfl H6.out.2.1 ?_) | (refine sh_loadg rfl rfl H6.out.2.2.2.1 ?_) | (refine sh_loadg rfl rfl H6.out.2.2.2.2.2 ?_))
    refine (implSwitched MX d a1 a2 _ H6.out.2.2.2.2.1.own.rd (short_of_small H6.out.2.2.2.2.1.own.rd hSd)).mono ?_
    rw [← HD0.out, ← HD1.out]
    rintro e W7 ⟨MG, rfl, K, B⟩
    have IMG : Hid (∀ j, Has MG j → W6.heap.size ≤ j ∧ j < W7.heap.size) := fun j e => ⟨K.fre j e, K.own.lt j e⟩
    have Z7 : Hid (W6.heap.size ≤ W7.heap.size) := B.size
    have H7 : Hid (Below w.heap.size w W7 ∧ Shl W7 bT L d ∧ Mk W2.heap.size W7 MW D0 ∧ Shp W7 bw MW D0 ∧ Mk W4.heap.size W7 MX d ∧ Shp W7 bx MX d ∧ Mk W6.heap.size W7 MG D0) := ⟨below_call H6.out.1 H6.out.1.size B, Shl.all H6.out.2.1 B, Mk.all H6.out.2.2.1 B, Shp.all H6.out.2.2.2.1 B, Mk.all H6.out.2.2.2.2.1 B, Shp.all H6.out.2.2.2.2.2 B, K⟩
    clear H6
    clear B
    clear K
    go_wp2_with (first | (refine shl_loadg rfl rfl H7.out.2.1 ?_) | (refine sh_loadg rfl rfl H7.out.2.2.2.1 ?_) | (refine sh_loadg rfl rfl H7.out.2.2.2.2.2.1 ?_) | (refine sh_new (L := MG) (d := D0) (fun _ => rfl) (fun _ => rfl) ?_))
    intro W8 bg e0 S0 B0
    have Ibg : Hid (W7.heap.size ≤ bg ∧ bg < W8.heap.size) := ⟨by show _ ≤ _; omega, S0.lt⟩
    clear e0
    have Z8 : Hid (W7.heap.size ≤ W8.heap.size) := B0.size
    have H8 : Hid (Below w.heap.size w W8 ∧ Shl W8 bT L d ∧ Mk W2.heap.size W8 MW D0 ∧ Shp W8 bw MW D0 ∧ Mk W4.heap.size W8 MX d ∧ Shp W8 bx MX d ∧ Mk W6.heap.size W8 MG D0 ∧ Shp W8 bg MG D0) := ⟨below_call H7.out.1 H7.out.1.size B0, Shl.all H7.out.2.1 B0, Mk.all H7.out.2.2.1 B0, Shp.all H7.out.2.2.2.1 B0, Mk.all H7.out.2.2.2.2.1 B0, Shp.all H7.out.2.2.2.2.2.1 B0, Mk.all H7.out.2.2.2.2.2.2 B0, S0⟩
    clear H7
    clear B0
    clear S0
    go_wp2_with (first | (refine shl_loadg rfl rfl H8.out.2.1 ?_) | (refine sh_loadg rfl rfl H8.out.2.2.2.1 ?_) | (refine sh_loadg rfl rfl H8.out.2.2.2.2.2.1 ?_) | (refine sh_loadg rfl rfl H8.out.2.2.2.2.2.2.2 ?_))
    refine (shop_eq (mk_rep H8.out.2.2.2.2.2.2.1) (mk_rep H8.out.2.2.1) hD).mono ?_
    rintro e W9 ⟨rfl, B⟩
    have Z9 : Hid (W8.heap.size ≤ W9.heap.size) := B.size
    have H9 : Hid (Below w.heap.size w W9 ∧ Shl W9 bT L d ∧ Mk W2.heap.size W9 MW D0 ∧ Shp W9 bw MW D0 ∧ Mk W4.heap.size W9 MX d ∧ Shp W9 bx MX d ∧ Mk W6.heap.size W9 MG D0 ∧ Shp W9 bg MG D0) := ⟨below_call H8.out.1 H8.out.1.size B, Shl.all H8.out.2.1 B, Mk.all H8.out.2.2.1 B, Shp.all H8.out.2.2.2.1 B, Mk.all H8.out.2.2.2.2.1 B, Shp.all H8.out.2.2.2.2.2.1 B, Mk.all H8.out.2.2.2.2.2.2.1 B, Shp.all H8.out.2.2.2.2.2.2.2 B⟩
    clear H8
    clear B
    go_upto_region 10 with (first | (refine shl_loadg rfl rfl H9.out.2.1 ?_) | (refine sh_loadg rfl rfl H9.out.2.2.2.1 ?_) | (refine sh_loadg rfl rfl H9.out.2.2.2.2.2.1 ?_) | (refine sh_loadg rfl rfl H9.out.2.2.2.2.2.2.2 ?_))
    have Z10 : Hid (W9.heap.size ≤ W9.drew.heap.size) := (below_drewN (Below.refl W9.heap.size W9) 1).size
    have H10 : Hid (Below w.heap.size w W9.drew ∧ Shl W9.drew bT L d ∧ Mk W2.heap.size W9.drew MW D0 ∧ Shp W9.drew bw MW D0 ∧ Mk W4.heap.size W9.drew MX d ∧ Shp W9.drew bx MX d ∧ Mk W6.heap.size W9.drew MG D0 ∧ Shp W9.drew bg MG D0) := ⟨below_call H9.out.1 H9.out.1.size (below_drewN (Below.refl _ _) 1), Shl.all H9.out.2.1 (below_drewN (Below.refl _ _) 1), Mk.all H9.out.2.2.1 (below_drewN (Below.refl _ _) 1), Shp.all H9.out.2.2.2.1 (below_drewN (Below.refl _ _) 1), Mk.all H9.out.2.2.2.2.1 (below_drewN (Below.refl _ _) 1), Shp.all H9.out.2.2.2.2.2.1 (below_drewN (Below.refl _ _) 1), Mk.all H9.out.2.2.2.2.2.2.1 (below_drewN (Below.refl _ _) 1), Shp.all H9.out.2.2.2.2.2.2.2 (below_drewN (Below.refl _ _) 1)⟩
    clear H9
    refine wp_region_held_drew (S := fun W => Shp W bx MX d ∧ Shl W bT L d) (by kernel_rfl) ⟨H10.out.2.2.2.2.2.1, H10.out.2.1⟩ (fun hHeld => ?_)
    refine wpAnyH_take (i := 0) (v := _) rfl (by kernel_rfl) (by kernel_rfl) (by kernel_rfl) (fun _ _ _ h => h) (Or.inl ⟨by kernel_rfl, fun w hSw => sh_yield rfl hSw.1⟩) (by assumption) ?_
    try dsimp only [Act.put, List.setIfInBounds_toArray, List.set_cons_zero, List.set_cons_succ]
    refine wpAnyH_take (i := 1) (v := _) rfl (by kernel_rfl) (by kernel_rfl) (by kernel_rfl) (fun _ _ _ h => h) (Or.inl ⟨by kernel_rfl, fun w hSw => shl_yield rfl hSw.2⟩) (by assumption) ?_
    try dsimp only [Act.put, List.setIfInBounds_toArray, List.set_cons_zero, List.set_cons_succ]
    refine wpAnyH_ready (rs := [2]) (by kernel_rfl) (by simp) ?_
    refine AllReadyH.cons rfl (fun K hK => ?_) AllReadyH.nil
    go_simp
    refine (toShop_any L d _ (HI.out.kept H10.out.1) hS).mono ?_
    rintro e W10 ⟨MB, rfl, O, P, f, B⟩
    have K : Mk W9.drew.heap.size W10 MB d := ⟨O, P, f⟩
    clear O P f
    have IMB : Hid (∀ j, Has MB j → W9.drew.heap.size ≤ j ∧ j < W10.heap.size) := fun j e => ⟨K.fre j e, K.own.lt j e⟩
    have Z11 : Hid (W9.drew.heap.size ≤ W10.heap.size) := B.size
    have H11 : Hid (Below w.heap.size w W10 ∧ Shl W10 bT L d ∧ Mk W2.heap.size W10 MW D0 ∧ Shp W10 bw MW D0 ∧ Mk W4.heap.size W10 MX d ∧ Shp W10 bx MX d ∧ Mk W6.heap.size W10 MG D0 ∧ Shp W10 bg MG D0 ∧ Mk W9.drew.heap.size W10 MB d) := ⟨below_call H10.out.1 H10.out.1.size B, Shl.all H10.out.2.1 B, Mk.all H10.out.2.2.1 B, Shp.all H10.out.2.2.2.1 B, Mk.all H10.out.2.2.2.2.1 B, Shp.all H10.out.2.2.2.2.2.1 B, Mk.all H10.out.2.2.2.2.2.2.1 B, Shp.all H10.out.2.2.2.2.2.2.2 B, K⟩
    clear H10
    clear B
    clear K
    have SX : (fun W => Shp W bx MX d ∧ Shl W bT L d) W10 := ⟨H11.out.2.2.2.2.2.1, H11.out.2.1⟩

    go_wp2_with fail
    refine hK.out _ _ SX (fun hHeld => ?_)
    clear hK K
    try dsimp only [Act.put, List.setIfInBounds_toArray, List.set_cons_zero, List.set_cons_succ]
    refine wpAnyH_ready (rs := [3]) (by kernel_rfl) (by simp) ?_
    refine AllReadyH.cons rfl (fun K hK => ?_) AllReadyH.nil
    go_simp
    refine (shop_eq (mk_rep H11.out.2.2.2.2.1) (mk_rep H11.out.2.2.2.2.2.2.2.2) hSd).mono ?_
    rintro e W11 ⟨rfl, B⟩
    have Z12 : Hid (W10.heap.size ≤ W11.heap.size) := B.size
    have H12 : Hid (Below w.heap.size w W11 ∧ Shl W11 bT L d ∧ Mk W2.heap.size W11 MW D0 ∧ Shp W11 bw MW D0 ∧ Mk W4.heap.size W11 MX d ∧ Shp W11 bx MX d ∧ Mk W6.heap.size W11 MG D0 ∧ Shp W11 bg MG D0 ∧ Mk W9.drew.heap.size W11 MB d) := ⟨below_call H11.out.1 H11.out.1.size B, Shl.all H11.out.2.1 B, Mk.all H11.out.2.2.1 B, Shp.all H11.out.2.2.2.1 B, Mk.all H11.out.2.2.2.2.1 B, Shp.all H11.out.2.2.2.2.2.1 B, Mk.all H11.out.2.2.2.2.2.2.1 B, Shp.all H11.out.2.2.2.2.2.2.2.1 B, Mk.all H11.out.2.2.2.2.2.2.2.2 B⟩
    clear H11
    clear B
    have SX : (fun W => Shp W bx MX d ∧ Shl W bT L d) W11 := ⟨H12.out.2.2.2.2.2.1, H12.out.2.1⟩

    go_wp2_with fail
    refine hK.out _ _ SX (fun hHeld => ?_)
    clear hK K
    try dsimp only [Act.put, List.setIfInBounds_toArray, List.set_cons_zero, List.set_cons_succ]
    refine wpAnyH_take (i := 4) (v := ?b3nv4) rfl (by kernel_rfl) (by kernel_rfl) (by kernel_rfl) (fun _ _ _ h => h) (Or.inl ⟨by kernel_rfl, ?b3nhy4⟩) (by assumption) ?b3nrest4
    case b3nhy4 =>
      intro w hSw
      skip
      go_simp
      try with_reducible rfl
    case' b3nrest4 => try dsimp only [Act.put, List.setIfInBounds_toArray, List.set_cons_zero, List.set_cons_succ]
    refine wpAnyH_done (by kernel_rfl) ?_ _
    simp only [List.getElem_toArray, List.getElem_cons_succ, List.getElem_cons_zero, List.setIfInBounds_toArray, List.set_cons_zero, List.set_cons_succ]
    clear hHeld
    go_wp2_with (first | (refine shl_loadg rfl rfl H12.out.2.1 ?_) | (refine sh_loadg rfl rfl H12.out.2.2.2.1 ?_) | (refine sh_loadg rfl rfl H12.out.2.2.2.2.2.1 ?_) | (refine sh_loadg rfl rfl H12.out.2.2.2.2.2.2.2.1 ?_))
    refine (shop_mark (mk_rep H12.out.2.2.2.2.1) 1 hSd (by omega) (by omega)).mono ?_
    rintro e W12 ⟨rfl, Y, C⟩
    clear Y
    have Z13 : Hid (W11.heap.size ≤ W12.heap.size) := C.size
    have H13 : Hid (Below w.heap.size w W12 ∧ Shl W12 bT L d ∧ Mk W2.heap.size W12 MW D0 ∧ Shp W12 bw MW D0 ∧ Mk W6.heap.size W12 MG D0 ∧ Shp W12 bg MG D0) := ⟨Chg.under C H12.out.1 (fun j e => by have := IMX.out j e; have := Z0.out; have := Z1.out; have := Z2.out; have := Z3.out; have := Z4.out; have := Z5.out; have := Z6.out; have := Z7.out; have := Z8.out; have := Z9.out; have := Z10.out; have := Z11.out; have := Z12.out; have := Z13.out; omega) H12.out.1.size, Shl.past H12.out.2.1 C (fun e => by have := IMX.out _ e; have := IbT.out; have := Z0.out; have := Z1.out; have := Z2.out; have := Z3.out; have := Z4.out; have := Z5.out; have := Z6.out; have := Z7.out; have := Z8.out; have := Z9.out; have := Z10.out; have := Z11.out; have := Z12.out; have := Z13.out; omega), Mk.chg H12.out.2.2.1 C (fun j e e' => by have := IMW.out j e; have := IMX.out j e'; have := Z0.out; have := Z1.out; have := Z2.out; have := Z3.out; have := Z4.out; have := Z5.out; have := Z6.out; have := Z7.out; have := Z8.out; have := Z9.out; have := Z10.out; have := Z11.out; have := Z12.out; have := Z13.out; omega), Shp.chg H12.out.2.2.2.1 C (fun e => by have := IMX.out _ e; have := Ibw.out; have := Z0.out; have := Z1.out; have := Z2.out; have := Z3.out; have := Z4.out; have := Z5.out; have := Z6.out; have := Z7.out; have := Z8.out; have := Z9.out; have := Z10.out; have := Z11.out; have := Z12.out; have := Z13.out; omega), Mk.chg H12.out.2.2.2.2.2.2.1 C (fun j e e' => by have := IMG.out j e; have := IMX.out j e'; have := Z0.out; have := Z1.out; have := Z2.out; have := Z3.out; have := Z4.out; have := Z5.out; have := Z6.out; have := Z7.out; have := Z8.out; have := Z9.out; have := Z10.out; have := Z11.out; have := Z12.out; have := Z13.out; omega), Shp.chg H12.out.2.2.2.2.2.2.2.1 C (fun e => by have := IMX.out _ e; have := Ibg.out; have := Z0.out; have := Z1.out; have := Z2.out; have := Z3.out; have := Z4.out; have := Z5.out; have := Z6.out; have := Z7.out; have := Z8.out; have := Z9.out; have := Z10.out; have := Z11.out; have := Z12.out; have := Z13.out; omega)⟩
    clear H12
    clear C
    have hk : ¬ (1 + ((shopK.slots d : Nat) : Int)) < 0 := by omega
    go_wp2_with (first | (refine shl_loadg rfl rfl H13.out.2.1 ?_) | (refine sh_loadg rfl rfl H13.out.2.2.2.1 ?_) | (refine sh_loadg rfl rfl H13.out.2.2.2.2.2 ?_))
    clear hk
    refine (shop_eq (mk_rep H13.out.2.2.2.2.1) (mk_rep H13.out.2.2.1) hD).mono ?_
    rintro e W13 ⟨rfl, B⟩
    have Z14 : Hid (W12.heap.size ≤ W13.heap.size) := B.size
    have H14 : Hid (Below w.heap.size w W13 ∧ Shl W13 bT L d ∧ Mk W2.heap.size W13 MW D0 ∧ Shp W13 bw MW D0 ∧ Mk W6.heap.size W13 MG D0 ∧ Shp W13 bg MG D0) := ⟨below_call H13.out.1 H13.out.1.size B, Shl.all H13.out.2.1 B, Mk.all H13.out.2.2.1 B, Shp.all H13.out.2.2.2.1 B, Mk.all H13.out.2.2.2.2.1 B, Shp.all H13.out.2.2.2.2.2 B⟩
    clear H13
    clear B
    go_wp2_with (first | (refine shl_loadg rfl rfl H14.out.2.1 ?_) | (refine sh_loadg rfl rfl H14.out.2.2.2.1 ?_) | (refine sh_loadg rfl rfl H14.out.2.2.2.2.2 ?_))
    refine (shop_mark (mk_rep H14.out.2.2.2.2.1) 1 hD (by omega) (by omega)).mono ?_
    rintro e W14 ⟨rfl, Y, C⟩
    have Z15 : Hid (W13.heap.size ≤ W14.heap.size) := C.size
    have H15 : Hid (Below w.heap.size w W14 ∧ Shl W14 bT L d ∧ Mk W2.heap.size W14 MW D0 ∧ Shp W14 bw MW D0 ∧ shopK.hld W14 (Has MG) (sv MG D0) D0 1 ∧ Shp W14 bg MG D0) := ⟨Chg.under C H14.out.1 (fun j e => by have := IMG.out j e; have := Z0.out; have := Z1.out; have := Z2.out; have := Z3.out; have := Z4.out; have := Z5.out; have := Z6.out; have := Z7.out; have := Z8.out; have := Z9.out; have := Z10.out; have := Z11.out; have := Z12.out; have := Z13.out; have := Z14.out; have := Z15.out; omega) H14.out.1.size, Shl.past H14.out.2.1 C (fun e => by have := IMG.out _ e; have := IbT.out; have := Z0.out; have := Z1.out; have := Z2.out; have := Z3.out; have := Z4.out; have := Z5.out; have := Z6.out; have := Z7.out; have := Z8.out; have := Z9.out; have := Z10.out; have := Z11.out; have := Z12.out; have := Z13.out; have := Z14.out; have := Z15.out; omega), Mk.chg H14.out.2.2.1 C (fun j e e' => by have := IMW.out j e; have := IMG.out j e'; have := Z0.out; have := Z1.out; have := Z2.out; have := Z3.out; have := Z4.out; have := Z5.out; have := Z6.out; have := Z7.out; have := Z8.out; have := Z9.out; have := Z10.out; have := Z11.out; have := Z12.out; have := Z13.out; have := Z14.out; have := Z15.out; omega), Shp.chg H14.out.2.2.2.1 C (fun e => by have := IMG.out _ e; have := Ibw.out; have := Z0.out; have := Z1.out; have := Z2.out; have := Z3.out; have := Z4.out; have := Z5.out; have := Z6.out; have := Z7.out; have := Z8.out; have := Z9.out; have := Z10.out; have := Z11.out; have := Z12.out; have := Z13.out; have := Z14.out; have := Z15.out; omega), Y, Shp.chg H14.out.2.2.2.2.2 C (fun e => by have := IMG.out _ e; have := Ibg.out; have := Z0.out; have := Z1.out; have := Z2.out; have := Z3.out; have := Z4.out; have := Z5.out; have := Z6.out; have := Z7.out; have := Z8.out; have := Z9.out; have := Z10.out; have := Z11.out; have := Z12.out; have := Z13.out; have := Z14.out; have := Z15.out; omega)⟩
    clear H14
    clear C
    clear Y
    go_wp2_with (first | (refine shl_loadg rfl rfl H15.out.2.1 ?_) | (refine sh_loadg rfl rfl H15.out.2.2.2.1 ?_) | (refine sh_loadg rfl rfl H15.out.2.2.2.2.2 ?_))
    refine (shop_held H15.out.2.2.2.2.1 hD (by omega) (by omega)).mono ?_
    rintro e W15 ⟨rfl, B⟩
    have Z16 : Hid (W14.heap.size ≤ W15.heap.size) := B.size
    have H16 : Hid (Below w.heap.size w W15 ∧ Shl W15 bT L d ∧ Mk W2.heap.size W15 MW D0 ∧ Shp W15 bw MW D0 ∧ shopK.hld W15 (Has MG) (sv MG D0) D0 1 ∧ Shp W15 bg MG D0) := ⟨below_call H15.out.1 H15.out.1.size B, Shl.all H15.out.2.1 B, Mk.all H15.out.2.2.1 B, Shp.all H15.out.2.2.2.1 B, Knd.hall H15.out.2.2.2.2.1 B, Shp.all H15.out.2.2.2.2.2 B⟩
    clear H15
    clear B
    have hq0 : ¬ (1 + ((shopK.slots D0 : Nat) : Int)) < 0 := by omega
    have hqe : ((1 + ((shopK.slots D0 : Nat) : Int)) != (1 + ((shopK.slots D0 : Nat) : Int))) = false := by simp
    go_wp2_with (first | (refine shl_loadg rfl rfl H16.out.2.1 ?_) | (refine sh_loadg rfl rfl H16.out.2.2.2.1 ?_) | (refine sh_loadg rfl rfl H16.out.2.2.2.2.2 ?_))
    clear hq0 hqe
    refine (toShop_any L d _ (HI.out.kept H16.out.1) hS).mono ?_
    rintro e W16 ⟨MC, rfl, O, P, f, B⟩
    have K : Mk W15.heap.size W16 MC d := ⟨O, P, f⟩
    clear O P f
    have IMC : Hid (∀ j, Has MC j → W15.heap.size ≤ j ∧ j < W16.heap.size) := fun j e => ⟨K.fre j e, K.own.lt j e⟩
    have Z17 : Hid (W15.heap.size ≤ W16.heap.size) := B.size
    have H17 : Hid (Below w.heap.size w W16 ∧ Shl W16 bT L d ∧ Mk W2.heap.size W16 MW D0 ∧ Shp W16 bw MW D0 ∧ shopK.hld W16 (Has MG) (sv MG D0) D0 1 ∧ Shp W16 bg MG D0 ∧ Mk W15.heap.size W16 MC d) := ⟨below_call H16.out.1 H16.out.1.size B, Shl.all H16.out.2.1 B, Mk.all H16.out.2.2.1 B, Shp.all H16.out.2.2.2.1 B, Knd.hall H16.out.2.2.2.2.1 B, Shp.all H16.out.2.2.2.2.2 B, K⟩
    clear H16
    clear B
    clear K
    go_wp2_with (first | (refine shl_loadg rfl rfl H17.out.2.1 ?_) | (refine sh_loadg rfl rfl H17.out.2.2.2.1 ?_) | (refine sh_loadg rfl rfl H17.out.2.2.2.2.2.1 ?_))
    refine (implSwitched MC d a1 a2 _ H17.out.2.2.2.2.2.2.own.rd (short_of_small H17.out.2.2.2.2.2.2.own.rd hSd)).mono ?_
    rw [← HD0.out, ← HD1.out]
    rintro e W17 ⟨MH, rfl, K, B⟩
    have IMH : Hid (∀ j, Has MH j → W16.heap.size ≤ j ∧ j < W17.heap.size) := fun j e => ⟨K.fre j e, K.own.lt j e⟩
    have Z18 : Hid (W16.heap.size ≤ W17.heap.size) := B.size
    have H18 : Hid (Below w.heap.size w W17 ∧ Shl W17 bT L d ∧ Mk W2.heap.size W17 MW D0 ∧ Shp W17 bw MW D0 ∧ shopK.hld W17 (Has MG) (sv MG D0) D0 1 ∧ Shp W17 bg MG D0 ∧ Mk W16.heap.size W17 MH D0) := ⟨below_call H17.out.1 H17.out.1.size B, Shl.all H17.out.2.1 B, Mk.all H17.out.2.2.1 B, Shp.all H17.out.2.2.2.1 B, Knd.hall H17.out.2.2.2.2.1 B, Shp.all H17.out.2.2.2.2.2.1 B, K⟩
    clear H17
    clear B
    clear K
    go_wp2_with (first | (refine shl_loadg rfl rfl H18.out.2.1 ?_) | (refine sh_loadg rfl rfl H18.out.2.2.2.1 ?_) | (refine sh_loadg rfl rfl H18.out.2.2.2.2.2.1 ?_) | (refine sh_new (L := MH) (d := D0) (fun _ => rfl) (fun _ => rfl) ?_))
    intro W18 bh e0 S0 B0
    have Ibh : Hid (W17.heap.size ≤ bh ∧ bh < W18.heap.size) := ⟨by show _ ≤ _; omega, S0.lt⟩
    clear e0
    have Z19 : Hid (W17.heap.size ≤ W18.heap.size) := B0.size
    have H19 : Hid (Below w.heap.size w W18 ∧ Shl W18 bT L d ∧ Mk W2.heap.size W18 MW D0 ∧ Shp W18 bw MW D0 ∧ shopK.hld W18 (Has MG) (sv MG D0) D0 1 ∧ Shp W18 bg MG D0 ∧ Mk W16.heap.size W18 MH D0 ∧ Shp W18 bh MH D0) := ⟨below_call H18.out.1 H18.out.1.size B0, Shl.all H18.out.2.1 B0, Mk.all H18.out.2.2.1 B0, Shp.all H18.out.2.2.2.1 B0, Knd.hall H18.out.2.2.2.2.1 B0, Shp.all H18.out.2.2.2.2.2.1 B0, Mk.all H18.out.2.2.2.2.2.2 B0, S0⟩
    clear H18
    clear B0
    clear S0
    go_wp2_with (first | (refine shl_loadg rfl rfl H19.out.2.1 ?_) | (refine sh_loadg rfl rfl H19.out.2.2.2.1 ?_) | (refine sh_loadg rfl rfl H19.out.2.2.2.2.2.1 ?_) | (refine sh_loadg rfl rfl H19.out.2.2.2.2.2.2.2 ?_))
    refine (shop_eq (mk_rep H19.out.2.2.2.2.2.2.1) (mk_rep H19.out.2.2.1) hD).mono ?_
    rintro e W19 ⟨rfl, B⟩
    have Z20 : Hid (W18.heap.size ≤ W19.heap.size) := B.size
    have H20 : Hid (Below w.heap.size w W19 ∧ Shl W19 bT L d ∧ Mk W2.heap.size W19 MW D0 ∧ Shp W19 bw MW D0 ∧ shopK.hld W19 (Has MG) (sv MG D0) D0 1 ∧ Shp W19 bg MG D0 ∧ Mk W16.heap.size W19 MH D0 ∧ Shp W19 bh MH D0) := ⟨below_call H19.out.1 H19.out.1.size B, Shl.all H19.out.2.1 B, Mk.all H19.out.2.2.1 B, Shp.all H19.out.2.2.2.1 B, Knd.hall H19.out.2.2.2.2.1 B, Shp.all H19.out.2.2.2.2.2.1 B, Mk.all H19.out.2.2.2.2.2.2.1 B, Shp.all H19.out.2.2.2.2.2.2.2 B⟩
    clear H19
    clear B
    go_wp2_with (first | (refine shl_loadg rfl rfl H20.out.2.1 ?_) | (refine sh_loadg rfl rfl H20.out.2.2.2.1 ?_) | (refine sh_loadg rfl rfl H20.out.2.2.2.2.2.1 ?_) | (refine sh_loadg rfl rfl H20.out.2.2.2.2.2.2.2 ?_))
    refine (shop_held H20.out.2.2.2.2.1 hD (by omega) (by omega)).mono ?_
    rintro e W20 ⟨rfl, B⟩
    have Z21 : Hid (W19.heap.size ≤ W20.heap.size) := B.size
    have H21 : Hid (Below w.heap.size w W20 ∧ Shl W20 bT L d ∧ Mk W2.heap.size W20 MW D0 ∧ Shp W20 bw MW D0 ∧ shopK.hld W20 (Has MG) (sv MG D0) D0 1 ∧ Shp W20 bg MG D0 ∧ Mk W16.heap.size W20 MH D0 ∧ Shp W20 bh MH D0) := ⟨below_call H20.out.1 H20.out.1.size B, Shl.all H20.out.2.1 B, Mk.all H20.out.2.2.1 B, Shp.all H20.out.2.2.2.1 B, Knd.hall H20.out.2.2.2.2.1 B, Shp.all H20.out.2.2.2.2.2.1 B, Mk.all H20.out.2.2.2.2.2.2.1 B, Shp.all H20.out.2.2.2.2.2.2.2 B⟩
    clear H20
    clear B
    have hq0 : ¬ (1 + ((shopK.slots D0 : Nat) : Int)) < 0 := by omega
    have hqe : ((1 + ((shopK.slots D0 : Nat) : Int)) != (1 + ((shopK.slots D0 : Nat) : Int))) = false := by simp
    go_wp2_with (first | (refine shl_loadg rfl rfl H21.out.2.1 ?_) | (refine sh_loadg rfl rfl H21.out.2.2.2.1 ?_) | (refine sh_loadg rfl rfl H21.out.2.2.2.2.2.1 ?_) | (refine sh_loadg rfl rfl H21.out.2.2.2.2.2.2.2 ?_))
    go_ret
    exact ⟨rfl, H21.out.1⟩

end Go.Proofs.YtcmeimfjedakeaaGreat.Crew
