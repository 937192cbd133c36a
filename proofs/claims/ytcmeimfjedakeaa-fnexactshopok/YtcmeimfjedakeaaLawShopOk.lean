/-
  The law FnExactShopOk: whatever the arguments, it answers true and nothing that was there is written. (Written by wip/tools/genlaw8.py.)
-/
import Derived.Test.YtcmeimfjedakeaaShopLawK
import Derived.Test.YtcmeimfjedakeaaShopOkS
import Derived.Test.YtcmeimfjedakeaaShopOkI
namespace Go.Proofs.Ytcmeimfjedakeaa.Crew
open Go.ChangeShapes Go.WideShapes Go.ChangeAt Go.RowKit

set_option maxRecDepth 100000 in
set_option maxHeartbeats 16000000 in
theorem lawShopOk (L : LT) (d : SD) (w : World) (I : Rd w L d) (hl : Lens L) :
    Calls Try.prog 3 #[sv L d] w fun e w' => e = .returned (.bool true) ∧ Below w.heap.size w w' := by
  have HI : Hid (Rd w L d) := I
  have HLE : Hid (Lens L) := hl
  clear I hl
  by_cases hs : ¬ L.sum ≤ 1048576
  · have HN : Hid (1048576 < L.sum) := by show _ < _; omega
    clear hs
    go_enter Try.func3, Try.ntmps3
    go_wp2_with (refine shl_box rfl ?_)
    intro W0 bT e0 T0 B0
    have IbT : Hid (w.heap.size ≤ bT ∧ bT < W0.heap.size) := ⟨by show _ ≤ _; omega, T0.1⟩
    clear e0
    have Z0 : Hid (w.heap.size ≤ W0.heap.size) := B0.size
    have H0 : Hid (Below w.heap.size w W0 ∧ Shl W0 bT L d) := ⟨B0, T0⟩
    clear B0 T0
    go_wp2_with (first | (refine shl_loadg rfl rfl H0.out.2 ?_))
    refine (szShop_no L d _ HLE.out (by have := HN.out; omega)).mono ?_
    rintro e W1 ⟨rfl, B⟩
    have Z1 : Hid (W0.heap.size ≤ W1.heap.size) := B.size
    have H1 : Hid (Below w.heap.size w W1 ∧ Shl W1 bT L d) := ⟨below_call H0.out.1 H0.out.1.size B, Shl.all H0.out.2 B⟩
    clear H0
    clear B
    go_wp2_with (first | (refine shl_loadg rfl rfl H1.out.2 ?_))
    go_ret
    exact ⟨rfl, H1.out.1⟩
  · have hy : L.sum ≤ 1048576 := by omega
    have hS : Short L := short_of_sum hy
    have hSd : Small10 d := small_of_short HI.out hS
    have HY : Hid (L.sum ≤ 1048576) := hy
    clear hs hy
    obtain ⟨D0, hD0⟩ : ∃ D, D = shopOk d := ⟨_, rfl⟩
    have HD0 : Hid (D0 = shopOk d) := hD0
    clear hD0
    have hne : (D0 != D0) = false := by simp
    go_enter Try.func3, Try.ntmps3
    go_wp2_with (refine shl_box rfl ?_)
    intro W0 bT e0 T0 B0
    have IbT : Hid (w.heap.size ≤ bT ∧ bT < W0.heap.size) := ⟨by show _ ≤ _; omega, T0.1⟩
    clear e0
    have Z0 : Hid (w.heap.size ≤ W0.heap.size) := B0.size
    have H0 : Hid (Below w.heap.size w W0 ∧ Shl W0 bT L d) := ⟨B0, T0⟩
    clear B0 T0
    go_wp2_with (first | (refine shl_loadg rfl rfl H0.out.2 ?_))
    refine (szShop_yes L d _ HY.out).mono ?_
    rintro e W1 ⟨rfl, B⟩
    have Z1 : Hid (W0.heap.size ≤ W1.heap.size) := B.size
    have H1 : Hid (Below w.heap.size w W1 ∧ Shl W1 bT L d) := ⟨below_call H0.out.1 H0.out.1.size B, Shl.all H0.out.2 B⟩
    clear H0
    clear B
    have hp : ¬ (1048576 - L.sum) < 0 := by have := HY.out; omega
    go_wp2_with (first | (refine shl_loadg rfl rfl H1.out.2 ?_))
    clear hp
    refine (toShop_any L d _ (HI.out.kept H1.out.1) hS).mono ?_
    rintro e W2 ⟨MA, rfl, O, P, f, B⟩
    have K : Mk W1.heap.size W2 MA d := ⟨O, P, f⟩
    clear O P f
    have IMA : Hid (∀ j, Has MA j → W1.heap.size ≤ j ∧ j < W2.heap.size) := fun j e => ⟨K.fre j e, K.own.lt j e⟩
    have Z2 : Hid (W1.heap.size ≤ W2.heap.size) := B.size
    have H2 : Hid (Below w.heap.size w W2 ∧ Shl W2 bT L d ∧ Mk W1.heap.size W2 MA d) := ⟨below_call H1.out.1 H1.out.1.size B, Shl.all H1.out.2 B, K⟩
    clear H1
    clear B
    clear K
    go_wp2_with (first | (refine shl_loadg rfl rfl H2.out.2.1 ?_))
    refine (specShopOk MA d _ H2.out.2.2.own.rd (short_of_small H2.out.2.2.own.rd hSd)).mono ?_
    rw [← HD0.out]
    rintro e W3 ⟨rfl, B⟩
    have Z3 : Hid (W2.heap.size ≤ W3.heap.size) := B.size
    have H3 : Hid (Below w.heap.size w W3 ∧ Shl W3 bT L d) := ⟨below_call H2.out.1 H2.out.1.size B, Shl.all H2.out.2.1 B⟩
    clear H2
    clear B
    go_wp2_with (first | (refine shl_loadg rfl rfl H3.out.2 ?_))
    refine (toShop_any L d _ (HI.out.kept H3.out.1) hS).mono ?_
    rintro e W4 ⟨MX, rfl, O, P, f, B⟩
    have K : Mk W3.heap.size W4 MX d := ⟨O, P, f⟩
    clear O P f
    have IMX : Hid (∀ j, Has MX j → W3.heap.size ≤ j ∧ j < W4.heap.size) := fun j e => ⟨K.fre j e, K.own.lt j e⟩
    have Z4 : Hid (W3.heap.size ≤ W4.heap.size) := B.size
    have H4 : Hid (Below w.heap.size w W4 ∧ Shl W4 bT L d ∧ Mk W3.heap.size W4 MX d) := ⟨below_call H3.out.1 H3.out.1.size B, Shl.all H3.out.2 B, K⟩
    clear H3
    clear B
    clear K
    go_wp2_with (first | (refine shl_loadg rfl rfl H4.out.2.1 ?_) | (refine sh_new (L := MX) (d := d) (fun _ => rfl) (fun _ => rfl) ?_))
    intro W5 bx e0 S0 B0
    have Ibx : Hid (W4.heap.size ≤ bx ∧ bx < W5.heap.size) := ⟨by show _ ≤ _; omega, S0.lt⟩
    clear e0
    have Z5 : Hid (W4.heap.size ≤ W5.heap.size) := B0.size
    have H5 : Hid (Below w.heap.size w W5 ∧ Shl W5 bT L d ∧ Mk W3.heap.size W5 MX d ∧ Shp W5 bx MX d) := ⟨below_call H4.out.1 H4.out.1.size B0, Shl.all H4.out.2.1 B0, Mk.all H4.out.2.2 B0, S0⟩
    clear H4
    clear B0
    clear S0
    go_wp2_with (first | (refine shl_loadg rfl rfl H5.out.2.1 ?_) | (refine sh_loadg rfl rfl H5.out.2.2.2 ?_))
    refine (implShopOk MX d _ H5.out.2.2.1.own.rd (short_of_small H5.out.2.2.1.own.rd hSd)).mono ?_
    rw [← HD0.out]
    rintro e W6 ⟨rfl, B⟩
    have Z6 : Hid (W5.heap.size ≤ W6.heap.size) := B.size
    have H6 : Hid (Below w.heap.size w W6 ∧ Shl W6 bT L d ∧ Mk W3.heap.size W6 MX d ∧ Shp W6 bx MX d) := ⟨below_call H5.out.1 H5.out.1.size B, Shl.all H5.out.2.1 B, Mk.all H5.out.2.2.1 B, Shp.all H5.out.2.2.2 B⟩
    clear H5
    clear B
    go_upto_region 10 with (first | (refine shl_loadg rfl rfl H6.out.2.1 ?_) | (refine sh_loadg rfl rfl H6.out.2.2.2 ?_))
    have Z7 : Hid (W6.heap.size ≤ W6.drew.heap.size) := (below_drewN (Below.refl W6.heap.size W6) 1).size
    have H7 : Hid (Below w.heap.size w W6.drew ∧ Shl W6.drew bT L d ∧ Mk W3.heap.size W6.drew MX d ∧ Shp W6.drew bx MX d) := ⟨below_call H6.out.1 H6.out.1.size (below_drewN (Below.refl _ _) 1), Shl.all H6.out.2.1 (below_drewN (Below.refl _ _) 1), Mk.all H6.out.2.2.1 (below_drewN (Below.refl _ _) 1), Shp.all H6.out.2.2.2 (below_drewN (Below.refl _ _) 1)⟩
    clear H6
    refine wp_region_held_drew (S := fun W => Shp W bx MX d ∧ Shl W bT L d) (by kernel_rfl) ⟨H7.out.2.2.2, H7.out.2.1⟩ (fun hHeld => ?_)
    refine wpAnyH_take (i := 0) (v := _) rfl (by kernel_rfl) (by kernel_rfl) (by kernel_rfl) (fun _ _ _ h => h) (Or.inl ⟨by kernel_rfl, fun w hSw => sh_yield rfl hSw.1⟩) (by assumption) ?_
    try dsimp only [Act.put, List.setIfInBounds_toArray, List.set_cons_zero, List.set_cons_succ]
    refine wpAnyH_take (i := 1) (v := _) rfl (by kernel_rfl) (by kernel_rfl) (by kernel_rfl) (fun _ _ _ h => h) (Or.inl ⟨by kernel_rfl, fun w hSw => shl_yield rfl hSw.2⟩) (by assumption) ?_
    try dsimp only [Act.put, List.setIfInBounds_toArray, List.set_cons_zero, List.set_cons_succ]
    refine wpAnyH_ready (rs := [2]) (by kernel_rfl) (by simp) ?_
    refine AllReadyH.cons rfl (fun K hK => ?_) AllReadyH.nil
    go_simp
    refine (toShop_any L d _ (HI.out.kept H7.out.1) hS).mono ?_
    rintro e W7 ⟨MB, rfl, O, P, f, B⟩
    have K : Mk W6.drew.heap.size W7 MB d := ⟨O, P, f⟩
    clear O P f
    have IMB : Hid (∀ j, Has MB j → W6.drew.heap.size ≤ j ∧ j < W7.heap.size) := fun j e => ⟨K.fre j e, K.own.lt j e⟩
    have Z8 : Hid (W6.drew.heap.size ≤ W7.heap.size) := B.size
    have H8 : Hid (Below w.heap.size w W7 ∧ Shl W7 bT L d ∧ Mk W3.heap.size W7 MX d ∧ Shp W7 bx MX d ∧ Mk W6.drew.heap.size W7 MB d) := ⟨below_call H7.out.1 H7.out.1.size B, Shl.all H7.out.2.1 B, Mk.all H7.out.2.2.1 B, Shp.all H7.out.2.2.2 B, K⟩
    clear H7
    clear B
    clear K
    have SX : (fun W => Shp W bx MX d ∧ Shl W bT L d) W7 := ⟨H8.out.2.2.2.1, H8.out.2.1⟩

    go_wp2_with fail
    refine hK.out _ _ SX (fun hHeld => ?_)
    clear hK K
    try dsimp only [Act.put, List.setIfInBounds_toArray, List.set_cons_zero, List.set_cons_succ]
    refine wpAnyH_ready (rs := [3]) (by kernel_rfl) (by simp) ?_
    refine AllReadyH.cons rfl (fun K hK => ?_) AllReadyH.nil
    go_simp
    refine (shop_eq (mk_rep H8.out.2.2.1) (mk_rep H8.out.2.2.2.2) hSd).mono ?_
    rintro e W8 ⟨rfl, B⟩
    have Z9 : Hid (W7.heap.size ≤ W8.heap.size) := B.size
    have H9 : Hid (Below w.heap.size w W8 ∧ Shl W8 bT L d ∧ Mk W3.heap.size W8 MX d ∧ Shp W8 bx MX d ∧ Mk W6.drew.heap.size W8 MB d) := ⟨below_call H8.out.1 H8.out.1.size B, Shl.all H8.out.2.1 B, Mk.all H8.out.2.2.1 B, Shp.all H8.out.2.2.2.1 B, Mk.all H8.out.2.2.2.2 B⟩
    clear H8
    clear B
    have SX : (fun W => Shp W bx MX d ∧ Shl W bT L d) W8 := ⟨H9.out.2.2.2.1, H9.out.2.1⟩

    go_wp2_with fail
    refine hK.out _ _ SX (fun hHeld => ?_)
    clear hK K
    try dsimp only [Act.put, List.setIfInBounds_toArray, List.set_cons_zero, List.set_cons_succ]
    refine wpAnyH_take (i := 4) (v := ?b1nv4) rfl (by kernel_rfl) (by kernel_rfl) (by kernel_rfl) (fun _ _ _ h => h) (Or.inl ⟨by kernel_rfl, ?b1nhy4⟩) (by assumption) ?b1nrest4
    case b1nhy4 =>
      intro w hSw
      skip
      go_simp
      try with_reducible rfl
    case' b1nrest4 => try dsimp only [Act.put, List.setIfInBounds_toArray, List.set_cons_zero, List.set_cons_succ]
    refine wpAnyH_done (by kernel_rfl) ?_ _
    simp only [List.getElem_toArray, List.getElem_cons_succ, List.getElem_cons_zero, List.setIfInBounds_toArray, List.set_cons_zero, List.set_cons_succ]
    clear hHeld
    go_wp2_with (first | (refine shl_loadg rfl rfl H9.out.2.1 ?_) | (refine sh_loadg rfl rfl H9.out.2.2.2.1 ?_))
    go_ret
    exact ⟨rfl, H9.out.1⟩

end Go.Proofs.Ytcmeimfjedakeaa.Crew
