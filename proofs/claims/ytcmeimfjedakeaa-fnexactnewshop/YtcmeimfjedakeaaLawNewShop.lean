/-
  The law FnExactNewShop: whatever the arguments, it answers true and nothing that was there is written. (Written by wip/tools/genlaw8.py.)
-/
import Derived.Test.YtcmeimfjedakeaaShopLawK
import Derived.Test.YtcmeimfjedakeaaShopNew
namespace Go.Proofs.Ytcmeimfjedakeaa.Crew
open Go.ChangeShapes Go.WideShapes Go.ChangeAt Go.RowKit

set_option maxRecDepth 100000 in
set_option maxHeartbeats 16000000 in
theorem lawNewShop (p : Int) (q : Int) (w : World) :
    Calls Try.prog 4 #[.int .i64 p, .int .i64 q] w fun e w' => e = .returned (.bool true) ∧ Below w.heap.size w w' := by
  obtain ⟨D0, hD0⟩ : ∃ D, D = newOf p q := ⟨_, rfl⟩
  have HD0 : Hid (D0 = newOf p q) := hD0
  have hD : Small10 D0 := by rw [hD0]; exact new_small p q
  clear hD0
  obtain ⟨D1, hD1⟩ : ∃ D, D = shopOk (newD p q) := ⟨_, rfl⟩
  have HD1 : Hid (D1 = shopOk (newD p q)) := hD1
  have hne : (D1 != D1) = false := by simp
  clear hD1
  go_enter Try.func4, Try.ntmps4
  have H0 : Hid (Below w.heap.size w w) := Below.refl _ _
  go_wp2_with fail
  refine (specNewShop p q _).mono ?_
  rw [← HD0.out, ← HD1.out]
  rintro e W1 ⟨MW, rfl, K, B⟩
  have IMW : Hid (∀ j, Has MW j → w.heap.size ≤ j ∧ j < W1.heap.size) := fun j e => ⟨K.fre j e, K.own.lt j e⟩
  have Z0 : Hid (w.heap.size ≤ W1.heap.size) := B.size
  have H1 : Hid (Below w.heap.size w W1 ∧ Mk w.heap.size W1 MW D0) := ⟨below_call H0.out H0.out.size B, K⟩
  clear H0
  clear B
  clear K
  go_wp2_with (first | (refine sh_new (L := MW) (d := D0) (fun _ => rfl) (fun _ => rfl) ?_))
  intro W2 bw e0 S0 B0
  have Ibw : Hid (W1.heap.size ≤ bw ∧ bw < W2.heap.size) := ⟨by show _ ≤ _; omega, S0.lt⟩
  clear e0
  have Z1 : Hid (W1.heap.size ≤ W2.heap.size) := B0.size
  have H2 : Hid (Below w.heap.size w W2 ∧ Mk w.heap.size W2 MW D0 ∧ Shp W2 bw MW D0) := ⟨below_call H1.out.1 H1.out.1.size B0, Mk.all H1.out.2 B0, S0⟩
  clear H1
  clear B0
  clear S0
  go_wp2_with (first | (refine sh_loadg rfl rfl H2.out.2.2 ?_))
  refine (implNewShop p q _).mono ?_
  rw [← HD0.out, ← HD1.out]
  rintro e W3 ⟨MG, rfl, K, B⟩
  have IMG : Hid (∀ j, Has MG j → W2.heap.size ≤ j ∧ j < W3.heap.size) := fun j e => ⟨K.fre j e, K.own.lt j e⟩
  have Z2 : Hid (W2.heap.size ≤ W3.heap.size) := B.size
  have H3 : Hid (Below w.heap.size w W3 ∧ Mk w.heap.size W3 MW D0 ∧ Shp W3 bw MW D0 ∧ Mk W2.heap.size W3 MG D0) := ⟨below_call H2.out.1 H2.out.1.size B, Mk.all H2.out.2.1 B, Shp.all H2.out.2.2 B, K⟩
  clear H2
  clear B
  clear K
  go_wp2_with (first | (refine sh_loadg rfl rfl H3.out.2.2.1 ?_) | (refine sh_new (L := MG) (d := D0) (fun _ => rfl) (fun _ => rfl) ?_))
  intro W4 bg e0 S0 B0
  have Ibg : Hid (W3.heap.size ≤ bg ∧ bg < W4.heap.size) := ⟨by show _ ≤ _; omega, S0.lt⟩
  clear e0
  have Z3 : Hid (W3.heap.size ≤ W4.heap.size) := B0.size
  have H4 : Hid (Below w.heap.size w W4 ∧ Mk w.heap.size W4 MW D0 ∧ Shp W4 bw MW D0 ∧ Mk W2.heap.size W4 MG D0 ∧ Shp W4 bg MG D0) := ⟨below_call H3.out.1 H3.out.1.size B0, Mk.all H3.out.2.1 B0, Shp.all H3.out.2.2.1 B0, Mk.all H3.out.2.2.2 B0, S0⟩
  clear H3
  clear B0
  clear S0
  go_wp2_with (first | (refine sh_loadg rfl rfl H4.out.2.2.1 ?_) | (refine sh_loadg rfl rfl H4.out.2.2.2.2 ?_))
  refine (shop_eq (mk_rep H4.out.2.2.2.1) (mk_rep H4.out.2.1) hD).mono ?_
  rintro e W5 ⟨rfl, B⟩
  have Z4 : Hid (W4.heap.size ≤ W5.heap.size) := B.size
  have H5 : Hid (Below w.heap.size w W5 ∧ Mk w.heap.size W5 MW D0 ∧ Shp W5 bw MW D0 ∧ Mk W2.heap.size W5 MG D0 ∧ Shp W5 bg MG D0) := ⟨below_call H4.out.1 H4.out.1.size B, Mk.all H4.out.2.1 B, Shp.all H4.out.2.2.1 B, Mk.all H4.out.2.2.2.1 B, Shp.all H4.out.2.2.2.2 B⟩
  clear H4
  clear B
  go_wp2_with (first | (refine sh_loadg rfl rfl H5.out.2.2.1 ?_) | (refine sh_loadg rfl rfl H5.out.2.2.2.2 ?_))
  refine (shop_mark (mk_rep H5.out.2.2.2.1) 1 hD (by omega) (by omega)).mono ?_
  rintro e W6 ⟨rfl, Y, C⟩
  have Z5 : Hid (W5.heap.size ≤ W6.heap.size) := C.size
  have H6 : Hid (Below w.heap.size w W6 ∧ Mk w.heap.size W6 MW D0 ∧ Shp W6 bw MW D0 ∧ shopK.hld W6 (Has MG) (sv MG D0) D0 1 ∧ Shp W6 bg MG D0) := ⟨Chg.under C H5.out.1 (fun j e => by have := IMG.out j e; have := Z0.out; have := Z1.out; have := Z2.out; have := Z3.out; have := Z4.out; have := Z5.out; omega) H5.out.1.size, Mk.chg H5.out.2.1 C (fun j e e' => by have := IMW.out j e; have := IMG.out j e'; have := Z0.out; have := Z1.out; have := Z2.out; have := Z3.out; have := Z4.out; have := Z5.out; omega), Shp.chg H5.out.2.2.1 C (fun e => by have := IMG.out _ e; have := Ibw.out; have := Z0.out; have := Z1.out; have := Z2.out; have := Z3.out; have := Z4.out; have := Z5.out; omega), Y, Shp.chg H5.out.2.2.2.2 C (fun e => by have := IMG.out _ e; have := Ibg.out; have := Z0.out; have := Z1.out; have := Z2.out; have := Z3.out; have := Z4.out; have := Z5.out; omega)⟩
  clear H5
  clear C
  clear Y
  go_wp2_with (first | (refine sh_loadg rfl rfl H6.out.2.2.1 ?_) | (refine sh_loadg rfl rfl H6.out.2.2.2.2 ?_))
  refine (shop_held H6.out.2.2.2.1 hD (by omega) (by omega)).mono ?_
  rintro e W7 ⟨rfl, B⟩
  have Z6 : Hid (W6.heap.size ≤ W7.heap.size) := B.size
  have H7 : Hid (Below w.heap.size w W7 ∧ Mk w.heap.size W7 MW D0 ∧ Shp W7 bw MW D0 ∧ shopK.hld W7 (Has MG) (sv MG D0) D0 1 ∧ Shp W7 bg MG D0) := ⟨below_call H6.out.1 H6.out.1.size B, Mk.all H6.out.2.1 B, Shp.all H6.out.2.2.1 B, Knd.hall H6.out.2.2.2.1 B, Shp.all H6.out.2.2.2.2 B⟩
  clear H6
  clear B
  have hq0 : ¬ (1 + ((shopK.slots D0 : Nat) : Int)) < 0 := by omega
  have hqe : ((1 + ((shopK.slots D0 : Nat) : Int)) != (1 + ((shopK.slots D0 : Nat) : Int))) = false := by simp
  go_wp2_with (first | (refine sh_loadg rfl rfl H7.out.2.2.1 ?_) | (refine sh_loadg rfl rfl H7.out.2.2.2.2 ?_))
  clear hq0 hqe
  refine (implNewShop p q _).mono ?_
  rw [← HD0.out, ← HD1.out]
  rintro e W8 ⟨MH, rfl, K, B⟩
  have IMH : Hid (∀ j, Has MH j → W7.heap.size ≤ j ∧ j < W8.heap.size) := fun j e => ⟨K.fre j e, K.own.lt j e⟩
  have Z7 : Hid (W7.heap.size ≤ W8.heap.size) := B.size
  have H8 : Hid (Below w.heap.size w W8 ∧ Mk w.heap.size W8 MW D0 ∧ Shp W8 bw MW D0 ∧ shopK.hld W8 (Has MG) (sv MG D0) D0 1 ∧ Shp W8 bg MG D0 ∧ Mk W7.heap.size W8 MH D0) := ⟨below_call H7.out.1 H7.out.1.size B, Mk.all H7.out.2.1 B, Shp.all H7.out.2.2.1 B, Knd.hall H7.out.2.2.2.1 B, Shp.all H7.out.2.2.2.2 B, K⟩
  clear H7
  clear B
  clear K
  go_wp2_with (first | (refine sh_loadg rfl rfl H8.out.2.2.1 ?_) | (refine sh_loadg rfl rfl H8.out.2.2.2.2.1 ?_) | (refine sh_new (L := MH) (d := D0) (fun _ => rfl) (fun _ => rfl) ?_))
  intro W9 bh e0 S0 B0
  have Ibh : Hid (W8.heap.size ≤ bh ∧ bh < W9.heap.size) := ⟨by show _ ≤ _; omega, S0.lt⟩
  clear e0
  have Z8 : Hid (W8.heap.size ≤ W9.heap.size) := B0.size
  have H9 : Hid (Below w.heap.size w W9 ∧ Mk w.heap.size W9 MW D0 ∧ Shp W9 bw MW D0 ∧ shopK.hld W9 (Has MG) (sv MG D0) D0 1 ∧ Shp W9 bg MG D0 ∧ Mk W7.heap.size W9 MH D0 ∧ Shp W9 bh MH D0) := ⟨below_call H8.out.1 H8.out.1.size B0, Mk.all H8.out.2.1 B0, Shp.all H8.out.2.2.1 B0, Knd.hall H8.out.2.2.2.1 B0, Shp.all H8.out.2.2.2.2.1 B0, Mk.all H8.out.2.2.2.2.2 B0, S0⟩
  clear H8
  clear B0
  clear S0
  go_wp2_with (first | (refine sh_loadg rfl rfl H9.out.2.2.1 ?_) | (refine sh_loadg rfl rfl H9.out.2.2.2.2.1 ?_) | (refine sh_loadg rfl rfl H9.out.2.2.2.2.2.2 ?_))
  refine (shop_eq (mk_rep H9.out.2.2.2.2.2.1) (mk_rep H9.out.2.1) hD).mono ?_
  rintro e W10 ⟨rfl, B⟩
  have Z9 : Hid (W9.heap.size ≤ W10.heap.size) := B.size
  have H10 : Hid (Below w.heap.size w W10 ∧ Mk w.heap.size W10 MW D0 ∧ Shp W10 bw MW D0 ∧ shopK.hld W10 (Has MG) (sv MG D0) D0 1 ∧ Shp W10 bg MG D0 ∧ Mk W7.heap.size W10 MH D0 ∧ Shp W10 bh MH D0) := ⟨below_call H9.out.1 H9.out.1.size B, Mk.all H9.out.2.1 B, Shp.all H9.out.2.2.1 B, Knd.hall H9.out.2.2.2.1 B, Shp.all H9.out.2.2.2.2.1 B, Mk.all H9.out.2.2.2.2.2.1 B, Shp.all H9.out.2.2.2.2.2.2 B⟩
  clear H9
  clear B
  go_wp2_with (first | (refine sh_loadg rfl rfl H10.out.2.2.1 ?_) | (refine sh_loadg rfl rfl H10.out.2.2.2.2.1 ?_) | (refine sh_loadg rfl rfl H10.out.2.2.2.2.2.2 ?_))
  refine (shop_held H10.out.2.2.2.1 hD (by omega) (by omega)).mono ?_
  rintro e W11 ⟨rfl, B⟩
  have Z10 : Hid (W10.heap.size ≤ W11.heap.size) := B.size
  have H11 : Hid (Below w.heap.size w W11 ∧ Mk w.heap.size W11 MW D0 ∧ Shp W11 bw MW D0 ∧ shopK.hld W11 (Has MG) (sv MG D0) D0 1 ∧ Shp W11 bg MG D0 ∧ Mk W7.heap.size W11 MH D0 ∧ Shp W11 bh MH D0) := ⟨below_call H10.out.1 H10.out.1.size B, Mk.all H10.out.2.1 B, Shp.all H10.out.2.2.1 B, Knd.hall H10.out.2.2.2.1 B, Shp.all H10.out.2.2.2.2.1 B, Mk.all H10.out.2.2.2.2.2.1 B, Shp.all H10.out.2.2.2.2.2.2 B⟩
  clear H10
  clear B
  have hq0 : ¬ (1 + ((shopK.slots D0 : Nat) : Int)) < 0 := by omega
  have hqe : ((1 + ((shopK.slots D0 : Nat) : Int)) != (1 + ((shopK.slots D0 : Nat) : Int))) = false := by simp
  go_wp2_with (first | (refine sh_loadg rfl rfl H11.out.2.2.1 ?_) | (refine sh_loadg rfl rfl H11.out.2.2.2.2.1 ?_) | (refine sh_loadg rfl rfl H11.out.2.2.2.2.2.2 ?_))
  go_ret
  exact ⟨rfl, H11.out.1⟩

end Go.Proofs.Ytcmeimfjedakeaa.Crew
