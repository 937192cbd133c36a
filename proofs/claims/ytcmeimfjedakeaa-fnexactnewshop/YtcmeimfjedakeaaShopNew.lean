/-
  NewShop, spec's and impl's. (Written by wip/tools/gen_shopnew.py.)
-/
import Derived.Test.YtcmeimfjedakeaaShopNewS
import Derived.Test.YtcmeimfjedakeaaShopOkI
namespace Go.Proofs.Ytcmeimfjedakeaa.Crew
open Go.ChangeShapes Go.WideShapes Go.ChangeAt Go.RowKit

/-- What NewShop answers. -/
def newOf (p q : Int) : SD := if shopOk (newD p q) then newD p q else SD.zero

theorem newOf_yes {p q : Int} (h : shopOk (newD p q) = true) : newOf p q = newD p q := by rw [newOf, if_pos h]

theorem new_small (p q : Int) : Small10 (newOf p q) := by
  have z : (((0 : Nat)) : Int) ≤ 1048576 := by decide
  rw [newOf]
  split <;> exact ⟨z, z, z, z, z, z, z, z, z, z⟩

theorem newOf_no {p q : Int} (h : shopOk (newD p q) = false) : newOf p q = SD.zero := by rw [newOf, if_neg (by rw [h]; decide)]

set_option maxRecDepth 100000 in
set_option maxHeartbeats 8000000 in
theorem specNewShop (p q : Int) (w : World) :
    Calls Try.prog 10 #[.int .i64 p, .int .i64 q] w (ShPost2 (newOf p q) (.bool (shopOk (newD p q))) w) := by
  cases h : shopOk (newD p q)
  · have HF : Hid (shopOk (newD p q) = false ∧ newOf p q = SD.zero) := ⟨h, newOf_no h⟩
    rw [HF.out.2]
    clear h
    go_enter Try.func10, Try.ntmps10
    go_wp2_with (refine sh_alloc ?_)
    intro W1 b1 e1 S1 B1
    have HA : Hid (Bag w W1 [(b1, zl, SD.zero)]) := (bag_nil w).add B1 e1 S1
    clear e1 S1 B1
    go_wp2_with (refine sh_alloc ?_)
    intro W2 b2 e2 S2 B2
    have HB : Hid (Bag w W2 [(b1, zl, SD.zero), (b2, zl, SD.zero)]) := HA.out.add B2 e2 S2
    clear e2 S2 B2 HA
    go_wp2_with (refine sh_store (L := zl) (d := newD p q) rfl rfl (HB.out.get 1 rfl) ?_)
    intro W3 S3 G3
    have HC : Hid (Bag w W3 [(b1, zl, SD.zero), (b2, zl, newD p q)]) := HB.out.put 1 rfl S3 G3
    clear S3 G3 HB
    go_wp2_with (refine sh_loadg rfl rfl (HC.out.get 1 rfl) ?_)
    refine (specShopOk zl (newD p q) _ (own_zl W3 p q).rd short_zl).mono ?_
    rw [HF.out.1]
    rintro e W4 ⟨rfl, B4⟩
    have HD : Hid (Bag w W4 [(b1, zl, SD.zero), (b2, zl, newD p q)]) := HC.out.all B4
    clear HC B4
    go_wp2_with (refine sh_store (L := zl) (d := SD.zero) rfl rfl (HD.out.get 0 rfl) ?_)
    intro W5 S5 G5
    have HE : Hid (Bag w W5 [(b1, zl, SD.zero), (b2, zl, newD p q)]) := HD.out.put 0 rfl S5 G5
    clear S5 G5 HD
    go_wp2_with fail
    exact bodyPost_ret (ret_shop2 rfl rfl rfl (HE.out.get 0 rfl)) rfl ⟨zl, rfl, mk_zl _ _ _ _ _ _ _ _ _, HE.out.bel⟩
  · have HF : Hid (shopOk (newD p q) = true ∧ newOf p q = newD p q) := ⟨h, newOf_yes h⟩
    rw [HF.out.2]
    clear h
    go_enter Try.func10, Try.ntmps10
    go_wp2_with (refine sh_alloc ?_)
    intro W1 b1 e1 S1 B1
    have HA : Hid (Bag w W1 [(b1, zl, SD.zero)]) := (bag_nil w).add B1 e1 S1
    clear e1 S1 B1
    go_wp2_with (refine sh_alloc ?_)
    intro W2 b2 e2 S2 B2
    have HB : Hid (Bag w W2 [(b1, zl, SD.zero), (b2, zl, SD.zero)]) := HA.out.add B2 e2 S2
    clear e2 S2 B2 HA
    go_wp2_with (refine sh_store (L := zl) (d := newD p q) rfl rfl (HB.out.get 1 rfl) ?_)
    intro W3 S3 G3
    have HC : Hid (Bag w W3 [(b1, zl, SD.zero), (b2, zl, newD p q)]) := HB.out.put 1 rfl S3 G3
    clear S3 G3 HB
    go_wp2_with (refine sh_loadg rfl rfl (HC.out.get 1 rfl) ?_)
    refine (specShopOk zl (newD p q) _ (own_zl W3 p q).rd short_zl).mono ?_
    rw [HF.out.1]
    rintro e W4 ⟨rfl, B4⟩
    have HD : Hid (Bag w W4 [(b1, zl, SD.zero), (b2, zl, newD p q)]) := HC.out.all B4
    clear HC B4
    go_wp2_with (first | (refine sh_loadg rfl rfl (HD.out.get 1 rfl) ?_) | (refine sh_store (L := zl) (d := newD p q) rfl rfl (HD.out.get 0 rfl) ?_))
    intro W5 S5 G5
    have HE : Hid (Bag w W5 [(b1, zl, newD p q), (b2, zl, newD p q)]) := HD.out.put 0 rfl S5 G5
    clear S5 G5 HD
    go_wp2_with fail
    exact bodyPost_ret (ret_shop2 rfl rfl rfl (HE.out.get 0 rfl)) rfl ⟨zl, rfl, mk_zl _ _ _ _ _ _ _ _ _, HE.out.bel⟩

set_option maxRecDepth 100000 in
set_option maxHeartbeats 8000000 in
theorem implNewShop (p q : Int) (w : World) :
    Calls Try.prog 11 #[.int .i64 p, .int .i64 q] w (ShPost2 (newOf p q) (.bool (shopOk (newD p q))) w) := by
  cases h : shopOk (newD p q)
  · have HF : Hid (shopOk (newD p q) = false ∧ newOf p q = SD.zero) := ⟨h, newOf_no h⟩
    rw [HF.out.2]
    clear h
    go_enter Try.func11, Try.ntmps11
    go_wp2_with (refine sh_alloc ?_)
    intro W1 b1 e1 S1 B1
    have HA : Hid (Bag w W1 [(b1, zl, SD.zero)]) := (bag_nil w).add B1 e1 S1
    clear e1 S1 B1
    go_wp2_with (refine sh_alloc ?_)
    intro W2 b2 e2 S2 B2
    have HB : Hid (Bag w W2 [(b1, zl, SD.zero), (b2, zl, SD.zero)]) := HA.out.add B2 e2 S2
    clear e2 S2 B2 HA
    go_wp2_with (refine sh_store (L := zl) (d := newD p q) rfl rfl (HB.out.get 1 rfl) ?_)
    intro W3 S3 G3
    have HC : Hid (Bag w W3 [(b1, zl, SD.zero), (b2, zl, newD p q)]) := HB.out.put 1 rfl S3 G3
    clear S3 G3 HB
    go_wp2_with (refine sh_loadg rfl rfl (HC.out.get 1 rfl) ?_)
    refine (implShopOk zl (newD p q) _ (own_zl W3 p q).rd short_zl).mono ?_
    rw [HF.out.1]
    rintro e W4 ⟨rfl, B4⟩
    have HD : Hid (Bag w W4 [(b1, zl, SD.zero), (b2, zl, newD p q)]) := HC.out.all B4
    clear HC B4
    go_wp2_with (refine sh_store (L := zl) (d := SD.zero) rfl rfl (HD.out.get 0 rfl) ?_)
    intro W5 S5 G5
    have HE : Hid (Bag w W5 [(b1, zl, SD.zero), (b2, zl, newD p q)]) := HD.out.put 0 rfl S5 G5
    clear S5 G5 HD
    go_wp2_with fail
    exact bodyPost_ret (ret_shop2 rfl rfl rfl (HE.out.get 0 rfl)) rfl ⟨zl, rfl, mk_zl _ _ _ _ _ _ _ _ _, HE.out.bel⟩
  · have HF : Hid (shopOk (newD p q) = true ∧ newOf p q = newD p q) := ⟨h, newOf_yes h⟩
    rw [HF.out.2]
    clear h
    go_enter Try.func11, Try.ntmps11
    go_wp2_with (refine sh_alloc ?_)
    intro W1 b1 e1 S1 B1
    have HA : Hid (Bag w W1 [(b1, zl, SD.zero)]) := (bag_nil w).add B1 e1 S1
    clear e1 S1 B1
    go_wp2_with (refine sh_alloc ?_)
    intro W2 b2 e2 S2 B2
    have HB : Hid (Bag w W2 [(b1, zl, SD.zero), (b2, zl, SD.zero)]) := HA.out.add B2 e2 S2
    clear e2 S2 B2 HA
    go_wp2_with (refine sh_store (L := zl) (d := newD p q) rfl rfl (HB.out.get 1 rfl) ?_)
    intro W3 S3 G3
    have HC : Hid (Bag w W3 [(b1, zl, SD.zero), (b2, zl, newD p q)]) := HB.out.put 1 rfl S3 G3
    clear S3 G3 HB
    go_wp2_with (refine sh_loadg rfl rfl (HC.out.get 1 rfl) ?_)
    refine (implShopOk zl (newD p q) _ (own_zl W3 p q).rd short_zl).mono ?_
    rw [HF.out.1]
    rintro e W4 ⟨rfl, B4⟩
    have HD : Hid (Bag w W4 [(b1, zl, SD.zero), (b2, zl, newD p q)]) := HC.out.all B4
    clear HC B4
    go_wp2_with (first | (refine sh_loadg rfl rfl (HD.out.get 1 rfl) ?_) | (refine sh_store (L := zl) (d := newD p q) rfl rfl (HD.out.get 0 rfl) ?_))
    intro W5 S5 G5
    have HE : Hid (Bag w W5 [(b1, zl, newD p q), (b2, zl, newD p q)]) := HD.out.put 0 rfl S5 G5
    clear S5 G5 HD
    go_wp2_with fail
    exact bodyPost_ret (ret_shop2 rfl rfl rfl (HE.out.get 0 rfl)) rfl ⟨zl, rfl, mk_zl _ _ _ _ _ _ _ _ _, HE.out.bel⟩

end Go.Proofs.Ytcmeimfjedakeaa.Crew
