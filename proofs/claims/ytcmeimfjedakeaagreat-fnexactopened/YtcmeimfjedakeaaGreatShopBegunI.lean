/-
  What an epoch begins with. (Written by wip/tools/gen_shopreop.py.)
-/
import Derived.Test.YtcmeimfjedakeaaGreatShopRightI
import Derived.Test.YtcmeimfjedakeaaGreatManyNewS
import Derived.Test.YtcmeimfjedakeaaGreatSmoothAns
import Derived.Test.YtcmeimfjedakeaaGreatListNew
namespace Go.Proofs.YtcmeimfjedakeaaGreat.Crew
open Go.ChangeShapes Go.WideShapes Go.ChangeAt Go.RowKit

/-- The beginning of an epoch. -/
def epo (d : SD) : SD := ⟨d.p, d.q, d.t, rdyL d.t, cw d.t (rdyL d.t), [], [], [], [], [], 0, 0, [], [], 0, 0, d.w⟩

/-- .. where there are Members. -/
def epoN (d : SD) : SD := { epo d with n := List.replicate (rdyL d.t).length 0 }

def epoch (d : SD) : SD :=
  if (rdyL d.t).length = 0 then epo d
  else if d.p = 1 then { epoN d with s := newC (cw d.t (rdyL d.t)), r := newR (cw d.t (rdyL d.t)) }
  else if d.p = 3 then { epoN d with l := newC (cw d.t (rdyL d.t)), h := newR (cw d.t (rdyL d.t)) }
  else if d.p = 5 then { epoN d with y := nmS (adjusted (cw d.t (rdyL d.t)) d.q) d.q, z := nmN (adjusted (cw d.t (rdyL d.t)) d.q) d.q, yq := nmQ (adjusted (cw d.t (rdyL d.t)) d.q) d.q }
  else epoN d

/-- What Reopened answers. -/
def reopD (d : SD) : SD := if outerB d then epoch d else SD.zero

theorem rdy_len (t : List Tsk) : (rdyL t).length ≤ 24 := by
  rw [rdyL]
  split
  · rename_i h
    have := rdyTo_len t t.length
    have h2 : t.length ≤ 24 := by
      simp only [tasksOk, Bool.and_eq_true, decide_eq_true_eq] at h
      exact h.2
    omega
  · simp

theorem nm_lens (ps : List Shr) (q : Int) : (nmS ps q).length ≤ ps.length ∧ (nmN ps q).length ≤ ps.length := by
  rw [nmS, nmN]
  split <;> simp

theorem reop_small {d : SD} (h : Small10 d) : Small10 (reopD d) := by
  have ht := h.1
  have l1 := rdy_len d.t
  have l2 : (cw d.t (rdyL d.t)).length ≤ 24 := by rw [cw_len]; exact l1
  have l3 := newC_len (cw d.t (rdyL d.t))
  have l4 := newR_len (cw d.t (rdyL d.t))
  have l5 := adjusted_len (cw d.t (rdyL d.t)) d.q
  have l6 := nm_lens (adjusted (cw d.t (rdyL d.t)) d.q) d.q
  have l7 : (List.replicate (rdyL d.t).length (0 : Int)).length ≤ 24 := by rw [List.length_replicate]; exact l1
  have z : ∀ n : Nat, n ≤ 24 → (n : Int) ≤ 1048576 := fun n hn => by omega
  have z0 : ((([] : List Int).length : Nat) : Int) ≤ 1048576 := by simp
  have z1 : ((([] : List Shr).length : Nat) : Int) ≤ 1048576 := by simp
  have z2 : ((([] : List Tsk).length : Nat) : Int) ≤ 1048576 := by simp
  rw [reopD]
  split
  · rw [epoch]
    split
    · exact ⟨ht, z _ l1, z _ l2, z0, z0, z0, z0, z0, z1, z0⟩
    · split
      · exact ⟨ht, z _ l1, z _ l2, z _ l7, z _ l3, z _ l4, z0, z0, z1, z0⟩
      · split
        · exact ⟨ht, z _ l1, z _ l2, z _ l7, z0, z0, z _ l3, z _ l4, z1, z0⟩
        · split
          · exact ⟨ht, z _ l1, z _ l2, z _ l7, z0, z0, z0, z0, z _ (Nat.le_trans l6.1 l5), z _ (Nat.le_trans l6.2 l5)⟩
          · exact ⟨ht, z _ l1, z _ l2, z _ l7, z0, z0, z0, z0, z1, z0⟩
  · exact ⟨z2, z0, z0, z0, z0, z0, z0, z0, z1, z0⟩

theorem rdyTo_there {t : List Tsk} (k : Nat) (hk : k ≤ t.length) : ∀ x ∈ rdyTo t k, 0 ≤ findT t x := by
  induction k with
  | zero => intro x hx; cases hx
  | succ k ih =>
    intro x hx
    rw [rdyTo] at hx
    split at hx
    · rcases List.mem_append.1 hx with h | h
      · exact ih (by omega) x h
      · rw [List.mem_singleton] at h
        exact findT_has (j := k) (by omega) h.symm
    · exact ih (by omega) x hx

theorem rdy_there {t : List Tsk} {x : Int} (h : x ∈ rdyL t) : 0 ≤ findT t x := by
  rw [rdyL] at h
  split at h
  · exact rdyTo_there _ (Nat.le_refl _) x h
  · cases h

theorem members_there {t : List Tsk} {m : List Int} (h : m = rdyL t) {k : Nat} (hk : k < m.length) : 0 ≤ findT t (m.getD k 0) := by
  refine rdy_there (t := t) ?_
  rw [← h, show m.getD k 0 = m[k] by simp [List.getD, hk]]
  exact List.getElem_mem hk

theorem Bag.get0 {w0 X : World} {b : Nat} {L : LT} {d : SD} {r : List (Nat × LT × SD)} (h : Bag w0 X ((b, L, d) :: r)) : Shp X b L d := h.get 0 rfl

end Go.Proofs.YtcmeimfjedakeaaGreat.Crew

/-
  impl's begun of each way. (Written by wip/tools/gen_shopreop.py.)
-/
namespace Go.Proofs.YtcmeimfjedakeaaGreat.Crew
open Go.ChangeShapes Go.WideShapes Go.ChangeAt Go.RowKit

set_option maxRecDepth 100000 in
set_option maxHeartbeats 8000000 in
theorem bg_one (M : LT) (D : SD) (w : World) (O : Own w M D) (P : Parts M) (hc : (M.c.n : Int) ≤ 1048576) :
    Calls Tryz.prog 208 #[.agg #[], sv M D] w (BgPost M { D with n := List.replicate M.c.n 0 } w) := by
  have HO : Hid (Own w M D ∧ Parts M) := ⟨O, P⟩
  have HC : Hid ((M.c.n : Int) ≤ 1048576) := hc
  clear O P
  go_enter Tryz.func208, Tryz.ntmps208
  go_wp2_with (refine sh_box rfl ?_)
  intro W1 b1 e1 S1 B1
  have HA : Hid (Wkb (Has M) w W1 [(b1, M, D)] M D) := ((wkb_in HO.out.1 HO.out.2).all (below_new _ _)).add B1 e1 S1
  clear e1 S1 B1
  go_wp2_with (refine sh_alloc ?_)
  intro W2 b2 e2 S2 B2
  have HB : Hid (Wkb (Has M) w W2 [(b1, M, D), (b2, zl, SD.zero)] M D) := HA.out.add B2 e2 S2
  clear e2 S2 B2 HA
  have q4 := (HB.out.bag.get 0 rfl).bx.shop.2.2.2.2.1
  have hm := made_ints M.c.n HC.out W2
  go_wp2_with (refine sh_set_n rfl rfl ((HB.out.bag.get 0 rfl).all (below_new _ _)) ?_)
  intro W3 S3 G3
  have HD : Hid (Wkb (Has M) w (W2.alloc (.cells (zeros M.c.n) 2)) [(b1, M, D), (b2, zl, SD.zero)] { M with n := ⟨some ⟨W2.heap.size, 0, none⟩, M.c.n, M.c.n⟩ } { D with n := List.replicate M.c.n 0 }) := HB.out.put_n (below_new _ _) (N := ⟨some ⟨W2.heap.size, 0, none⟩, M.c.n, M.c.n⟩) (Row.fit (row_zeros W2 M.c.n HC.out) (Nat.le_refl _) (List.length_replicate ..))
  have HE1 : Hid (Wkb (Has M) w W3 [(b1, { M with n := ⟨some ⟨W2.heap.size, 0, none⟩, M.c.n, M.c.n⟩ }, { D with n := List.replicate M.c.n 0 }), (b2, zl, SD.zero)] { M with n := ⟨some ⟨W2.heap.size, 0, none⟩, M.c.n, M.c.n⟩ } { D with n := List.replicate M.c.n 0 }) := HD.out.put 0 rfl S3 G3
  clear S3 G3 HD HB q4 hm
  obtain ⟨M1, hM1⟩ : ∃ M' : LT, M' = { M with n := ⟨some ⟨W2.heap.size, 0, none⟩, M.c.n, M.c.n⟩ } := ⟨_, rfl⟩
  obtain ⟨D1, hD1⟩ : ∃ D' : SD, D' = { D with n := List.replicate M.c.n 0 } := ⟨_, rfl⟩
  rw [← hM1, ← hD1] at HE1
  have HE : Hid (D1 = { D with n := List.replicate M.c.n 0 }) := hD1
  clear hM1 hD1
  go_wp2_with (first | (refine sh_loadg rfl rfl (HE1.out.bag.get 0 rfl) ?_) | (refine sh_store (L := M1) (d := D1) rfl rfl (HE1.out.bag.get 1 rfl) ?_))
  intro WZ SZ GZ
  have HZ : Hid (Wkb (Has M) w WZ [(b1, M1, D1), (b2, M1, D1)] M1 D1) := HE1.out.put 1 rfl SZ GZ
  clear SZ GZ HE1
  go_wp2_with fail
  exact bodyPost_ret (ret_shop rfl rfl (HZ.out.bag.get 1 rfl)) rfl ⟨M1, by rw [HE.out], by rw [← HE.out]; exact HZ.out.own, HZ.out.par, HZ.out.frm, HZ.out.bag.bel⟩

set_option maxRecDepth 100000 in
set_option maxHeartbeats 8000000 in
theorem bg_smooth (M : LT) (D : SD) (w : World) (O : Own w M D) (P : Parts M) (hc : (M.c.n : Int) ≤ 1048576) :
    Calls Tryz.prog 214 #[.agg #[], sv M D] w (BgPost M { D with n := List.replicate M.c.n 0, s := newC D.c, r := newR D.c } w) := by
  have HO : Hid (Own w M D ∧ Parts M) := ⟨O, P⟩
  have HC : Hid ((M.c.n : Int) ≤ 1048576) := hc
  clear O P
  go_enter Tryz.func214, Tryz.ntmps214
  go_wp2_with (refine sh_box rfl ?_)
  intro W1 b1 e1 S1 B1
  have hz : W1.heap[w.heap.size]? = some (.cells #[] 126 (0, 0)) := by rw [B1.block _ (by simp)]; exact heap_alloc_new w _
  have HA : Hid (Wkb (Has M) w W1 [(b1, M, D)] M D) := ((wkb_in HO.out.1 HO.out.2).all (below_new _ _)).add B1 e1 S1
  clear e1 S1 B1
  go_wp2_with (refine sh_alloc ?_)
  intro W2 b2 e2 S2 B2
  have HB : Hid (Wkb (Has M) w W2 [(b1, M, D), (b2, zl, SD.zero)] M D) := HA.out.add B2 e2 S2
  have fp := part_zero (w := W2) (by rw [B2.block _ (by have := (Array.getElem?_eq_some_iff.1 hz).1; omega)]; exact hz) (by kernel_rfl : Tryz.prog.cellsOf 126 = 0)
  clear hz
  clear e2 S2 B2 HA
  go_wp2_with (refine sh_loadg rfl rfl (HB.out.bag.get 0 rfl) ?_)
  refine (bg_one M D _ HB.out.own HB.out.par HC.out).mono ?_
  rintro e W3 ⟨M1, rfl, O1, P1, f1, B1⟩
  have HD : Hid (Wkb (Has M) w W3 [(b1, M, D), (b2, zl, SD.zero)] M1 { D with n := List.replicate M.c.n 0 }) := HB.out.begun B1 O1 P1 f1
  clear O1 P1 f1 B1 HB fp
  obtain ⟨D1, hD1⟩ : ∃ D' : SD, D' = { D with n := List.replicate M.c.n 0 } := ⟨_, rfl⟩
  rw [← hD1] at HD ⊢
  have HD1 : Hid (D1 = { D with n := List.replicate M.c.n 0 }) := hD1
  clear hD1
  go_wp2_with (refine sh_store (L := M1) (d := D1) rfl rfl (HD.out.bag.get 0 rfl) ?_)
  intro W4 S4 G4
  have HF : Hid (Wkb (Has M) w W4 [(b1, M1, D1), (b2, zl, SD.zero)] M1 D1) := HD.out.put 0 rfl S4 G4
  clear S4 G4 HD
  have q4 := (HF.out.bag.get 0 rfl).bx.shop.2.2.2.2.1
  have J : Ints W4 M1.c.a M1.c.n D.c := by have := HF.out.own.c.ints; rw [HD1.out] at this; exact this
  have HJ : Hid (Ints W4 M1.c.a M1.c.n D.c) := J
  clear J
  go_wp2_with fail
  refine (implNew M1.c.a M1.c.n M1.c.c D.c _ HJ.out).mono ?_
  rintro e W5 ⟨v1, l1, k1, v2, l2, k2, rfl, F1, F2, AP, BA⟩
  have HG : Hid (Wkb (Has M) w W5 [(b1, M1, D1), (b2, zl, SD.zero)] { M1 with s := ⟨v1, l1, k1⟩, r := ⟨v2, l2, k2⟩ } { D1 with s := newC D.c, r := newR D.c }) := HF.out.put_sr BA (N := ⟨v1, l1, k1⟩) (N2 := ⟨v2, l2, k2⟩) F1 F2 AP
  clear F1 F2 AP BA HF q4
  go_wp2_with (refine sh_set_sm rfl rfl (HG.out.bag.get 0 rfl) ?_)
  intro W6 S6 G6
  have HH : Hid (Wkb (Has M) w W6 [(b1, { M1 with s := ⟨v1, l1, k1⟩, r := ⟨v2, l2, k2⟩ }, { D1 with s := newC D.c, r := newR D.c }), (b2, zl, SD.zero)] { M1 with s := ⟨v1, l1, k1⟩, r := ⟨v2, l2, k2⟩ } { D1 with s := newC D.c, r := newR D.c }) := HG.out.put 0 rfl S6 G6
  clear S6 G6 HG
  obtain ⟨M5, hM5⟩ : ∃ M' : LT, M' = { M1 with s := ⟨v1, l1, k1⟩, r := ⟨v2, l2, k2⟩ } := ⟨_, rfl⟩
  obtain ⟨D5, hD5⟩ : ∃ D' : SD, D' = { D1 with s := newC D.c, r := newR D.c } := ⟨_, rfl⟩
  rw [← hM5, ← hD5] at HH
  have HE : Hid (D5 = { D with n := List.replicate M.c.n 0, s := newC D.c, r := newR D.c }) := by show _ = _; rw [hD5, HD1.out]
  clear hM5 hD5
  go_wp2_with (first | (refine sh_loadg rfl rfl (HH.out.bag.get 0 rfl) ?_) | (refine sh_store (L := M5) (d := D5) rfl rfl (HH.out.bag.get 1 rfl) ?_))
  intro WZ SZ GZ
  have HZ : Hid (Wkb (Has M) w WZ [(b1, M5, D5), (b2, M5, D5)] M5 D5) := HH.out.put 1 rfl SZ GZ
  clear SZ GZ HH
  go_wp2_with fail
  exact bodyPost_ret (ret_shop rfl rfl (HZ.out.bag.get 1 rfl)) rfl ⟨M5, by rw [HE.out], by rw [← HE.out]; exact HZ.out.own, HZ.out.par, HZ.out.frm, HZ.out.bag.bel⟩

set_option maxRecDepth 100000 in
set_option maxHeartbeats 8000000 in
theorem bg_list (M : LT) (D : SD) (w : World) (O : Own w M D) (P : Parts M) (hc : (M.c.n : Int) ≤ 1048576) :
    Calls Tryz.prog 219 #[.agg #[], sv M D] w (BgPost M { D with n := List.replicate M.c.n 0, l := newC D.c, h := newR D.c, lt := 0, la := 0 } w) := by
  have HO : Hid (Own w M D ∧ Parts M) := ⟨O, P⟩
  have HC : Hid ((M.c.n : Int) ≤ 1048576) := hc
  clear O P
  go_enter Tryz.func219, Tryz.ntmps219
  go_wp2_with (refine sh_box rfl ?_)
  intro W1 b1 e1 S1 B1
  have hz : W1.heap[w.heap.size]? = some (.cells #[] 127 (0, 0)) := by rw [B1.block _ (by simp)]; exact heap_alloc_new w _
  have HA : Hid (Wkb (Has M) w W1 [(b1, M, D)] M D) := ((wkb_in HO.out.1 HO.out.2).all (below_new _ _)).add B1 e1 S1
  clear e1 S1 B1
  go_wp2_with (refine sh_alloc ?_)
  intro W2 b2 e2 S2 B2
  have HB : Hid (Wkb (Has M) w W2 [(b1, M, D), (b2, zl, SD.zero)] M D) := HA.out.add B2 e2 S2
  have fp := part_zero (w := W2) (by rw [B2.block _ (by have := (Array.getElem?_eq_some_iff.1 hz).1; omega)]; exact hz) (by kernel_rfl : Tryz.prog.cellsOf 127 = 0)
  clear hz
  clear e2 S2 B2 HA
  go_wp2_with (refine sh_loadg rfl rfl (HB.out.bag.get 0 rfl) ?_)
  refine (bg_one M D _ HB.out.own HB.out.par HC.out).mono ?_
  rintro e W3 ⟨M1, rfl, O1, P1, f1, B1⟩
  have HD : Hid (Wkb (Has M) w W3 [(b1, M, D), (b2, zl, SD.zero)] M1 { D with n := List.replicate M.c.n 0 }) := HB.out.begun B1 O1 P1 f1
  clear O1 P1 f1 B1 HB fp
  obtain ⟨D1, hD1⟩ : ∃ D' : SD, D' = { D with n := List.replicate M.c.n 0 } := ⟨_, rfl⟩
  rw [← hD1] at HD ⊢
  have HD1 : Hid (D1 = { D with n := List.replicate M.c.n 0 }) := hD1
  clear hD1
  go_wp2_with (refine sh_store (L := M1) (d := D1) rfl rfl (HD.out.bag.get 0 rfl) ?_)
  intro W4 S4 G4
  have HF : Hid (Wkb (Has M) w W4 [(b1, M1, D1), (b2, zl, SD.zero)] M1 D1) := HD.out.put 0 rfl S4 G4
  clear S4 G4 HD
  have q4 := (HF.out.bag.get 0 rfl).bx.shop.2.2.2.2.1
  have J : Ints W4 M1.c.a M1.c.n D.c := by have := HF.out.own.c.ints; rw [HD1.out] at this; exact this
  have HJ : Hid (Ints W4 M1.c.a M1.c.n D.c) := J
  clear J
  go_wp2_with fail
  refine (implNewL M1.c.a M1.c.n M1.c.c D.c _ HJ.out).mono ?_
  rintro e W5 ⟨v1, l1, k1, v2, l2, k2, rfl, F1, F2, AP, BA⟩
  have HG : Hid (Wkb (Has M) w W5 [(b1, M1, D1), (b2, zl, SD.zero)] { M1 with l := ⟨v1, l1, k1⟩, h := ⟨v2, l2, k2⟩ } { D1 with l := newC D.c, h := newR D.c }) := HF.out.put_lh BA (N := ⟨v1, l1, k1⟩) (N2 := ⟨v2, l2, k2⟩) F1 F2 AP
  clear F1 F2 AP BA HF q4
  go_wp2_with (refine sh_set_ls rfl rfl (HG.out.bag.get 0 rfl) ?_)
  intro W6 S6 G6
  have HH : Hid (Wkb (Has M) w W6 [(b1, { M1 with l := ⟨v1, l1, k1⟩, h := ⟨v2, l2, k2⟩ }, { D1 with l := newC D.c, h := newR D.c, lt := 0, la := 0 }), (b2, zl, SD.zero)] { M1 with l := ⟨v1, l1, k1⟩, h := ⟨v2, l2, k2⟩ } { D1 with l := newC D.c, h := newR D.c, lt := 0, la := 0 }) := (HG.out.nums D1.p D1.q 0 0 D1.yq D1.yt D1.w).put 0 rfl S6 G6
  clear S6 G6 HG
  obtain ⟨M5, hM5⟩ : ∃ M' : LT, M' = { M1 with l := ⟨v1, l1, k1⟩, h := ⟨v2, l2, k2⟩ } := ⟨_, rfl⟩
  obtain ⟨D5, hD5⟩ : ∃ D' : SD, D' = { D1 with l := newC D.c, h := newR D.c, lt := 0, la := 0 } := ⟨_, rfl⟩
  rw [← hM5, ← hD5] at HH
  have HE : Hid (D5 = { D with n := List.replicate M.c.n 0, l := newC D.c, h := newR D.c, lt := 0, la := 0 }) := by show _ = _; rw [hD5, HD1.out]
  clear hM5 hD5
  go_wp2_with (first | (refine sh_loadg rfl rfl (HH.out.bag.get 0 rfl) ?_) | (refine sh_store (L := M5) (d := D5) rfl rfl (HH.out.bag.get 1 rfl) ?_))
  intro WZ SZ GZ
  have HZ : Hid (Wkb (Has M) w WZ [(b1, M5, D5), (b2, M5, D5)] M5 D5) := HH.out.put 1 rfl SZ GZ
  clear SZ GZ HH
  go_wp2_with fail
  exact bodyPost_ret (ret_shop rfl rfl (HZ.out.bag.get 1 rfl)) rfl ⟨M5, by rw [HE.out], by rw [← HE.out]; exact HZ.out.own, HZ.out.par, HZ.out.frm, HZ.out.bag.bel⟩

set_option maxRecDepth 100000 in
set_option maxHeartbeats 8000000 in
theorem bg_many (M : LT) (D : SD) (w : World) (O : Own w M D) (P : Parts M) (hc : (M.c.n : Int) ≤ 1048576) :
    Calls Tryz.prog 223 #[.agg #[], sv M D] w (BgPost M { D with y := nmS (adjusted D.c D.q) D.q, z := nmN (adjusted D.c D.q) D.q, yq := nmQ (adjusted D.c D.q) D.q, yt := 0, n := nmN (adjusted D.c D.q) D.q } w) := by
  have HO : Hid (Own w M D ∧ Parts M) := ⟨O, P⟩
  have HC : Hid ((M.c.n : Int) ≤ 1048576) := hc
  clear O P
  go_enter Tryz.func223, Tryz.ntmps223
  go_wp2_with (refine sh_box rfl ?_)
  intro W1 b1 e1 S1 B1
  have HA : Hid (Wkb (Has M) w W1 [(b1, M, D)] M D) := ((wkb_in HO.out.1 HO.out.2).all (below_new _ _)).add B1 e1 S1
  clear e1 S1 B1
  go_wp2_with (refine sh_alloc ?_)
  intro W2 b2 e2 S2 B2
  have HB : Hid (Wkb (Has M) w W2 [(b1, M, D), (b2, zl, SD.zero)] M D) := HA.out.add B2 e2 S2
  clear e2 S2 B2 HA
  go_wp2_with fail
  have HD0 : Hid (Wkb (Has M) w W2.drew [(b1, M, D), (b2, zl, SD.zero)] M D) := HB.out.drew
  have HJ : Hid (Ints W2.drew M.c.a M.c.n D.c) := HD0.out.own.c.ints
  clear HB
  refine wp_region_held_drew (S := fun W => W.cell? ⟨b1, 1, none⟩ = some (.int .i64 D.q) ∧ W.cell? ⟨b1, 4, none⟩ = some M.c.v) (by kernel_rfl) ⟨(HD0.out.bag.get 0 rfl).bx.shop.2.1, (HD0.out.bag.get 0 rfl).bx.shop.2.2.2.2.1⟩ (fun hHeld => ?_)
  refine wpAnyH_take (i := 0) (v := ?b2nv0) rfl (by kernel_rfl) (by kernel_rfl) (by kernel_rfl) (fun _ _ _ h => h) (Or.inl ⟨by kernel_rfl, ?b2nhy0⟩) (by assumption) ?b2nrest0
  case b2nhy0 =>
    intro w hSw
    have k1 := hSw.1; have k4 := hSw.2
    go_simp
    try with_reducible rfl
  case' b2nrest0 => try dsimp only [Act.put, List.setIfInBounds_toArray, List.set_cons_zero, List.set_cons_succ]
  refine wpAnyH_take (i := 1) (v := ?b2nv1) rfl (by kernel_rfl) (by kernel_rfl) (by kernel_rfl) (fun _ _ _ h => h) (Or.inl ⟨by kernel_rfl, ?b2nhy1⟩) (by assumption) ?b2nrest1
  case b2nhy1 =>
    intro w hSw
    have k1 := hSw.1; have k4 := hSw.2
    go_simp
    try with_reducible rfl
  case' b2nrest1 => try dsimp only [Act.put, List.setIfInBounds_toArray, List.set_cons_zero, List.set_cons_succ]
  refine wpAnyH_take (i := 2) (v := ?b2nv2) rfl (by kernel_rfl) (by kernel_rfl) (by kernel_rfl) (fun _ _ _ h => h) (Or.inl ⟨by kernel_rfl, ?b2nhy2⟩) (by assumption) ?b2nrest2
  case b2nhy2 =>
    intro w hSw
    try simp only [List.getElem_toArray, List.getElem_cons_succ, List.getElem_cons_zero, List.setIfInBounds_toArray, List.set_cons_zero, List.set_cons_succ]
    have k1 := hSw.1; have k4 := hSw.2
    go_simp
    try with_reducible rfl
  case' b2nrest2 => try dsimp only [Act.put, List.setIfInBounds_toArray, List.set_cons_zero, List.set_cons_succ]
  refine wpAnyH_take (i := 3) (v := ?b2nv3) rfl (by kernel_rfl) (by kernel_rfl) (by kernel_rfl) (fun _ _ _ h => h) (Or.inl ⟨by kernel_rfl, ?b2nhy3⟩) (by assumption) ?b2nrest3
  case b2nhy3 =>
    intro w hSw
    try simp only [List.getElem_toArray, List.getElem_cons_succ, List.getElem_cons_zero, List.setIfInBounds_toArray, List.set_cons_zero, List.set_cons_succ]
    have k1 := hSw.1; have k4 := hSw.2
    go_simp
    try with_reducible rfl
  case' b2nrest3 => try dsimp only [Act.put, List.setIfInBounds_toArray, List.set_cons_zero, List.set_cons_succ]
  refine wpAnyH_take (i := 5) (v := ?b2nv5) rfl (by kernel_rfl) (by kernel_rfl) (by kernel_rfl) (fun _ _ _ h => h) (Or.inl ⟨by kernel_rfl, ?b2nhy5⟩) (by assumption) ?b2nrest5
  case b2nhy5 =>
    intro w hSw
    try simp only [List.getElem_toArray, List.getElem_cons_succ, List.getElem_cons_zero, List.setIfInBounds_toArray, List.set_cons_zero, List.set_cons_succ]
    have k1 := hSw.1; have k4 := hSw.2
    go_simp
    try with_reducible rfl
  case' b2nrest5 => try dsimp only [Act.put, List.setIfInBounds_toArray, List.set_cons_zero, List.set_cons_succ]
  refine wpAnyH_take (i := 6) (v := ?b2nv6) rfl (by kernel_rfl) (by kernel_rfl) (by kernel_rfl) (fun _ _ _ h => h) (Or.inl ⟨by kernel_rfl, ?b2nhy6⟩) (by assumption) ?b2nrest6
  case b2nhy6 =>
    intro w hSw
    try simp only [List.getElem_toArray, List.getElem_cons_succ, List.getElem_cons_zero, List.setIfInBounds_toArray, List.set_cons_zero, List.set_cons_succ]
    have k1 := hSw.1; have k4 := hSw.2
    go_simp
    try with_reducible rfl
  case' b2nrest6 => try dsimp only [Act.put, List.setIfInBounds_toArray, List.set_cons_zero, List.set_cons_succ]
  refine wpAnyH_ready (rs := [4]) (by kernel_rfl) (by simp) ?_
  refine AllReadyH.cons rfl (fun K hK => ?_) AllReadyH.nil
  go_simp
  refine (implAdj M.c.a M.c.n M.c.c D.c D.q _ HJ.out).mono ?_
  rintro e u ⟨ga, ca, rfl, RA, hga, BA⟩
  have H8 : Hid (Wkb (Has M) w u [(b1, M, D), (b2, zl, SD.zero)] M D ∧ SRow u ga ca (adjusted D.c D.q)) := ⟨HD0.out.all BA, RA⟩
  clear BA RA hga HD0
  have SX : (fun W => W.cell? ⟨b1, 1, none⟩ = some (.int .i64 D.q) ∧ W.cell? ⟨b1, 4, none⟩ = some M.c.v) u := ⟨(H8.out.1.bag.get 0 rfl).bx.shop.2.1, (H8.out.1.bag.get 0 rfl).bx.shop.2.2.2.2.1⟩

  go_wp2_with fail
  refine hK.out _ _ SX (fun hHeld => ?_)
  clear hK K
  try dsimp only [Act.put, List.setIfInBounds_toArray, List.set_cons_zero, List.set_cons_succ]
  refine wpAnyH_ready (rs := [7]) (by kernel_rfl) (by simp) ?_
  refine AllReadyH.cons rfl (fun K hK => ?_) AllReadyH.nil
  go_simp
  refine (implNewM (some ⟨ga, 0, none⟩) (adjusted D.c D.q).length ca (adjusted D.c D.q) D.q _ H8.out.2.shs (by have := adjusted_len D.c D.q; omega)).mono ?_
  rintro e u2 ⟨v1, l1, k1, v2, l2, k2, rfl, F1, F2, AP, BA⟩
  have H9 : Hid (Wkb (Has M) w u2 [(b1, M, D), (b2, zl, SD.zero)] { M with y := ⟨v1, l1, k1⟩, z := ⟨v2, l2, k2⟩ } { D with y := nmS (adjusted D.c D.q) D.q, z := nmN (adjusted D.c D.q) D.q }) := H8.out.1.put_yz BA (N := ⟨v1, l1, k1⟩) (N2 := ⟨v2, l2, k2⟩) F1 F2 AP
  clear F1 F2 AP BA H8
  have SX : (fun W => W.cell? ⟨b1, 1, none⟩ = some (.int .i64 D.q) ∧ W.cell? ⟨b1, 4, none⟩ = some M.c.v) u2 := ⟨(H9.out.bag.get 0 rfl).bx.shop.2.1, (H9.out.bag.get 0 rfl).bx.shop.2.2.2.2.1⟩

  go_wp2_with fail
  refine hK.out _ _ SX (fun hHeld => ?_)
  clear hK K
  try dsimp only [Act.put, List.setIfInBounds_toArray, List.set_cons_zero, List.set_cons_succ]
  refine wpAnyH_take (i := 8) (v := ?b2nv8) rfl (by kernel_rfl) (by kernel_rfl) (by kernel_rfl) (fun _ _ _ h => h) (Or.inl ⟨by kernel_rfl, ?b2nhy8⟩) (by assumption) ?b2nrest8
  case b2nhy8 =>
    intro w hSw
    have k1 := hSw.1; have k4 := hSw.2
    go_simp
    try with_reducible rfl
  case' b2nrest8 => try dsimp only [Act.put, List.setIfInBounds_toArray, List.set_cons_zero, List.set_cons_succ]
  refine wpAnyH_take (i := 9) (v := ?b2nv9) rfl (by kernel_rfl) (by kernel_rfl) (by kernel_rfl) (fun _ _ _ h => h) (Or.inl ⟨by kernel_rfl, ?b2nhy9⟩) (by assumption) ?b2nrest9
  case b2nhy9 =>
    intro w hSw
    try simp only [List.getElem_toArray, List.getElem_cons_succ, List.getElem_cons_zero, List.setIfInBounds_toArray, List.set_cons_zero, List.set_cons_succ]
    have k1 := hSw.1; have k4 := hSw.2
    go_simp
    try with_reducible rfl
  case' b2nrest9 => try dsimp only [Act.put, List.setIfInBounds_toArray, List.set_cons_zero, List.set_cons_succ]
  refine wpAnyH_take (i := 10) (v := ?b2nv10) rfl (by kernel_rfl) (by kernel_rfl) (by kernel_rfl) (fun _ _ _ h => h) (Or.inl ⟨by kernel_rfl, ?b2nhy10⟩) (by assumption) ?b2nrest10
  case b2nhy10 =>
    intro w hSw
    try simp only [List.getElem_toArray, List.getElem_cons_succ, List.getElem_cons_zero, List.setIfInBounds_toArray, List.set_cons_zero, List.set_cons_succ]
    have k1 := hSw.1; have k4 := hSw.2
    go_simp
    try with_reducible rfl
  case' b2nrest10 => try dsimp only [Act.put, List.setIfInBounds_toArray, List.set_cons_zero, List.set_cons_succ]
  refine wpAnyH_take (i := 11) (v := ?b2nv11) rfl (by kernel_rfl) (by kernel_rfl) (by kernel_rfl) (fun _ _ _ h => h) (Or.inl ⟨by kernel_rfl, ?b2nhy11⟩) (by assumption) ?b2nrest11
  case b2nhy11 =>
    intro w hSw
    try simp only [List.getElem_toArray, List.getElem_cons_succ, List.getElem_cons_zero, List.setIfInBounds_toArray, List.set_cons_zero, List.set_cons_succ]
    have k1 := hSw.1; have k4 := hSw.2
    go_simp
    try with_reducible rfl
  case' b2nrest11 => try dsimp only [Act.put, List.setIfInBounds_toArray, List.set_cons_zero, List.set_cons_succ]
  refine wpAnyH_ready (rs := [12]) (by kernel_rfl) (by simp) ?_
  refine AllReadyH.cons rfl (fun K hK => ?_) AllReadyH.nil
  rw [if_pos (by rfl)]
  refine sh_set_mn_op rfl rfl rfl (H9.out.bag.get 0 rfl) ?_
  intro WB SB GB
  have HA9 : Hid (Wkb (Has M) w WB [(b1, { M with y := ⟨v1, l1, k1⟩, z := ⟨v2, l2, k2⟩ }, { D with y := nmS (adjusted D.c D.q) D.q, z := nmN (adjusted D.c D.q) D.q, yq := nmQ (adjusted D.c D.q) D.q, yt := 0 }), (b2, zl, SD.zero)] { M with y := ⟨v1, l1, k1⟩, z := ⟨v2, l2, k2⟩ } { D with y := nmS (adjusted D.c D.q) D.q, z := nmN (adjusted D.c D.q) D.q, yq := nmQ (adjusted D.c D.q) D.q, yt := 0 }) := (H9.out.nums D.p D.q D.lt D.la (nmQ (adjusted D.c D.q) D.q) 0 D.w).put 0 rfl SB GB
  clear SB GB H9
  have SX : (fun W => W.cell? ⟨b1, 1, none⟩ = some (.int .i64 D.q) ∧ W.cell? ⟨b1, 4, none⟩ = some M.c.v) WB := ⟨(HA9.out.bag.get 0 rfl).bx.shop.2.1, (HA9.out.bag.get 0 rfl).bx.shop.2.2.2.2.1⟩
  refine hK.out _ _ SX (fun hHeld => ?_)
  clear hK K
  try dsimp only [Act.put, List.setIfInBounds_toArray, List.set_cons_zero, List.set_cons_succ]
  refine wpAnyH_done (by kernel_rfl) ?_ _
  simp only [List.getElem_toArray, List.getElem_cons_succ, List.getElem_cons_zero, List.setIfInBounds_toArray, List.set_cons_zero, List.set_cons_succ]
  clear hHeld
  obtain ⟨M5, hM5⟩ : ∃ M' : LT, M' = { M with y := ⟨v1, l1, k1⟩, z := ⟨v2, l2, k2⟩ } := ⟨_, rfl⟩
  obtain ⟨D5, hD5⟩ : ∃ D' : SD, D' = { D with y := nmS (adjusted D.c D.q) D.q, z := nmN (adjusted D.c D.q) D.q, yq := nmQ (adjusted D.c D.q) D.q, yt := 0 } := ⟨_, rfl⟩
  rw [← hM5, ← hD5] at HA9
  have HD5 : Hid (D5 = { D with y := nmS (adjusted D.c D.q) D.q, z := nmN (adjusted D.c D.q) D.q, yq := nmQ (adjusted D.c D.q) D.q, yt := 0 }) := hD5
  clear hM5 hD5
  have JZ : Ints WB M5.z.a M5.z.n (nmN (adjusted D.c D.q) D.q) := by have := HA9.out.own.z.ints; rw [HD5.out] at this; exact this
  have hzl : (M5.z.n : Int) ≤ 1048576 := by have h1 := JZ.1; have h2 := (nm_lens (adjusted D.c D.q) D.q).2; have h3 := adjusted_len D.c D.q; omega
  have HJZ : Hid (Ints WB M5.z.a M5.z.n (nmN (adjusted D.c D.q) D.q) ∧ (M5.z.n : Int) ≤ 1048576) := ⟨JZ, hzl⟩
  clear JZ hzl
  have q13 := (HA9.out.bag.get 0 rfl).bx.shop.2.2.2.2.2.2.2.2.2.2.2.2.2.1
  go_wp2_with fail
  refine (copied_any M5.z.a M5.z.n M5.z.c (nmN (adjusted D.c D.q) D.q) _ HJZ.out.1 HJZ.out.2).mono ?_
  rintro e WC ⟨rfl, RC, BC⟩
  have HG : Hid (Wkb (Has M) w WC [(b1, M5, D5), (b2, zl, SD.zero)] { M5 with n := ⟨some ⟨WB.heap.size, 0, none⟩, M5.z.n, M5.z.n⟩ } { D5 with n := nmN (adjusted D.c D.q) D.q }) := HA9.out.put_n BC (N := ⟨some ⟨WB.heap.size, 0, none⟩, M5.z.n, M5.z.n⟩) (Row.fit RC (Nat.le_refl _) HJZ.out.1.1)
  clear RC BC HA9 q13
  go_wp2_with (refine sh_set_n rfl rfl (HG.out.bag.get 0 rfl) ?_)
  intro WD SD' GD
  have HH : Hid (Wkb (Has M) w WD [(b1, { M5 with n := ⟨some ⟨WB.heap.size, 0, none⟩, M5.z.n, M5.z.n⟩ }, { D5 with n := nmN (adjusted D.c D.q) D.q }), (b2, zl, SD.zero)] { M5 with n := ⟨some ⟨WB.heap.size, 0, none⟩, M5.z.n, M5.z.n⟩ } { D5 with n := nmN (adjusted D.c D.q) D.q }) := HG.out.put 0 rfl SD' GD
  clear SD' GD HG
  obtain ⟨M6, hM6⟩ : ∃ M' : LT, M' = { M5 with n := ⟨some ⟨WB.heap.size, 0, none⟩, M5.z.n, M5.z.n⟩ } := ⟨_, rfl⟩
  obtain ⟨D6, hD6⟩ : ∃ D' : SD, D' = { D5 with n := nmN (adjusted D.c D.q) D.q } := ⟨_, rfl⟩
  rw [← hM6, ← hD6] at HH
  have HE : Hid (D6 = { D with y := nmS (adjusted D.c D.q) D.q, z := nmN (adjusted D.c D.q) D.q, yq := nmQ (adjusted D.c D.q) D.q, yt := 0, n := nmN (adjusted D.c D.q) D.q }) := by show _ = _; rw [hD6, HD5.out]
  clear hM6 hD6
  go_wp2_with (first | (refine sh_loadg rfl rfl (HH.out.bag.get 0 rfl) ?_) | (refine sh_store (L := M6) (d := D6) rfl rfl (HH.out.bag.get 1 rfl) ?_))
  intro WZ SZ GZ
  have HZ : Hid (Wkb (Has M) w WZ [(b1, M6, D6), (b2, M6, D6)] M6 D6) := HH.out.put 1 rfl SZ GZ
  clear SZ GZ HH
  go_wp2_with fail
  exact bodyPost_ret (ret_shop rfl rfl (HZ.out.bag.get 1 rfl)) rfl ⟨M6, by rw [HE.out], by rw [← HE.out]; exact HZ.out.own, HZ.out.par, HZ.out.frm, HZ.out.bag.bel⟩

theorem finds_begun1 (w : World) : (method (Tryz.prog.types.size + 100) 126 (.agg #[]) "loop.example/g00763/impl.begun").run Tryz.prog w = .ok (214, .agg #[]) w := by kernel_rfl

theorem finds_begun2 (w : World) : (method (Tryz.prog.types.size + 100) 151 (.agg #[]) "loop.example/g00763/impl.begun").run Tryz.prog w = .ok (208, .agg #[]) w := by kernel_rfl

theorem finds_begun3 (w : World) : (method (Tryz.prog.types.size + 100) 127 (.agg #[]) "loop.example/g00763/impl.begun").run Tryz.prog w = .ok (219, .agg #[]) w := by kernel_rfl

theorem finds_begun4 (w : World) : (method (Tryz.prog.types.size + 100) 152 (.agg #[]) "loop.example/g00763/impl.begun").run Tryz.prog w = .ok (208, .agg #[]) w := by kernel_rfl

theorem finds_begun5 (w : World) : (method (Tryz.prog.types.size + 100) 128 (.agg #[]) "loop.example/g00763/impl.begun").run Tryz.prog w = .ok (223, .agg #[]) w := by kernel_rfl

end Go.Proofs.YtcmeimfjedakeaaGreat.Crew
