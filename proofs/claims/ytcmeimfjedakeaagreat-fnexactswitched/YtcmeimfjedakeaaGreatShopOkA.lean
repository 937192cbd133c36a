/-
  spec.ShopOk at every Shop. (Written by wip/tools/gen_shopok.py.)
-/
import Derived.Test.YtcmeimfjedakeaaGreatShopInner
import Derived.Test.YtcmeimfjedakeaaGreatTaskMath
namespace Go.Proofs.YtcmeimfjedakeaaGreat.Crew
open Go.ChangeShapes Go.WideShapes Go.ChangeAt Go.RowKit

theorem rdyTo_found {t : List Tsk} (k : Nat) (hk : k ≤ t.length) : ∀ x ∈ rdyTo t k, 0 ≤ findT t x := by
  induction k with
  | zero => intro x hx; cases hx
  | succ k ih =>
    intro x hx
    rw [rdyTo] at hx
    split at hx
    · rcases List.mem_append.1 hx with h | h
      · exact ih (by omega) x h
      · rw [List.mem_singleton] at h
        exact findT_has (j := k) (by omega) h.symm
    · exact ih (by omega) x hx

theorem rdy_found {t : List Tsk} {x : Int} (h : x ∈ rdyL t) : 0 ≤ findT t x := by
  rw [rdyL] at h
  split at h
  · exact rdyTo_found _ (Nat.le_refl _) x h
  · cases h

theorem members_found {t : List Tsk} {m : List Int} (h : m = rdyL t) {k : Nat} (hk : k < m.length) : 0 ≤ findT t (m.getD k 0) := by
  refine rdy_found (t := t) ?_
  rw [← h, show m.getD k 0 = m[k] by simp [List.getD, hk]]
  exact List.getElem_mem hk

/-- What is not told of the policy, and is not zero. -/
def keptS (d : SD) : Bool := (decide (d.m.length = 0) || decide (d.p ≠ 1)) && !noS d.s d.r

def keptL (d : SD) : Bool := (decide (d.m.length = 0) || decide (d.p ≠ 3)) && !noL d.l d.h d.lt d.la

def keptM (d : SD) : Bool := (decide (d.m.length = 0) || decide (d.p ≠ 5)) && !noM d.y d.z d.yq d.yt

def kept (d : SD) : Bool := keptS d || keptL d || keptM d

def shopOk (d : SD) : Bool := outerB d && decide (d.m = rdyL d.t) && decide (d.c = cw d.t d.m) && !kept d && (if d.m.length = 0 then decide (d.n.length = 0) else innerB d)

set_option maxRecDepth 100000 in
set_option maxHeartbeats 8000000 in
theorem shopOk_outer (L : LT) (d : SD) (w : World) (I : Rd w L d) (hs : Short L) (ho : outerB d = false) :
    Calls Tryz.prog 33 #[sv L d] w fun e w' => e = .returned (.bool (shopOk d)) ∧ Below w.heap.size w w' := by
  have HI : Hid (Rd w L d) := I
  obtain ⟨s0, s1, s2, s3, s4, s5, s6, s7, s8, s9⟩ := short_parts hs
  have HSH : Hid (Short L) := hs
  have HLM : Hid (d.m.length = L.m.n ∧ d.n.length = L.n.n) := ⟨I.m.1, I.n.1⟩
  clear I hs
  have HF : Hid (outerB d = false ∧ True) := ⟨ho, trivial⟩
  have HE : Hid (shopOk d = false) := by show _ = _; rw [shopOk, ho]; rfl
  clear ho
  obtain ⟨W0, hW0⟩ : ∃ W0, W0 = w.alloc (.cells (sc L d) 36) := ⟨_, rfl⟩
  have SW : Sw w W0 L d := by rw [hW0]; exact sw_new _ _ _
  go_enter Tryz.func33, Tryz.ntmps33
  obtain ⟨c0, c1, c2, c3, c4, c5, c6, c7, c8, c9, c10, c11, c12, c13, c14, c15, c16⟩ := SW.bx.shop
  rw [hW0] at c0 c1 c2 c3 c4 c5 c6 c7 c8 c9 c10 c11 c12 c13 c14 c15 c16
  go_wp2_with fail
  rw [← hW0] at c0 c1 c2 c3 c4 c5 c6 c7 c8 c9 c10 c11 c12 c13 c14 c15 c16 ⊢
  have m0 := SW.bx.1
  clear hW0
  refine wp_region_held_drew (S := fun w' => w'.cell? ⟨w.heap.size, 0, none⟩ = some (.int .i64 d.p) ∧ w'.cell? ⟨w.heap.size, 1, none⟩ = some (.int .i64 d.q) ∧ w'.cell? ⟨w.heap.size, 2, none⟩ = some L.t.v ∧ w'.cell? ⟨w.heap.size, 3, none⟩ = some L.m.v ∧ w'.cell? ⟨w.heap.size, 4, none⟩ = some L.c.v ∧ w'.cell? ⟨w.heap.size, 5, none⟩ = some L.n.v ∧ w'.cell? ⟨w.heap.size, 6, none⟩ = some L.s.v ∧ w'.cell? ⟨w.heap.size, 7, none⟩ = some L.r.v ∧ w'.cell? ⟨w.heap.size, 8, none⟩ = some L.l.v ∧ w'.cell? ⟨w.heap.size, 9, none⟩ = some L.h.v ∧ w'.cell? ⟨w.heap.size, 10, none⟩ = some (.int .i64 d.lt) ∧ w'.cell? ⟨w.heap.size, 11, none⟩ = some (.int .i64 d.la) ∧ w'.cell? ⟨w.heap.size, 12, none⟩ = some L.y.v ∧ w'.cell? ⟨w.heap.size, 13, none⟩ = some L.z.v ∧ w'.cell? ⟨w.heap.size, 14, none⟩ = some (.int .i64 d.yq) ∧ w'.cell? ⟨w.heap.size, 15, none⟩ = some (.int .i64 d.yt) ∧ w'.cell? ⟨w.heap.size, 16, none⟩ = some (.int .i64 d.w)) (by kernel_rfl) (by simp [*]) (fun hHeld => ?_)
  refine tk_go 0 (v := ?a5nv0) ?a5nhy0 ?_
  case a5nhy0 => intro w hSw; (try dsimp only at hSw); go_simp; try with_reducible rfl
  refine wpAnyH_ready (rs := [1]) (by kernel_rfl) (by simp) ?_
  refine AllReadyH.cons rfl (fun K hK => ?_) AllReadyH.nil
  go_simp
  refine (specOuter L d _ (HI.out.t.kept (by first | with_reducible exact SW.bel | with_reducible exact SW.drew.bel)) s0).mono ?_
  rw [HF.out.1]
  rintro e u ⟨rfl, B⟩
  have SW : Sw w u L d := (by first | with_reducible exact SW.all B | with_reducible exact SW.drew.all B)
  obtain ⟨c0, c1, c2, c3, c4, c5, c6, c7, c8, c9, c10, c11, c12, c13, c14, c15, c16⟩ := SW.bx.shop
  have m0 := SW.bx.1
  go_wp2_with fail
  refine hK.out _ _ (by simp [*]) (fun hHeld => ?_)
  clear hK K
  refine tk_go 2 (v := ?a5nv2) ?a5nhy2 ?_
  case a5nhy2 => intro w hSw; (try dsimp only at hSw); go_simp; try with_reducible rfl
  refine tk_go 3 (v := ?a5nv3) ?a5nhy3 ?_
  case a5nhy3 => intro w hSw; simp only [nrm]; (try dsimp only at hSw); go_simp; try with_reducible rfl
  refine tk_no 4 ?_
  refine tk_no 5 ?_
  refine tk_no 6 ?_
  refine tk_no 7 ?_
  refine tk_no 8 ?_
  refine tk_no 9 ?_
  refine tk_no 10 ?_
  refine tk_go 11 (v := ?a5nv11) ?a5nhy11 ?_
  case a5nhy11 => intro w hSw; simp only [nrm]; (try dsimp only at hSw); go_simp; try with_reducible rfl
  refine tk_go 12 (v := ?a5nv12) ?a5nhy12 ?_
  case a5nhy12 => intro w hSw; simp only [nrm]; (try dsimp only at hSw); go_simp; try with_reducible rfl
  refine tk_no 13 ?_
  refine tk_no 14 ?_
  refine tk_no 15 ?_
  refine tk_no 16 ?_
  refine tk_no 17 ?_
  refine tk_no 18 ?_
  refine tk_no 19 ?_
  refine tk_no 20 ?_
  refine tk_no 21 ?_
  refine tk_go 22 (v := ?a5nv22) ?a5nhy22 ?_
  case a5nhy22 => intro w hSw; simp only [nrm]; (try dsimp only at hSw); go_simp; try with_reducible rfl
  refine wpAnyH_done (by kernel_rfl) ?_ _
  simp only [Act.put, nrm]
  have HS : Hid (Sw w u L d) := SW
  clear SW c0 c1 c2 c3 c4 c5 c6 c7 c8 c9 c10 c11 c12 c13 c14 c15 c16 m0 hHeld
  go_wp2_with fail
  go_ret
  exact ⟨by rw [HE.out]; rfl, HS.out.bel⟩

set_option maxRecDepth 100000 in
set_option maxHeartbeats 8000000 in
theorem shopOk_members (L : LT) (d : SD) (w : World) (I : Rd w L d) (hs : Short L) (ho : outerB d = true) (hm : ¬ d.m = rdyL d.t) :
    Calls Tryz.prog 33 #[sv L d] w fun e w' => e = .returned (.bool (shopOk d)) ∧ Below w.heap.size w w' := by
  have HI : Hid (Rd w L d) := I
  obtain ⟨s0, s1, s2, s3, s4, s5, s6, s7, s8, s9⟩ := short_parts hs
  have HSH : Hid (Short L) := hs
  have HLM : Hid (d.m.length = L.m.n ∧ d.n.length = L.n.n) := ⟨I.m.1, I.n.1⟩
  clear I hs
  have HF : Hid (outerB d = true ∧ decide (d.m = rdyL d.t) = false ∧ True) := ⟨ho, decide_eq_false hm, trivial⟩
  have HE : Hid (shopOk d = false) := by show _ = _; rw [shopOk, ho, decide_eq_false hm]; rfl
  clear ho hm
  obtain ⟨W0, hW0⟩ : ∃ W0, W0 = w.alloc (.cells (sc L d) 36) := ⟨_, rfl⟩
  have SW : Sw w W0 L d := by rw [hW0]; exact sw_new _ _ _
  go_enter Tryz.func33, Tryz.ntmps33
  obtain ⟨c0, c1, c2, c3, c4, c5, c6, c7, c8, c9, c10, c11, c12, c13, c14, c15, c16⟩ := SW.bx.shop
  rw [hW0] at c0 c1 c2 c3 c4 c5 c6 c7 c8 c9 c10 c11 c12 c13 c14 c15 c16
  go_wp2_with fail
  rw [← hW0] at c0 c1 c2 c3 c4 c5 c6 c7 c8 c9 c10 c11 c12 c13 c14 c15 c16 ⊢
  have m0 := SW.bx.1
  clear hW0
  refine wp_region_held_drew (S := fun w' => w'.cell? ⟨w.heap.size, 0, none⟩ = some (.int .i64 d.p) ∧ w'.cell? ⟨w.heap.size, 1, none⟩ = some (.int .i64 d.q) ∧ w'.cell? ⟨w.heap.size, 2, none⟩ = some L.t.v ∧ w'.cell? ⟨w.heap.size, 3, none⟩ = some L.m.v ∧ w'.cell? ⟨w.heap.size, 4, none⟩ = some L.c.v ∧ w'.cell? ⟨w.heap.size, 5, none⟩ = some L.n.v ∧ w'.cell? ⟨w.heap.size, 6, none⟩ = some L.s.v ∧ w'.cell? ⟨w.heap.size, 7, none⟩ = some L.r.v ∧ w'.cell? ⟨w.heap.size, 8, none⟩ = some L.l.v ∧ w'.cell? ⟨w.heap.size, 9, none⟩ = some L.h.v ∧ w'.cell? ⟨w.heap.size, 10, none⟩ = some (.int .i64 d.lt) ∧ w'.cell? ⟨w.heap.size, 11, none⟩ = some (.int .i64 d.la) ∧ w'.cell? ⟨w.heap.size, 12, none⟩ = some L.y.v ∧ w'.cell? ⟨w.heap.size, 13, none⟩ = some L.z.v ∧ w'.cell? ⟨w.heap.size, 14, none⟩ = some (.int .i64 d.yq) ∧ w'.cell? ⟨w.heap.size, 15, none⟩ = some (.int .i64 d.yt) ∧ w'.cell? ⟨w.heap.size, 16, none⟩ = some (.int .i64 d.w)) (by kernel_rfl) (by simp [*]) (fun hHeld => ?_)
  refine tk_go 0 (v := ?a6nv0) ?a6nhy0 ?_
  case a6nhy0 => intro w hSw; (try dsimp only at hSw); go_simp; try with_reducible rfl
  refine wpAnyH_ready (rs := [1]) (by kernel_rfl) (by simp) ?_
  refine AllReadyH.cons rfl (fun K hK => ?_) AllReadyH.nil
  go_simp
  refine (specOuter L d _ (HI.out.t.kept (by first | with_reducible exact SW.bel | with_reducible exact SW.drew.bel)) s0).mono ?_
  rw [HF.out.1]
  rintro e u ⟨rfl, B⟩
  have SW : Sw w u L d := (by first | with_reducible exact SW.all B | with_reducible exact SW.drew.all B)
  obtain ⟨c0, c1, c2, c3, c4, c5, c6, c7, c8, c9, c10, c11, c12, c13, c14, c15, c16⟩ := SW.bx.shop
  have m0 := SW.bx.1
  go_wp2_with fail
  refine hK.out _ _ (by simp [*]) (fun hHeld => ?_)
  clear hK K
  refine tk_go 2 (v := ?a6nv2) ?a6nhy2 ?_
  case a6nhy2 => intro w hSw; (try dsimp only at hSw); go_simp; try with_reducible rfl
  refine tk_go 3 (v := ?a6nv3) ?a6nhy3 ?_
  case a6nhy3 => intro w hSw; simp only [nrm]; (try dsimp only at hSw); go_simp; try with_reducible rfl
  refine tk_go 4 (v := ?a6nv4) ?a6nhy4 ?_
  case a6nhy4 => intro w hSw; simp only [nrm]; (try dsimp only at hSw); go_simp; try with_reducible rfl
  refine tk_go 5 (v := ?a6nv5) ?a6nhy5 ?_
  case a6nhy5 => intro w hSw; simp only [nrm]; (try dsimp only at hSw); go_simp; try with_reducible rfl
  refine tk_go 6 (v := ?a6nv6) ?a6nhy6 ?_
  case a6nhy6 => intro w hSw; simp only [nrm]; (try dsimp only at hSw); go_simp; try with_reducible rfl
  refine tk_go 7 (v := ?a6nv7) ?a6nhy7 ?_
  case a6nhy7 => intro w hSw; simp only [nrm]; (try dsimp only at hSw); go_simp; try with_reducible rfl
  refine wpAnyH_ready (rs := [8]) (by kernel_rfl) (by simp) ?_
  refine AllReadyH.cons rfl (fun K hK => ?_) AllReadyH.nil
  go_simp
  refine (specReadyOf L.t.a L.t.n L.t.c d.t _ (HI.out.t.kept (by first | with_reducible exact SW.bel | with_reducible exact SW.drew.bel)) s0).mono ?_
  rintro e u ⟨g, n, c, rfl, F, B⟩
  have SW : Sw w u L d := (by first | with_reducible exact SW.all B | with_reducible exact SW.drew.all B)
  obtain ⟨c0, c1, c2, c3, c4, c5, c6, c7, c8, c9, c10, c11, c12, c13, c14, c15, c16⟩ := SW.bx.shop
  have m0 := SW.bx.1
  go_wp2_with fail
  refine hK.out _ _ (by simp [*]) (fun hHeld => ?_)
  clear hK K
  refine wpAnyH_ready (rs := [9]) (by kernel_rfl) (by simp) ?_
  refine AllReadyH.cons rfl (fun K hK => ?_) AllReadyH.nil
  go_simp
  refine (specSame L.m.a L.m.n L.m.c d.m (some ⟨g, 0, none⟩) n c (rdyL d.t) _ (HI.out.m.kept (by first | with_reducible exact SW.bel | with_reducible exact SW.drew.bel)) (by first | exact F.ints | exact F.ints.drew) s1).mono ?_
  rw [HF.out.2.1]
  rintro e u ⟨rfl, B⟩
  have SW : Sw w u L d := (by first | with_reducible exact SW.all B | with_reducible exact SW.drew.all B)
  obtain ⟨c0, c1, c2, c3, c4, c5, c6, c7, c8, c9, c10, c11, c12, c13, c14, c15, c16⟩ := SW.bx.shop
  have m0 := SW.bx.1
  go_wp2_with fail
  refine hK.out _ _ (by simp [*]) (fun hHeld => ?_)
  clear hK K
  refine tk_go 10 (v := ?a6nv10) ?a6nhy10 ?_
  case a6nhy10 => intro w hSw; (try dsimp only at hSw); go_simp; try with_reducible rfl
  refine tk_go 11 (v := ?a6nv11) ?a6nhy11 ?_
  case a6nhy11 => intro w hSw; simp only [nrm]; (try dsimp only at hSw); go_simp; try with_reducible rfl
  refine tk_go 12 (v := ?a6nv12) ?a6nhy12 ?_
  case a6nhy12 => intro w hSw; simp only [nrm]; (try dsimp only at hSw); go_simp; try with_reducible rfl
  refine tk_no 13 ?_
  refine tk_no 14 ?_
  refine tk_no 15 ?_
  refine tk_no 16 ?_
  refine tk_no 17 ?_
  refine tk_no 18 ?_
  refine tk_no 19 ?_
  refine tk_no 20 ?_
  refine tk_no 21 ?_
  refine tk_go 22 (v := ?a6nv22) ?a6nhy22 ?_
  case a6nhy22 => intro w hSw; simp only [nrm]; (try dsimp only at hSw); go_simp; try with_reducible rfl
  refine wpAnyH_done (by kernel_rfl) ?_ _
  simp only [Act.put, nrm]
  have HS : Hid (Sw w u L d) := SW
  clear SW c0 c1 c2 c3 c4 c5 c6 c7 c8 c9 c10 c11 c12 c13 c14 c15 c16 m0 hHeld
  go_wp2_with fail
  go_ret
  exact ⟨by rw [HE.out]; rfl, HS.out.bel⟩

set_option maxRecDepth 100000 in
set_option maxHeartbeats 8000000 in
theorem shopOk_crew (L : LT) (d : SD) (w : World) (I : Rd w L d) (hs : Short L) (ho : outerB d = true) (hm : d.m = rdyL d.t) (hc : ¬ d.c = cw d.t d.m) :
    Calls Tryz.prog 33 #[sv L d] w fun e w' => e = .returned (.bool (shopOk d)) ∧ Below w.heap.size w w' := by
  have HI : Hid (Rd w L d) := I
  obtain ⟨s0, s1, s2, s3, s4, s5, s6, s7, s8, s9⟩ := short_parts hs
  have HSH : Hid (Short L) := hs
  have HLM : Hid (d.m.length = L.m.n ∧ d.n.length = L.n.n) := ⟨I.m.1, I.n.1⟩
  clear I hs
  have HM : Hid (∀ k, k < L.m.n → 0 ≤ findT d.t (d.m.getD k 0)) := fun k hk => members_found hm (by rw [HLM.out.1]; exact hk)
  have HR : Hid (∀ (X : World) (g c : Nat), Row X g c (cw d.t d.m) → Ints X (some ⟨g, 0, none⟩) L.m.n (cw d.t d.m)) := fun X g c R => by
    have h := R.ints
    rw [cw_len, HLM.out.1] at h
    exact h
  have HF : Hid (outerB d = true ∧ decide (d.m = rdyL d.t) = true ∧ decide (d.c = cw d.t d.m) = false) := ⟨ho, decide_eq_true hm, decide_eq_false hc⟩
  have HE : Hid (shopOk d = false) := by show _ = _; rw [shopOk, ho, decide_eq_true hm, decide_eq_false hc]; rfl
  clear ho hm hc
  obtain ⟨W0, hW0⟩ : ∃ W0, W0 = w.alloc (.cells (sc L d) 36) := ⟨_, rfl⟩
  have SW : Sw w W0 L d := by rw [hW0]; exact sw_new _ _ _
  go_enter Tryz.func33, Tryz.ntmps33
  obtain ⟨c0, c1, c2, c3, c4, c5, c6, c7, c8, c9, c10, c11, c12, c13, c14, c15, c16⟩ := SW.bx.shop
  rw [hW0] at c0 c1 c2 c3 c4 c5 c6 c7 c8 c9 c10 c11 c12 c13 c14 c15 c16
  go_wp2_with fail
  rw [← hW0] at c0 c1 c2 c3 c4 c5 c6 c7 c8 c9 c10 c11 c12 c13 c14 c15 c16 ⊢
  have m0 := SW.bx.1
  clear hW0
  refine wp_region_held_drew (S := fun w' => w'.cell? ⟨w.heap.size, 0, none⟩ = some (.int .i64 d.p) ∧ w'.cell? ⟨w.heap.size, 1, none⟩ = some (.int .i64 d.q) ∧ w'.cell? ⟨w.heap.size, 2, none⟩ = some L.t.v ∧ w'.cell? ⟨w.heap.size, 3, none⟩ = some L.m.v ∧ w'.cell? ⟨w.heap.size, 4, none⟩ = some L.c.v ∧ w'.cell? ⟨w.heap.size, 5, none⟩ = some L.n.v ∧ w'.cell? ⟨w.heap.size, 6, none⟩ = some L.s.v ∧ w'.cell? ⟨w.heap.size, 7, none⟩ = some L.r.v ∧ w'.cell? ⟨w.heap.size, 8, none⟩ = some L.l.v ∧ w'.cell? ⟨w.heap.size, 9, none⟩ = some L.h.v ∧ w'.cell? ⟨w.heap.size, 10, none⟩ = some (.int .i64 d.lt) ∧ w'.cell? ⟨w.heap.size, 11, none⟩ = some (.int .i64 d.la) ∧ w'.cell? ⟨w.heap.size, 12, none⟩ = some L.y.v ∧ w'.cell? ⟨w.heap.size, 13, none⟩ = some L.z.v ∧ w'.cell? ⟨w.heap.size, 14, none⟩ = some (.int .i64 d.yq) ∧ w'.cell? ⟨w.heap.size, 15, none⟩ = some (.int .i64 d.yt) ∧ w'.cell? ⟨w.heap.size, 16, none⟩ = some (.int .i64 d.w)) (by kernel_rfl) (by simp [*]) (fun hHeld => ?_)
  refine tk_go 0 (v := ?a7nv0) ?a7nhy0 ?_
  case a7nhy0 => intro w hSw; (try dsimp only at hSw); go_simp; try with_reducible rfl
  refine wpAnyH_ready (rs := [1]) (by kernel_rfl) (by simp) ?_
  refine AllReadyH.cons rfl (fun K hK => ?_) AllReadyH.nil
  go_simp
  refine (specOuter L d _ (HI.out.t.kept (by first | with_reducible exact SW.bel | with_reducible exact SW.drew.bel)) s0).mono ?_
  rw [HF.out.1]
  rintro e u ⟨rfl, B⟩
  have SW : Sw w u L d := (by first | with_reducible exact SW.all B | with_reducible exact SW.drew.all B)
  obtain ⟨c0, c1, c2, c3, c4, c5, c6, c7, c8, c9, c10, c11, c12, c13, c14, c15, c16⟩ := SW.bx.shop
  have m0 := SW.bx.1
  go_wp2_with fail
  refine hK.out _ _ (by simp [*]) (fun hHeld => ?_)
  clear hK K
  refine tk_go 2 (v := ?a7nv2) ?a7nhy2 ?_
  case a7nhy2 => intro w hSw; (try dsimp only at hSw); go_simp; try with_reducible rfl
  refine tk_go 3 (v := ?a7nv3) ?a7nhy3 ?_
  case a7nhy3 => intro w hSw; simp only [nrm]; (try dsimp only at hSw); go_simp; try with_reducible rfl
  refine tk_go 4 (v := ?a7nv4) ?a7nhy4 ?_
  case a7nhy4 => intro w hSw; simp only [nrm]; (try dsimp only at hSw); go_simp; try with_reducible rfl
  refine tk_go 5 (v := ?a7nv5) ?a7nhy5 ?_
  case a7nhy5 => intro w hSw; simp only [nrm]; (try dsimp only at hSw); go_simp; try with_reducible rfl
  refine tk_go 6 (v := ?a7nv6) ?a7nhy6 ?_
  case a7nhy6 => intro w hSw; simp only [nrm]; (try dsimp only at hSw); go_simp; try with_reducible rfl
  refine tk_go 7 (v := ?a7nv7) ?a7nhy7 ?_
  case a7nhy7 => intro w hSw; simp only [nrm]; (try dsimp only at hSw); go_simp; try with_reducible rfl
  refine wpAnyH_ready (rs := [8]) (by kernel_rfl) (by simp) ?_
  refine AllReadyH.cons rfl (fun K hK => ?_) AllReadyH.nil
  go_simp
  refine (specReadyOf L.t.a L.t.n L.t.c d.t _ (HI.out.t.kept (by first | with_reducible exact SW.bel | with_reducible exact SW.drew.bel)) s0).mono ?_
  rintro e u ⟨g, n, c, rfl, F, B⟩
  have SW : Sw w u L d := (by first | with_reducible exact SW.all B | with_reducible exact SW.drew.all B)
  obtain ⟨c0, c1, c2, c3, c4, c5, c6, c7, c8, c9, c10, c11, c12, c13, c14, c15, c16⟩ := SW.bx.shop
  have m0 := SW.bx.1
  go_wp2_with fail
  refine hK.out _ _ (by simp [*]) (fun hHeld => ?_)
  clear hK K
  refine wpAnyH_ready (rs := [9]) (by kernel_rfl) (by simp) ?_
  refine AllReadyH.cons rfl (fun K hK => ?_) AllReadyH.nil
  go_simp
  refine (specSame L.m.a L.m.n L.m.c d.m (some ⟨g, 0, none⟩) n c (rdyL d.t) _ (HI.out.m.kept (by first | with_reducible exact SW.bel | with_reducible exact SW.drew.bel)) (by first | exact F.ints | exact F.ints.drew) s1).mono ?_
  rw [HF.out.2.1]
  rintro e u ⟨rfl, B⟩
  have SW : Sw w u L d := (by first | with_reducible exact SW.all B | with_reducible exact SW.drew.all B)
  obtain ⟨c0, c1, c2, c3, c4, c5, c6, c7, c8, c9, c10, c11, c12, c13, c14, c15, c16⟩ := SW.bx.shop
  have m0 := SW.bx.1
  go_wp2_with fail
  refine hK.out _ _ (by simp [*]) (fun hHeld => ?_)
  clear hK K
  refine tk_go 10 (v := ?a7nv10) ?a7nhy10 ?_
  case a7nhy10 => intro w hSw; (try dsimp only at hSw); go_simp; try with_reducible rfl
  refine tk_go 11 (v := ?a7nv11) ?a7nhy11 ?_
  case a7nhy11 => intro w hSw; simp only [nrm]; (try dsimp only at hSw); go_simp; try with_reducible rfl
  refine tk_go 12 (v := ?a7nv12) ?a7nhy12 ?_
  case a7nhy12 => intro w hSw; simp only [nrm]; (try dsimp only at hSw); go_simp; try with_reducible rfl
  refine tk_go 13 (v := ?a7nv13) ?a7nhy13 ?_
  case a7nhy13 => intro w hSw; simp only [nrm]; (try dsimp only at hSw); go_simp; try with_reducible rfl
  refine tk_go 14 (v := ?a7nv14) ?a7nhy14 ?_
  case a7nhy14 => intro w hSw; simp only [nrm]; (try dsimp only at hSw); go_simp; try with_reducible rfl
  refine tk_go 15 (v := ?a7nv15) ?a7nhy15 ?_
  case a7nhy15 => intro w hSw; simp only [nrm]; (try dsimp only at hSw); go_simp; try with_reducible rfl
  refine tk_go 16 (v := ?a7nv16) ?a7nhy16 ?_
  case a7nhy16 => intro w hSw; simp only [nrm]; (try dsimp only at hSw); go_simp; try with_reducible rfl
  refine tk_go 17 (v := ?a7nv17) ?a7nhy17 ?_
  case a7nhy17 => intro w hSw; simp only [nrm]; (try dsimp only at hSw); go_simp; try with_reducible rfl
  refine tk_go 18 (v := ?a7nv18) ?a7nhy18 ?_
  case a7nhy18 => intro w hSw; simp only [nrm]; (try dsimp only at hSw); go_simp; try with_reducible rfl
  refine wpAnyH_ready (rs := [19]) (by kernel_rfl) (by simp) ?_
  refine AllReadyH.cons rfl (fun K hK => ?_) AllReadyH.nil
  go_simp
  refine (specCw L.t.a L.t.n L.t.c d.t L.m.a L.m.n L.m.c d.m _ (HI.out.t.kept (by first | with_reducible exact SW.bel | with_reducible exact SW.drew.bel)) (HI.out.m.kept (by first | with_reducible exact SW.bel | with_reducible exact SW.drew.bel)) s0 s1 HM.out).mono ?_
  rintro e u ⟨g2, k2, rfl, R, hg, B⟩
  have SW : Sw w u L d := (by first | with_reducible exact SW.all B | with_reducible exact SW.drew.all B)
  obtain ⟨c0, c1, c2, c3, c4, c5, c6, c7, c8, c9, c10, c11, c12, c13, c14, c15, c16⟩ := SW.bx.shop
  have m0 := SW.bx.1
  go_wp2_with fail
  refine hK.out _ _ (by simp [*]) (fun hHeld => ?_)
  clear hK K
  refine wpAnyH_ready (rs := [20]) (by kernel_rfl) (by simp) ?_
  refine AllReadyH.cons rfl (fun K hK => ?_) AllReadyH.nil
  go_simp
  refine (specSame L.c.a L.c.n L.c.c d.c (some ⟨g2, 0, none⟩) L.m.n k2 (cw d.t d.m) _ (HI.out.c.kept (by first | with_reducible exact SW.bel | with_reducible exact SW.drew.bel)) (by first | exact HR.out _ _ _ R | exact HR.out _ _ _ R.drew) s2).mono ?_
  rw [HF.out.2.2]
  rintro e u ⟨rfl, B⟩
  have SW : Sw w u L d := (by first | with_reducible exact SW.all B | with_reducible exact SW.drew.all B)
  obtain ⟨c0, c1, c2, c3, c4, c5, c6, c7, c8, c9, c10, c11, c12, c13, c14, c15, c16⟩ := SW.bx.shop
  have m0 := SW.bx.1
  go_wp2_with fail
  refine hK.out _ _ (by simp [*]) (fun hHeld => ?_)
  clear hK K
  refine tk_go 21 (v := ?a7nv21) ?a7nhy21 ?_
  case a7nhy21 => intro w hSw; (try dsimp only at hSw); go_simp; try with_reducible rfl
  refine tk_go 22 (v := ?a7nv22) ?a7nhy22 ?_
  case a7nhy22 => intro w hSw; simp only [nrm]; (try dsimp only at hSw); go_simp; try with_reducible rfl
  refine wpAnyH_done (by kernel_rfl) ?_ _
  simp only [Act.put, nrm]
  have HS : Hid (Sw w u L d) := SW
  clear SW c0 c1 c2 c3 c4 c5 c6 c7 c8 c9 c10 c11 c12 c13 c14 c15 c16 m0 hHeld
  go_wp2_with fail
  go_ret
  exact ⟨by rw [HE.out]; rfl, HS.out.bel⟩

set_option maxRecDepth 100000 in
set_option maxHeartbeats 8000000 in
theorem shopOk_none (L : LT) (d : SD) (w : World) (I : Rd w L d) (hs : Short L) (ho : outerB d = true) (hm : d.m = rdyL d.t) (hc : d.c = cw d.t d.m) (hz : L.m.n = 0) :
    Calls Tryz.prog 33 #[sv L d] w fun e w' => e = .returned (.bool (shopOk d)) ∧ Below w.heap.size w w' := by
  have HI : Hid (Rd w L d) := I
  obtain ⟨s0, s1, s2, s3, s4, s5, s6, s7, s8, s9⟩ := short_parts hs
  have HSH : Hid (Short L) := hs
  have HLM : Hid (d.m.length = L.m.n ∧ d.n.length = L.n.n) := ⟨I.m.1, I.n.1⟩
  clear I hs
  have hbz : ((L.m.n : Int) == (0 : Int)) = true := by simp [hz]
  have HZ : Hid (L.m.n = 0) := hz
  clear hz
  have HM : Hid (∀ k, k < L.m.n → 0 ≤ findT d.t (d.m.getD k 0)) := fun k hk => members_found hm (by rw [HLM.out.1]; exact hk)
  have HR : Hid (∀ (X : World) (g c : Nat), Row X g c (cw d.t d.m) → Ints X (some ⟨g, 0, none⟩) L.m.n (cw d.t d.m)) := fun X g c R => by
    have h := R.ints
    rw [cw_len, HLM.out.1] at h
    exact h
  have HF : Hid (outerB d = true ∧ decide (d.m = rdyL d.t) = true ∧ decide (d.c = cw d.t d.m) = true) := ⟨ho, decide_eq_true hm, decide_eq_true hc⟩
  have HW : Hid (shopOk d = (!kept d && (if d.m.length = 0 then decide (d.n.length = 0) else innerB d))) := by show _ = _; rw [shopOk, ho, decide_eq_true hm, decide_eq_true hc]; rfl
  clear ho hm hc
  obtain ⟨W0, hW0⟩ : ∃ W0, W0 = w.alloc (.cells (sc L d) 36) := ⟨_, rfl⟩
  have SW : Sw w W0 L d := by rw [hW0]; exact sw_new _ _ _
  go_enter Tryz.func33, Tryz.ntmps33
  obtain ⟨c0, c1, c2, c3, c4, c5, c6, c7, c8, c9, c10, c11, c12, c13, c14, c15, c16⟩ := SW.bx.shop
  rw [hW0] at c0 c1 c2 c3 c4 c5 c6 c7 c8 c9 c10 c11 c12 c13 c14 c15 c16
  go_wp2_with fail
  rw [← hW0] at c0 c1 c2 c3 c4 c5 c6 c7 c8 c9 c10 c11 c12 c13 c14 c15 c16 ⊢
  have m0 := SW.bx.1
  clear hW0
  refine wp_region_held_drew (S := fun w' => w'.cell? ⟨w.heap.size, 0, none⟩ = some (.int .i64 d.p) ∧ w'.cell? ⟨w.heap.size, 1, none⟩ = some (.int .i64 d.q) ∧ w'.cell? ⟨w.heap.size, 2, none⟩ = some L.t.v ∧ w'.cell? ⟨w.heap.size, 3, none⟩ = some L.m.v ∧ w'.cell? ⟨w.heap.size, 4, none⟩ = some L.c.v ∧ w'.cell? ⟨w.heap.size, 5, none⟩ = some L.n.v ∧ w'.cell? ⟨w.heap.size, 6, none⟩ = some L.s.v ∧ w'.cell? ⟨w.heap.size, 7, none⟩ = some L.r.v ∧ w'.cell? ⟨w.heap.size, 8, none⟩ = some L.l.v ∧ w'.cell? ⟨w.heap.size, 9, none⟩ = some L.h.v ∧ w'.cell? ⟨w.heap.size, 10, none⟩ = some (.int .i64 d.lt) ∧ w'.cell? ⟨w.heap.size, 11, none⟩ = some (.int .i64 d.la) ∧ w'.cell? ⟨w.heap.size, 12, none⟩ = some L.y.v ∧ w'.cell? ⟨w.heap.size, 13, none⟩ = some L.z.v ∧ w'.cell? ⟨w.heap.size, 14, none⟩ = some (.int .i64 d.yq) ∧ w'.cell? ⟨w.heap.size, 15, none⟩ = some (.int .i64 d.yt) ∧ w'.cell? ⟨w.heap.size, 16, none⟩ = some (.int .i64 d.w)) (by kernel_rfl) (by simp [*]) (fun hHeld => ?_)
  refine tk_go 0 (v := ?a8nv0) ?a8nhy0 ?_
  case a8nhy0 => intro w hSw; (try dsimp only at hSw); go_simp; try with_reducible rfl
  refine wpAnyH_ready (rs := [1]) (by kernel_rfl) (by simp) ?_
  refine AllReadyH.cons rfl (fun K hK => ?_) AllReadyH.nil
  go_simp
  refine (specOuter L d _ (HI.out.t.kept (by first | with_reducible exact SW.bel | with_reducible exact SW.drew.bel)) s0).mono ?_
  rw [HF.out.1]
  rintro e u ⟨rfl, B⟩
  have SW : Sw w u L d := (by first | with_reducible exact SW.all B | with_reducible exact SW.drew.all B)
  obtain ⟨c0, c1, c2, c3, c4, c5, c6, c7, c8, c9, c10, c11, c12, c13, c14, c15, c16⟩ := SW.bx.shop
  have m0 := SW.bx.1
  go_wp2_with fail
  refine hK.out _ _ (by simp [*]) (fun hHeld => ?_)
  clear hK K
  refine tk_go 2 (v := ?a8nv2) ?a8nhy2 ?_
  case a8nhy2 => intro w hSw; (try dsimp only at hSw); go_simp; try with_reducible rfl
  refine tk_go 3 (v := ?a8nv3) ?a8nhy3 ?_
  case a8nhy3 => intro w hSw; simp only [nrm]; (try dsimp only at hSw); go_simp; try with_reducible rfl
  refine tk_go 4 (v := ?a8nv4) ?a8nhy4 ?_
  case a8nhy4 => intro w hSw; simp only [nrm]; (try dsimp only at hSw); go_simp; try with_reducible rfl
  refine tk_go 5 (v := ?a8nv5) ?a8nhy5 ?_
  case a8nhy5 => intro w hSw; simp only [nrm]; (try dsimp only at hSw); go_simp; try with_reducible rfl
  refine tk_go 6 (v := ?a8nv6) ?a8nhy6 ?_
  case a8nhy6 => intro w hSw; simp only [nrm]; (try dsimp only at hSw); go_simp; try with_reducible rfl
  refine tk_go 7 (v := ?a8nv7) ?a8nhy7 ?_
  case a8nhy7 => intro w hSw; simp only [nrm]; (try dsimp only at hSw); go_simp; try with_reducible rfl
  refine wpAnyH_ready (rs := [8]) (by kernel_rfl) (by simp) ?_
  refine AllReadyH.cons rfl (fun K hK => ?_) AllReadyH.nil
  go_simp
  refine (specReadyOf L.t.a L.t.n L.t.c d.t _ (HI.out.t.kept (by first | with_reducible exact SW.bel | with_reducible exact SW.drew.bel)) s0).mono ?_
  rintro e u ⟨g, n, c, rfl, F, B⟩
  have SW : Sw w u L d := (by first | with_reducible exact SW.all B | with_reducible exact SW.drew.all B)
  obtain ⟨c0, c1, c2, c3, c4, c5, c6, c7, c8, c9, c10, c11, c12, c13, c14, c15, c16⟩ := SW.bx.shop
  have m0 := SW.bx.1
  go_wp2_with fail
  refine hK.out _ _ (by simp [*]) (fun hHeld => ?_)
  clear hK K
  refine wpAnyH_ready (rs := [9]) (by kernel_rfl) (by simp) ?_
  refine AllReadyH.cons rfl (fun K hK => ?_) AllReadyH.nil
  go_simp
  refine (specSame L.m.a L.m.n L.m.c d.m (some ⟨g, 0, none⟩) n c (rdyL d.t) _ (HI.out.m.kept (by first | with_reducible exact SW.bel | with_reducible exact SW.drew.bel)) (by first | exact F.ints | exact F.ints.drew) s1).mono ?_
  rw [HF.out.2.1]
  rintro e u ⟨rfl, B⟩
  have SW : Sw w u L d := (by first | with_reducible exact SW.all B | with_reducible exact SW.drew.all B)
  obtain ⟨c0, c1, c2, c3, c4, c5, c6, c7, c8, c9, c10, c11, c12, c13, c14, c15, c16⟩ := SW.bx.shop
  have m0 := SW.bx.1
  go_wp2_with fail
  refine hK.out _ _ (by simp [*]) (fun hHeld => ?_)
  clear hK K
  refine tk_go 10 (v := ?a8nv10) ?a8nhy10 ?_
  case a8nhy10 => intro w hSw; (try dsimp only at hSw); go_simp; try with_reducible rfl
  refine tk_go 11 (v := ?a8nv11) ?a8nhy11 ?_
  case a8nhy11 => intro w hSw; simp only [nrm]; (try dsimp only at hSw); go_simp; try with_reducible rfl
  refine tk_go 12 (v := ?a8nv12) ?a8nhy12 ?_
  case a8nhy12 => intro w hSw; simp only [nrm]; (try dsimp only at hSw); go_simp; try with_reducible rfl
  refine tk_go 13 (v := ?a8nv13) ?a8nhy13 ?_
  case a8nhy13 => intro w hSw; simp only [nrm]; (try dsimp only at hSw); go_simp; try with_reducible rfl
  refine tk_go 14 (v := ?a8nv14) ?a8nhy14 ?_
  case a8nhy14 => intro w hSw; simp only [nrm]; (try dsimp only at hSw); go_simp; try with_reducible rfl
  refine tk_go 15 (v := ?a8nv15) ?a8nhy15 ?_
  case a8nhy15 => intro w hSw; simp only [nrm]; (try dsimp only at hSw); go_simp; try with_reducible rfl
  refine tk_go 16 (v := ?a8nv16) ?a8nhy16 ?_
  case a8nhy16 => intro w hSw; simp only [nrm]; (try dsimp only at hSw); go_simp; try with_reducible rfl
  refine tk_go 17 (v := ?a8nv17) ?a8nhy17 ?_
  case a8nhy17 => intro w hSw; simp only [nrm]; (try dsimp only at hSw); go_simp; try with_reducible rfl
  refine tk_go 18 (v := ?a8nv18) ?a8nhy18 ?_
  case a8nhy18 => intro w hSw; simp only [nrm]; (try dsimp only at hSw); go_simp; try with_reducible rfl
  refine wpAnyH_ready (rs := [19]) (by kernel_rfl) (by simp) ?_
  refine AllReadyH.cons rfl (fun K hK => ?_) AllReadyH.nil
  go_simp
  refine (specCw L.t.a L.t.n L.t.c d.t L.m.a L.m.n L.m.c d.m _ (HI.out.t.kept (by first | with_reducible exact SW.bel | with_reducible exact SW.drew.bel)) (HI.out.m.kept (by first | with_reducible exact SW.bel | with_reducible exact SW.drew.bel)) s0 s1 HM.out).mono ?_
  rintro e u ⟨g2, k2, rfl, R, hg, B⟩
  have SW : Sw w u L d := (by first | with_reducible exact SW.all B | with_reducible exact SW.drew.all B)
  obtain ⟨c0, c1, c2, c3, c4, c5, c6, c7, c8, c9, c10, c11, c12, c13, c14, c15, c16⟩ := SW.bx.shop
  have m0 := SW.bx.1
  go_wp2_with fail
  refine hK.out _ _ (by simp [*]) (fun hHeld => ?_)
  clear hK K
  refine wpAnyH_ready (rs := [20]) (by kernel_rfl) (by simp) ?_
  refine AllReadyH.cons rfl (fun K hK => ?_) AllReadyH.nil
  go_simp
  refine (specSame L.c.a L.c.n L.c.c d.c (some ⟨g2, 0, none⟩) L.m.n k2 (cw d.t d.m) _ (HI.out.c.kept (by first | with_reducible exact SW.bel | with_reducible exact SW.drew.bel)) (by first | exact HR.out _ _ _ R | exact HR.out _ _ _ R.drew) s2).mono ?_
  rw [HF.out.2.2]
  rintro e u ⟨rfl, B⟩
  have SW : Sw w u L d := (by first | with_reducible exact SW.all B | with_reducible exact SW.drew.all B)
  obtain ⟨c0, c1, c2, c3, c4, c5, c6, c7, c8, c9, c10, c11, c12, c13, c14, c15, c16⟩ := SW.bx.shop
  have m0 := SW.bx.1
  go_wp2_with fail
  refine hK.out _ _ (by simp [*]) (fun hHeld => ?_)
  clear hK K
  refine tk_go 21 (v := ?a8nv21) ?a8nhy21 ?_
  case a8nhy21 => intro w hSw; (try dsimp only at hSw); go_simp; try with_reducible rfl
  refine tk_go 22 (v := ?a8nv22) ?a8nhy22 ?_
  case a8nhy22 => intro w hSw; simp only [nrm]; (try dsimp only at hSw); go_simp; try with_reducible rfl
  refine wpAnyH_done (by kernel_rfl) ?_ _
  simp only [Act.put, nrm]
  have HS : Hid (Sw w u L d) := SW
  clear SW c0 c1 c2 c3 c4 c5 c6 c7 c8 c9 c10 c11 c12 c13 c14 c15 c16 m0 hHeld
  obtain ⟨c0, c1, c2, c3, c4, c5, c6, c7, c8, c9, c10, c11, c12, c13, c14, c15, c16⟩ := HS.out.bx.shop
  have SW1 : Hid (Sw w u L d) := HS.out
  cases hS : noS d.s d.r
  · have XS : Hid (noS d.s d.r = false) := hS
    have HE : Hid (shopOk d = false) := by
      show _ = _
      have e : keptS d = true := by rw [keptS, hS, show decide (d.m.length = 0) = true from decide_eq_true (by rw [HLM.out.1]; exact HZ.out)]; rfl
      rw [HW.out, kept, e]
      simp
    clear hS
    go_wp2_with fail
    refine (specNoS L.s.a L.s.n L.s.c L.r.a L.r.n L.r.c d.s d.r _ HI.out.s.1 HI.out.r.1).mono ?_
    rw [XS.out]
    rintro e w2 ⟨rfl, B2⟩
    have SW2 : Hid (Sw w w2 L d) := SW1.out.all B2
    clear B2
    obtain ⟨c0, c1, c2, c3, c4, c5, c6, c7, c8, c9, c10, c11, c12, c13, c14, c15, c16⟩ := SW2.out.bx.shop
    go_wp2_with fail
    go_ret
    exact ⟨by rw [HE.out]; rfl, SW2.out.bel⟩
  have XS : Hid (noS d.s d.r = true) := hS
  clear hS
  go_wp2_with fail
  refine (specNoS L.s.a L.s.n L.s.c L.r.a L.r.n L.r.c d.s d.r _ HI.out.s.1 HI.out.r.1).mono ?_
  rw [XS.out]
  rintro e w2 ⟨rfl, B2⟩
  have SW2 : Hid (Sw w w2 L d) := SW1.out.all B2
  clear B2
  obtain ⟨c0, c1, c2, c3, c4, c5, c6, c7, c8, c9, c10, c11, c12, c13, c14, c15, c16⟩ := SW2.out.bx.shop
  cases hL : noL d.l d.h d.lt d.la
  · have XL : Hid (noL d.l d.h d.lt d.la = false) := hL
    have HE : Hid (shopOk d = false) := by
      show _ = _
      have e : keptL d = true := by rw [keptL, hL, show decide (d.m.length = 0) = true from decide_eq_true (by rw [HLM.out.1]; exact HZ.out)]; rfl
      rw [HW.out, kept, e]
      simp
    clear hL
    go_wp2_with fail
    refine (specNoL L.l.a L.l.n L.l.c L.h.a L.h.n L.h.c d.l d.h d.lt d.la _ HI.out.l.1 HI.out.h.1).mono ?_
    rw [XL.out]
    rintro e w3 ⟨rfl, B3⟩
    have SW3 : Hid (Sw w w3 L d) := SW2.out.all B3
    clear B3
    obtain ⟨c0, c1, c2, c3, c4, c5, c6, c7, c8, c9, c10, c11, c12, c13, c14, c15, c16⟩ := SW3.out.bx.shop
    go_wp2_with fail
    go_ret
    exact ⟨by rw [HE.out]; rfl, SW3.out.bel⟩
  have XL : Hid (noL d.l d.h d.lt d.la = true) := hL
  clear hL
  go_wp2_with fail
  refine (specNoL L.l.a L.l.n L.l.c L.h.a L.h.n L.h.c d.l d.h d.lt d.la _ HI.out.l.1 HI.out.h.1).mono ?_
  rw [XL.out]
  rintro e w3 ⟨rfl, B3⟩
  have SW3 : Hid (Sw w w3 L d) := SW2.out.all B3
  clear B3
  obtain ⟨c0, c1, c2, c3, c4, c5, c6, c7, c8, c9, c10, c11, c12, c13, c14, c15, c16⟩ := SW3.out.bx.shop
  cases hM : noM d.y d.z d.yq d.yt
  · have XM : Hid (noM d.y d.z d.yq d.yt = false) := hM
    have HE : Hid (shopOk d = false) := by
      show _ = _
      have e : keptM d = true := by rw [keptM, hM, show decide (d.m.length = 0) = true from decide_eq_true (by rw [HLM.out.1]; exact HZ.out)]; rfl
      rw [HW.out, kept, e]
      simp
    clear hM
    go_wp2_with fail
    refine (specNoM L.y.a L.y.n L.y.c L.z.a L.z.n L.z.c d.y d.z d.yq d.yt _ HI.out.y.1 HI.out.z.1).mono ?_
    rw [XM.out]
    rintro e w4 ⟨rfl, B4⟩
    have SW4 : Hid (Sw w w4 L d) := SW3.out.all B4
    clear B4
    obtain ⟨c0, c1, c2, c3, c4, c5, c6, c7, c8, c9, c10, c11, c12, c13, c14, c15, c16⟩ := SW4.out.bx.shop
    go_wp2_with fail
    go_ret
    exact ⟨by rw [HE.out]; rfl, SW4.out.bel⟩
  have XM : Hid (noM d.y d.z d.yq d.yt = true) := hM
  clear hM
  go_wp2_with fail
  refine (specNoM L.y.a L.y.n L.y.c L.z.a L.z.n L.z.c d.y d.z d.yq d.yt _ HI.out.y.1 HI.out.z.1).mono ?_
  rw [XM.out]
  rintro e w4 ⟨rfl, B4⟩
  have SW4 : Hid (Sw w w4 L d) := SW3.out.all B4
  clear B4
  obtain ⟨c0, c1, c2, c3, c4, c5, c6, c7, c8, c9, c10, c11, c12, c13, c14, c15, c16⟩ := SW4.out.bx.shop
  have HK : Hid (kept d = false) := by
    show _ = _
    rw [kept, keptS, keptL, keptM, XS.out, XL.out, XM.out]
    simp
  by_cases hn : L.n.n = 0
  · have hbn : ((L.n.n : Int) == (0 : Int)) = true := by simp [hn]
    have HE : Hid (shopOk d = true) := by show _ = _; rw [HW.out, HK.out, if_pos (by rw [HLM.out.1]; exact HZ.out), HLM.out.2, decide_eq_true hn]; rfl
    clear hn
    go_wp2_with fail
    go_ret
    exact ⟨by rw [HE.out]; rfl, SW4.out.bel⟩
  · have hbn : ((L.n.n : Int) == (0 : Int)) = false := by simp; omega
    have HE : Hid (shopOk d = false) := by show _ = _; rw [HW.out, HK.out, if_pos (by rw [HLM.out.1]; exact HZ.out), HLM.out.2, decide_eq_false hn]; rfl
    clear hn
    go_wp2_with fail
    go_ret
    exact ⟨by rw [HE.out]; rfl, SW4.out.bel⟩

end Go.Proofs.YtcmeimfjedakeaaGreat.Crew
