/-
  spec.l14Inner at every Shop. (Written by wip/tools/gen_shopok.py.)
-/
import Derived.Test.YtcmeimfjedakeaaGreatShopOuter
import Derived.Test.YtcmeimfjedakeaaGreatAdjSpec
import Derived.Deep.RegionHeld3
namespace Go.Proofs.YtcmeimfjedakeaaGreat.Crew
open Go.ChangeShapes Go.WideShapes Go.ChangeAt Go.RowKit

/-- A Shop's variable lies there still. -/
structure Sw (w X : World) (L : LT) (d : SD) : Prop where
  bel : Below w.heap.size w X
  bx : Bx X w.heap.size (sc L d).toList

theorem Sw.all {w X Y : World} {L : LT} {d : SD} (h : Sw w X L d) (k : Below X.heap.size X Y) : Sw w Y L d := ⟨below_call h.bel h.bel.size k, h.bx.all k⟩

theorem Sw.alloc {w X : World} {L : LT} {d : SD} (h : Sw w X L d) (o : Obj) : Sw w (X.alloc o) L d := h.all (below_new _ _)

theorem Sw.drew {w X : World} {L : LT} {d : SD} (h : Sw w X L d) : Sw w X.drew L d := h.all (below_drewN (Below.refl _ _) 1)

theorem sw_new (w : World) (L : LT) (d : SD) : Sw w (w.alloc (.cells (sc L d) 36)) L d := ⟨below_new _ _, shop_new _ _ _⟩

/-- What the policy keeps, where there are members. -/
def innerB (d : SD) : Bool :=
  if d.p = 5 then manyOk d.y d.z d.yq d.yt && decide (d.yq = d.q) && decide (d.y = adjusted d.c d.q) && decide (d.n = d.z)
  else countsOk d.c d.n && (if d.p = 1 then smoothOk d.s d.r && decide (d.s = d.c) else decide (d.p ≠ 3) || (listOk d.l d.h d.lt d.la && decide (d.l = d.c)))

set_option maxRecDepth 100000 in
set_option maxHeartbeats 4000000 in
theorem innerMany_no (L : LT) (d : SD) (w : World) (I : Rd w L d) (hs : Short L) (hp : d.p = 5) (h1 : manyOk d.y d.z d.yq d.yt = false) :
    Calls Tryz.prog 95 #[sv L d] w fun e w' => e = .returned (.bool false) ∧ Below w.heap.size w w' := by
  have HI : Hid (Rd w L d) := I
  obtain ⟨s0, s1, s2, s3, s4, s5, s6, s7, s8, s9⟩ := short_parts hs
  have HF : Hid (manyOk d.y d.z d.yq d.yt = false ∧ True) := ⟨h1, trivial⟩
  have hb5 : (d.p == (5 : Int)) = true := by simp [hp]
  clear h1
  clear I hp
  obtain ⟨W0, hW0⟩ : ∃ W0, W0 = w.alloc (.cells (sc L d) 36) := ⟨_, rfl⟩
  have SW : Sw w W0 L d := by rw [hW0]; exact sw_new _ _ _
  go_enter Tryz.func95, Tryz.ntmps95
  obtain ⟨c0, c1, c2, c3, c4, c5, c6, c7, c8, c9, c10, c11, c12, c13, c14, c15, c16⟩ := SW.bx.shop
  rw [hW0] at c0 c1 c2 c3 c4 c5 c6 c7 c8 c9 c10 c11 c12 c13 c14 c15 c16
  go_wp2_with fail
  rw [← hW0] at c0 c1 c2 c3 c4 c5 c6 c7 c8 c9 c10 c11 c12 c13 c14 c15 c16 ⊢
  have m0 := SW.bx.1
  clear hW0
  refine wp_region_held_drew (S := fun w' => w'.cell? ⟨w.heap.size, 0, none⟩ = some (.int .i64 d.p) ∧ w'.cell? ⟨w.heap.size, 1, none⟩ = some (.int .i64 d.q) ∧ w'.cell? ⟨w.heap.size, 2, none⟩ = some L.t.v ∧ w'.cell? ⟨w.heap.size, 3, none⟩ = some L.m.v ∧ w'.cell? ⟨w.heap.size, 4, none⟩ = some L.c.v ∧ w'.cell? ⟨w.heap.size, 5, none⟩ = some L.n.v ∧ w'.cell? ⟨w.heap.size, 6, none⟩ = some L.s.v ∧ w'.cell? ⟨w.heap.size, 7, none⟩ = some L.r.v ∧ w'.cell? ⟨w.heap.size, 8, none⟩ = some L.l.v ∧ w'.cell? ⟨w.heap.size, 9, none⟩ = some L.h.v ∧ w'.cell? ⟨w.heap.size, 10, none⟩ = some (.int .i64 d.lt) ∧ w'.cell? ⟨w.heap.size, 11, none⟩ = some (.int .i64 d.la) ∧ w'.cell? ⟨w.heap.size, 12, none⟩ = some L.y.v ∧ w'.cell? ⟨w.heap.size, 13, none⟩ = some L.z.v ∧ w'.cell? ⟨w.heap.size, 14, none⟩ = some (.int .i64 d.yq) ∧ w'.cell? ⟨w.heap.size, 15, none⟩ = some (.int .i64 d.yt) ∧ w'.cell? ⟨w.heap.size, 16, none⟩ = some (.int .i64 d.w)) (by kernel_rfl) (by simp [*]) (fun hHeld => ?_)
  refine tk_go 0 (v := ?a1nv0) ?a1nhy0 ?_
  case a1nhy0 => intro w hSw; (try dsimp only at hSw); go_simp; try with_reducible rfl
  refine tk_go 1 (v := ?a1nv1) ?a1nhy1 ?_
  case a1nhy1 => intro w hSw; (try dsimp only at hSw); go_simp; try with_reducible rfl
  refine wpAnyH_ready (rs := [2]) (by kernel_rfl) (by simp) ?_
  refine AllReadyH.cons rfl (fun K hK => ?_) AllReadyH.nil
  go_simp
  refine (specManyX L.y.a L.y.n L.y.c d.y L.z.a L.z.n L.z.c d.z d.yq d.yt _ (HI.out.y.kept (by first | with_reducible exact SW.bel | with_reducible exact SW.drew.bel)) (HI.out.z.kept (by first | with_reducible exact SW.bel | with_reducible exact SW.drew.bel)) s8).mono ?_
  rw [HF.out.1]
  rintro e u ⟨rfl, B⟩
  have SW : Sw w u L d := (by first | with_reducible exact SW.all B | with_reducible exact SW.drew.all B)
  obtain ⟨c0, c1, c2, c3, c4, c5, c6, c7, c8, c9, c10, c11, c12, c13, c14, c15, c16⟩ := SW.bx.shop
  have m0 := SW.bx.1
  go_wp2_with fail
  refine hK.out _ _ (by simp [*]) (fun hHeld => ?_)
  clear hK K
  refine tk_go 3 (v := ?a1nv3) ?a1nhy3 ?_
  case a1nhy3 => intro w hSw; (try dsimp only at hSw); go_simp; try with_reducible rfl
  refine tk_no 4 ?_
  refine tk_no 5 ?_
  refine tk_no 6 ?_
  refine tk_no 7 ?_
  refine tk_no 8 ?_
  refine tk_no 9 ?_
  refine tk_go 10 (v := ?a1nv10) ?a1nhy10 ?_
  case a1nhy10 => intro w hSw; simp only [nrm]; (try dsimp only at hSw); go_simp; try with_reducible rfl
  refine tk_go 11 (v := ?a1nv11) ?a1nhy11 ?_
  case a1nhy11 => intro w hSw; simp only [nrm]; (try dsimp only at hSw); go_simp; try with_reducible rfl
  refine tk_no 12 ?_
  refine tk_no 13 ?_
  refine tk_no 14 ?_
  refine tk_no 15 ?_
  refine tk_no 16 ?_
  refine tk_no 17 ?_
  refine tk_no 18 ?_
  refine tk_no 19 ?_
  refine tk_no 20 ?_
  refine tk_go 21 (v := ?a1nv21) ?a1nhy21 ?_
  case a1nhy21 => intro w hSw; simp only [nrm]; (try dsimp only at hSw); go_simp; try with_reducible rfl
  refine tk_go 22 (v := ?a1nv22) ?a1nhy22 ?_
  case a1nhy22 => intro w hSw; simp only [nrm]; (try dsimp only at hSw); go_simp; try with_reducible rfl
  refine tk_no 23 ?_
  refine tk_no 24 ?_
  refine tk_no 25 ?_
  refine tk_no 26 ?_
  refine tk_no 27 ?_
  refine tk_no 28 ?_
  refine tk_go 29 (v := ?a1nv29) ?a1nhy29 ?_
  case a1nhy29 => intro w hSw; simp only [nrm]; (try dsimp only at hSw); go_simp; try with_reducible rfl
  refine tk_go 30 (v := ?a1nv30) ?a1nhy30 ?_
  case a1nhy30 => intro w hSw; simp only [nrm]; (try dsimp only at hSw); go_simp; try with_reducible rfl
  refine wpAnyH_done (by kernel_rfl) ?_ _
  simp only [Act.put, nrm]
  have HS : Hid (Sw w u L d) := SW
  clear SW c0 c1 c2 c3 c4 c5 c6 c7 c8 c9 c10 c11 c12 c13 c14 c15 c16 m0 hHeld
  go_wp2_with fail
  go_ret
  exact ⟨rfl, HS.out.bel⟩

set_option maxRecDepth 100000 in
set_option maxHeartbeats 4000000 in
theorem innerMany_procs (L : LT) (d : SD) (w : World) (I : Rd w L d) (hs : Short L) (hp : d.p = 5) (h1 : manyOk d.y d.z d.yq d.yt = true) (h2 : ¬ d.yq = d.q) :
    Calls Tryz.prog 95 #[sv L d] w fun e w' => e = .returned (.bool false) ∧ Below w.heap.size w w' := by
  have HI : Hid (Rd w L d) := I
  obtain ⟨s0, s1, s2, s3, s4, s5, s6, s7, s8, s9⟩ := short_parts hs
  have HF : Hid (manyOk d.y d.z d.yq d.yt = true ∧ True) := ⟨h1, trivial⟩
  have hb5 : (d.p == (5 : Int)) = true := by simp [hp]
  have hbq : (d.yq == d.q) = false := by simpa using h2
  clear h1 h2
  clear I hp
  obtain ⟨W0, hW0⟩ : ∃ W0, W0 = w.alloc (.cells (sc L d) 36) := ⟨_, rfl⟩
  have SW : Sw w W0 L d := by rw [hW0]; exact sw_new _ _ _
  go_enter Tryz.func95, Tryz.ntmps95
  obtain ⟨c0, c1, c2, c3, c4, c5, c6, c7, c8, c9, c10, c11, c12, c13, c14, c15, c16⟩ := SW.bx.shop
  rw [hW0] at c0 c1 c2 c3 c4 c5 c6 c7 c8 c9 c10 c11 c12 c13 c14 c15 c16
  go_wp2_with fail
  rw [← hW0] at c0 c1 c2 c3 c4 c5 c6 c7 c8 c9 c10 c11 c12 c13 c14 c15 c16 ⊢
  have m0 := SW.bx.1
  clear hW0
  refine wp_region_held_drew (S := fun w' => w'.cell? ⟨w.heap.size, 0, none⟩ = some (.int .i64 d.p) ∧ w'.cell? ⟨w.heap.size, 1, none⟩ = some (.int .i64 d.q) ∧ w'.cell? ⟨w.heap.size, 2, none⟩ = some L.t.v ∧ w'.cell? ⟨w.heap.size, 3, none⟩ = some L.m.v ∧ w'.cell? ⟨w.heap.size, 4, none⟩ = some L.c.v ∧ w'.cell? ⟨w.heap.size, 5, none⟩ = some L.n.v ∧ w'.cell? ⟨w.heap.size, 6, none⟩ = some L.s.v ∧ w'.cell? ⟨w.heap.size, 7, none⟩ = some L.r.v ∧ w'.cell? ⟨w.heap.size, 8, none⟩ = some L.l.v ∧ w'.cell? ⟨w.heap.size, 9, none⟩ = some L.h.v ∧ w'.cell? ⟨w.heap.size, 10, none⟩ = some (.int .i64 d.lt) ∧ w'.cell? ⟨w.heap.size, 11, none⟩ = some (.int .i64 d.la) ∧ w'.cell? ⟨w.heap.size, 12, none⟩ = some L.y.v ∧ w'.cell? ⟨w.heap.size, 13, none⟩ = some L.z.v ∧ w'.cell? ⟨w.heap.size, 14, none⟩ = some (.int .i64 d.yq) ∧ w'.cell? ⟨w.heap.size, 15, none⟩ = some (.int .i64 d.yt) ∧ w'.cell? ⟨w.heap.size, 16, none⟩ = some (.int .i64 d.w)) (by kernel_rfl) (by simp [*]) (fun hHeld => ?_)
  refine tk_go 0 (v := ?a2nv0) ?a2nhy0 ?_
  case a2nhy0 => intro w hSw; (try dsimp only at hSw); go_simp; try with_reducible rfl
  refine tk_go 1 (v := ?a2nv1) ?a2nhy1 ?_
  case a2nhy1 => intro w hSw; (try dsimp only at hSw); go_simp; try with_reducible rfl
  refine wpAnyH_ready (rs := [2]) (by kernel_rfl) (by simp) ?_
  refine AllReadyH.cons rfl (fun K hK => ?_) AllReadyH.nil
  go_simp
  refine (specManyX L.y.a L.y.n L.y.c d.y L.z.a L.z.n L.z.c d.z d.yq d.yt _ (HI.out.y.kept (by first | with_reducible exact SW.bel | with_reducible exact SW.drew.bel)) (HI.out.z.kept (by first | with_reducible exact SW.bel | with_reducible exact SW.drew.bel)) s8).mono ?_
  rw [HF.out.1]
  rintro e u ⟨rfl, B⟩
  have SW : Sw w u L d := (by first | with_reducible exact SW.all B | with_reducible exact SW.drew.all B)
  obtain ⟨c0, c1, c2, c3, c4, c5, c6, c7, c8, c9, c10, c11, c12, c13, c14, c15, c16⟩ := SW.bx.shop
  have m0 := SW.bx.1
  go_wp2_with fail
  refine hK.out _ _ (by simp [*]) (fun hHeld => ?_)
  clear hK K
  refine tk_go 3 (v := ?a2nv3) ?a2nhy3 ?_
  case a2nhy3 => intro w hSw; (try dsimp only at hSw); go_simp; try with_reducible rfl
  refine tk_go 4 (v := ?a2nv4) ?a2nhy4 ?_
  case a2nhy4 => intro w hSw; simp only [nrm]; (try dsimp only at hSw); go_simp; try with_reducible rfl
  refine tk_go 5 (v := ?a2nv5) ?a2nhy5 ?_
  case a2nhy5 => intro w hSw; simp only [nrm]; (try dsimp only at hSw); go_simp; try with_reducible rfl
  refine tk_go 6 (v := ?a2nv6) ?a2nhy6 ?_
  case a2nhy6 => intro w hSw; simp only [nrm]; (try dsimp only at hSw); go_simp; try with_reducible rfl
  refine tk_go 7 (v := ?a2nv7) ?a2nhy7 ?_
  case a2nhy7 => intro w hSw; simp only [nrm]; (try dsimp only at hSw); go_simp; try with_reducible rfl
  refine tk_go 8 (v := ?a2nv8) ?a2nhy8 ?_
  case a2nhy8 => intro w hSw; simp only [nrm]; (try dsimp only at hSw); go_simp; try with_reducible rfl
  refine tk_go 9 (v := ?a2nv9) ?a2nhy9 ?_
  case a2nhy9 => intro w hSw; simp only [nrm]; (try dsimp only at hSw); go_simp; try with_reducible rfl
  refine tk_go 10 (v := ?a2nv10) ?a2nhy10 ?_
  case a2nhy10 => intro w hSw; simp only [nrm]; (try dsimp only at hSw); go_simp; try with_reducible rfl
  refine tk_go 11 (v := ?a2nv11) ?a2nhy11 ?_
  case a2nhy11 => intro w hSw; simp only [nrm]; (try dsimp only at hSw); go_simp; try with_reducible rfl
  refine tk_no 12 ?_
  refine tk_no 13 ?_
  refine tk_no 14 ?_
  refine tk_no 15 ?_
  refine tk_no 16 ?_
  refine tk_no 17 ?_
  refine tk_no 18 ?_
  refine tk_no 19 ?_
  refine tk_no 20 ?_
  refine tk_go 21 (v := ?a2nv21) ?a2nhy21 ?_
  case a2nhy21 => intro w hSw; simp only [nrm]; (try dsimp only at hSw); go_simp; try with_reducible rfl
  refine tk_go 22 (v := ?a2nv22) ?a2nhy22 ?_
  case a2nhy22 => intro w hSw; simp only [nrm]; (try dsimp only at hSw); go_simp; try with_reducible rfl
  refine tk_no 23 ?_
  refine tk_no 24 ?_
  refine tk_no 25 ?_
  refine tk_no 26 ?_
  refine tk_no 27 ?_
  refine tk_no 28 ?_
  refine tk_go 29 (v := ?a2nv29) ?a2nhy29 ?_
  case a2nhy29 => intro w hSw; simp only [nrm]; (try dsimp only at hSw); go_simp; try with_reducible rfl
  refine tk_go 30 (v := ?a2nv30) ?a2nhy30 ?_
  case a2nhy30 => intro w hSw; simp only [nrm]; (try dsimp only at hSw); go_simp; try with_reducible rfl
  refine wpAnyH_done (by kernel_rfl) ?_ _
  simp only [Act.put, nrm]
  have HS : Hid (Sw w u L d) := SW
  clear SW c0 c1 c2 c3 c4 c5 c6 c7 c8 c9 c10 c11 c12 c13 c14 c15 c16 m0 hHeld
  go_wp2_with fail
  go_ret
  exact ⟨rfl, HS.out.bel⟩

set_option maxRecDepth 100000 in
set_option maxHeartbeats 4000000 in
theorem innerMany_shares (L : LT) (d : SD) (w : World) (I : Rd w L d) (hs : Short L) (hp : d.p = 5) (h1 : manyOk d.y d.z d.yq d.yt = true) (h2 : d.yq = d.q) (h3 : ¬ d.y = adjusted d.c d.q) :
    Calls Tryz.prog 95 #[sv L d] w fun e w' => e = .returned (.bool false) ∧ Below w.heap.size w w' := by
  have HI : Hid (Rd w L d) := I
  obtain ⟨s0, s1, s2, s3, s4, s5, s6, s7, s8, s9⟩ := short_parts hs
  have HF : Hid (manyOk d.y d.z d.yq d.yt = true ∧ decide (d.y = adjusted d.c d.q) = false ∧ True) := ⟨h1, decide_eq_false h3, trivial⟩
  have hb5 : (d.p == (5 : Int)) = true := by simp [hp]
  have hbq : (d.yq == d.q) = true := by simp [h2]
  clear h1 h2 h3
  clear I hp
  obtain ⟨W0, hW0⟩ : ∃ W0, W0 = w.alloc (.cells (sc L d) 36) := ⟨_, rfl⟩
  have SW : Sw w W0 L d := by rw [hW0]; exact sw_new _ _ _
  go_enter Tryz.func95, Tryz.ntmps95
  obtain ⟨c0, c1, c2, c3, c4, c5, c6, c7, c8, c9, c10, c11, c12, c13, c14, c15, c16⟩ := SW.bx.shop
  rw [hW0] at c0 c1 c2 c3 c4 c5 c6 c7 c8 c9 c10 c11 c12 c13 c14 c15 c16
  go_wp2_with fail
  rw [← hW0] at c0 c1 c2 c3 c4 c5 c6 c7 c8 c9 c10 c11 c12 c13 c14 c15 c16 ⊢
  have m0 := SW.bx.1
  clear hW0
  refine wp_region_held_drew (S := fun w' => w'.cell? ⟨w.heap.size, 0, none⟩ = some (.int .i64 d.p) ∧ w'.cell? ⟨w.heap.size, 1, none⟩ = some (.int .i64 d.q) ∧ w'.cell? ⟨w.heap.size, 2, none⟩ = some L.t.v ∧ w'.cell? ⟨w.heap.size, 3, none⟩ = some L.m.v ∧ w'.cell? ⟨w.heap.size, 4, none⟩ = some L.c.v ∧ w'.cell? ⟨w.heap.size, 5, none⟩ = some L.n.v ∧ w'.cell? ⟨w.heap.size, 6, none⟩ = some L.s.v ∧ w'.cell? ⟨w.heap.size, 7, none⟩ = some L.r.v ∧ w'.cell? ⟨w.heap.size, 8, none⟩ = some L.l.v ∧ w'.cell? ⟨w.heap.size, 9, none⟩ = some L.h.v ∧ w'.cell? ⟨w.heap.size, 10, none⟩ = some (.int .i64 d.lt) ∧ w'.cell? ⟨w.heap.size, 11, none⟩ = some (.int .i64 d.la) ∧ w'.cell? ⟨w.heap.size, 12, none⟩ = some L.y.v ∧ w'.cell? ⟨w.heap.size, 13, none⟩ = some L.z.v ∧ w'.cell? ⟨w.heap.size, 14, none⟩ = some (.int .i64 d.yq) ∧ w'.cell? ⟨w.heap.size, 15, none⟩ = some (.int .i64 d.yt) ∧ w'.cell? ⟨w.heap.size, 16, none⟩ = some (.int .i64 d.w)) (by kernel_rfl) (by simp [*]) (fun hHeld => ?_)
  refine tk_go 0 (v := ?a3nv0) ?a3nhy0 ?_
  case a3nhy0 => intro w hSw; (try dsimp only at hSw); go_simp; try with_reducible rfl
  refine tk_go 1 (v := ?a3nv1) ?a3nhy1 ?_
  case a3nhy1 => intro w hSw; (try dsimp only at hSw); go_simp; try with_reducible rfl
  refine wpAnyH_ready (rs := [2]) (by kernel_rfl) (by simp) ?_
  refine AllReadyH.cons rfl (fun K hK => ?_) AllReadyH.nil
  go_simp
  refine (specManyX L.y.a L.y.n L.y.c d.y L.z.a L.z.n L.z.c d.z d.yq d.yt _ (HI.out.y.kept (by first | with_reducible exact SW.bel | with_reducible exact SW.drew.bel)) (HI.out.z.kept (by first | with_reducible exact SW.bel | with_reducible exact SW.drew.bel)) s8).mono ?_
  rw [HF.out.1]
  rintro e u ⟨rfl, B⟩
  have SW : Sw w u L d := (by first | with_reducible exact SW.all B | with_reducible exact SW.drew.all B)
  obtain ⟨c0, c1, c2, c3, c4, c5, c6, c7, c8, c9, c10, c11, c12, c13, c14, c15, c16⟩ := SW.bx.shop
  have m0 := SW.bx.1
  go_wp2_with fail
  refine hK.out _ _ (by simp [*]) (fun hHeld => ?_)
  clear hK K
  refine tk_go 3 (v := ?a3nv3) ?a3nhy3 ?_
  case a3nhy3 => intro w hSw; (try dsimp only at hSw); go_simp; try with_reducible rfl
  refine tk_go 4 (v := ?a3nv4) ?a3nhy4 ?_
  case a3nhy4 => intro w hSw; simp only [nrm]; (try dsimp only at hSw); go_simp; try with_reducible rfl
  refine tk_go 5 (v := ?a3nv5) ?a3nhy5 ?_
  case a3nhy5 => intro w hSw; simp only [nrm]; (try dsimp only at hSw); go_simp; try with_reducible rfl
  refine tk_go 6 (v := ?a3nv6) ?a3nhy6 ?_
  case a3nhy6 => intro w hSw; simp only [nrm]; (try dsimp only at hSw); go_simp; try with_reducible rfl
  refine tk_go 7 (v := ?a3nv7) ?a3nhy7 ?_
  case a3nhy7 => intro w hSw; simp only [nrm]; (try dsimp only at hSw); go_simp; try with_reducible rfl
  refine tk_go 8 (v := ?a3nv8) ?a3nhy8 ?_
  case a3nhy8 => intro w hSw; simp only [nrm]; (try dsimp only at hSw); go_simp; try with_reducible rfl
  refine tk_go 9 (v := ?a3nv9) ?a3nhy9 ?_
  case a3nhy9 => intro w hSw; simp only [nrm]; (try dsimp only at hSw); go_simp; try with_reducible rfl
  refine tk_go 10 (v := ?a3nv10) ?a3nhy10 ?_
  case a3nhy10 => intro w hSw; simp only [nrm]; (try dsimp only at hSw); go_simp; try with_reducible rfl
  refine tk_go 11 (v := ?a3nv11) ?a3nhy11 ?_
  case a3nhy11 => intro w hSw; simp only [nrm]; (try dsimp only at hSw); go_simp; try with_reducible rfl
  refine tk_go 12 (v := ?a3nv12) ?a3nhy12 ?_
  case a3nhy12 => intro w hSw; simp only [nrm]; (try dsimp only at hSw); go_simp; try with_reducible rfl
  refine tk_go 13 (v := ?a3nv13) ?a3nhy13 ?_
  case a3nhy13 => intro w hSw; simp only [nrm]; (try dsimp only at hSw); go_simp; try with_reducible rfl
  refine tk_go 14 (v := ?a3nv14) ?a3nhy14 ?_
  case a3nhy14 => intro w hSw; simp only [nrm]; (try dsimp only at hSw); go_simp; try with_reducible rfl
  refine tk_go 15 (v := ?a3nv15) ?a3nhy15 ?_
  case a3nhy15 => intro w hSw; simp only [nrm]; (try dsimp only at hSw); go_simp; try with_reducible rfl
  refine tk_go 16 (v := ?a3nv16) ?a3nhy16 ?_
  case a3nhy16 => intro w hSw; simp only [nrm]; (try dsimp only at hSw); go_simp; try with_reducible rfl
  refine tk_go 17 (v := ?a3nv17) ?a3nhy17 ?_
  case a3nhy17 => intro w hSw; simp only [nrm]; (try dsimp only at hSw); go_simp; try with_reducible rfl
  refine tk_go 18 (v := ?a3nv18) ?a3nhy18 ?_
  case a3nhy18 => intro w hSw; simp only [nrm]; (try dsimp only at hSw); go_simp; try with_reducible rfl
  refine wpAnyH_ready (rs := [19]) (by kernel_rfl) (by simp) ?_
  refine AllReadyH.cons rfl (fun K hK => ?_) AllReadyH.nil
  go_simp
  refine (specAdj L.c.a L.c.n L.c.c d.c d.q _ (HI.out.c.kept (by first | with_reducible exact SW.bel | with_reducible exact SW.drew.bel)) s2).mono ?_
  rintro e u ⟨g, cp, rfl, R, hg, B⟩
  have SW : Sw w u L d := (by first | with_reducible exact SW.all B | with_reducible exact SW.drew.all B)
  obtain ⟨c0, c1, c2, c3, c4, c5, c6, c7, c8, c9, c10, c11, c12, c13, c14, c15, c16⟩ := SW.bx.shop
  have m0 := SW.bx.1
  go_wp2_with fail
  refine hK.out _ _ (by simp [*]) (fun hHeld => ?_)
  clear hK K
  refine wpAnyH_ready (rs := [20]) (by kernel_rfl) (by simp) ?_
  refine AllReadyH.cons rfl (fun K hK => ?_) AllReadyH.nil
  go_simp
  refine (specSameS L.y.a L.y.n L.y.c d.y (some ⟨g, 0, none⟩) _ cp (adjusted d.c d.q) _ (HI.out.y.kept (by first | with_reducible exact SW.bel | with_reducible exact SW.drew.bel)) (by first | exact R.shs | exact R.drew.shs) s8).mono ?_
  rw [HF.out.2.1]
  rintro e u ⟨rfl, B⟩
  have SW : Sw w u L d := (by first | with_reducible exact SW.all B | with_reducible exact SW.drew.all B)
  obtain ⟨c0, c1, c2, c3, c4, c5, c6, c7, c8, c9, c10, c11, c12, c13, c14, c15, c16⟩ := SW.bx.shop
  have m0 := SW.bx.1
  go_wp2_with fail
  refine hK.out _ _ (by simp [*]) (fun hHeld => ?_)
  clear hK K
  refine tk_go 21 (v := ?a3nv21) ?a3nhy21 ?_
  case a3nhy21 => intro w hSw; (try dsimp only at hSw); go_simp; try with_reducible rfl
  refine tk_go 22 (v := ?a3nv22) ?a3nhy22 ?_
  case a3nhy22 => intro w hSw; simp only [nrm]; (try dsimp only at hSw); go_simp; try with_reducible rfl
  refine tk_no 23 ?_
  refine tk_no 24 ?_
  refine tk_no 25 ?_
  refine tk_no 26 ?_
  refine tk_no 27 ?_
  refine tk_no 28 ?_
  refine tk_go 29 (v := ?a3nv29) ?a3nhy29 ?_
  case a3nhy29 => intro w hSw; simp only [nrm]; (try dsimp only at hSw); go_simp; try with_reducible rfl
  refine tk_go 30 (v := ?a3nv30) ?a3nhy30 ?_
  case a3nhy30 => intro w hSw; simp only [nrm]; (try dsimp only at hSw); go_simp; try with_reducible rfl
  refine wpAnyH_done (by kernel_rfl) ?_ _
  simp only [Act.put, nrm]
  have HS : Hid (Sw w u L d) := SW
  clear SW c0 c1 c2 c3 c4 c5 c6 c7 c8 c9 c10 c11 c12 c13 c14 c15 c16 m0 hHeld
  go_wp2_with fail
  go_ret
  exact ⟨rfl, HS.out.bel⟩

set_option maxRecDepth 100000 in
set_option maxHeartbeats 4000000 in
theorem innerMany_yes (L : LT) (d : SD) (w : World) (I : Rd w L d) (hs : Short L) (hp : d.p = 5) (h1 : manyOk d.y d.z d.yq d.yt = true) (h2 : d.yq = d.q) (h3 : d.y = adjusted d.c d.q) (b : Bool) (h4 : decide (d.n = d.z) = b) :
    Calls Tryz.prog 95 #[sv L d] w fun e w' => e = .returned (.bool b) ∧ Below w.heap.size w w' := by
  have HI : Hid (Rd w L d) := I
  obtain ⟨s0, s1, s2, s3, s4, s5, s6, s7, s8, s9⟩ := short_parts hs
  have HF : Hid (manyOk d.y d.z d.yq d.yt = true ∧ decide (d.y = adjusted d.c d.q) = true ∧ decide (d.n = d.z) = b) := ⟨h1, decide_eq_true h3, h4⟩
  have hb5 : (d.p == (5 : Int)) = true := by simp [hp]
  have hbq : (d.yq == d.q) = true := by simp [h2]
  clear h1 h2 h3 h4
  clear I hp
  obtain ⟨W0, hW0⟩ : ∃ W0, W0 = w.alloc (.cells (sc L d) 36) := ⟨_, rfl⟩
  have SW : Sw w W0 L d := by rw [hW0]; exact sw_new _ _ _
  go_enter Tryz.func95, Tryz.ntmps95
  obtain ⟨c0, c1, c2, c3, c4, c5, c6, c7, c8, c9, c10, c11, c12, c13, c14, c15, c16⟩ := SW.bx.shop
  rw [hW0] at c0 c1 c2 c3 c4 c5 c6 c7 c8 c9 c10 c11 c12 c13 c14 c15 c16
  go_wp2_with fail
  rw [← hW0] at c0 c1 c2 c3 c4 c5 c6 c7 c8 c9 c10 c11 c12 c13 c14 c15 c16 ⊢
  have m0 := SW.bx.1
  clear hW0
  refine wp_region_held_drew (S := fun w' => w'.cell? ⟨w.heap.size, 0, none⟩ = some (.int .i64 d.p) ∧ w'.cell? ⟨w.heap.size, 1, none⟩ = some (.int .i64 d.q) ∧ w'.cell? ⟨w.heap.size, 2, none⟩ = some L.t.v ∧ w'.cell? ⟨w.heap.size, 3, none⟩ = some L.m.v ∧ w'.cell? ⟨w.heap.size, 4, none⟩ = some L.c.v ∧ w'.cell? ⟨w.heap.size, 5, none⟩ = some L.n.v ∧ w'.cell? ⟨w.heap.size, 6, none⟩ = some L.s.v ∧ w'.cell? ⟨w.heap.size, 7, none⟩ = some L.r.v ∧ w'.cell? ⟨w.heap.size, 8, none⟩ = some L.l.v ∧ w'.cell? ⟨w.heap.size, 9, none⟩ = some L.h.v ∧ w'.cell? ⟨w.heap.size, 10, none⟩ = some (.int .i64 d.lt) ∧ w'.cell? ⟨w.heap.size, 11, none⟩ = some (.int .i64 d.la) ∧ w'.cell? ⟨w.heap.size, 12, none⟩ = some L.y.v ∧ w'.cell? ⟨w.heap.size, 13, none⟩ = some L.z.v ∧ w'.cell? ⟨w.heap.size, 14, none⟩ = some (.int .i64 d.yq) ∧ w'.cell? ⟨w.heap.size, 15, none⟩ = some (.int .i64 d.yt) ∧ w'.cell? ⟨w.heap.size, 16, none⟩ = some (.int .i64 d.w)) (by kernel_rfl) (by simp [*]) (fun hHeld => ?_)
  refine tk_go 0 (v := ?a4nv0) ?a4nhy0 ?_
  case a4nhy0 => intro w hSw; (try dsimp only at hSw); go_simp; try with_reducible rfl
  refine tk_go 1 (v := ?a4nv1) ?a4nhy1 ?_
  case a4nhy1 => intro w hSw; (try dsimp only at hSw); go_simp; try with_reducible rfl
  refine wpAnyH_ready (rs := [2]) (by kernel_rfl) (by simp) ?_
  refine AllReadyH.cons rfl (fun K hK => ?_) AllReadyH.nil
  go_simp
  refine (specManyX L.y.a L.y.n L.y.c d.y L.z.a L.z.n L.z.c d.z d.yq d.yt _ (HI.out.y.kept (by first | with_reducible exact SW.bel | with_reducible exact SW.drew.bel)) (HI.out.z.kept (by first | with_reducible exact SW.bel | with_reducible exact SW.drew.bel)) s8).mono ?_
  rw [HF.out.1]
  rintro e u ⟨rfl, B⟩
  have SW : Sw w u L d := (by first | with_reducible exact SW.all B | with_reducible exact SW.drew.all B)
  obtain ⟨c0, c1, c2, c3, c4, c5, c6, c7, c8, c9, c10, c11, c12, c13, c14, c15, c16⟩ := SW.bx.shop
  have m0 := SW.bx.1
  go_wp2_with fail
  refine hK.out _ _ (by simp [*]) (fun hHeld => ?_)
  clear hK K
  refine tk_go 3 (v := ?a4nv3) ?a4nhy3 ?_
  case a4nhy3 => intro w hSw; (try dsimp only at hSw); go_simp; try with_reducible rfl
  refine tk_go 4 (v := ?a4nv4) ?a4nhy4 ?_
  case a4nhy4 => intro w hSw; simp only [nrm]; (try dsimp only at hSw); go_simp; try with_reducible rfl
  refine tk_go 5 (v := ?a4nv5) ?a4nhy5 ?_
  case a4nhy5 => intro w hSw; simp only [nrm]; (try dsimp only at hSw); go_simp; try with_reducible rfl
  refine tk_go 6 (v := ?a4nv6) ?a4nhy6 ?_
  case a4nhy6 => intro w hSw; simp only [nrm]; (try dsimp only at hSw); go_simp; try with_reducible rfl
  refine tk_go 7 (v := ?a4nv7) ?a4nhy7 ?_
  case a4nhy7 => intro w hSw; simp only [nrm]; (try dsimp only at hSw); go_simp; try with_reducible rfl
  refine tk_go 8 (v := ?a4nv8) ?a4nhy8 ?_
  case a4nhy8 => intro w hSw; simp only [nrm]; (try dsimp only at hSw); go_simp; try with_reducible rfl
  refine tk_go 9 (v := ?a4nv9) ?a4nhy9 ?_
  case a4nhy9 => intro w hSw; simp only [nrm]; (try dsimp only at hSw); go_simp; try with_reducible rfl
  refine tk_go 10 (v := ?a4nv10) ?a4nhy10 ?_
  case a4nhy10 => intro w hSw; simp only [nrm]; (try dsimp only at hSw); go_simp; try with_reducible rfl
  refine tk_go 11 (v := ?a4nv11) ?a4nhy11 ?_
  case a4nhy11 => intro w hSw; simp only [nrm]; (try dsimp only at hSw); go_simp; try with_reducible rfl
  refine tk_go 12 (v := ?a4nv12) ?a4nhy12 ?_
  case a4nhy12 => intro w hSw; simp only [nrm]; (try dsimp only at hSw); go_simp; try with_reducible rfl
  refine tk_go 13 (v := ?a4nv13) ?a4nhy13 ?_
  case a4nhy13 => intro w hSw; simp only [nrm]; (try dsimp only at hSw); go_simp; try with_reducible rfl
  refine tk_go 14 (v := ?a4nv14) ?a4nhy14 ?_
  case a4nhy14 => intro w hSw; simp only [nrm]; (try dsimp only at hSw); go_simp; try with_reducible rfl
  refine tk_go 15 (v := ?a4nv15) ?a4nhy15 ?_
  case a4nhy15 => intro w hSw; simp only [nrm]; (try dsimp only at hSw); go_simp; try with_reducible rfl
  refine tk_go 16 (v := ?a4nv16) ?a4nhy16 ?_
  case a4nhy16 => intro w hSw; simp only [nrm]; (try dsimp only at hSw); go_simp; try with_reducible rfl
  refine tk_go 17 (v := ?a4nv17) ?a4nhy17 ?_
  case a4nhy17 => intro w hSw; simp only [nrm]; (try dsimp only at hSw); go_simp; try with_reducible rfl
  refine tk_go 18 (v := ?a4nv18) ?a4nhy18 ?_
  case a4nhy18 => intro w hSw; simp only [nrm]; (try dsimp only at hSw); go_simp; try with_reducible rfl
  refine wpAnyH_ready (rs := [19]) (by kernel_rfl) (by simp) ?_
  refine AllReadyH.cons rfl (fun K hK => ?_) AllReadyH.nil
  go_simp
  refine (specAdj L.c.a L.c.n L.c.c d.c d.q _ (HI.out.c.kept (by first | with_reducible exact SW.bel | with_reducible exact SW.drew.bel)) s2).mono ?_
  rintro e u ⟨g, cp, rfl, R, hg, B⟩
  have SW : Sw w u L d := (by first | with_reducible exact SW.all B | with_reducible exact SW.drew.all B)
  obtain ⟨c0, c1, c2, c3, c4, c5, c6, c7, c8, c9, c10, c11, c12, c13, c14, c15, c16⟩ := SW.bx.shop
  have m0 := SW.bx.1
  go_wp2_with fail
  refine hK.out _ _ (by simp [*]) (fun hHeld => ?_)
  clear hK K
  refine wpAnyH_ready (rs := [20]) (by kernel_rfl) (by simp) ?_
  refine AllReadyH.cons rfl (fun K hK => ?_) AllReadyH.nil
  go_simp
  refine (specSameS L.y.a L.y.n L.y.c d.y (some ⟨g, 0, none⟩) _ cp (adjusted d.c d.q) _ (HI.out.y.kept (by first | with_reducible exact SW.bel | with_reducible exact SW.drew.bel)) (by first | exact R.shs | exact R.drew.shs) s8).mono ?_
  rw [HF.out.2.1]
  rintro e u ⟨rfl, B⟩
  have SW : Sw w u L d := (by first | with_reducible exact SW.all B | with_reducible exact SW.drew.all B)
  obtain ⟨c0, c1, c2, c3, c4, c5, c6, c7, c8, c9, c10, c11, c12, c13, c14, c15, c16⟩ := SW.bx.shop
  have m0 := SW.bx.1
  go_wp2_with fail
  refine hK.out _ _ (by simp [*]) (fun hHeld => ?_)
  clear hK K
  refine tk_go 21 (v := ?a4nv21) ?a4nhy21 ?_
  case a4nhy21 => intro w hSw; (try dsimp only at hSw); go_simp; try with_reducible rfl
  refine tk_go 22 (v := ?a4nv22) ?a4nhy22 ?_
  case a4nhy22 => intro w hSw; simp only [nrm]; (try dsimp only at hSw); go_simp; try with_reducible rfl
  refine tk_go 23 (v := ?a4nv23) ?a4nhy23 ?_
  case a4nhy23 => intro w hSw; simp only [nrm]; (try dsimp only at hSw); go_simp; try with_reducible rfl
  refine tk_go 24 (v := ?a4nv24) ?a4nhy24 ?_
  case a4nhy24 => intro w hSw; simp only [nrm]; (try dsimp only at hSw); go_simp; try with_reducible rfl
  refine tk_go 25 (v := ?a4nv25) ?a4nhy25 ?_
  case a4nhy25 => intro w hSw; simp only [nrm]; (try dsimp only at hSw); go_simp; try with_reducible rfl
  refine tk_go 26 (v := ?a4nv26) ?a4nhy26 ?_
  case a4nhy26 => intro w hSw; simp only [nrm]; (try dsimp only at hSw); go_simp; try with_reducible rfl
  refine tk_go 27 (v := ?a4nv27) ?a4nhy27 ?_
  case a4nhy27 => intro w hSw; simp only [nrm]; (try dsimp only at hSw); go_simp; try with_reducible rfl
  refine wpAnyH_ready (rs := [28]) (by kernel_rfl) (by simp) ?_
  refine AllReadyH.cons rfl (fun K hK => ?_) AllReadyH.nil
  go_simp
  refine (specSame L.n.a L.n.n L.n.c d.n L.z.a L.z.n L.z.c d.z _ (HI.out.n.kept (by first | with_reducible exact SW.bel | with_reducible exact SW.drew.bel)) (HI.out.z.kept (by first | with_reducible exact SW.bel | with_reducible exact SW.drew.bel)) s3).mono ?_
  rw [HF.out.2.2]
  rintro e u ⟨rfl, B⟩
  have SW : Sw w u L d := (by first | with_reducible exact SW.all B | with_reducible exact SW.drew.all B)
  obtain ⟨c0, c1, c2, c3, c4, c5, c6, c7, c8, c9, c10, c11, c12, c13, c14, c15, c16⟩ := SW.bx.shop
  have m0 := SW.bx.1
  go_wp2_with fail
  refine hK.out _ _ (by simp [*]) (fun hHeld => ?_)
  clear hK K
  refine tk_go 29 (v := ?a4nv29) ?a4nhy29 ?_
  case a4nhy29 => intro w hSw; (try dsimp only at hSw); go_simp; try with_reducible rfl
  refine tk_go 30 (v := ?a4nv30) ?a4nhy30 ?_
  case a4nhy30 => intro w hSw; simp only [nrm]; (try dsimp only at hSw); go_simp; try with_reducible rfl
  refine wpAnyH_done (by kernel_rfl) ?_ _
  simp only [Act.put, nrm]
  have HS : Hid (Sw w u L d) := SW
  clear SW c0 c1 c2 c3 c4 c5 c6 c7 c8 c9 c10 c11 c12 c13 c14 c15 c16 m0 hHeld
  go_wp2_with fail
  go_ret
  exact ⟨rfl, HS.out.bel⟩

set_option maxRecDepth 100000 in
set_option maxHeartbeats 8000000 in
/-- spec.l14Inner at every Shop. -/
theorem specInner (L : LT) (d : SD) (w : World) (I : Rd w L d) (hs : Short L) :
    Calls Tryz.prog 95 #[sv L d] w fun e w' => e = .returned (.bool (innerB d)) ∧ Below w.heap.size w w' := by
  by_cases hp5 : d.p = 5
  · have e : innerB d = (manyOk d.y d.z d.yq d.yt && decide (d.yq = d.q) && decide (d.y = adjusted d.c d.q) && decide (d.n = d.z)) := by rw [innerB, if_pos hp5]
    rw [e]
    cases h1 : manyOk d.y d.z d.yq d.yt
    · exact innerMany_no L d w I hs hp5 h1
    by_cases h2 : d.yq = d.q
    · by_cases h3 : d.y = adjusted d.c d.q
      · have e2 : (true && decide (d.yq = d.q) && decide (d.y = adjusted d.c d.q) && decide (d.n = d.z)) = decide (d.n = d.z) := by rw [decide_eq_true h2, decide_eq_true h3]; rfl
        rw [e2]
        exact innerMany_yes L d w I hs hp5 h1 h2 h3 _ rfl
      · have e2 : (true && decide (d.yq = d.q) && decide (d.y = adjusted d.c d.q) && decide (d.n = d.z)) = false := by rw [decide_eq_false h3, Bool.and_false]; rfl
        rw [e2]
        exact innerMany_shares L d w I hs hp5 h1 h2 h3
    · have e2 : (true && decide (d.yq = d.q) && decide (d.y = adjusted d.c d.q) && decide (d.n = d.z)) = false := by rw [decide_eq_false h2]; rfl
      rw [e2]
      exact innerMany_procs L d w I hs hp5 h1 h2
  have HI : Hid (Rd w L d) := I
  obtain ⟨s0, s1, s2, s3, s4, s5, s6, s7, s8, s9⟩ := short_parts hs
  have hb5 : (d.p == (5 : Int)) = false := by simpa using hp5
  have HW : Hid (innerB d = (countsOk d.c d.n && (if d.p = 1 then smoothOk d.s d.r && decide (d.s = d.c) else decide (d.p ≠ 3) || (listOk d.l d.h d.lt d.la && decide (d.l = d.c))))) := by show _ = _; rw [innerB, if_neg hp5]
  clear I hp5
  cases hc : countsOk d.c d.n
  · have HC : Hid (countsOk d.c d.n = false) := hc
    have HE : Hid (innerB d = false) := by show _ = _; rw [HW.out, hc]; rfl
    clear hc
    obtain ⟨W0, hW0⟩ : ∃ W0, W0 = w.alloc (.cells (sc L d) 36) := ⟨_, rfl⟩
    have SW : Sw w W0 L d := by rw [hW0]; exact sw_new _ _ _
    go_enter Tryz.func95, Tryz.ntmps95
    obtain ⟨c0, c1, c2, c3, c4, c5, c6, c7, c8, c9, c10, c11, c12, c13, c14, c15, c16⟩ := SW.bx.shop
    rw [hW0] at c0 c1 c2 c3 c4 c5 c6 c7 c8 c9 c10 c11 c12 c13 c14 c15 c16
    go_wp2_with fail
    rw [← hW0] at c0 c1 c2 c3 c4 c5 c6 c7 c8 c9 c10 c11 c12 c13 c14 c15 c16 ⊢
    have m0 := SW.bx.1
    clear hW0
    have SW0 : Hid (Sw w W0 L d) := SW
    clear SW m0
    go_wp2_with fail
    refine (specCounts L.c.a L.c.n L.c.c d.c L.n.a L.n.n L.n.c d.n _ (HI.out.c.kept SW0.out.bel) (HI.out.n.kept SW0.out.bel) s2).mono ?_
    rw [HC.out]
    rintro e w1 ⟨rfl, rfl⟩
    have SW1 : Hid (Sw w w1 L d) := SW0.out
    go_wp2_with fail
    go_ret
    exact ⟨by rw [HE.out]; rfl, SW1.out.bel⟩
  have HC : Hid (countsOk d.c d.n = true) := hc
  clear hc
  by_cases hp1 : d.p = 1
  · have hb1 : (d.p == (1 : Int)) = true := by simp [hp1]
    have HV : Hid (innerB d = (smoothOk d.s d.r && decide (d.s = d.c))) := by show _ = _; rw [HW.out, HC.out, Bool.true_and, if_pos hp1]
    clear hp1
    cases ht : smoothOk d.s d.r
    · have HT : Hid (smoothOk d.s d.r = false ∧ True) := ⟨ht, trivial⟩
      have HE : Hid (innerB d = false) := by show _ = _; rw [HV.out, ht]; rfl
      clear ht
      obtain ⟨W0, hW0⟩ : ∃ W0, W0 = w.alloc (.cells (sc L d) 36) := ⟨_, rfl⟩
      have SW : Sw w W0 L d := by rw [hW0]; exact sw_new _ _ _
      go_enter Tryz.func95, Tryz.ntmps95
      obtain ⟨c0, c1, c2, c3, c4, c5, c6, c7, c8, c9, c10, c11, c12, c13, c14, c15, c16⟩ := SW.bx.shop
      rw [hW0] at c0 c1 c2 c3 c4 c5 c6 c7 c8 c9 c10 c11 c12 c13 c14 c15 c16
      go_wp2_with fail
      rw [← hW0] at c0 c1 c2 c3 c4 c5 c6 c7 c8 c9 c10 c11 c12 c13 c14 c15 c16 ⊢
      have m0 := SW.bx.1
      clear hW0
      have SW0 : Hid (Sw w W0 L d) := SW
      clear SW m0
      go_wp2_with fail
      refine (specCounts L.c.a L.c.n L.c.c d.c L.n.a L.n.n L.n.c d.n _ (HI.out.c.kept SW0.out.bel) (HI.out.n.kept SW0.out.bel) s2).mono ?_
      rw [HC.out]
      rintro e w1 ⟨rfl, rfl⟩
      have SW1 : Hid (Sw w w1 L d) := SW0.out
      go_wp2_with fail
      refine (specSmooth L.s.a L.s.n L.s.c d.s L.r.a L.r.n L.r.c d.r _ (HI.out.s.kept SW1.out.bel) (HI.out.r.kept SW1.out.bel) s4).mono ?_
      rw [HT.out.1]
      rintro e w2 ⟨rfl, B2⟩
      have SW2 : Hid (Sw w w2 L d) := SW1.out.all B2
      clear B2
      obtain ⟨c0, c1, c2, c3, c4, c5, c6, c7, c8, c9, c10, c11, c12, c13, c14, c15, c16⟩ := SW2.out.bx.shop
      go_wp2_with fail
      go_ret
      exact ⟨by rw [HE.out]; rfl, SW2.out.bel⟩
    cases hu : decide (d.s = d.c)
    · have HT : Hid (smoothOk d.s d.r = true ∧ decide (d.s = d.c) = false) := ⟨ht, hu⟩
      have HE : Hid (innerB d = false) := by show _ = _; rw [HV.out, ht, hu]; rfl
      clear ht hu
      obtain ⟨W0, hW0⟩ : ∃ W0, W0 = w.alloc (.cells (sc L d) 36) := ⟨_, rfl⟩
      have SW : Sw w W0 L d := by rw [hW0]; exact sw_new _ _ _
      go_enter Tryz.func95, Tryz.ntmps95
      obtain ⟨c0, c1, c2, c3, c4, c5, c6, c7, c8, c9, c10, c11, c12, c13, c14, c15, c16⟩ := SW.bx.shop
      rw [hW0] at c0 c1 c2 c3 c4 c5 c6 c7 c8 c9 c10 c11 c12 c13 c14 c15 c16
      go_wp2_with fail
      rw [← hW0] at c0 c1 c2 c3 c4 c5 c6 c7 c8 c9 c10 c11 c12 c13 c14 c15 c16 ⊢
      have m0 := SW.bx.1
      clear hW0
      have SW0 : Hid (Sw w W0 L d) := SW
      clear SW m0
      go_wp2_with fail
      refine (specCounts L.c.a L.c.n L.c.c d.c L.n.a L.n.n L.n.c d.n _ (HI.out.c.kept SW0.out.bel) (HI.out.n.kept SW0.out.bel) s2).mono ?_
      rw [HC.out]
      rintro e w1 ⟨rfl, rfl⟩
      have SW1 : Hid (Sw w w1 L d) := SW0.out
      go_wp2_with fail
      refine (specSmooth L.s.a L.s.n L.s.c d.s L.r.a L.r.n L.r.c d.r _ (HI.out.s.kept SW1.out.bel) (HI.out.r.kept SW1.out.bel) s4).mono ?_
      rw [HT.out.1]
      rintro e w2 ⟨rfl, B2⟩
      have SW2 : Hid (Sw w w2 L d) := SW1.out.all B2
      clear B2
      obtain ⟨c0, c1, c2, c3, c4, c5, c6, c7, c8, c9, c10, c11, c12, c13, c14, c15, c16⟩ := SW2.out.bx.shop
      go_wp2_with fail
      refine (specSame L.s.a L.s.n L.s.c d.s L.c.a L.c.n L.c.c d.c _ (HI.out.s.kept SW2.out.bel) (HI.out.c.kept SW2.out.bel) s4).mono ?_
      rw [HT.out.2]
      rintro e w3 ⟨rfl, B3⟩
      have SW3 : Hid (Sw w w3 L d) := SW2.out.all B3
      clear B3
      obtain ⟨c0, c1, c2, c3, c4, c5, c6, c7, c8, c9, c10, c11, c12, c13, c14, c15, c16⟩ := SW3.out.bx.shop
      go_wp2_with fail
      go_ret
      exact ⟨by rw [HE.out]; rfl, SW3.out.bel⟩
    · have HT : Hid (smoothOk d.s d.r = true ∧ decide (d.s = d.c) = true) := ⟨ht, hu⟩
      have HE : Hid (innerB d = true) := by show _ = _; rw [HV.out, ht, hu]; rfl
      clear ht hu
      obtain ⟨W0, hW0⟩ : ∃ W0, W0 = w.alloc (.cells (sc L d) 36) := ⟨_, rfl⟩
      have SW : Sw w W0 L d := by rw [hW0]; exact sw_new _ _ _
      go_enter Tryz.func95, Tryz.ntmps95
      obtain ⟨c0, c1, c2, c3, c4, c5, c6, c7, c8, c9, c10, c11, c12, c13, c14, c15, c16⟩ := SW.bx.shop
      rw [hW0] at c0 c1 c2 c3 c4 c5 c6 c7 c8 c9 c10 c11 c12 c13 c14 c15 c16
      go_wp2_with fail
      rw [← hW0] at c0 c1 c2 c3 c4 c5 c6 c7 c8 c9 c10 c11 c12 c13 c14 c15 c16 ⊢
      have m0 := SW.bx.1
      clear hW0
      have SW0 : Hid (Sw w W0 L d) := SW
      clear SW m0
      go_wp2_with fail
      refine (specCounts L.c.a L.c.n L.c.c d.c L.n.a L.n.n L.n.c d.n _ (HI.out.c.kept SW0.out.bel) (HI.out.n.kept SW0.out.bel) s2).mono ?_
      rw [HC.out]
      rintro e w1 ⟨rfl, rfl⟩
      have SW1 : Hid (Sw w w1 L d) := SW0.out
      go_wp2_with fail
      refine (specSmooth L.s.a L.s.n L.s.c d.s L.r.a L.r.n L.r.c d.r _ (HI.out.s.kept SW1.out.bel) (HI.out.r.kept SW1.out.bel) s4).mono ?_
      rw [HT.out.1]
      rintro e w2 ⟨rfl, B2⟩
      have SW2 : Hid (Sw w w2 L d) := SW1.out.all B2
      clear B2
      obtain ⟨c0, c1, c2, c3, c4, c5, c6, c7, c8, c9, c10, c11, c12, c13, c14, c15, c16⟩ := SW2.out.bx.shop
      go_wp2_with fail
      refine (specSame L.s.a L.s.n L.s.c d.s L.c.a L.c.n L.c.c d.c _ (HI.out.s.kept SW2.out.bel) (HI.out.c.kept SW2.out.bel) s4).mono ?_
      rw [HT.out.2]
      rintro e w3 ⟨rfl, B3⟩
      have SW3 : Hid (Sw w w3 L d) := SW2.out.all B3
      clear B3
      obtain ⟨c0, c1, c2, c3, c4, c5, c6, c7, c8, c9, c10, c11, c12, c13, c14, c15, c16⟩ := SW3.out.bx.shop
      go_wp2_with fail
      go_ret
      exact ⟨by rw [HE.out]; rfl, SW3.out.bel⟩
  have hb1 : (d.p == (1 : Int)) = false := by simpa using hp1
  by_cases hp3 : d.p = 3
  · have hb3 : (d.p == (3 : Int)) = true := by simp [hp3]
    have hn3 : (d.p != (3 : Int)) = false := by simp [hp3]
    have HV : Hid (innerB d = (listOk d.l d.h d.lt d.la && decide (d.l = d.c))) := by show _ = _; rw [HW.out, HC.out, Bool.true_and, if_neg hp1, show decide (d.p ≠ 3) = false from decide_eq_false (by simp [hp3]), Bool.false_or]
    clear hp1 hp3
    cases ht : listOk d.l d.h d.lt d.la
    · have HT : Hid (listOk d.l d.h d.lt d.la = false ∧ True) := ⟨ht, trivial⟩
      have HE : Hid (innerB d = false) := by show _ = _; rw [HV.out, ht]; rfl
      clear ht
      obtain ⟨W0, hW0⟩ : ∃ W0, W0 = w.alloc (.cells (sc L d) 36) := ⟨_, rfl⟩
      have SW : Sw w W0 L d := by rw [hW0]; exact sw_new _ _ _
      go_enter Tryz.func95, Tryz.ntmps95
      obtain ⟨c0, c1, c2, c3, c4, c5, c6, c7, c8, c9, c10, c11, c12, c13, c14, c15, c16⟩ := SW.bx.shop
      rw [hW0] at c0 c1 c2 c3 c4 c5 c6 c7 c8 c9 c10 c11 c12 c13 c14 c15 c16
      go_wp2_with fail
      rw [← hW0] at c0 c1 c2 c3 c4 c5 c6 c7 c8 c9 c10 c11 c12 c13 c14 c15 c16 ⊢
      have m0 := SW.bx.1
      clear hW0
      have SW0 : Hid (Sw w W0 L d) := SW
      clear SW m0
      go_wp2_with fail
      refine (specCounts L.c.a L.c.n L.c.c d.c L.n.a L.n.n L.n.c d.n _ (HI.out.c.kept SW0.out.bel) (HI.out.n.kept SW0.out.bel) s2).mono ?_
      rw [HC.out]
      rintro e w1 ⟨rfl, rfl⟩
      have SW1 : Hid (Sw w w1 L d) := SW0.out
      go_wp2_with fail
      refine (specListX L.l.a L.l.n L.l.c d.l L.h.a L.h.n L.h.c d.h d.lt d.la _ (HI.out.l.kept SW1.out.bel) (HI.out.h.kept SW1.out.bel) s6).mono ?_
      rw [HT.out.1]
      rintro e w2 ⟨rfl, B2⟩
      have SW2 : Hid (Sw w w2 L d) := SW1.out.all B2
      clear B2
      obtain ⟨c0, c1, c2, c3, c4, c5, c6, c7, c8, c9, c10, c11, c12, c13, c14, c15, c16⟩ := SW2.out.bx.shop
      go_wp2_with fail
      go_ret
      exact ⟨by rw [HE.out]; rfl, SW2.out.bel⟩
    cases hu : decide (d.l = d.c)
    · have HT : Hid (listOk d.l d.h d.lt d.la = true ∧ decide (d.l = d.c) = false) := ⟨ht, hu⟩
      have HE : Hid (innerB d = false) := by show _ = _; rw [HV.out, ht, hu]; rfl
      clear ht hu
      obtain ⟨W0, hW0⟩ : ∃ W0, W0 = w.alloc (.cells (sc L d) 36) := ⟨_, rfl⟩
      have SW : Sw w W0 L d := by rw [hW0]; exact sw_new _ _ _
      go_enter Tryz.func95, Tryz.ntmps95
      obtain ⟨c0, c1, c2, c3, c4, c5, c6, c7, c8, c9, c10, c11, c12, c13, c14, c15, c16⟩ := SW.bx.shop
      rw [hW0] at c0 c1 c2 c3 c4 c5 c6 c7 c8 c9 c10 c11 c12 c13 c14 c15 c16
      go_wp2_with fail
      rw [← hW0] at c0 c1 c2 c3 c4 c5 c6 c7 c8 c9 c10 c11 c12 c13 c14 c15 c16 ⊢
      have m0 := SW.bx.1
      clear hW0
      have SW0 : Hid (Sw w W0 L d) := SW
      clear SW m0
      go_wp2_with fail
      refine (specCounts L.c.a L.c.n L.c.c d.c L.n.a L.n.n L.n.c d.n _ (HI.out.c.kept SW0.out.bel) (HI.out.n.kept SW0.out.bel) s2).mono ?_
      rw [HC.out]
      rintro e w1 ⟨rfl, rfl⟩
      have SW1 : Hid (Sw w w1 L d) := SW0.out
      go_wp2_with fail
      refine (specListX L.l.a L.l.n L.l.c d.l L.h.a L.h.n L.h.c d.h d.lt d.la _ (HI.out.l.kept SW1.out.bel) (HI.out.h.kept SW1.out.bel) s6).mono ?_
      rw [HT.out.1]
      rintro e w2 ⟨rfl, B2⟩
      have SW2 : Hid (Sw w w2 L d) := SW1.out.all B2
      clear B2
      obtain ⟨c0, c1, c2, c3, c4, c5, c6, c7, c8, c9, c10, c11, c12, c13, c14, c15, c16⟩ := SW2.out.bx.shop
      go_wp2_with fail
      refine (specSame L.l.a L.l.n L.l.c d.l L.c.a L.c.n L.c.c d.c _ (HI.out.l.kept SW2.out.bel) (HI.out.c.kept SW2.out.bel) s6).mono ?_
      rw [HT.out.2]
      rintro e w3 ⟨rfl, B3⟩
      have SW3 : Hid (Sw w w3 L d) := SW2.out.all B3
      clear B3
      obtain ⟨c0, c1, c2, c3, c4, c5, c6, c7, c8, c9, c10, c11, c12, c13, c14, c15, c16⟩ := SW3.out.bx.shop
      go_wp2_with fail
      go_ret
      exact ⟨by rw [HE.out]; rfl, SW3.out.bel⟩
    · have HT : Hid (listOk d.l d.h d.lt d.la = true ∧ decide (d.l = d.c) = true) := ⟨ht, hu⟩
      have HE : Hid (innerB d = true) := by show _ = _; rw [HV.out, ht, hu]; rfl
      clear ht hu
      obtain ⟨W0, hW0⟩ : ∃ W0, W0 = w.alloc (.cells (sc L d) 36) := ⟨_, rfl⟩
      have SW : Sw w W0 L d := by rw [hW0]; exact sw_new _ _ _
      go_enter Tryz.func95, Tryz.ntmps95
      obtain ⟨c0, c1, c2, c3, c4, c5, c6, c7, c8, c9, c10, c11, c12, c13, c14, c15, c16⟩ := SW.bx.shop
      rw [hW0] at c0 c1 c2 c3 c4 c5 c6 c7 c8 c9 c10 c11 c12 c13 c14 c15 c16
      go_wp2_with fail
      rw [← hW0] at c0 c1 c2 c3 c4 c5 c6 c7 c8 c9 c10 c11 c12 c13 c14 c15 c16 ⊢
      have m0 := SW.bx.1
      clear hW0
      have SW0 : Hid (Sw w W0 L d) := SW
      clear SW m0
      go_wp2_with fail
      refine (specCounts L.c.a L.c.n L.c.c d.c L.n.a L.n.n L.n.c d.n _ (HI.out.c.kept SW0.out.bel) (HI.out.n.kept SW0.out.bel) s2).mono ?_
      rw [HC.out]
      rintro e w1 ⟨rfl, rfl⟩
      have SW1 : Hid (Sw w w1 L d) := SW0.out
      go_wp2_with fail
      refine (specListX L.l.a L.l.n L.l.c d.l L.h.a L.h.n L.h.c d.h d.lt d.la _ (HI.out.l.kept SW1.out.bel) (HI.out.h.kept SW1.out.bel) s6).mono ?_
      rw [HT.out.1]
      rintro e w2 ⟨rfl, B2⟩
      have SW2 : Hid (Sw w w2 L d) := SW1.out.all B2
      clear B2
      obtain ⟨c0, c1, c2, c3, c4, c5, c6, c7, c8, c9, c10, c11, c12, c13, c14, c15, c16⟩ := SW2.out.bx.shop
      go_wp2_with fail
      refine (specSame L.l.a L.l.n L.l.c d.l L.c.a L.c.n L.c.c d.c _ (HI.out.l.kept SW2.out.bel) (HI.out.c.kept SW2.out.bel) s6).mono ?_
      rw [HT.out.2]
      rintro e w3 ⟨rfl, B3⟩
      have SW3 : Hid (Sw w w3 L d) := SW2.out.all B3
      clear B3
      obtain ⟨c0, c1, c2, c3, c4, c5, c6, c7, c8, c9, c10, c11, c12, c13, c14, c15, c16⟩ := SW3.out.bx.shop
      go_wp2_with fail
      go_ret
      exact ⟨by rw [HE.out]; rfl, SW3.out.bel⟩
  have hb3 : (d.p == (3 : Int)) = false := by simpa using hp3
  have hn3 : (d.p != (3 : Int)) = true := by simpa using hp3
  have HE : Hid (innerB d = true) := by show _ = _; rw [HW.out, HC.out, Bool.true_and, if_neg hp1, show decide (d.p ≠ 3) = true from decide_eq_true hp3]; rfl
  clear hp1 hp3
  obtain ⟨W0, hW0⟩ : ∃ W0, W0 = w.alloc (.cells (sc L d) 36) := ⟨_, rfl⟩
  have SW : Sw w W0 L d := by rw [hW0]; exact sw_new _ _ _
  go_enter Tryz.func95, Tryz.ntmps95
  obtain ⟨c0, c1, c2, c3, c4, c5, c6, c7, c8, c9, c10, c11, c12, c13, c14, c15, c16⟩ := SW.bx.shop
  rw [hW0] at c0 c1 c2 c3 c4 c5 c6 c7 c8 c9 c10 c11 c12 c13 c14 c15 c16
  go_wp2_with fail
  rw [← hW0] at c0 c1 c2 c3 c4 c5 c6 c7 c8 c9 c10 c11 c12 c13 c14 c15 c16 ⊢
  have m0 := SW.bx.1
  clear hW0
  have SW0 : Hid (Sw w W0 L d) := SW
  clear SW m0
  go_wp2_with fail
  refine (specCounts L.c.a L.c.n L.c.c d.c L.n.a L.n.n L.n.c d.n _ (HI.out.c.kept SW0.out.bel) (HI.out.n.kept SW0.out.bel) s2).mono ?_
  rw [HC.out]
  rintro e w1 ⟨rfl, rfl⟩
  have SW1 : Hid (Sw w w1 L d) := SW0.out
  go_wp2_with fail
  go_ret
  exact ⟨by rw [HE.out]; rfl, SW1.out.bel⟩

end Go.Proofs.YtcmeimfjedakeaaGreat.Crew
