/-
  A Shop in a block of the call's own; laws.toShop: a copy. (Written by wip/tools/gen_shopto.py.)
-/
import Derived.Test.YtcmeimfjedakeaaGreatShopMark
import Derived.Deep.CutRange
import Derived.Deep.MidRow
namespace Go.Proofs.YtcmeimfjedakeaaGreat.Crew
open Go.ChangeShapes Go.WideShapes Go.ChangeAt Go.RowKit

/-- Block b holds the Shop. -/
def Shp (w : World) (b : Nat) (L : LT) (d : SD) : Prop := w.heap[b]? = some (.cells (sc L d) 36 (0, 0))

theorem Shp.lt {w : World} {b : Nat} {L : LT} {d : SD} (h : Shp w b L d) : b < w.heap.size := (Array.getElem?_eq_some_iff.1 h).1

theorem Shp.bx {w : World} {b : Nat} {L : LT} {d : SD} (h : Shp w b L d) : Bx w b (sc L d).toList :=
  ⟨h.lt, fun i v hv => by rw [cell_of_row _ b _ _ _ _ h]; simpa using hv⟩

theorem Shp.fr {w : World} {b : Nat} {L : LT} {d : SD} (h : Shp w b L d) (j : Nat) : w.frozen? ⟨b, j, none⟩ = false := frozen_of_row w b j _ _ h

theorem Shp.other {w w' : World} {b : Nat} {L : LT} {d : SD} {row : Option Nat} (h : Shp w b L d) (g : w.grownBy w' row) (hb : some b ≠ row) : Shp w' b L d := by
  unfold Shp
  rw [g.block b h.lt hb]
  exact h

theorem Shp.all {w w' : World} {b : Nat} {L : LT} {d : SD} (h : Shp w b L d) (k : Below w.heap.size w w') : Shp w' b L d := by
  unfold Shp
  rw [k.block b h.lt]
  exact h

theorem Shp.past {w : World} {b b' j : Nat} {L : LT} {d : SD} (h : Shp w b L d) (hb : b ≠ b') (v : Value) : Shp (w.setCell ⟨b', j, none⟩ v) b L d := h.other (grown_at w b' j v) (by simpa using hb)

theorem shp_new (w : World) (L : LT) (d : SD) : Shp (w.alloc (.cells (sc L d) 36)) w.heap.size L d := heap_alloc_new w _

theorem shp_new_at {w : World} {s : Nat} (h : w.heap.size = s) (L : LT) (d : SD) : Shp (w.alloc (.cells (sc L d) 36)) s L d := by
  subst h
  exact shp_new _ _ _

theorem Shp.set_p {w : World} {b : Nat} {L : LT} {d : SD} (h : Shp w b L d) (v : Int) : Shp (w.setCell ⟨b, 0, none⟩ (.int .i64 v)) b L { d with p := v } := heap_setCell_same w b 0 _ _ _ h

theorem Shp.set_q {w : World} {b : Nat} {L : LT} {d : SD} (h : Shp w b L d) (v : Int) : Shp (w.setCell ⟨b, 1, none⟩ (.int .i64 v)) b L { d with q := v } := heap_setCell_same w b 1 _ _ _ h

theorem Shp.set_t {w : World} {b : Nat} {L : LT} {d : SD} (h : Shp w b L d) (M : SL) : Shp (w.setCell ⟨b, 2, none⟩ M.v) b { L with t := M } d := heap_setCell_same w b 2 _ _ _ h

theorem Shp.set_m {w : World} {b : Nat} {L : LT} {d : SD} (h : Shp w b L d) (M : SL) : Shp (w.setCell ⟨b, 3, none⟩ M.v) b { L with m := M } d := heap_setCell_same w b 3 _ _ _ h

theorem Shp.set_c {w : World} {b : Nat} {L : LT} {d : SD} (h : Shp w b L d) (M : SL) : Shp (w.setCell ⟨b, 4, none⟩ M.v) b { L with c := M } d := heap_setCell_same w b 4 _ _ _ h

theorem Shp.set_n {w : World} {b : Nat} {L : LT} {d : SD} (h : Shp w b L d) (M : SL) : Shp (w.setCell ⟨b, 5, none⟩ M.v) b { L with n := M } d := heap_setCell_same w b 5 _ _ _ h

theorem Shp.set_s {w : World} {b : Nat} {L : LT} {d : SD} (h : Shp w b L d) (M : SL) : Shp (w.setCell ⟨b, 6, none⟩ M.v) b { L with s := M } d := heap_setCell_same w b 6 _ _ _ h

theorem Shp.set_r {w : World} {b : Nat} {L : LT} {d : SD} (h : Shp w b L d) (M : SL) : Shp (w.setCell ⟨b, 7, none⟩ M.v) b { L with r := M } d := heap_setCell_same w b 7 _ _ _ h

theorem Shp.set_l {w : World} {b : Nat} {L : LT} {d : SD} (h : Shp w b L d) (M : SL) : Shp (w.setCell ⟨b, 8, none⟩ M.v) b { L with l := M } d := heap_setCell_same w b 8 _ _ _ h

theorem Shp.set_h {w : World} {b : Nat} {L : LT} {d : SD} (h : Shp w b L d) (M : SL) : Shp (w.setCell ⟨b, 9, none⟩ M.v) b { L with h := M } d := heap_setCell_same w b 9 _ _ _ h

theorem Shp.set_lt {w : World} {b : Nat} {L : LT} {d : SD} (h : Shp w b L d) (v : Int) : Shp (w.setCell ⟨b, 10, none⟩ (.int .i64 v)) b L { d with lt := v } := heap_setCell_same w b 10 _ _ _ h

theorem Shp.set_la {w : World} {b : Nat} {L : LT} {d : SD} (h : Shp w b L d) (v : Int) : Shp (w.setCell ⟨b, 11, none⟩ (.int .i64 v)) b L { d with la := v } := heap_setCell_same w b 11 _ _ _ h

theorem Shp.set_y {w : World} {b : Nat} {L : LT} {d : SD} (h : Shp w b L d) (M : SL) : Shp (w.setCell ⟨b, 12, none⟩ M.v) b { L with y := M } d := heap_setCell_same w b 12 _ _ _ h

theorem Shp.set_z {w : World} {b : Nat} {L : LT} {d : SD} (h : Shp w b L d) (M : SL) : Shp (w.setCell ⟨b, 13, none⟩ M.v) b { L with z := M } d := heap_setCell_same w b 13 _ _ _ h

theorem Shp.set_yq {w : World} {b : Nat} {L : LT} {d : SD} (h : Shp w b L d) (v : Int) : Shp (w.setCell ⟨b, 14, none⟩ (.int .i64 v)) b L { d with yq := v } := heap_setCell_same w b 14 _ _ _ h

theorem Shp.set_yt {w : World} {b : Nat} {L : LT} {d : SD} (h : Shp w b L d) (v : Int) : Shp (w.setCell ⟨b, 15, none⟩ (.int .i64 v)) b L { d with yt := v } := heap_setCell_same w b 15 _ _ _ h

theorem Shp.set_w {w : World} {b : Nat} {L : LT} {d : SD} (h : Shp w b L d) (v : Int) : Shp (w.setCell ⟨b, 16, none⟩ (.int .i64 v)) b L { d with w := v } := heap_setCell_same w b 16 _ _ _ h

/-- All cells of a Shop written, one after the other. -/
def put17 (w : World) (b : Nat) (L : LT) (d : SD) : World := (((((((((((((((((w.setCell ⟨b, 0, none⟩ (.int .i64 d.p)).setCell ⟨b, 1, none⟩ (.int .i64 d.q)).setCell ⟨b, 2, none⟩ L.t.v).setCell ⟨b, 3, none⟩ L.m.v).setCell ⟨b, 4, none⟩ L.c.v).setCell ⟨b, 5, none⟩ L.n.v).setCell ⟨b, 6, none⟩ L.s.v).setCell ⟨b, 7, none⟩ L.r.v).setCell ⟨b, 8, none⟩ L.l.v).setCell ⟨b, 9, none⟩ L.h.v).setCell ⟨b, 10, none⟩ (.int .i64 d.lt)).setCell ⟨b, 11, none⟩ (.int .i64 d.la)).setCell ⟨b, 12, none⟩ L.y.v).setCell ⟨b, 13, none⟩ L.z.v).setCell ⟨b, 14, none⟩ (.int .i64 d.yq)).setCell ⟨b, 15, none⟩ (.int .i64 d.yt)).setCell ⟨b, 16, none⟩ (.int .i64 d.w))

theorem put17_grown (w : World) (b : Nat) (L : LT) (d : SD) : w.grownBy (put17 w b L d) (some b) :=
  (((((((((((((((((grown_at _ b _ _).trans (grown_at _ b _ _)).trans (grown_at _ b _ _)).trans (grown_at _ b _ _)).trans (grown_at _ b _ _)).trans (grown_at _ b _ _)).trans (grown_at _ b _ _)).trans (grown_at _ b _ _)).trans (grown_at _ b _ _)).trans (grown_at _ b _ _)).trans (grown_at _ b _ _)).trans (grown_at _ b _ _)).trans (grown_at _ b _ _)).trans (grown_at _ b _ _)).trans (grown_at _ b _ _)).trans (grown_at _ b _ _)).trans (grown_at _ b _ _))

theorem Shp.put17 {w : World} {b : Nat} {M : LT} {e : SD} (h : Shp w b M e) (L : LT) (d : SD) : Shp (put17 w b L d) b L d := (((((((((((((((((h.set_p d.p).set_q d.q).set_t L.t).set_m L.m).set_c L.c).set_n L.n).set_s L.s).set_r L.r).set_l L.l).set_h L.h).set_lt d.lt).set_la d.la).set_y L.y).set_z L.z).set_yq d.yq).set_yt d.yt).set_w d.w)

theorem Shp.all17 {w : World} {b : Nat} {M : LT} {e : SD} (h : Shp w b M e) (L : LT) (d : SD) : Shp (w.setCells b 0 (sc L d).toList) b L d := h.put17 L d

theorem grown17 (w : World) (b : Nat) (L : LT) (d : SD) : w.grownBy (w.setCells b 0 (sc L d).toList) (some b) := put17_grown w b L d

theorem Shp.range {w : World} {b : Nat} {L : LT} {d : SD} (h : Shp w b L d) : w.rangeAt b 0 (sc L d).toList := fun j v hv => by
  rw [Nat.zero_add]
  exact h.bx.2 j v hv

theorem Shp.there {w : World} {b : Nat} {L : LT} {d : SD} (h : Shp w b L d) : w.there b 0 17 := fun j hj => by
  rw [Nat.zero_add]
  refine ⟨?_, h.fr j⟩
  rw [cell_of_row _ b _ _ _ _ h]
  have hs : j < (sc L d).size := hj
  rw [Array.getElem?_eq_getElem hs]
  rfl

theorem size_shop (L : LT) (d : SD) : (Tryz.prog.info? 36).map (·.size) = some (sc L d).toList.length := by kernel_rfl

theorem size_shop' (L : LT) (d : SD) : (Tryz.prog.info? 36).map (·.size) = some (sc L d).size := by kernel_rfl

theorem one_shop (L : LT) (d : SD) : (sc L d).all (·.oneCell') = true := all_oneCell_toArray (cs := [(.int .i64 d.p), (.int .i64 d.q), L.t.v, L.m.v, L.c.v, L.n.v, L.s.v, L.r.v, L.l.v, L.h.v, (.int .i64 d.lt), (.int .i64 d.la), L.y.v, L.z.v, (.int .i64 d.yq), (.int .i64 d.yt), (.int .i64 d.w)]) (by
  intro v hv
  simp only [List.mem_cons, List.not_mem_nil, or_false] at hv
  rcases hv with rfl | rfl | rfl | rfl | rfl | rfl | rfl | rfl | rfl | rfl | rfl | rfl | rfl | rfl | rfl | rfl | rfl <;> rfl)

theorem info_shop : (Tryz.prog.info? 36).map (·.size) = some 17 := by kernel_rfl

theorem ret_shop {fn : Func} {q : Tmp} (h : fn.results = #[.cell q 36]) {tmps : Array Value} {w : World} {g : Nat} {L : LT} {d : SD} (hp : tmps.getD q undef = .pointer (some ⟨g, 0, none⟩)) (S : Shp w g L d) : (results fn tmps).run Tryz.prog w = .ok (sv L d) w :=
  results_cell_row h tmps w g _ _ _ _ hp S Tryz.underlying36 rfl info_shop

theorem ret_shop2 {fn : Func} {q u : Tmp} (h : fn.results = #[.cell q 36, .tmp u]) {tmps : Array Value} {w : World} {g : Nat} {v : Value} {L : LT} {d : SD} (hp : tmps.getD q undef = .pointer (some ⟨g, 0, none⟩)) (hv : tmps.getD u undef = v) (S : Shp w g L d) : (results fn tmps).run Tryz.prog w = .ok (.tuple #[sv L d, v]) w := by
  rw [results_cell_tmp h, hp, hv]
  simp [asAddr, run_loadVar_row w g _ 36 _ _ _ S Tryz.underlying36 rfl info_shop]

abbrev zl : LT := ⟨nl, nl, nl, nl, nl, nl, nl, nl, nl, nl⟩

/-- The same lists, no numbers. -/
abbrev SD.none (d : SD) : SD := ⟨0, 0, d.t, d.m, d.c, d.n, d.s, d.r, d.l, d.h, 0, 0, d.y, d.z, 0, 0, 0⟩

/-- While a Shop is copied: the argument, the answer, the copy. -/
structure Cp (w X : World) (L : LT) (d : SD) (M : LT) (e : SD) : Prop where
  bel : Below w.heap.size w X
  arg : Bx X w.heap.size (sc L d).toList
  ans : Shp X (w.heap.size + 1) zl d.none
  out : Shp X (w.heap.size + 2) M e

theorem Cp.all {w X Y : World} {L : LT} {d : SD} {M : LT} {e : SD} (h : Cp w X L d M e) (k : Below X.heap.size X Y) : Cp w Y L d M e :=
  ⟨below_call h.bel h.bel.size k, h.arg.all k, h.ans.all k, h.out.all k⟩

theorem Cp.set {w X : World} {L : LT} {d : SD} {M M' : LT} {e e' : SD} (h : Cp w X L d M e) (i : Nat) (v : Value) (k : Shp (X.setCell ⟨w.heap.size + 2, i, none⟩ v) (w.heap.size + 2) M' e') : Cp w (X.setCell ⟨w.heap.size + 2, i, none⟩ v) L d M' e' :=
  ⟨below_set h.bel (by omega) v, h.arg.still (grown_at X _ i v).size ((grown_at X (w.heap.size + 2) i v).block _ h.arg.1 (by simp)), h.ans.past (by omega) v, k⟩

theorem cp_new (w : World) (L : LT) (d : SD) : Cp w (((w.alloc (.cells (sc L d) 50)).alloc (.cells (sc zl d.none) 36)).alloc (.cells (sc zl { d.none with p := d.p, q := d.q }) 36)) L d zl { d.none with p := d.p, q := d.q } :=
  ⟨((below_new _ _).alloc (by simp) _).alloc (by simp; omega) _, ((bx_new w (sc L d) _).all (below_new _ _)).all (below_new _ _), (shp_new_at (by simp) _ _).all (below_new _ _), shp_new_at (by simp) _ _⟩

theorem toTasksC (a : Option Addr) (len cap : Nat) (ps : List Tsk) (w : World) (I : Tsks w a len ps) (hs : (len : Int) ≤ 1048576) :
    Calls Tryz.prog 60 #[.slice a len cap] w fun e w' => ∃ g, e = .returned (.slice (some ⟨g, 0, none⟩) len len) ∧ TRow w' g len ps ∧ w.heap.size ≤ g ∧ Below w.heap.size w w' := by
  refine (toTasks_any a len cap ps w I hs).mono ?_
  rintro e w' ⟨rfl, R, B⟩
  exact ⟨_, rfl, R, Nat.le_refl _, B⟩

theorem toIntsC (a : Option Addr) (len cap : Nat) (xs : List Int) (w : World) (I : Ints w a len xs) (hs : (len : Int) ≤ 1048576) :
    Calls Tryz.prog 61 #[.slice a len cap] w fun e w' => ∃ g, e = .returned (.slice (some ⟨g, 0, none⟩) len len) ∧ Row w' g len xs ∧ w.heap.size ≤ g ∧ Below w.heap.size w w' := by
  refine (toInts_any a len cap xs w I hs).mono ?_
  rintro e w' ⟨rfl, R, B⟩
  exact ⟨_, rfl, R, Nat.le_refl _, B⟩

set_option maxRecDepth 100000 in
set_option maxHeartbeats 8000000 in
/-- laws.toShop: a copy. -/
theorem toShop_any (L : LT) (d : SD) (w : World) (I : Rd w L d) (hs : Short L) :
    Calls Tryz.prog 19 #[sv L d] w fun e w' => ∃ M, e = .returned (sv M d) ∧ Own w' M d ∧ Parts M ∧ (∀ j, Has M j → w.heap.size ≤ j) ∧ Below w.heap.size w w' := by
  have HI : Hid (Rd w L d) := I
  obtain ⟨s0, s1, s2, s3, s4, s5, s6, s7, s8, s9⟩ := short_parts hs
  obtain ⟨W0, hW0⟩ : ∃ W0, W0 = ((w.alloc (.cells (sc L d) 50)).alloc (.cells (sc zl d.none) 36)).alloc (.cells (sc zl { d.none with p := d.p, q := d.q }) 36) := ⟨_, rfl⟩
  have CP := cp_new w L d
  rw [← hW0] at CP
  have D0 := hid CP
  clear CP I hs
  go_enter Tryz.func19, Tryz.ntmps19
  go_wp2_with fail
  rw [← hW0]
  clear hW0
  have X0 := D0
  refine (toTasksC L.t.a L.t.n L.t.c d.t _ (HI.out.t.kept X0.out.bel) s0).mono ?_
  rintro e w1 ⟨gt, rfl, Rt, kt, B0⟩
  have S1 := hid (X0.out.all B0)
  have Qt0 : Hid (TRow w1 gt L.t.n d.t) := Rt
  have lot : w.heap.size + 2 < gt := Nat.lt_of_lt_of_le X0.out.out.lt kt
  have hit : gt < w1.heap.size := Qt0.out.lt
  clear Rt kt B0
  obtain ⟨w1s, q1⟩ : ∃ n, n = w1.heap.size := ⟨_, rfl⟩
  rw [← q1] at hit
  have BD0 : Hid (w.heap.size + 2 < gt ∧ gt < w1s ∧ w1s = w1.heap.size) := ⟨lot, hit, q1⟩
  clear lot hit q1
  obtain ⟨c0, c1, c2, c3, c4, c5, c6, c7, c8, c9, c10, c11, c12, c13, c14, c15, c16⟩ := S1.out.arg.shop
  obtain ⟨o0, o1, o2, o3, o4, o5, o6, o7, o8, o9, o10, o11, o12, o13, o14, o15, o16⟩ := S1.out.out.bx.shop
  have f0 := S1.out.out.fr 0
  have f1 := S1.out.out.fr 1
  have f2 := S1.out.out.fr 2
  have f3 := S1.out.out.fr 3
  have f4 := S1.out.out.fr 4
  have f5 := S1.out.out.fr 5
  have f6 := S1.out.out.fr 6
  have f7 := S1.out.out.fr 7
  have f8 := S1.out.out.fr 8
  have f9 := S1.out.out.fr 9
  have f10 := S1.out.out.fr 10
  have f11 := S1.out.out.fr 11
  have f12 := S1.out.out.fr 12
  have f13 := S1.out.out.fr 13
  have f14 := S1.out.out.fr 14
  have f15 := S1.out.out.fr 15
  have f16 := S1.out.out.fr 16
  have m0 := S1.out.out.lt
  have X1 : Hid (Cp w (w1.setCell ⟨w.heap.size + 2, 2, none⟩ (.slice (some ⟨gt, 0, none⟩) L.t.n L.t.n)) L d _ _) := (S1.out.set 2 _ (S1.out.out.set_t ⟨some ⟨gt, 0, none⟩, L.t.n, L.t.n⟩))
  have NEt : gt ≠ w.heap.size + 2 := by have := BD0.out; omega
  have Yt0 : Hid (TRow (w1.setCell ⟨w.heap.size + 2, 2, none⟩ (.slice (some ⟨gt, 0, none⟩) L.t.n L.t.n)) gt L.t.n d.t) := (Rec.row.past Qt0.out NEt _)
  have z1 : w1s ≤ (w1.setCell ⟨w.heap.size + 2, 2, none⟩ (.slice (some ⟨gt, 0, none⟩) L.t.n L.t.n)).heap.size := by have := BD0.out; simp; omega
  go_wp2_with fail
  refine (toIntsC L.m.a L.m.n L.m.c d.m _ (HI.out.m.kept X1.out.bel) s1).mono ?_
  rintro e w2 ⟨gm, rfl, Rm, km, B1⟩
  have S2 := hid (X1.out.all B1)
  have Qt1 : Hid (TRow w2 gt L.t.n d.t) := Yt0.out.all B1
  have Qm1 : Hid (Row w2 gm L.m.n d.m) := Rm
  have lom : w1s ≤ gm := Nat.le_trans z1 km
  have him : gm < w2.heap.size := Qm1.out.lt
  clear Rm km B1
  obtain ⟨w2s, q2⟩ : ∃ n, n = w2.heap.size := ⟨_, rfl⟩
  rw [← q2] at him
  have BD1 : Hid (w1s ≤ gm ∧ gm < w2s ∧ w2s = w2.heap.size) := ⟨lom, him, q2⟩
  clear lom him q2
  obtain ⟨c0, c1, c2, c3, c4, c5, c6, c7, c8, c9, c10, c11, c12, c13, c14, c15, c16⟩ := S2.out.arg.shop
  obtain ⟨o0, o1, o2, o3, o4, o5, o6, o7, o8, o9, o10, o11, o12, o13, o14, o15, o16⟩ := S2.out.out.bx.shop
  have f0 := S2.out.out.fr 0
  have f1 := S2.out.out.fr 1
  have f2 := S2.out.out.fr 2
  have f3 := S2.out.out.fr 3
  have f4 := S2.out.out.fr 4
  have f5 := S2.out.out.fr 5
  have f6 := S2.out.out.fr 6
  have f7 := S2.out.out.fr 7
  have f8 := S2.out.out.fr 8
  have f9 := S2.out.out.fr 9
  have f10 := S2.out.out.fr 10
  have f11 := S2.out.out.fr 11
  have f12 := S2.out.out.fr 12
  have f13 := S2.out.out.fr 13
  have f14 := S2.out.out.fr 14
  have f15 := S2.out.out.fr 15
  have f16 := S2.out.out.fr 16
  have m0 := S2.out.out.lt
  have X2 : Hid (Cp w (w2.setCell ⟨w.heap.size + 2, 3, none⟩ (.slice (some ⟨gm, 0, none⟩) L.m.n L.m.n)) L d _ _) := (S2.out.set 3 _ (S2.out.out.set_m ⟨some ⟨gm, 0, none⟩, L.m.n, L.m.n⟩))
  have Yt1 : Hid (TRow (w2.setCell ⟨w.heap.size + 2, 3, none⟩ (.slice (some ⟨gm, 0, none⟩) L.m.n L.m.n)) gt L.t.n d.t) := (Rec.row.past Qt1.out NEt _)
  have NEm : gm ≠ w.heap.size + 2 := by have := BD0.out; have := BD1.out; omega
  have Ym1 : Hid (Row (w2.setCell ⟨w.heap.size + 2, 3, none⟩ (.slice (some ⟨gm, 0, none⟩) L.m.n L.m.n)) gm L.m.n d.m) := (Row.past Qm1.out NEm _)
  have z2 : w2s ≤ (w2.setCell ⟨w.heap.size + 2, 3, none⟩ (.slice (some ⟨gm, 0, none⟩) L.m.n L.m.n)).heap.size := by have := BD1.out; simp; omega
  go_wp2_with fail
  refine (toIntsC L.c.a L.c.n L.c.c d.c _ (HI.out.c.kept X2.out.bel) s2).mono ?_
  rintro e w3 ⟨gc, rfl, Rc, kc, B2⟩
  have S3 := hid (X2.out.all B2)
  have Qt2 : Hid (TRow w3 gt L.t.n d.t) := Yt1.out.all B2
  have Qm2 : Hid (Row w3 gm L.m.n d.m) := Ym1.out.all B2
  have Qc2 : Hid (Row w3 gc L.c.n d.c) := Rc
  have loc : w2s ≤ gc := Nat.le_trans z2 kc
  have hic : gc < w3.heap.size := Qc2.out.lt
  clear Rc kc B2
  obtain ⟨w3s, q3⟩ : ∃ n, n = w3.heap.size := ⟨_, rfl⟩
  rw [← q3] at hic
  have BD2 : Hid (w2s ≤ gc ∧ gc < w3s ∧ w3s = w3.heap.size) := ⟨loc, hic, q3⟩
  clear loc hic q3
  obtain ⟨c0, c1, c2, c3, c4, c5, c6, c7, c8, c9, c10, c11, c12, c13, c14, c15, c16⟩ := S3.out.arg.shop
  obtain ⟨o0, o1, o2, o3, o4, o5, o6, o7, o8, o9, o10, o11, o12, o13, o14, o15, o16⟩ := S3.out.out.bx.shop
  have f0 := S3.out.out.fr 0
  have f1 := S3.out.out.fr 1
  have f2 := S3.out.out.fr 2
  have f3 := S3.out.out.fr 3
  have f4 := S3.out.out.fr 4
  have f5 := S3.out.out.fr 5
  have f6 := S3.out.out.fr 6
  have f7 := S3.out.out.fr 7
  have f8 := S3.out.out.fr 8
  have f9 := S3.out.out.fr 9
  have f10 := S3.out.out.fr 10
  have f11 := S3.out.out.fr 11
  have f12 := S3.out.out.fr 12
  have f13 := S3.out.out.fr 13
  have f14 := S3.out.out.fr 14
  have f15 := S3.out.out.fr 15
  have f16 := S3.out.out.fr 16
  have m0 := S3.out.out.lt
  have X3 : Hid (Cp w (w3.setCell ⟨w.heap.size + 2, 4, none⟩ (.slice (some ⟨gc, 0, none⟩) L.c.n L.c.n)) L d _ _) := (S3.out.set 4 _ (S3.out.out.set_c ⟨some ⟨gc, 0, none⟩, L.c.n, L.c.n⟩))
  have Yt2 : Hid (TRow (w3.setCell ⟨w.heap.size + 2, 4, none⟩ (.slice (some ⟨gc, 0, none⟩) L.c.n L.c.n)) gt L.t.n d.t) := (Rec.row.past Qt2.out NEt _)
  have Ym2 : Hid (Row (w3.setCell ⟨w.heap.size + 2, 4, none⟩ (.slice (some ⟨gc, 0, none⟩) L.c.n L.c.n)) gm L.m.n d.m) := (Row.past Qm2.out NEm _)
  have NEc : gc ≠ w.heap.size + 2 := by have := BD0.out; have := BD1.out; have := BD2.out; omega
  have Yc2 : Hid (Row (w3.setCell ⟨w.heap.size + 2, 4, none⟩ (.slice (some ⟨gc, 0, none⟩) L.c.n L.c.n)) gc L.c.n d.c) := (Row.past Qc2.out NEc _)
  have z3 : w3s ≤ (w3.setCell ⟨w.heap.size + 2, 4, none⟩ (.slice (some ⟨gc, 0, none⟩) L.c.n L.c.n)).heap.size := by have := BD2.out; simp; omega
  go_wp2_with fail
  refine (toIntsC L.n.a L.n.n L.n.c d.n _ (HI.out.n.kept X3.out.bel) s3).mono ?_
  rintro e w4 ⟨gn, rfl, Rn, kn, B3⟩
  have S4 := hid (X3.out.all B3)
  have Qt3 : Hid (TRow w4 gt L.t.n d.t) := Yt2.out.all B3
  have Qm3 : Hid (Row w4 gm L.m.n d.m) := Ym2.out.all B3
  have Qc3 : Hid (Row w4 gc L.c.n d.c) := Yc2.out.all B3
  have Qn3 : Hid (Row w4 gn L.n.n d.n) := Rn
  have lon : w3s ≤ gn := Nat.le_trans z3 kn
  have hin : gn < w4.heap.size := Qn3.out.lt
  clear Rn kn B3
  obtain ⟨w4s, q4⟩ : ∃ n, n = w4.heap.size := ⟨_, rfl⟩
  rw [← q4] at hin
  have BD3 : Hid (w3s ≤ gn ∧ gn < w4s ∧ w4s = w4.heap.size) := ⟨lon, hin, q4⟩
  clear lon hin q4
  obtain ⟨c0, c1, c2, c3, c4, c5, c6, c7, c8, c9, c10, c11, c12, c13, c14, c15, c16⟩ := S4.out.arg.shop
  obtain ⟨o0, o1, o2, o3, o4, o5, o6, o7, o8, o9, o10, o11, o12, o13, o14, o15, o16⟩ := S4.out.out.bx.shop
  have f0 := S4.out.out.fr 0
  have f1 := S4.out.out.fr 1
  have f2 := S4.out.out.fr 2
  have f3 := S4.out.out.fr 3
  have f4 := S4.out.out.fr 4
  have f5 := S4.out.out.fr 5
  have f6 := S4.out.out.fr 6
  have f7 := S4.out.out.fr 7
  have f8 := S4.out.out.fr 8
  have f9 := S4.out.out.fr 9
  have f10 := S4.out.out.fr 10
  have f11 := S4.out.out.fr 11
  have f12 := S4.out.out.fr 12
  have f13 := S4.out.out.fr 13
  have f14 := S4.out.out.fr 14
  have f15 := S4.out.out.fr 15
  have f16 := S4.out.out.fr 16
  have m0 := S4.out.out.lt
  have X4 : Hid (Cp w (w4.setCell ⟨w.heap.size + 2, 5, none⟩ (.slice (some ⟨gn, 0, none⟩) L.n.n L.n.n)) L d _ _) := (S4.out.set 5 _ (S4.out.out.set_n ⟨some ⟨gn, 0, none⟩, L.n.n, L.n.n⟩))
  have Yt3 : Hid (TRow (w4.setCell ⟨w.heap.size + 2, 5, none⟩ (.slice (some ⟨gn, 0, none⟩) L.n.n L.n.n)) gt L.t.n d.t) := (Rec.row.past Qt3.out NEt _)
  have Ym3 : Hid (Row (w4.setCell ⟨w.heap.size + 2, 5, none⟩ (.slice (some ⟨gn, 0, none⟩) L.n.n L.n.n)) gm L.m.n d.m) := (Row.past Qm3.out NEm _)
  have Yc3 : Hid (Row (w4.setCell ⟨w.heap.size + 2, 5, none⟩ (.slice (some ⟨gn, 0, none⟩) L.n.n L.n.n)) gc L.c.n d.c) := (Row.past Qc3.out NEc _)
  have NEn : gn ≠ w.heap.size + 2 := by have := BD0.out; have := BD1.out; have := BD2.out; have := BD3.out; omega
  have Yn3 : Hid (Row (w4.setCell ⟨w.heap.size + 2, 5, none⟩ (.slice (some ⟨gn, 0, none⟩) L.n.n L.n.n)) gn L.n.n d.n) := (Row.past Qn3.out NEn _)
  have z4 : w4s ≤ (w4.setCell ⟨w.heap.size + 2, 5, none⟩ (.slice (some ⟨gn, 0, none⟩) L.n.n L.n.n)).heap.size := by have := BD3.out; simp; omega
  go_wp2_with fail
  refine (toSmooth_any L.s.a L.s.n L.s.c d.s L.r.a L.r.n L.r.c d.r _ (HI.out.s.kept X4.out.bel) (HI.out.r.kept X4.out.bel) s4 s5).mono ?_
  rintro e w5 ⟨gs, gr, rfl, Rs, Rr, ks, kr, ns, B4⟩
  have S5 := hid (X4.out.all B4)
  have Qt4 : Hid (TRow w5 gt L.t.n d.t) := Yt3.out.all B4
  have Qm4 : Hid (Row w5 gm L.m.n d.m) := Ym3.out.all B4
  have Qc4 : Hid (Row w5 gc L.c.n d.c) := Yc3.out.all B4
  have Qn4 : Hid (Row w5 gn L.n.n d.n) := Yn3.out.all B4
  have Qs4 : Hid (Row w5 gs L.s.n d.s) := Rs
  have Qr4 : Hid (Row w5 gr L.r.n d.r) := Rr
  have los : w4s ≤ gs := Nat.le_trans z4 ks
  have his : gs < w5.heap.size := Qs4.out.lt
  have lor : w4s ≤ gr := Nat.le_trans z4 kr
  have hir : gr < w5.heap.size := Qr4.out.lt
  clear Rs ks Rr kr B4
  obtain ⟨w5s, q5⟩ : ∃ n, n = w5.heap.size := ⟨_, rfl⟩
  rw [← q5] at his
  rw [← q5] at hir
  have BD4 : Hid (w4s ≤ gs ∧ w4s ≤ gr ∧ gs < w5s ∧ gr < w5s ∧ gs ≠ gr ∧ w5s = w5.heap.size) := ⟨los, lor, his, hir, ns, q5⟩
  clear los his lor hir ns q5
  obtain ⟨c0, c1, c2, c3, c4, c5, c6, c7, c8, c9, c10, c11, c12, c13, c14, c15, c16⟩ := S5.out.arg.shop
  obtain ⟨o0, o1, o2, o3, o4, o5, o6, o7, o8, o9, o10, o11, o12, o13, o14, o15, o16⟩ := S5.out.out.bx.shop
  have f0 := S5.out.out.fr 0
  have f1 := S5.out.out.fr 1
  have f2 := S5.out.out.fr 2
  have f3 := S5.out.out.fr 3
  have f4 := S5.out.out.fr 4
  have f5 := S5.out.out.fr 5
  have f6 := S5.out.out.fr 6
  have f7 := S5.out.out.fr 7
  have f8 := S5.out.out.fr 8
  have f9 := S5.out.out.fr 9
  have f10 := S5.out.out.fr 10
  have f11 := S5.out.out.fr 11
  have f12 := S5.out.out.fr 12
  have f13 := S5.out.out.fr 13
  have f14 := S5.out.out.fr 14
  have f15 := S5.out.out.fr 15
  have f16 := S5.out.out.fr 16
  have m0 := S5.out.out.lt
  have X5 : Hid (Cp w ((w5.setCell ⟨w.heap.size + 2, 6, none⟩ (.slice (some ⟨gs, 0, none⟩) L.s.n L.s.n)).setCell ⟨w.heap.size + 2, 7, none⟩ (.slice (some ⟨gr, 0, none⟩) L.r.n L.r.n)) L d _ _) := ((S5.out.set 6 _ (S5.out.out.set_s ⟨some ⟨gs, 0, none⟩, L.s.n, L.s.n⟩)).set 7 _ ((S5.out.out.set_s ⟨some ⟨gs, 0, none⟩, L.s.n, L.s.n⟩).set_r ⟨some ⟨gr, 0, none⟩, L.r.n, L.r.n⟩))
  have Yt4 : Hid (TRow ((w5.setCell ⟨w.heap.size + 2, 6, none⟩ (.slice (some ⟨gs, 0, none⟩) L.s.n L.s.n)).setCell ⟨w.heap.size + 2, 7, none⟩ (.slice (some ⟨gr, 0, none⟩) L.r.n L.r.n)) gt L.t.n d.t) := (Rec.row.past (Rec.row.past Qt4.out NEt _) NEt _)
  have Ym4 : Hid (Row ((w5.setCell ⟨w.heap.size + 2, 6, none⟩ (.slice (some ⟨gs, 0, none⟩) L.s.n L.s.n)).setCell ⟨w.heap.size + 2, 7, none⟩ (.slice (some ⟨gr, 0, none⟩) L.r.n L.r.n)) gm L.m.n d.m) := (Row.past (Row.past Qm4.out NEm _) NEm _)
  have Yc4 : Hid (Row ((w5.setCell ⟨w.heap.size + 2, 6, none⟩ (.slice (some ⟨gs, 0, none⟩) L.s.n L.s.n)).setCell ⟨w.heap.size + 2, 7, none⟩ (.slice (some ⟨gr, 0, none⟩) L.r.n L.r.n)) gc L.c.n d.c) := (Row.past (Row.past Qc4.out NEc _) NEc _)
  have Yn4 : Hid (Row ((w5.setCell ⟨w.heap.size + 2, 6, none⟩ (.slice (some ⟨gs, 0, none⟩) L.s.n L.s.n)).setCell ⟨w.heap.size + 2, 7, none⟩ (.slice (some ⟨gr, 0, none⟩) L.r.n L.r.n)) gn L.n.n d.n) := (Row.past (Row.past Qn4.out NEn _) NEn _)
  have NEs : gs ≠ w.heap.size + 2 := by have := BD0.out; have := BD1.out; have := BD2.out; have := BD3.out; have := BD4.out; omega
  have Ys4 : Hid (Row ((w5.setCell ⟨w.heap.size + 2, 6, none⟩ (.slice (some ⟨gs, 0, none⟩) L.s.n L.s.n)).setCell ⟨w.heap.size + 2, 7, none⟩ (.slice (some ⟨gr, 0, none⟩) L.r.n L.r.n)) gs L.s.n d.s) := (Row.past (Row.past Qs4.out NEs _) NEs _)
  have NEr : gr ≠ w.heap.size + 2 := by have := BD0.out; have := BD1.out; have := BD2.out; have := BD3.out; have := BD4.out; omega
  have Yr4 : Hid (Row ((w5.setCell ⟨w.heap.size + 2, 6, none⟩ (.slice (some ⟨gs, 0, none⟩) L.s.n L.s.n)).setCell ⟨w.heap.size + 2, 7, none⟩ (.slice (some ⟨gr, 0, none⟩) L.r.n L.r.n)) gr L.r.n d.r) := (Row.past (Row.past Qr4.out NEr _) NEr _)
  have z5 : w5s ≤ ((w5.setCell ⟨w.heap.size + 2, 6, none⟩ (.slice (some ⟨gs, 0, none⟩) L.s.n L.s.n)).setCell ⟨w.heap.size + 2, 7, none⟩ (.slice (some ⟨gr, 0, none⟩) L.r.n L.r.n)).heap.size := by have := BD4.out; simp; omega
  go_wp2_with fail
  refine (toList_any L.l.a L.l.n L.l.c d.l L.h.a L.h.n L.h.c d.h d.lt d.la _ (HI.out.l.kept X5.out.bel) (HI.out.h.kept X5.out.bel) s6 s7).mono ?_
  rintro e w6 ⟨gl, gh, rfl, Rl, Rh, kl, kh, nl, B5⟩
  have S6 := hid (X5.out.all B5)
  have Qt5 : Hid (TRow w6 gt L.t.n d.t) := Yt4.out.all B5
  have Qm5 : Hid (Row w6 gm L.m.n d.m) := Ym4.out.all B5
  have Qc5 : Hid (Row w6 gc L.c.n d.c) := Yc4.out.all B5
  have Qn5 : Hid (Row w6 gn L.n.n d.n) := Yn4.out.all B5
  have Qs5 : Hid (Row w6 gs L.s.n d.s) := Ys4.out.all B5
  have Qr5 : Hid (Row w6 gr L.r.n d.r) := Yr4.out.all B5
  have Ql5 : Hid (Row w6 gl L.l.n d.l) := Rl
  have Qh5 : Hid (Row w6 gh L.h.n d.h) := Rh
  have lol : w5s ≤ gl := Nat.le_trans z5 kl
  have hil : gl < w6.heap.size := Ql5.out.lt
  have loh : w5s ≤ gh := Nat.le_trans z5 kh
  have hih : gh < w6.heap.size := Qh5.out.lt
  clear Rl kl Rh kh B5
  obtain ⟨w6s, q6⟩ : ∃ n, n = w6.heap.size := ⟨_, rfl⟩
  rw [← q6] at hil
  rw [← q6] at hih
  have BD5 : Hid (w5s ≤ gl ∧ w5s ≤ gh ∧ gl < w6s ∧ gh < w6s ∧ gl ≠ gh ∧ w6s = w6.heap.size) := ⟨lol, loh, hil, hih, nl, q6⟩
  clear lol hil loh hih nl q6
  obtain ⟨c0, c1, c2, c3, c4, c5, c6, c7, c8, c9, c10, c11, c12, c13, c14, c15, c16⟩ := S6.out.arg.shop
  obtain ⟨o0, o1, o2, o3, o4, o5, o6, o7, o8, o9, o10, o11, o12, o13, o14, o15, o16⟩ := S6.out.out.bx.shop
  have f0 := S6.out.out.fr 0
  have f1 := S6.out.out.fr 1
  have f2 := S6.out.out.fr 2
  have f3 := S6.out.out.fr 3
  have f4 := S6.out.out.fr 4
  have f5 := S6.out.out.fr 5
  have f6 := S6.out.out.fr 6
  have f7 := S6.out.out.fr 7
  have f8 := S6.out.out.fr 8
  have f9 := S6.out.out.fr 9
  have f10 := S6.out.out.fr 10
  have f11 := S6.out.out.fr 11
  have f12 := S6.out.out.fr 12
  have f13 := S6.out.out.fr 13
  have f14 := S6.out.out.fr 14
  have f15 := S6.out.out.fr 15
  have f16 := S6.out.out.fr 16
  have m0 := S6.out.out.lt
  have X6 : Hid (Cp w ((((w6.setCell ⟨w.heap.size + 2, 8, none⟩ (.slice (some ⟨gl, 0, none⟩) L.l.n L.l.n)).setCell ⟨w.heap.size + 2, 9, none⟩ (.slice (some ⟨gh, 0, none⟩) L.h.n L.h.n)).setCell ⟨w.heap.size + 2, 10, none⟩ (.int .i64 d.lt)).setCell ⟨w.heap.size + 2, 11, none⟩ (.int .i64 d.la)) L d _ _) := ((((S6.out.set 8 _ (S6.out.out.set_l ⟨some ⟨gl, 0, none⟩, L.l.n, L.l.n⟩)).set 9 _ ((S6.out.out.set_l ⟨some ⟨gl, 0, none⟩, L.l.n, L.l.n⟩).set_h ⟨some ⟨gh, 0, none⟩, L.h.n, L.h.n⟩)).set 10 _ (((S6.out.out.set_l ⟨some ⟨gl, 0, none⟩, L.l.n, L.l.n⟩).set_h ⟨some ⟨gh, 0, none⟩, L.h.n, L.h.n⟩).set_lt d.lt)).set 11 _ ((((S6.out.out.set_l ⟨some ⟨gl, 0, none⟩, L.l.n, L.l.n⟩).set_h ⟨some ⟨gh, 0, none⟩, L.h.n, L.h.n⟩).set_lt d.lt).set_la d.la))
  have Yt5 : Hid (TRow ((((w6.setCell ⟨w.heap.size + 2, 8, none⟩ (.slice (some ⟨gl, 0, none⟩) L.l.n L.l.n)).setCell ⟨w.heap.size + 2, 9, none⟩ (.slice (some ⟨gh, 0, none⟩) L.h.n L.h.n)).setCell ⟨w.heap.size + 2, 10, none⟩ (.int .i64 d.lt)).setCell ⟨w.heap.size + 2, 11, none⟩ (.int .i64 d.la)) gt L.t.n d.t) := (Rec.row.past (Rec.row.past (Rec.row.past (Rec.row.past Qt5.out NEt _) NEt _) NEt _) NEt _)
  have Ym5 : Hid (Row ((((w6.setCell ⟨w.heap.size + 2, 8, none⟩ (.slice (some ⟨gl, 0, none⟩) L.l.n L.l.n)).setCell ⟨w.heap.size + 2, 9, none⟩ (.slice (some ⟨gh, 0, none⟩) L.h.n L.h.n)).setCell ⟨w.heap.size + 2, 10, none⟩ (.int .i64 d.lt)).setCell ⟨w.heap.size + 2, 11, none⟩ (.int .i64 d.la)) gm L.m.n d.m) := (Row.past (Row.past (Row.past (Row.past Qm5.out NEm _) NEm _) NEm _) NEm _)
  have Yc5 : Hid (Row ((((w6.setCell ⟨w.heap.size + 2, 8, none⟩ (.slice (some ⟨gl, 0, none⟩) L.l.n L.l.n)).setCell ⟨w.heap.size + 2, 9, none⟩ (.slice (some ⟨gh, 0, none⟩) L.h.n L.h.n)).setCell ⟨w.heap.size + 2, 10, none⟩ (.int .i64 d.lt)).setCell ⟨w.heap.size + 2, 11, none⟩ (.int .i64 d.la)) gc L.c.n d.c) := (Row.past (Row.past (Row.past (Row.past Qc5.out NEc _) NEc _) NEc _) NEc _)
  have Yn5 : Hid (Row ((((w6.setCell ⟨w.heap.size + 2, 8, none⟩ (.slice (some ⟨gl, 0, none⟩) L.l.n L.l.n)).setCell ⟨w.heap.size + 2, 9, none⟩ (.slice (some ⟨gh, 0, none⟩) L.h.n L.h.n)).setCell ⟨w.heap.size + 2, 10, none⟩ (.int .i64 d.lt)).setCell ⟨w.heap.size + 2, 11, none⟩ (.int .i64 d.la)) gn L.n.n d.n) := (Row.past (Row.past (Row.past (Row.past Qn5.out NEn _) NEn _) NEn _) NEn _)
  have Ys5 : Hid (Row ((((w6.setCell ⟨w.heap.size + 2, 8, none⟩ (.slice (some ⟨gl, 0, none⟩) L.l.n L.l.n)).setCell ⟨w.heap.size + 2, 9, none⟩ (.slice (some ⟨gh, 0, none⟩) L.h.n L.h.n)).setCell ⟨w.heap.size + 2, 10, none⟩ (.int .i64 d.lt)).setCell ⟨w.heap.size + 2, 11, none⟩ (.int .i64 d.la)) gs L.s.n d.s) := (Row.past (Row.past (Row.past (Row.past Qs5.out NEs _) NEs _) NEs _) NEs _)
  have Yr5 : Hid (Row ((((w6.setCell ⟨w.heap.size + 2, 8, none⟩ (.slice (some ⟨gl, 0, none⟩) L.l.n L.l.n)).setCell ⟨w.heap.size + 2, 9, none⟩ (.slice (some ⟨gh, 0, none⟩) L.h.n L.h.n)).setCell ⟨w.heap.size + 2, 10, none⟩ (.int .i64 d.lt)).setCell ⟨w.heap.size + 2, 11, none⟩ (.int .i64 d.la)) gr L.r.n d.r) := (Row.past (Row.past (Row.past (Row.past Qr5.out NEr _) NEr _) NEr _) NEr _)
  have NEl : gl ≠ w.heap.size + 2 := by have := BD0.out; have := BD1.out; have := BD2.out; have := BD3.out; have := BD4.out; have := BD5.out; omega
  have Yl5 : Hid (Row ((((w6.setCell ⟨w.heap.size + 2, 8, none⟩ (.slice (some ⟨gl, 0, none⟩) L.l.n L.l.n)).setCell ⟨w.heap.size + 2, 9, none⟩ (.slice (some ⟨gh, 0, none⟩) L.h.n L.h.n)).setCell ⟨w.heap.size + 2, 10, none⟩ (.int .i64 d.lt)).setCell ⟨w.heap.size + 2, 11, none⟩ (.int .i64 d.la)) gl L.l.n d.l) := (Row.past (Row.past (Row.past (Row.past Ql5.out NEl _) NEl _) NEl _) NEl _)
  have NEh : gh ≠ w.heap.size + 2 := by have := BD0.out; have := BD1.out; have := BD2.out; have := BD3.out; have := BD4.out; have := BD5.out; omega
  have Yh5 : Hid (Row ((((w6.setCell ⟨w.heap.size + 2, 8, none⟩ (.slice (some ⟨gl, 0, none⟩) L.l.n L.l.n)).setCell ⟨w.heap.size + 2, 9, none⟩ (.slice (some ⟨gh, 0, none⟩) L.h.n L.h.n)).setCell ⟨w.heap.size + 2, 10, none⟩ (.int .i64 d.lt)).setCell ⟨w.heap.size + 2, 11, none⟩ (.int .i64 d.la)) gh L.h.n d.h) := (Row.past (Row.past (Row.past (Row.past Qh5.out NEh _) NEh _) NEh _) NEh _)
  have z6 : w6s ≤ ((((w6.setCell ⟨w.heap.size + 2, 8, none⟩ (.slice (some ⟨gl, 0, none⟩) L.l.n L.l.n)).setCell ⟨w.heap.size + 2, 9, none⟩ (.slice (some ⟨gh, 0, none⟩) L.h.n L.h.n)).setCell ⟨w.heap.size + 2, 10, none⟩ (.int .i64 d.lt)).setCell ⟨w.heap.size + 2, 11, none⟩ (.int .i64 d.la)).heap.size := by have := BD5.out; simp; omega
  go_wp2_with fail
  refine (toMany_any L.y.a L.y.n L.y.c d.y L.z.a L.z.n L.z.c d.z d.yq d.yt _ (HI.out.y.kept X6.out.bel) (HI.out.z.kept X6.out.bel) s8 s9).mono ?_
  rintro e w7 ⟨gy, gz, rfl, Ry, Rz, ky, kz, ny, B6⟩
  have S7 := hid (X6.out.all B6)
  have Qt6 : Hid (TRow w7 gt L.t.n d.t) := Yt5.out.all B6
  have Qm6 : Hid (Row w7 gm L.m.n d.m) := Ym5.out.all B6
  have Qc6 : Hid (Row w7 gc L.c.n d.c) := Yc5.out.all B6
  have Qn6 : Hid (Row w7 gn L.n.n d.n) := Yn5.out.all B6
  have Qs6 : Hid (Row w7 gs L.s.n d.s) := Ys5.out.all B6
  have Qr6 : Hid (Row w7 gr L.r.n d.r) := Yr5.out.all B6
  have Ql6 : Hid (Row w7 gl L.l.n d.l) := Yl5.out.all B6
  have Qh6 : Hid (Row w7 gh L.h.n d.h) := Yh5.out.all B6
  have Qy6 : Hid (SRow w7 gy L.y.n d.y) := Ry
  have Qz6 : Hid (Row w7 gz L.z.n d.z) := Rz
  have loy : w6s ≤ gy := Nat.le_trans z6 ky
  have hiy : gy < w7.heap.size := Qy6.out.lt
  have loz : w6s ≤ gz := Nat.le_trans z6 kz
  have hiz : gz < w7.heap.size := Qz6.out.lt
  clear Ry ky Rz kz B6
  obtain ⟨w7s, q7⟩ : ∃ n, n = w7.heap.size := ⟨_, rfl⟩
  rw [← q7] at hiy
  rw [← q7] at hiz
  have BD6 : Hid (w6s ≤ gy ∧ w6s ≤ gz ∧ gy < w7s ∧ gz < w7s ∧ gy ≠ gz ∧ w7s = w7.heap.size) := ⟨loy, loz, hiy, hiz, ny, q7⟩
  clear loy hiy loz hiz ny q7
  obtain ⟨c0, c1, c2, c3, c4, c5, c6, c7, c8, c9, c10, c11, c12, c13, c14, c15, c16⟩ := S7.out.arg.shop
  obtain ⟨o0, o1, o2, o3, o4, o5, o6, o7, o8, o9, o10, o11, o12, o13, o14, o15, o16⟩ := S7.out.out.bx.shop
  have f0 := S7.out.out.fr 0
  have f1 := S7.out.out.fr 1
  have f2 := S7.out.out.fr 2
  have f3 := S7.out.out.fr 3
  have f4 := S7.out.out.fr 4
  have f5 := S7.out.out.fr 5
  have f6 := S7.out.out.fr 6
  have f7 := S7.out.out.fr 7
  have f8 := S7.out.out.fr 8
  have f9 := S7.out.out.fr 9
  have f10 := S7.out.out.fr 10
  have f11 := S7.out.out.fr 11
  have f12 := S7.out.out.fr 12
  have f13 := S7.out.out.fr 13
  have f14 := S7.out.out.fr 14
  have f15 := S7.out.out.fr 15
  have f16 := S7.out.out.fr 16
  have m0 := S7.out.out.lt
  have X7 : Hid (Cp w (((((w7.setCell ⟨w.heap.size + 2, 12, none⟩ (.slice (some ⟨gy, 0, none⟩) L.y.n L.y.n)).setCell ⟨w.heap.size + 2, 13, none⟩ (.slice (some ⟨gz, 0, none⟩) L.z.n L.z.n)).setCell ⟨w.heap.size + 2, 14, none⟩ (.int .i64 d.yq)).setCell ⟨w.heap.size + 2, 15, none⟩ (.int .i64 d.yt)).setCell ⟨w.heap.size + 2, 16, none⟩ (.int .i64 d.w)) L d _ _) := (((((S7.out.set 12 _ (S7.out.out.set_y ⟨some ⟨gy, 0, none⟩, L.y.n, L.y.n⟩)).set 13 _ ((S7.out.out.set_y ⟨some ⟨gy, 0, none⟩, L.y.n, L.y.n⟩).set_z ⟨some ⟨gz, 0, none⟩, L.z.n, L.z.n⟩)).set 14 _ (((S7.out.out.set_y ⟨some ⟨gy, 0, none⟩, L.y.n, L.y.n⟩).set_z ⟨some ⟨gz, 0, none⟩, L.z.n, L.z.n⟩).set_yq d.yq)).set 15 _ ((((S7.out.out.set_y ⟨some ⟨gy, 0, none⟩, L.y.n, L.y.n⟩).set_z ⟨some ⟨gz, 0, none⟩, L.z.n, L.z.n⟩).set_yq d.yq).set_yt d.yt)).set 16 _ (((((S7.out.out.set_y ⟨some ⟨gy, 0, none⟩, L.y.n, L.y.n⟩).set_z ⟨some ⟨gz, 0, none⟩, L.z.n, L.z.n⟩).set_yq d.yq).set_yt d.yt).set_w d.w))
  have Yt6 : Hid (TRow (((((w7.setCell ⟨w.heap.size + 2, 12, none⟩ (.slice (some ⟨gy, 0, none⟩) L.y.n L.y.n)).setCell ⟨w.heap.size + 2, 13, none⟩ (.slice (some ⟨gz, 0, none⟩) L.z.n L.z.n)).setCell ⟨w.heap.size + 2, 14, none⟩ (.int .i64 d.yq)).setCell ⟨w.heap.size + 2, 15, none⟩ (.int .i64 d.yt)).setCell ⟨w.heap.size + 2, 16, none⟩ (.int .i64 d.w)) gt L.t.n d.t) := (Rec.row.past (Rec.row.past (Rec.row.past (Rec.row.past (Rec.row.past Qt6.out NEt _) NEt _) NEt _) NEt _) NEt _)
  have Ym6 : Hid (Row (((((w7.setCell ⟨w.heap.size + 2, 12, none⟩ (.slice (some ⟨gy, 0, none⟩) L.y.n L.y.n)).setCell ⟨w.heap.size + 2, 13, none⟩ (.slice (some ⟨gz, 0, none⟩) L.z.n L.z.n)).setCell ⟨w.heap.size + 2, 14, none⟩ (.int .i64 d.yq)).setCell ⟨w.heap.size + 2, 15, none⟩ (.int .i64 d.yt)).setCell ⟨w.heap.size + 2, 16, none⟩ (.int .i64 d.w)) gm L.m.n d.m) := (Row.past (Row.past (Row.past (Row.past (Row.past Qm6.out NEm _) NEm _) NEm _) NEm _) NEm _)
  have Yc6 : Hid (Row (((((w7.setCell ⟨w.heap.size + 2, 12, none⟩ (.slice (some ⟨gy, 0, none⟩) L.y.n L.y.n)).setCell ⟨w.heap.size + 2, 13, none⟩ (.slice (some ⟨gz, 0, none⟩) L.z.n L.z.n)).setCell ⟨w.heap.size + 2, 14, none⟩ (.int .i64 d.yq)).setCell ⟨w.heap.size + 2, 15, none⟩ (.int .i64 d.yt)).setCell ⟨w.heap.size + 2, 16, none⟩ (.int .i64 d.w)) gc L.c.n d.c) := (Row.past (Row.past (Row.past (Row.past (Row.past Qc6.out NEc _) NEc _) NEc _) NEc _) NEc _)
  have Yn6 : Hid (Row (((((w7.setCell ⟨w.heap.size + 2, 12, none⟩ (.slice (some ⟨gy, 0, none⟩) L.y.n L.y.n)).setCell ⟨w.heap.size + 2, 13, none⟩ (.slice (some ⟨gz, 0, none⟩) L.z.n L.z.n)).setCell ⟨w.heap.size + 2, 14, none⟩ (.int .i64 d.yq)).setCell ⟨w.heap.size + 2, 15, none⟩ (.int .i64 d.yt)).setCell ⟨w.heap.size + 2, 16, none⟩ (.int .i64 d.w)) gn L.n.n d.n) := (Row.past (Row.past (Row.past (Row.past (Row.past Qn6.out NEn _) NEn _) NEn _) NEn _) NEn _)
  have Ys6 : Hid (Row (((((w7.setCell ⟨w.heap.size + 2, 12, none⟩ (.slice (some ⟨gy, 0, none⟩) L.y.n L.y.n)).setCell ⟨w.heap.size + 2, 13, none⟩ (.slice (some ⟨gz, 0, none⟩) L.z.n L.z.n)).setCell ⟨w.heap.size + 2, 14, none⟩ (.int .i64 d.yq)).setCell ⟨w.heap.size + 2, 15, none⟩ (.int .i64 d.yt)).setCell ⟨w.heap.size + 2, 16, none⟩ (.int .i64 d.w)) gs L.s.n d.s) := (Row.past (Row.past (Row.past (Row.past (Row.past Qs6.out NEs _) NEs _) NEs _) NEs _) NEs _)
  have Yr6 : Hid (Row (((((w7.setCell ⟨w.heap.size + 2, 12, none⟩ (.slice (some ⟨gy, 0, none⟩) L.y.n L.y.n)).setCell ⟨w.heap.size + 2, 13, none⟩ (.slice (some ⟨gz, 0, none⟩) L.z.n L.z.n)).setCell ⟨w.heap.size + 2, 14, none⟩ (.int .i64 d.yq)).setCell ⟨w.heap.size + 2, 15, none⟩ (.int .i64 d.yt)).setCell ⟨w.heap.size + 2, 16, none⟩ (.int .i64 d.w)) gr L.r.n d.r) := (Row.past (Row.past (Row.past (Row.past (Row.past Qr6.out NEr _) NEr _) NEr _) NEr _) NEr _)
  have Yl6 : Hid (Row (((((w7.setCell ⟨w.heap.size + 2, 12, none⟩ (.slice (some ⟨gy, 0, none⟩) L.y.n L.y.n)).setCell ⟨w.heap.size + 2, 13, none⟩ (.slice (some ⟨gz, 0, none⟩) L.z.n L.z.n)).setCell ⟨w.heap.size + 2, 14, none⟩ (.int .i64 d.yq)).setCell ⟨w.heap.size + 2, 15, none⟩ (.int .i64 d.yt)).setCell ⟨w.heap.size + 2, 16, none⟩ (.int .i64 d.w)) gl L.l.n d.l) := (Row.past (Row.past (Row.past (Row.past (Row.past Ql6.out NEl _) NEl _) NEl _) NEl _) NEl _)
  have Yh6 : Hid (Row (((((w7.setCell ⟨w.heap.size + 2, 12, none⟩ (.slice (some ⟨gy, 0, none⟩) L.y.n L.y.n)).setCell ⟨w.heap.size + 2, 13, none⟩ (.slice (some ⟨gz, 0, none⟩) L.z.n L.z.n)).setCell ⟨w.heap.size + 2, 14, none⟩ (.int .i64 d.yq)).setCell ⟨w.heap.size + 2, 15, none⟩ (.int .i64 d.yt)).setCell ⟨w.heap.size + 2, 16, none⟩ (.int .i64 d.w)) gh L.h.n d.h) := (Row.past (Row.past (Row.past (Row.past (Row.past Qh6.out NEh _) NEh _) NEh _) NEh _) NEh _)
  have NEy : gy ≠ w.heap.size + 2 := by have := BD0.out; have := BD1.out; have := BD2.out; have := BD3.out; have := BD4.out; have := BD5.out; have := BD6.out; omega
  have Yy6 : Hid (SRow (((((w7.setCell ⟨w.heap.size + 2, 12, none⟩ (.slice (some ⟨gy, 0, none⟩) L.y.n L.y.n)).setCell ⟨w.heap.size + 2, 13, none⟩ (.slice (some ⟨gz, 0, none⟩) L.z.n L.z.n)).setCell ⟨w.heap.size + 2, 14, none⟩ (.int .i64 d.yq)).setCell ⟨w.heap.size + 2, 15, none⟩ (.int .i64 d.yt)).setCell ⟨w.heap.size + 2, 16, none⟩ (.int .i64 d.w)) gy L.y.n d.y) := (SRow.past (SRow.past (SRow.past (SRow.past (SRow.past Qy6.out NEy _) NEy _) NEy _) NEy _) NEy _)
  have NEz : gz ≠ w.heap.size + 2 := by have := BD0.out; have := BD1.out; have := BD2.out; have := BD3.out; have := BD4.out; have := BD5.out; have := BD6.out; omega
  have Yz6 : Hid (Row (((((w7.setCell ⟨w.heap.size + 2, 12, none⟩ (.slice (some ⟨gy, 0, none⟩) L.y.n L.y.n)).setCell ⟨w.heap.size + 2, 13, none⟩ (.slice (some ⟨gz, 0, none⟩) L.z.n L.z.n)).setCell ⟨w.heap.size + 2, 14, none⟩ (.int .i64 d.yq)).setCell ⟨w.heap.size + 2, 15, none⟩ (.int .i64 d.yt)).setCell ⟨w.heap.size + 2, 16, none⟩ (.int .i64 d.w)) gz L.z.n d.z) := (Row.past (Row.past (Row.past (Row.past (Row.past Qz6.out NEz _) NEz _) NEz _) NEz _) NEz _)
  have z7 : w7s ≤ (((((w7.setCell ⟨w.heap.size + 2, 12, none⟩ (.slice (some ⟨gy, 0, none⟩) L.y.n L.y.n)).setCell ⟨w.heap.size + 2, 13, none⟩ (.slice (some ⟨gz, 0, none⟩) L.z.n L.z.n)).setCell ⟨w.heap.size + 2, 14, none⟩ (.int .i64 d.yq)).setCell ⟨w.heap.size + 2, 15, none⟩ (.int .i64 d.yt)).setCell ⟨w.heap.size + 2, 16, none⟩ (.int .i64 d.w)).heap.size := by have := BD6.out; simp; omega
  go_upto_region 12 with fail
  clear c0 c1 c2 c3 c4 c5 c6 c7 c8 c9 c10 c11 c12 c13 c14 c15 c16 o0 o1 o2 o3 o4 o5 o6 o7 o8 o9 o10 o11 o12 o13 o14 o15 o16 f0 f1 f2 f3 f4 f5 f6 f7 f8 f9 f10 f11 f12 f13 f14 f15 f16 m0
  have XX : Hid (Cp w (((((w7.setCell ⟨w.heap.size + 2, 12, none⟩ (.slice (some ⟨gy, 0, none⟩) L.y.n L.y.n)).setCell ⟨w.heap.size + 2, 13, none⟩ (.slice (some ⟨gz, 0, none⟩) L.z.n L.z.n)).setCell ⟨w.heap.size + 2, 14, none⟩ (.int .i64 d.yq)).setCell ⟨w.heap.size + 2, 15, none⟩ (.int .i64 d.yt)).setCell ⟨w.heap.size + 2, 16, none⟩ (.int .i64 d.w)) L d ⟨⟨some ⟨gt, 0, none⟩, L.t.n, L.t.n⟩, ⟨some ⟨gm, 0, none⟩, L.m.n, L.m.n⟩, ⟨some ⟨gc, 0, none⟩, L.c.n, L.c.n⟩, ⟨some ⟨gn, 0, none⟩, L.n.n, L.n.n⟩, ⟨some ⟨gs, 0, none⟩, L.s.n, L.s.n⟩, ⟨some ⟨gr, 0, none⟩, L.r.n, L.r.n⟩, ⟨some ⟨gl, 0, none⟩, L.l.n, L.l.n⟩, ⟨some ⟨gh, 0, none⟩, L.h.n, L.h.n⟩, ⟨some ⟨gy, 0, none⟩, L.y.n, L.y.n⟩, ⟨some ⟨gz, 0, none⟩, L.z.n, L.z.n⟩⟩ d) := X7.out
  generalize (((((w7.setCell ⟨w.heap.size + 2, 12, none⟩ (.slice (some ⟨gy, 0, none⟩) L.y.n L.y.n)).setCell ⟨w.heap.size + 2, 13, none⟩ (.slice (some ⟨gz, 0, none⟩) L.z.n L.z.n)).setCell ⟨w.heap.size + 2, 14, none⟩ (.int .i64 d.yq)).setCell ⟨w.heap.size + 2, 15, none⟩ (.int .i64 d.yt)).setCell ⟨w.heap.size + 2, 16, none⟩ (.int .i64 d.w)) = wx at XX Yt6 Ym6 Yc6 Yn6 Ys6 Yr6 Yl6 Yh6 Yy6 Yz6 z7 ⊢
  obtain ⟨M, hM⟩ : ∃ M : LT, M = ⟨⟨some ⟨gt, 0, none⟩, L.t.n, L.t.n⟩, ⟨some ⟨gm, 0, none⟩, L.m.n, L.m.n⟩, ⟨some ⟨gc, 0, none⟩, L.c.n, L.c.n⟩, ⟨some ⟨gn, 0, none⟩, L.n.n, L.n.n⟩, ⟨some ⟨gs, 0, none⟩, L.s.n, L.s.n⟩, ⟨some ⟨gr, 0, none⟩, L.r.n, L.r.n⟩, ⟨some ⟨gl, 0, none⟩, L.l.n, L.l.n⟩, ⟨some ⟨gh, 0, none⟩, L.h.n, L.h.n⟩, ⟨some ⟨gy, 0, none⟩, L.y.n, L.y.n⟩, ⟨some ⟨gz, 0, none⟩, L.z.n, L.z.n⟩⟩ := ⟨_, rfl⟩
  rw [← hM] at XX
  refine wp_region_lit ?_
  refine wpList_load_mid rfl 36 (.tmp 3) rfl (w.heap.size + 2) 0 rfl (sc M d).toList _ XX.out.out.range Tryz.underlying36 rfl (size_shop M d) ?_
  refine wpList_store_mid rfl 36 (.tmp 2) (.tmp 41) rfl (w.heap.size + 1) 0 (sc M d) rfl rfl XX.out.ans.there (size_shop' M d) (one_shop M d) ?_
  refine wpList_nil ?_
  have GG : Hid (wx.grownBy (wx.setCells (w.heap.size + 1) 0 (sc M d).toList) (some (w.heap.size + 1))) := grown17 _ _ _ _
  have AA : Hid (Shp (wx.setCells (w.heap.size + 1) 0 (sc M d).toList) (w.heap.size + 1) M d) := XX.out.ans.all17 M d
  have BB : Hid (Below w.heap.size w (wx.setCells (w.heap.size + 1) 0 (sc M d).toList)) := XX.out.bel.grown GG.out XX.out.bel.size (fun j hj => by cases hj; omega)
  generalize wx.setCells (w.heap.size + 1) 0 (sc M d).toList = wz at GG AA BB ⊢
  go_wp2_with fail
  have v0 := BD0.out
  have v1 := BD1.out
  have v2 := BD2.out
  have v3 := BD3.out
  have v4 := BD4.out
  have v5 := BD5.out
  have v6 := BD6.out
  refine bodyPost_ret (ret_shop rfl rfl AA.out) rfl ⟨M, rfl, ?_, ?_, ?_, BB.out⟩
  all_goals subst hM
  · exact ⟨Rec.row.fit (Rec.row.other Yt6.out GG.out (by simp; omega)) (Nat.zero_le _) HI.out.t.1, Row.fit (Row.other Ym6.out GG.out (by simp; omega)) (Nat.zero_le _) HI.out.m.1, Row.fit (Row.other Yc6.out GG.out (by simp; omega)) (Nat.zero_le _) HI.out.c.1, Row.fit (Row.other Yn6.out GG.out (by simp; omega)) (Nat.zero_le _) HI.out.n.1, Row.fit (Row.other Ys6.out GG.out (by simp; omega)) (Nat.zero_le _) HI.out.s.1, Row.fit (Row.other Yr6.out GG.out (by simp; omega)) (Nat.zero_le _) HI.out.r.1, Row.fit (Row.other Yl6.out GG.out (by simp; omega)) (Nat.zero_le _) HI.out.l.1, Row.fit (Row.other Yh6.out GG.out (by simp; omega)) (Nat.zero_le _) HI.out.h.1, SRow.fit (SRow.other Yy6.out GG.out (by simp; omega)) (Nat.zero_le _) HI.out.y.1, Row.fit (Row.other Yz6.out GG.out (by simp; omega)) (Nat.zero_le _) HI.out.z.1⟩
  · have key : ∀ a b : Nat, a ≠ b → Apart (some ⟨a, 0, none⟩) (some ⟨b, 0, none⟩) := fun a b hab x y hx hy => by cases hx; cases hy; exact hab
    intro i j hi hj hne
    rcases i with _ | _ | _ | _ | _ | _ | _ | _ | _ | _ | i <;> rcases j with _ | _ | _ | _ | _ | _ | _ | _ | _ | _ | j <;> first | omega | exact key _ _ (by omega)
  · rintro j ⟨i, hi, hj⟩
    rcases i with _ | _ | _ | _ | _ | _ | _ | _ | _ | _ | i
    · have e : gt = j := Option.some.inj hj
      omega
    · have e : gm = j := Option.some.inj hj
      omega
    · have e : gc = j := Option.some.inj hj
      omega
    · have e : gn = j := Option.some.inj hj
      omega
    · have e : gs = j := Option.some.inj hj
      omega
    · have e : gr = j := Option.some.inj hj
      omega
    · have e : gl = j := Option.some.inj hj
      omega
    · have e : gh = j := Option.some.inj hj
      omega
    · have e : gy = j := Option.some.inj hj
      omega
    · have e : gz = j := Option.some.inj hj
      omega
    · omega

end Go.Proofs.YtcmeimfjedakeaaGreat.Crew
