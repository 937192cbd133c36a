/-
  Drawing a share and a turn: spec.l4Draw, l4DrawAny, l4DrawTurn, DrawReadyAt, DrawDueAt. Besides blocks of the call's own the cursor's block alone is written.
-/
import Derived.Test.YtidmpcnjhpnlcaaDrawBase
import Derived.Test.YtidmpcnjhpnlcaaWinBase
import Derived.Deep.RegionWith
namespace Go.Proofs.Ytidmpcnjhpnlcaa.Draw
open Go.ChangeShapes Go.WideShapes Go.ChangeAt Go.RowKit
open Go.Proofs.Ytidmpcnjhpnlcaa.Win

/-- A Share in block b. -/
def Sh (w : World) (b : Nat) (n d : Int) : Prop := w.heap[b]? = some (.cells #[.int .i64 n, .int .i64 d] 36 (0, 0))

theorem Sh.c0 {w : World} {b : Nat} {n d : Int} (h : Sh w b n d) : w.cell? ⟨b, 0, none⟩ = some (.int .i64 n) := cell_blk h 0
theorem Sh.c1 {w : World} {b : Nat} {n d : Int} (h : Sh w b n d) : w.cell? ⟨b, 1, none⟩ = some (.int .i64 d) := cell_blk h 1
theorem Sh.fr {w : World} {b : Nat} {n d : Int} (h : Sh w b n d) (j : Nat) : w.frozen? ⟨b, j, none⟩ = false := frozen_of_row w b j _ _ h
theorem Sh.lt {w : World} {b : Nat} {n d : Int} (h : Sh w b n d) : b < w.heap.size := (Array.getElem?_eq_some_iff.1 h).1

theorem sh_new (w : World) (n d : Int) : Sh (w.alloc (.cells #[.int .i64 n, .int .i64 d] 36)) w.heap.size n d := heap_alloc_new w _

theorem Sh.other {w w' : World} {b : Nat} {n d : Int} {row : Option Nat} (h : Sh w b n d) (g : w.grownBy w' row) (hb : some b ≠ row) : Sh w' b n d := by
  unfold Sh
  rw [g.block b h.lt hb]
  exact h

theorem Sh.alloc {w : World} {b : Nat} {n d : Int} (h : Sh w b n d) (o : Obj) : Sh (w.alloc o) b n d := h.other (World.grownBy_alloc w o none) (by simp)

theorem Sh.left {k : IntKind} {T : TypeId} {p : Nat} {a : Option Addr} {len cap : Nat} {w w' : World} {b : Nat} {n d : Int} (h : Sh w b n d) (L : Left k T p a len cap w w') (hb : b ≠ p) : Sh w' b n d := h.other L.1 (by simpa using hb)

theorem Sh.set0 {w : World} {b : Nat} {n d : Int} (h : Sh w b n d) (v : Int) : Sh (w.setCell ⟨b, 0, none⟩ (.int .i64 v)) b v d := heap_setCell_same w b 0 _ _ _ h
theorem Sh.set1 {w : World} {b : Nat} {n d : Int} (h : Sh w b n d) (v : Int) : Sh (w.setCell ⟨b, 1, none⟩ (.int .i64 v)) b n v := heap_setCell_same w b 1 _ _ _ h
theorem Sh.past {w : World} {b b' j : Nat} {n d : Int} (h : Sh w b n d) (hb : b ≠ b') (v : Value) : Sh (w.setCell ⟨b', j, none⟩ v) b n d := h.other (grown_setCell w b' j v) (by simpa using hb)

theorem left_set {k : IntKind} {T : TypeId} {p : Nat} {a : Option Addr} {len cap : Nat} {w w1 : World} {b : Nat} (L : Left k T p a len cap w w1) (hb : w.heap.size ≤ b) (hp : p < w.heap.size) (j : Nat) (v : Value) : Left k T p a len cap w (w1.setCell ⟨b, j, none⟩ v) :=
  left_own L (grown_setCell w1 b j v) (fun i hi => by cases hi; exact hb) hp

theorem left_new {k : IntKind} {T : TypeId} {p : Nat} {a : Option Addr} {len cap : Nat} {w w1 : World} (L : Left k T p a len cap w w1) (hp : p < w.heap.size) (o : Obj) : Left k T p a len cap w (w1.alloc o) :=
  left_own L (World.grownBy_alloc w1 o none) (by simp) hp

theorem info_share : (Try.prog.info? 36).map (·.size) = some 2 := by kernel_rfl

theorem ret_share {fn : Func} {q : Tmp} (h : fn.results = #[.cell q 36]) {tmps : Array Value} {w : World} {g : Nat} {n d : Int} (hp : tmps.getD q undef = .pointer (some ⟨g, 0, none⟩)) (S : Sh w g n d) : (results fn tmps).run Try.prog w = .ok (sh n d) w :=
  results_cell_row h tmps w g _ _ _ _ hp S Try.underlying36 rfl info_share

theorem ret_share2 {fn : Func} {q u : Tmp} (h : fn.results = #[.cell q 36, .tmp u]) {tmps : Array Value} {w : World} {g : Nat} {n d : Int} {v : Value} (hp : tmps.getD q undef = .pointer (some ⟨g, 0, none⟩)) (hv : tmps.getD u undef = v) (S : Sh w g n d) : (results fn tmps).run Try.prog w = .ok (.tuple #[sh n d, v]) w := by
  rw [results_cell_tmp h, hp, hv]
  simp [asAddr, run_loadVar_row w g _ 36 _ _ _ S Try.underlying36 rfl info_share]

theorem cur_drew {k : IntKind} {T : TypeId} {p : Nat} {a : Option Addr} {len cap : Nat} {w : World} (C : Cur k T p a len cap w) : Cur k T p a len cap w.drew :=
  C.other (grown_drewN (World.grownBy.refl w none) 1) (by simp) (by simp)

theorem left_drew {k : IntKind} {T : TypeId} {p : Nat} {a : Option Addr} {len cap : Nat} {w w1 : World} (L : Left k T p a len cap w w1) : Left k T p a len cap w w1.drew :=
  ⟨grown_drewN L.1 1, L.2⟩

theorem draw_share (T : TypeId) (p : Nat) (a : Option Addr) (len cap : Nat) (w : World) (C : Cur .i64 T p a len cap w) :
    Calls Try.prog 63 #[.pointer (some ⟨p, 0, none⟩)] w fun e w' => ∃ n d : Int, e = .returned (sh n d) ∧ Left .i64 T p a len cap w w' := by
  have hp := C.lt
  have HC : Hid (Cur .i64 T p a len cap w) := C
  have L0 : Left .i64 T p a len cap w (w.alloc (.cells #[.int .i64 0, .int .i64 0] 36)) := left_new (Left.refl C) hp _
  have R0 : Sh (w.alloc (.cells #[.int .i64 0, .int .i64 0] 36)) w.heap.size 0 0 := sh_new w 0 0
  clear C
  go_enter Try.func63, Try.ntmps63
  go_wp2_with fail
  refine (below_any T p a len cap _ _ (L0.cur HC.out)).mono ?_
  rintro e w1 ⟨x, rfl, x0, x1, _, L1⟩
  have hx := x1 (by omega)
  have L1' := L0.trans L1
  have R1 : Sh w1 w.heap.size 0 0 := R0.left L1 (by omega)
  clear x1 L1 R0 L0
  have H1 : Hid (Left .i64 T p a len cap w w1 ∧ Sh w1 w.heap.size 0 0) := ⟨L1', R1⟩
  clear L1' R1
  go_wp2_with fail
  refine (below_any T p a len cap _ _ (H1.out.1.cur HC.out)).mono ?_
  rintro e w2 ⟨y, rfl, y0, y1, _, L2⟩
  have hy := y1 (by omega)
  have H2 : Hid (Left .i64 T p a len cap w w2 ∧ Sh w2 w.heap.size 0 0) := ⟨H1.out.1.trans L2, H1.out.2.left L2 (by omega)⟩
  clear y1 L2 H1
  go_wp2_with fail
  have hs : w.heap.size < w2.heap.size := H2.out.2.lt
  have H3 : Hid (Left .i64 T p a len cap w (w2.alloc (.cells #[.int .i64 (1 + y), .int .i64 (1 + x)] 36)) ∧ Sh (w2.alloc (.cells #[.int .i64 (1 + y), .int .i64 (1 + x)] 36)) w.heap.size 0 0 ∧ Sh (w2.alloc (.cells #[.int .i64 (1 + y), .int .i64 (1 + x)] 36)) w2.heap.size (1 + y) (1 + x)) := ⟨left_new H2.out.1 hp _, H2.out.2.alloc _, sh_new _ _ _⟩
  refine (once_any T p a len cap _ _ (H3.out.1.cur HC.out)).mono ?_
  rintro e w3 ⟨t, rfl, L3⟩
  have H4 : Hid (Left .i64 T p a len cap w w3 ∧ Sh w3 w.heap.size 0 0 ∧ Sh w3 w2.heap.size (1 + y) (1 + x)) := ⟨H3.out.1.trans L3, H3.out.2.1.left L3 (by omega), H3.out.2.2.left L3 (by omega)⟩
  clear L3 H3 H2
  generalize w2.heap.size = s at *
  have n1 : ¬ s = w.heap.size := by omega
  have n2 : ¬ w.heap.size = s := by omega
  cases t
  · have r0 := H4.out.2.1.c0
    have r1 := H4.out.2.1.c1
    have f0 := H4.out.2.1.fr 0
    have f1 := H4.out.2.1.fr 1
    have s0 := H4.out.2.2.c0
    have s1 := H4.out.2.2.c1
    go_wp2_with fail
    exact bodyPost_ret (ret_share rfl rfl ((H4.out.2.1.set0 _).set1 _)) rfl ⟨_, _, rfl, left_set (left_set H4.out.1 (Nat.le_refl _) hp _ _) (Nat.le_refl _) hp _ _⟩
  · go_wp2_with fail
    refine (below_any T p a len cap _ _ (H4.out.1.cur HC.out)).mono ?_
    rintro e w4 ⟨z, rfl, z0, z1, _, L4⟩
    have hz := z1 (by omega)
    have H5 : Hid (Left .i64 T p a len cap w w4 ∧ Sh w4 w.heap.size 0 0 ∧ Sh w4 s (1 + y) (1 + x)) := ⟨H4.out.1.trans L4, H4.out.2.1.left L4 (by omega), H4.out.2.2.left L4 (by omega)⟩
    clear z1 L4 H4
    have s1 := H5.out.2.2.c1
    have f1 := H5.out.2.2.fr 1
    go_wp2_with fail
    clear s1 f1
    have H6 : Hid (Left .i64 T p a len cap w (w4.setCell ⟨s, 1, none⟩ (.int .i64 (100000000 - z))) ∧ Sh (w4.setCell ⟨s, 1, none⟩ (.int .i64 (100000000 - z))) w.heap.size 0 0 ∧ Sh (w4.setCell ⟨s, 1, none⟩ (.int .i64 (100000000 - z))) s (1 + y) (100000000 - z)) :=
      ⟨left_set H5.out.1 (by omega) hp _ _, H5.out.2.1.past (by omega) _, H5.out.2.2.set1 _⟩
    clear H5
    generalize w4.setCell ⟨s, 1, none⟩ (.int .i64 (100000000 - z)) = w6 at *
    have DC : Hid (Cur .i64 T p a len cap w6.drew) := cur_drew (H6.out.1.cur HC.out)
    have d1 := H6.out.2.2.c1
    go_region_with (go_at_call 31; refine (below_any T p a len cap _ _ DC.out).mono ?_; rintro e w7 ⟨q, rfl, q0, q1, _, L7⟩; have hq := q1 (by omega); have H7 : Hid (Left .i64 T p a len cap w w7 ∧ Sh w7 w.heap.size 0 0 ∧ Sh w7 s (1 + y) (100000000 - z)) := ⟨(left_drew H6.out.1).trans L7, Sh.left (w := w6.drew) H6.out.2.1 L7 (by omega), Sh.left (w := w6.drew) H6.out.2.2 L7 (by omega)⟩; have e0 := H7.out.2.2.c0; have e1 := H7.out.2.2.c1; have g0 := H7.out.2.2.fr 0; clear L7 q1)
    all_goals
      generalize IntKind.i64.wrap (100000000 - z - q) = u at *
      have H8 : Hid (Left .i64 T p a len cap w (w7.setCell ⟨s, 0, none⟩ (.int .i64 u)) ∧ Sh (w7.setCell ⟨s, 0, none⟩ (.int .i64 u)) w.heap.size 0 0 ∧ Sh (w7.setCell ⟨s, 0, none⟩ (.int .i64 u)) s u (100000000 - z)) :=
        ⟨left_set H7.out.1 (by omega) hp _ _, H7.out.2.1.past (by omega) _, H7.out.2.2.set0 _⟩
      clear e0 e1 g0 d1 H7 H6 DC
      generalize w7.setCell ⟨s, 0, none⟩ (.int .i64 u) = w8 at *
      have r0 := H8.out.2.1.c0
      have r1 := H8.out.2.1.c1
      have f0 := H8.out.2.1.fr 0
      have f1 := H8.out.2.1.fr 1
      have s0 := H8.out.2.2.c0
      have s1 := H8.out.2.2.c1
      go_wp2_with fail
      exact bodyPost_ret (ret_share rfl rfl ((H8.out.2.1.set0 _).set1 _)) rfl ⟨_, _, rfl, left_set (left_set H8.out.1 (Nat.le_refl _) hp _ _) (Nat.le_refl _) hp _ _⟩

theorem draw_any_share (T : TypeId) (p : Nat) (a : Option Addr) (len cap : Nat) (w : World) (C : Cur .i64 T p a len cap w) :
    Calls Try.prog 59 #[.pointer (some ⟨p, 0, none⟩)] w fun e w' => ∃ n d : Int, e = .returned (sh n d) ∧ Left .i64 T p a len cap w w' := by
  have hp := C.lt
  have HC : Hid (Cur .i64 T p a len cap w) := C
  have H0 : Hid (Left .i64 T p a len cap w (w.alloc (.cells #[.int .i64 0, .int .i64 0] 36)) ∧ Sh (w.alloc (.cells #[.int .i64 0, .int .i64 0] 36)) w.heap.size 0 0) := ⟨left_new (Left.refl C) hp _, sh_new w 0 0⟩
  clear C
  go_enter Try.func59, Try.ntmps59
  go_wp2_with fail
  refine (draw_share T p a len cap _ (H0.out.1.cur HC.out)).mono ?_
  rintro e w1 ⟨n, d, rfl, L1⟩
  have H1 : Hid (Left .i64 T p a len cap w w1 ∧ Sh w1 w.heap.size 0 0) := ⟨H0.out.1.trans L1, H0.out.2.left L1 (by omega)⟩
  have hs : w.heap.size < w1.heap.size := H1.out.2.lt
  clear L1 H0
  go_wp2_with fail
  have H2 : Hid (Left .i64 T p a len cap w (w1.alloc (.cells #[.int .i64 n, .int .i64 d] 36)) ∧ Sh (w1.alloc (.cells #[.int .i64 n, .int .i64 d] 36)) w.heap.size 0 0 ∧ Sh (w1.alloc (.cells #[.int .i64 n, .int .i64 d] 36)) w1.heap.size n d) := ⟨left_new H1.out.1 hp _, H1.out.2.alloc _, sh_new _ _ _⟩
  refine (once_any T p a len cap _ _ (H2.out.1.cur HC.out)).mono ?_
  rintro e w3 ⟨t, rfl, L3⟩
  have H3 : Hid (Left .i64 T p a len cap w w3 ∧ Sh w3 w.heap.size 0 0 ∧ Sh w3 w1.heap.size n d) := ⟨H2.out.1.trans L3, H2.out.2.1.left L3 (by omega), H2.out.2.2.left L3 (by omega)⟩
  clear L3 H2 H1
  generalize w1.heap.size = s at *
  have n1 : ¬ s = w.heap.size := by omega
  have n2 : ¬ w.heap.size = s := by omega
  cases t
  · have r0 := H3.out.2.1.c0
    have r1 := H3.out.2.1.c1
    have f0 := H3.out.2.1.fr 0
    have f1 := H3.out.2.1.fr 1
    have s0 := H3.out.2.2.c0
    have s1 := H3.out.2.2.c1
    go_wp2_with fail
    exact bodyPost_ret (ret_share rfl rfl ((H3.out.2.1.set0 _).set1 _)) rfl ⟨_, _, rfl, left_set (left_set H3.out.1 (Nat.le_refl _) hp _ _) (Nat.le_refl _) hp _ _⟩
  · go_wp2_with fail
    refine (once_any T p a len cap _ _ (H3.out.1.cur HC.out)).mono ?_
    rintro e w4 ⟨t, rfl, L4⟩
    have H4 : Hid (Left .i64 T p a len cap w w4 ∧ Sh w4 w.heap.size 0 0 ∧ Sh w4 s n d) := ⟨H3.out.1.trans L4, H3.out.2.1.left L4 (by omega), H3.out.2.2.left L4 (by omega)⟩
    clear L4 H3
    cases t
    · go_wp2_with fail
      refine (num_any T p a len cap _ _ (H4.out.1.cur HC.out)).mono ?_
      rintro e w5 ⟨v, rfl, L5⟩
      have H5 : Hid (Left .i64 T p a len cap w w5 ∧ Sh w5 w.heap.size 0 0 ∧ Sh w5 s n d) := ⟨H4.out.1.trans L5, H4.out.2.1.left L5 (by omega), H4.out.2.2.left L5 (by omega)⟩
      clear L5 H4
      have s1 := H5.out.2.2.c1
      have f1 := H5.out.2.2.fr 1
      have q0 := ((H5.out.2.2.set1 v).c0)
      have q1 := ((H5.out.2.2.set1 v).c1)
      have o0 := (H5.out.2.1.past (b' := s) (j := 1) (by omega) (.int .i64 v)).c0
      have o1 := (H5.out.2.1.past (b' := s) (j := 1) (by omega) (.int .i64 v)).c1
      have g0 := (H5.out.2.1.past (b' := s) (j := 1) (by omega) (.int .i64 v)).fr 0
      have g1 := (H5.out.2.1.past (b' := s) (j := 1) (by omega) (.int .i64 v)).fr 1
      go_wp2_with fail
      exact bodyPost_ret (ret_share rfl rfl (((H5.out.2.1.past (by omega) _).set0 _).set1 _)) rfl ⟨_, _, rfl, left_set (left_set (left_set H5.out.1 (by omega) hp _ _) (Nat.le_refl _) hp _ _) (Nat.le_refl _) hp _ _⟩
    · have s1 := H4.out.2.2.c1
      go_wp2_with fail
      refine (num_any T p a len cap _ _ (H4.out.1.cur HC.out)).mono ?_
      rintro e w5 ⟨v, rfl, L5⟩
      have H5 : Hid (Left .i64 T p a len cap w w5 ∧ Sh w5 w.heap.size 0 0 ∧ Sh w5 s n d) := ⟨H4.out.1.trans L5, H4.out.2.1.left L5 (by omega), H4.out.2.2.left L5 (by omega)⟩
      clear L5 H4 s1
      have s0 := H5.out.2.2.c0
      have f0 := H5.out.2.2.fr 0
      have q0 := ((H5.out.2.2.set0 v).c0)
      have q1 := ((H5.out.2.2.set0 v).c1)
      have o0 := (H5.out.2.1.past (b' := s) (j := 0) (by omega) (.int .i64 v)).c0
      have o1 := (H5.out.2.1.past (b' := s) (j := 0) (by omega) (.int .i64 v)).c1
      have g0 := (H5.out.2.1.past (b' := s) (j := 0) (by omega) (.int .i64 v)).fr 0
      have g1 := (H5.out.2.1.past (b' := s) (j := 0) (by omega) (.int .i64 v)).fr 1
      go_wp2_with fail
      exact bodyPost_ret (ret_share rfl rfl (((H5.out.2.1.past (by omega) _).set0 _).set1 _)) rfl ⟨_, _, rfl, left_set (left_set (left_set H5.out.1 (by omega) hp _ _) (Nat.le_refl _) hp _ _) (Nat.le_refl _) hp _ _⟩

end Go.Proofs.Ytidmpcnjhpnlcaa.Draw
