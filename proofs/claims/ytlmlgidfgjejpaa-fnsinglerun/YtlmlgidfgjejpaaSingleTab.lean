/-
  impl's windows of a crew: a table of function values, made in a function.
-/
import Derived.Test.YtlmlgidfgjejpaaSingleNextS
import Derived.Test.YtlmlgidfgjejpaaWinFace
import Derived.Laws.EntriesVeiled
namespace Go.Proofs.Ytlmlgidfgjejpaa.Crew
open Go.ChangeShapes Go.WideShapes Go.ChangeAt Go.RowKit

/-- Block b holds a window. -/
def Wbk (w : World) (b : Nat) (x y : Value) : Prop := w.heap[b]? = some (.cells #[x, y] 63 (0, 0))

theorem Wbk.c0 {w : World} {b : Nat} {x y : Value} (h : Wbk w b x y) : w.cell? ⟨b, 0, none⟩ = some x := cell_pair h 0

theorem Wbk.c1 {w : World} {b : Nat} {x y : Value} (h : Wbk w b x y) : w.cell? ⟨b, 1, none⟩ = some y := cell_pair h 1

theorem Wbk.fr {w : World} {b : Nat} {x y : Value} (h : Wbk w b x y) (j : Nat) : w.frozen? ⟨b, j, none⟩ = false := frozen_of_row w b j _ _ h

theorem Wbk.lt {w : World} {b : Nat} {x y : Value} (h : Wbk w b x y) : b < w.heap.size := (Array.getElem?_eq_some_iff.1 h).1

theorem wbk_new (w : World) (x y : Value) : Wbk (w.alloc (.cells #[x, y] 63)) w.heap.size x y := heap_alloc_new w _

theorem Wbk.all {w w' : World} {b : Nat} {x y : Value} (h : Wbk w b x y) (g : Below w.heap.size w w') : Wbk w' b x y := by
  unfold Wbk
  rw [g.block b h.lt]
  exact h

theorem Wbk.set0 {w : World} {b : Nat} {x y : Value} (h : Wbk w b x y) (v : Value) : Wbk (w.setCell ⟨b, 0, none⟩ v) b v y := heap_setCell_same w b 0 _ _ _ h

theorem Wbk.set1 {w : World} {b : Nat} {x y : Value} (h : Wbk w b x y) (v : Value) : Wbk (w.setCell ⟨b, 1, none⟩ v) b x v := heap_setCell_same w b 1 _ _ _ h

theorem info_window : (Try.prog.info? 63).map (·.size) = some 2 := by kernel_rfl

theorem ret_win2 {fn : Func} {q u : Tmp} (h : fn.results = #[.cell q 63, .tmp u]) {tmps : Array Value} {w : World} {g : Nat} {x y v : Value} (hp : tmps.getD q undef = .pointer (some ⟨g, 0, none⟩)) (hv : tmps.getD u undef = v) (S : Wbk w g x y) : (results fn tmps).run Try.prog w = .ok (.tuple #[.agg #[x, y], v]) w := by
  rw [results_cell_tmp h, hp, hv]
  simp [asAddr, run_loadVar_row w g _ 63 _ _ _ S Try.underlying63 rfl info_window]

theorem box_past {w : World} {b T j : Nat} {n d : Int} (h : Win.Box w b n d) (hb : b ≠ T) (v : Value) : Win.Box (w.setCell ⟨T, j, none⟩ v) b n d := by
  have G := grown_at w T j v
  have e := G.block b h.1 (by simpa using hb)
  exact ⟨Nat.lt_of_lt_of_le h.1 G.size, by rw [World.cell?_of_block e]; exact h.2.1, by rw [World.cell?_of_block e]; exact h.2.2⟩

/-- The closure over a share in block b. -/
abbrev tellW (b : Nat) : Value := .func (.func 50) #[] #[.pointer (some ⟨b, 0, none⟩)]

set_option maxHeartbeats 1000000 in
/-- The closure at a turn that is right. -/
theorem tell_yes (n d j : Int) (h : Win.turnOk n d j = true) (b : Nat) (w : World) (B : Win.Box w b n d) :
    Calls Try.prog 50 #[.int .i64 j, .pointer (some ⟨b, 0, none⟩)] w fun e w' => ∃ g, e = .returned (.tuple #[.agg #[.pointer (some ⟨g, 0, none⟩), .int .i64 j], .bool true]) ∧ Win.Box w' g n d ∧ Below w.heap.size w w' := by
  have H : Hid (Win.turnOk n d j = true ∧ Wbk (w.alloc (.cells #[.pointer none, .int .i64 0] 63)) w.heap.size (.pointer none) (.int .i64 0) ∧ Win.Box w b n d) := ⟨h, wbk_new w _ _, B⟩
  obtain ⟨x0, x1, x2⟩ := B
  clear h
  go_enter Try.func50, Try.ntmps50
  go_wp2_with fail
  refine (Win.windowOf_yes n d j H.out.1 _).mono ?_
  rintro e w1 ⟨g, rfl, hg, BX, B1⟩
  have hg' : w.heap.size < g := by simp at hg; omega
  have W1 := H.out.2.1.all B1
  have H1 : Hid (Wbk w1 w.heap.size (.pointer none) (.int .i64 0) ∧ Win.Box w1 g n d ∧ Below w.heap.size w w1) := ⟨W1, BX, below_call (below_new _ _) (by simp) B1⟩
  have c0 := W1.c0
  have c1 := W1.c1
  have f0 := W1.fr 0
  have f1 := W1.fr 1
  clear hg BX B1 W1 x1 x2
  go_wp2_with fail
  have B2 := box_past (T := w.heap.size) (j := 1) (box_past (T := w.heap.size) (j := 0) H1.out.2.1 (by omega) (.pointer (some ⟨g, 0, none⟩))) (by omega) (.int .i64 j)
  exact bodyPost_ret (ret_win2 rfl rfl rfl ((H1.out.1.set0 _).set1 _)) rfl ⟨g, rfl, B2, below_set (below_set H1.out.2.2 (Nat.le_refl _) _) (Nat.le_refl _) _⟩

set_option maxHeartbeats 1000000 in
/-- The closure at a turn that is not. -/
theorem tell_no (n d j : Int) (h : Win.turnOk n d j = false) (b : Nat) (w : World) (B : Win.Box w b n d) :
    Calls Try.prog 50 #[.int .i64 j, .pointer (some ⟨b, 0, none⟩)] w fun e w' => e = .returned (.tuple #[.agg #[.pointer none, .int .i64 0], .bool false]) ∧ Below w.heap.size w w' := by
  have H : Hid (Win.turnOk n d j = false ∧ Wbk (w.alloc (.cells #[.pointer none, .int .i64 0] 63)) w.heap.size (.pointer none) (.int .i64 0)) := ⟨h, wbk_new w _ _⟩
  obtain ⟨x0, x1, x2⟩ := B
  clear h
  go_enter Try.func50, Try.ntmps50
  go_wp2_with fail
  refine (Win.windowOf_no n d j H.out.1 _).mono ?_
  rintro e w1 ⟨rfl, B1⟩
  have W1 := H.out.2.all B1
  have H1 : Hid (Wbk w1 w.heap.size (.pointer none) (.int .i64 0) ∧ Below w.heap.size w w1) := ⟨W1, below_call (below_new _ _) (by simp) B1⟩
  have c0 := W1.c0
  have c1 := W1.c1
  have f0 := W1.fr 0
  have f1 := W1.fr 1
  clear B1 W1 x1 x2
  go_wp2_with fail
  exact bodyPost_ret (ret_win2 rfl rfl rfl ((H1.out.1.set0 _).set1 _)) rfl ⟨rfl, below_set (below_set H1.out.2 (Nat.le_refl _) _) (Nat.le_refl _) _⟩

/-- Block T, the call's own, holds n function values, of which the first k tell the windows of the first k of a crew. -/
structure Tab (w0 w : World) (T n : Nat) (cs : List Int) (k : Nat) : Prop where
  bel : Below w0.heap.size w0 w
  row : ∃ vs : Array Value, w.heap[T]? = some (.cells vs 60 (0, 0)) ∧ vs.size = n ∧ ∀ i, i < k → ∃ b, vs[i]? = some (tellW b) ∧ w0.heap.size ≤ b ∧ b ≠ T ∧ Win.Box w b (cs.getD i 0) (sumI cs)
  lo : w0.heap.size ≤ T

theorem Tab.lt {w0 w : World} {T n : Nat} {cs : List Int} {k : Nat} (h : Tab w0 w T n cs k) : T < w.heap.size := by
  obtain ⟨vs, hb, _⟩ := h.row
  exact (Array.getElem?_eq_some_iff.1 hb).1

theorem Tab.all {w0 w w' : World} {T n : Nat} {cs : List Int} {k : Nat} (h : Tab w0 w T n cs k) (B : Below w.heap.size w w') : Tab w0 w' T n cs k := by
  have hT := h.lt
  obtain ⟨vs, hb, hs, hv⟩ := h.row
  refine ⟨below_call h.bel h.bel.size B, ⟨vs, by rw [B.block T hT]; exact hb, hs, fun i hi => ?_⟩, h.lo⟩
  obtain ⟨b, h1, h2, h3, h4⟩ := hv i hi
  exact ⟨b, h1, h2, h3, h4.kept B h4.1⟩

/-- A store into a block of the call's own that is none of the table's. -/
theorem Tab.past {w0 w : World} {T n : Nat} {cs : List Int} {k : Nat} (h : Tab w0 w T n cs k) {g : Nat} (hg : w.heap.size ≤ g) (j : Nat) (v : Value) : Tab w0 (w.setCell ⟨g, j, none⟩ v) T n cs k :=
  h.all ((Below.refl _ w).setCell (p := ⟨g, j, none⟩) hg v)

theorem Tab.cell {w0 w : World} {T n : Nat} {cs : List Int} {k : Nat} (h : Tab w0 w T n cs k) {i : Nat} (hi : i < k) : ∃ b, w.cell? ⟨T, i, none⟩ = some (tellW b) ∧ Win.Box w b (cs.getD i 0) (sumI cs) := by
  obtain ⟨vs, hb, hs, hv⟩ := h.row
  obtain ⟨b, h1, h2, h3, h4⟩ := hv i hi
  exact ⟨b, by rw [cell_pair hb]; exact h1, h4⟩

theorem Tab.free {w0 w : World} {T n : Nat} {cs : List Int} {k : Nat} (h : Tab w0 w T n cs k) {i : Nat} (hi : i < n) : (∃ v, w.cell? ⟨T, i, none⟩ = some v) ∧ w.frozen? ⟨T, i, none⟩ = false := by
  obtain ⟨vs, hb, hs, hv⟩ := h.row
  exact ⟨⟨vs[i]'(by omega), by rw [cell_pair hb]; exact Array.getElem?_eq_getElem (by omega)⟩, frozen_of_row w T i _ _ hb⟩

/-- One function value more. -/
theorem Tab.next {w0 w : World} {T n : Nat} {cs : List Int} {k : Nat} (h : Tab w0 w T n cs k) (hk : k < n) {b : Nat} (hb : w0.heap.size ≤ b) (hT : b ≠ T) (B : Win.Box w b (cs.getD k 0) (sumI cs)) : Tab w0 (w.setCell ⟨T, k, none⟩ (tellW b)) T n cs (k + 1) := by
  obtain ⟨vs, hr, hs, hv⟩ := h.row
  refine ⟨below_set h.bel h.lo _, ⟨vs.setIfInBounds k (tellW b), heap_setCell_same w T k vs _ _ hr, by simpa using hs, fun i hi => ?_⟩, h.lo⟩
  by_cases e : i = k
  · subst e
    exact ⟨b, by simp [hs, hk], hb, hT, box_past B hT _⟩
  · obtain ⟨c, h1, h2, h3, h4⟩ := hv i (by omega)
    exact ⟨c, by rw [Array.getElem?_setIfInBounds, if_neg (Ne.symm e)]; exact h1, h2, h3, box_past h4 h3 _⟩

/-- So many functions that are nil. -/
def nils (n : Nat) : Array Value := madeCells #[.nilFunc] n

theorem info_tell : (Try.prog.info? 60).map (fun i => (i.zero, i.size, i.bytes)) = some (some .nilFunc, 1, 8) := by kernel_rfl

theorem made_nils (n : Nat) (hn : (n : Int) ≤ 1048576) (w : World) : (Instr.makeSlice 47 (.int .i64 n) (.int .i64 n)).run Try.prog w = .ok (.slice (some ⟨w.heap.size, 0, none⟩) n n) (w.alloc (.cells (nils n) 60)) := by
  obtain ⟨i0, hi, hz0, hz1, hz2⟩ := info_parts info_tell
  have h := run_make (P := Try.prog) w 47 60 i0 .nilFunc Try.underlying47 hi hz0 .i64 .i64 n n (by omega) (by omega) (by rw [hz2]; omega) (by omega)
  rw [h, hz1]
  simp only [Int.toNat_natCast, Nat.mul_one]
  rfl

theorem tab_new (w : World) (n : Nat) (cs : List Int) : Tab w (w.alloc (.cells (nils n) 60)) w.heap.size n cs 0 :=
  ⟨below_new _ _, ⟨nils n, heap_alloc_new w _, size_madeCells _ _, fun i hi => by omega⟩, Nat.le_refl _⟩

set_option maxHeartbeats 1000000 in
/-- impl.windowsOf over a right crew. -/
theorem windowsOf_any (a : Option Addr) (len cap : Nat) (cs : List Int) (w : World) (I : Ints w a len cs) (hc : crewOk cs = true) :
    Calls Try.prog 28 #[.slice a len cap] w fun e w' => ∃ T, e = .returned (.slice (some ⟨T, 0, none⟩) len len) ∧ Tab w w' T len cs len := by
  have h24 := crew_len hc
  have hl := I.1
  have l24 : (len : Int) ≤ 24 := by omega
  have hmk := made_nils len (by omega)
  obtain ⟨X, hX⟩ : ∃ X, X = sumI cs := ⟨_, rfl⟩
  have H0 : Hid (Ints w a len cs ∧ cs.length = len ∧ totalOf cs = X ∧ X = sumI cs) := ⟨I, hl, by rw [totalOf, if_pos hc, hX], hX⟩
  clear I hl hX hc h24
  go_enter Try.func28, Try.ntmps28
  go_wp2_with fail
  refine (implTotal a len cap cs _ H0.out.1).mono ?_
  rw [H0.out.2.2.1]
  rintro e w0 ⟨rfl, rfl⟩
  have H1 : Hid (Tab w0 (w0.alloc (.cells (nils len) 60)) w0.heap.size len cs 0) := tab_new w0 len cs
  go_wp2_with fail
  generalize w0.alloc (.cells (nils len) 60) = w1 at *
  generalize hT : w0.heap.size = T at *
  go_loopw [15] (fun i wr => ∃ k : Nat, i = .int .i64 k ∧ k ≤ len ∧ Hid (Tab w0 wr T len cs k)) (fun i _ => len - (intOf i).toNat)
  case atStart => exact ⟨0, rfl, Nat.zero_le _, H1⟩
  case round =>
    obtain ⟨k, rfl, hk, H⟩ := hrel
    by_cases hlt : k < len
    · have hlt' : (k : Int) < (len : Int) := by omega
      obtain ⟨b1, o1, rfl, hb1, ck⟩ := (H0.out.1.kept H.out.bel).cell (k := k) hlt
      obtain ⟨c, hcc⟩ : ∃ c, c = cs.getD k 0 := ⟨_, rfl⟩
      rw [← hcc] at ck
      have HC : Hid (c = cs.getD k 0) := hcc
      have HB : Hid (Tab w0 (wr.alloc (.cells #[.int .i64 c, .int .i64 X] 67)) T len cs k ∧ Win.Box (wr.alloc (.cells #[.int .i64 c, .int .i64 X] 67)) wr.heap.size (cs.getD k 0) (sumI cs)) := ⟨H.out.all (below_new _ _), by rw [← HC.out, ← H0.out.2.2.2]; exact Win.box_new wr c X _⟩
      have hTl := H.out.lt
      obtain ⟨⟨v, cT⟩, fT⟩ := H.out.free hlt
      have H3 : Hid (Tab w0 ((wr.setCell ⟨T, k, none⟩ (tellW wr.heap.size)).alloc (.cells #[.int .i64 c, .int .i64 X] 67)) T len cs (k + 1)) := by
        rw [← World.setCell_alloc_past _ _ _ _ hTl]
        exact HB.out.1.next hlt (by have := H.out.bel.size; omega) (by omega) HB.out.2
      clear hcc
      go_wp2_with fail
      go_roundw
      case rel => exact ⟨k + 1, by go_num, by omega, H3⟩
      case measure => simp [intOf]; omega
    · have hlt' : ¬ (k : Int) < (len : Int) := by omega
      have e : k = len := by omega
      subst e
      go_wp2_with fail
      go_ret
      exact ⟨T, rfl, H.out⟩

end Go.Proofs.Ytlmlgidfgjejpaa.Crew
