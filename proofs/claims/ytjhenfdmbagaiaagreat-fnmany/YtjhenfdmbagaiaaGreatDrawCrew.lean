/-
  Drawing a crew: spec.l2Draw, l2DrawAny, DrawByWeight. What is drawn lies in a block of its own; besides it the cursor's block alone is written.
  Drawing a crew and counts: spec.l3Draw, l3DrawAny, DrawWorstLag. What is drawn lies in two blocks of the call's own; besides them the cursor's block alone is written.
-/
import Derived.Test.YtjhenfdmbagaiaaGreatDrawBase
import Derived.Test.YtjhenfdmbagaiaaGreatIntsBase
import Derived.Test.YtjhenfdmbagaiaaGreatCrewBase
namespace Go.Proofs.YtjhenfdmbagaiaaGreat.Draw
open Go.ChangeShapes Go.WideShapes Go.ChangeAt Go.RowKit
open Go.Proofs.YtjhenfdmbagaiaaGreat.Crew

/-- A slice of the call's own, told beside the cursor. -/
structure Own (T : TypeId) (p : Nat) (a : Option Addr) (len cap : Nat) (w wr : World) (g cp : Nat) (xs : List Int) : Prop where
  row : Row wr g cp xs
  base : w.heap.size ≤ g
  left : Left .i64 T p a len cap w wr

theorem Own.draw {T : TypeId} {p : Nat} {a : Option Addr} {len cap : Nat} {w wr w' : World} {g cp : Nat} {xs : List Int} (h : Own T p a len cap w wr g cp xs) (hp : p < w.heap.size) (L : Left .i64 T p a len cap wr w') : Own T p a len cap w w' g cp xs :=
  ⟨h.row.other L.1 (by have := h.base; simp; omega), h.base, h.left.trans L⟩

theorem Own.set {T : TypeId} {p : Nat} {a : Option Addr} {len cap : Nat} {w wr : World} {g cp : Nat} {xs : List Int} (h : Own T p a len cap w wr g cp xs) (hp : p < w.heap.size) (j : Nat) (v : Int) : Own T p a len cap w (wr.setCell ⟨g, j, none⟩ (.int .i64 v)) g cp (xs.set j v) :=
  ⟨h.row.set j v, h.base, left_own h.left (grown_at _ _ _ _) (fun i hi => by cases hi; exact h.base) hp⟩

theorem Own.append {T : TypeId} {p : Nat} {a : Option Addr} {len cap : Nat} {w wr w' : World} {g cp g' cp' : Nat} {xs ys : List Int} {o : Obj} (h : Own T p a len cap w wr g cp xs) (hp : p < w.heap.size) (R : Row w' g' cp' ys) (G : (wr.alloc o).grownBy w' (some g)) (D : g' = g ∨ g' = wr.heap.size + 1) : Own T p a len cap w w' g' cp' ys := by
  have hb := h.base
  have hs := h.left.1.size
  exact ⟨R, by omega, left_own (left_own h.left (World.grownBy_alloc wr o none) (by simp) hp) G (fun i hi => by cases hi; exact hb) hp⟩

theorem Own.fresh {T : TypeId} {p : Nat} {a : Option Addr} {len cap : Nat} {w wr : World} (L : Left .i64 T p a len cap w wr) (hp : p < w.heap.size) : Own T p a len cap w (wr.alloc (.cells #[] 2)) wr.heap.size 0 [] :=
  ⟨row_nil wr, L.1.size, left_own L (World.grownBy_alloc wr _ none) (by simp) hp⟩

def wts (xs : List Int) : Bool := xs.all (fun n => within n 1 1000000)
theorem wts_append {xs : List Int} {x : Int} (h : wts xs = true) (h1 : 1 ≤ x) (h2 : x ≤ 1000000) : wts (xs ++ [x]) = true := by
  simp only [wts, List.all_append, Bool.and_eq_true]
  exact ⟨h, by simp [within]; omega⟩
theorem wts_set {xs : List Int} {x : Int} (j : Nat) (h : wts xs = true) (h1 : 1 ≤ x) (h2 : x ≤ 1000000) : wts (xs.set j x) = true := by
  simp only [wts, List.all_eq_true] at h ⊢
  intro y hy
  rcases List.mem_or_eq_of_mem_set hy with hy | hy
  · exact h y hy
  · subst hy; simp [within]; omega

/-- spec.l2Draw: a right crew of at most six. -/
theorem draw_crew (T : TypeId) (p : Nat) (a : Option Addr) (len cap : Nat) (w : World) (C : Cur .i64 T p a len cap w) :
    Calls Tryz.prog 91 #[.pointer (some ⟨p, 0, none⟩)] w fun e w' => ∃ g cp xs, e = .returned (.slice (some ⟨g, 0, none⟩) xs.length cp) ∧ Own T p a len cap w w' g cp xs ∧ 1 ≤ xs.length ∧ xs.length ≤ 6 ∧ wts xs = true := by
  obtain ⟨i0, hi, hz0, hz1, hz2⟩ := info_parts info_int
  have hp := C.lt
  have HC : Hid (Cur .i64 T p a len cap w) := C
  have O0 : Own T p a len cap w (w.alloc (.cells #[] 2)) w.heap.size 0 [] := Own.fresh (Left.refl C) hp
  clear C
  go_enter Tryz.func91, Tryz.ntmps91
  go_wp2_with fail
  refine (below_any T p a len cap _ _ (O0.left.cur HC.out)).mono ?_
  rintro e w1 ⟨x, rfl, x0, x1, _, L1⟩
  have hx : x < 6 := x1 (by omega)
  obtain ⟨m0, rfl⟩ := Int.eq_ofNat_of_zero_le x0
  have O1 : Hid (Own T p a len cap w w1 w.heap.size 0 []) := O0.draw hp L1
  clear O0 L1 x1 x0
  go_wp2_with fail
  go_loopw [3, 4] (fun v n wr => ∃ m k g cp : Nat, ∃ xs : List Int, n = .int .i64 m ∧ v = .slice (some ⟨g, 0, none⟩) k cp ∧ k + m ≤ 6 ∧ 1 ≤ k + m ∧ Hid (xs.length = k) ∧ Hid (Own T p a len cap w wr g cp xs) ∧ Hid (wts xs = true)) (fun _ n _ => (intOf n).toNat)
  case atStart => exact ⟨1 + m0, 0, w.heap.size, 0, [], by go_num, rfl, by omega, by omega, rfl, O1, rfl⟩
  case round =>
    obtain ⟨m, k, g, cp, xs, rfl, rfl, hk, hk1, XL, O, WT⟩ := hrel
    by_cases hm : m = 0
    · subst hm
      have hlt : ¬ ((0 : Nat) : Int) > 0 := by omega
      go_wp2_with fail
      refine (once_any T p a len cap _ _ (O.out.left.cur HC.out)).mono ?_
      rintro e w2 ⟨t, rfl, L2⟩
      have O2 : Hid (Own T p a len cap w w2 g cp xs) := O.out.draw hp L2
      clear L2 O
      have hki : (0 : Int) < (k : Int) := by omega
      cases t
      · obtain ⟨ys, hys⟩ : ∃ ys, ys = xs := ⟨_, rfl⟩
        rw [← hys] at O2 XL WT
        have OA := O2
        have YL := XL
        have YT := WT
        clear O2 XL WT hys
        go_wp2_with fail
        refine (once_any T p a len cap _ _ (OA.out.left.cur HC.out)).mono ?_
        rintro e wb ⟨t, rfl, LB⟩
        have OB : Hid (Own T p a len cap w wb g cp ys) := OA.out.draw hp LB
        clear LB OA
        cases t
        · go_wp2_with fail
          go_ret
          exact ⟨g, cp, ys, by rw [YL.out]; rfl, OB.out, by rw [YL.out]; omega, by rw [YL.out]; omega, YT.out⟩
        · go_wp2_with fail
          refine (below_any T p a len cap _ _ (OB.out.left.cur HC.out)).mono ?_
          rintro e wd ⟨x, rfl, x0, x1, _, LD⟩
          have hxd : x < 2 := x1 (by omega)
          have OD : Hid (Own T p a len cap w wd g cp ys) := OB.out.draw hp LD
          have fd := OD.out.row.frozen 0
          obtain ⟨y, cd⟩ : ∃ y, wd.cell? ⟨g, 0, none⟩ = some (.int .i64 y) := ⟨_, OD.out.row.cell (j := 0) (by rw [YL.out]; omega)⟩
          clear LD OB x1
          go_wp2_with fail
          go_ret
          exact ⟨g, cp, ys.set 0 (1000000 - x), by rw [List.length_set, YL.out]; rfl, OD.out.set hp 0 _, by rw [List.length_set, YL.out]; omega, by rw [List.length_set, YL.out]; omega, wts_set 0 YT.out (by omega) (by omega)⟩
      · go_wp2_with fail
        refine (below_any T p a len cap _ _ (O2.out.left.cur HC.out)).mono ?_
        rintro e w3 ⟨x, rfl, x0, x1, _, L3⟩
        have hx3 : x < 60 := x1 (by omega)
        have O3 : Hid (Own T p a len cap w w3 g cp xs) := O2.out.draw hp L3
        have f3 := O3.out.row.frozen 0
        obtain ⟨y, c3⟩ : ∃ y, w3.cell? ⟨g, 0, none⟩ = some (.int .i64 y) := ⟨_, O3.out.row.cell (j := 0) (by rw [XL.out]; omega)⟩
        clear L3 O2 x1
        go_wp2_with fail
        obtain ⟨ys, hys⟩ : ∃ ys, ys = xs.set 0 (1 + x) := ⟨_, rfl⟩
        have OA : Hid (Own T p a len cap w (w3.setCell ⟨g, 0, none⟩ (.int .i64 (1 + x))) g cp ys) := by rw [hys]; exact O3.out.set hp 0 _
        have YL : Hid (ys.length = k) := by show _ = _; rw [hys, List.length_set, XL.out]
        have YT : Hid (wts ys = true) := by show _ = _; rw [hys]; exact wts_set 0 WT.out (by omega) (by omega)
        clear O3 XL WT hys f3 c3
        refine (once_any T p a len cap _ _ (OA.out.left.cur HC.out)).mono ?_
        rintro e wb ⟨t, rfl, LB⟩
        have OB : Hid (Own T p a len cap w wb g cp ys) := OA.out.draw hp LB
        clear LB OA
        cases t
        · go_wp2_with fail
          go_ret
          exact ⟨g, cp, ys, by rw [YL.out]; rfl, OB.out, by rw [YL.out]; omega, by rw [YL.out]; omega, YT.out⟩
        · go_wp2_with fail
          refine (below_any T p a len cap _ _ (OB.out.left.cur HC.out)).mono ?_
          rintro e wd ⟨x, rfl, x0, x1, _, LD⟩
          have hxd : x < 2 := x1 (by omega)
          have OD : Hid (Own T p a len cap w wd g cp ys) := OB.out.draw hp LD
          have fd := OD.out.row.frozen 0
          obtain ⟨y, cd⟩ : ∃ y, wd.cell? ⟨g, 0, none⟩ = some (.int .i64 y) := ⟨_, OD.out.row.cell (j := 0) (by rw [YL.out]; omega)⟩
          clear LD OB x1
          go_wp2_with fail
          go_ret
          exact ⟨g, cp, ys.set 0 (1000000 - x), by rw [List.length_set, YL.out]; rfl, OD.out.set hp 0 _, by rw [List.length_set, YL.out]; omega, by rw [List.length_set, YL.out]; omega, wts_set 0 YT.out (by omega) (by omega)⟩
    · have hmi : (0 : Int) < (m : Int) := by omega
      have hmn : 0 < m := by omega
      go_wp2_with fail
      refine (below_any T p a len cap _ _ (O.out.left.cur HC.out)).mono ?_
      rintro e w2 ⟨x, rfl, x0, x1, _, L2⟩
      have hx2 : x < 9 := x1 (by omega)
      have O2 : Hid (Own T p a len cap w w2 g cp xs) := O.out.draw hp L2
      clear x1 L2 O
      go_wp2_with (at_builtin; refine wpList_append_ints rfl (.tmp 13) (.tmp 17) 25 rfl i0 Tryz.underlying25 hi hz0 hz1 hz2 _ _ _ xs rfl XL.out.symm (O2.out.row.alloc _) _ _ _ [1 + x] rfl (ints_one _ _ _) (by rw [XL.out]; omega) ?_)
      intro g' cp' w3 R3 G3 D3
      have O3 : Hid (Own T p a len cap w w3 g' cp' (xs ++ [1 + x])) := O2.out.append hp R3 G3 D3
      clear R3 G3 D3 O2
      go_wp2_with fail
      go_roundw
      case rel => exact ⟨m - 1, k + 1, g', cp', xs ++ [1 + x], by go_num, rfl, by omega, by omega, by show _ = _; rw [List.length_append, XL.out]; rfl, O3, wts_append WT.out (by omega) (by omega)⟩
      case measure => simp [intOf]; omega

end Go.Proofs.YtjhenfdmbagaiaaGreat.Draw

namespace Go.Proofs.YtjhenfdmbagaiaaGreat.Draw
open Go.ChangeShapes Go.WideShapes Go.ChangeAt Go.RowKit
open Go.Proofs.YtjhenfdmbagaiaaGreat.Crew

/-- Two slices of the call's own, in two blocks. -/
structure Own2 (T : TypeId) (p : Nat) (a : Option Addr) (len cap : Nat) (w wr : World) (g cp : Nat) (xs : List Int) (g' cp' : Nat) (ys : List Int) : Prop where
  one : Own T p a len cap w wr g cp xs
  two : Own T p a len cap w wr g' cp' ys
  ne : g ≠ g'

theorem Own2.draw {T : TypeId} {p : Nat} {a : Option Addr} {len cap : Nat} {w wr w' : World} {g cp g' cp' : Nat} {xs ys : List Int} (h : Own2 T p a len cap w wr g cp xs g' cp' ys) (hp : p < w.heap.size) (L : Left .i64 T p a len cap wr w') : Own2 T p a len cap w w' g cp xs g' cp' ys :=
  ⟨h.one.draw hp L, h.two.draw hp L, h.ne⟩

theorem Own2.set {T : TypeId} {p : Nat} {a : Option Addr} {len cap : Nat} {w wr : World} {g cp g' cp' : Nat} {xs ys : List Int} (h : Own2 T p a len cap w wr g cp xs g' cp' ys) (hp : p < w.heap.size) (j : Nat) (v : Int) : Own2 T p a len cap w (wr.setCell ⟨g', j, none⟩ (.int .i64 v)) g cp xs g' cp' (ys.set j v) := by
  have t := h.two.set hp j v
  exact ⟨⟨h.one.row.other (grown_at _ _ _ _) (by have := h.ne; simp; omega), h.one.base, t.left⟩, t, h.ne⟩

theorem Own2.append {T : TypeId} {p : Nat} {a : Option Addr} {len cap : Nat} {w wr w' : World} {g cp g' cp' g2 cp2 : Nat} {xs ys zs : List Int} {o : Obj} (h : Own2 T p a len cap w wr g cp xs g' cp' ys) (hp : p < w.heap.size) (R : Row w' g2 cp2 zs) (G : (wr.alloc o).grownBy w' (some g')) (D : g2 = g' ∨ g2 = wr.heap.size + 1) : Own2 T p a len cap w w' g cp xs g2 cp2 zs := by
  have t := h.two.append hp R G D
  have hlt := h.one.row.lt
  exact ⟨⟨(h.one.row.alloc o).other G (by have := h.ne; simp; omega), h.one.base, t.left⟩, t, by have := h.ne; omega⟩

/-- A crew drawn anew in the first one's place. -/
theorem Own2.anew {T : TypeId} {p : Nat} {a : Option Addr} {len cap : Nat} {w wr w' : World} {g cp g' cp' g2 cp2 : Nat} {xs ys zs : List Int} (h : Own2 T p a len cap w wr g cp xs g' cp' ys) (hp : p < w.heap.size) (O : Own T p a len cap wr w' g2 cp2 zs) : Own2 T p a len cap w w' g2 cp2 zs g' cp' ys := by
  have t := h.two.draw hp O.left
  have hlt := h.two.row.lt
  have hb := O.base
  have hs := h.two.left.1.size
  exact ⟨⟨O.row, by omega, t.left⟩, t, by omega⟩

theorem wts_get {xs : List Int} (h : wts xs = true) {k : Nat} (hk : k < xs.length) : 1 ≤ xs.getD k 0 ∧ xs.getD k 0 ≤ 1000000 := by
  simp only [wts, List.all_eq_true] at h
  have := within_yes (h xs[k] (List.getElem_mem hk))
  simpa [List.getD, hk] using this

end Go.Proofs.YtjhenfdmbagaiaaGreat.Draw
