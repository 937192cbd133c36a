/-
  What the laws do with crews: laws.hands draws one, laws.tallied counts.
-/
import Derived.Test.YtjhenfdmbagaiaaDrawBase
import Derived.Test.YtjhenfdmbagaiaaCrewBase
namespace Go.Proofs.Ytjhenfdmbagaiaa.Draw
open Go.ChangeShapes Go.WideShapes Go.ChangeAt Go.RowKit
open Go.Proofs.Ytjhenfdmbagaiaa.Crew

/-- A slice of the call's own, told beside the dice. -/
structure OwnD (T : TypeId) (p : Nat) (a : Option Addr) (len cap : Nat) (w wr : World) (g cp : Nat) (xs : List Int) : Prop where
  row : Row wr g cp xs
  base : w.heap.size ≤ g
  left : Left .u64 T p a len cap w wr

theorem OwnD.draw {T : TypeId} {p : Nat} {a : Option Addr} {len cap : Nat} {w wr w' : World} {g cp : Nat} {xs : List Int} (h : OwnD T p a len cap w wr g cp xs) (hp : p < w.heap.size) (L : Left .u64 T p a len cap wr w') : OwnD T p a len cap w w' g cp xs :=
  ⟨h.row.other L.1 (by have := h.base; simp; omega), h.base, h.left.trans L⟩

theorem OwnD.set {T : TypeId} {p : Nat} {a : Option Addr} {len cap : Nat} {w wr : World} {g cp : Nat} {xs : List Int} (h : OwnD T p a len cap w wr g cp xs) (hp : p < w.heap.size) (j : Nat) (v : Int) : OwnD T p a len cap w (wr.setCell ⟨g, j, none⟩ (.int .i64 v)) g cp (xs.set j v) :=
  ⟨h.row.set j v, h.base, left_own h.left (grown_at _ _ _ _) (fun i hi => by cases hi; exact h.base) hp⟩

theorem OwnD.append {T : TypeId} {p : Nat} {a : Option Addr} {len cap : Nat} {w wr w' : World} {g cp g' cp' : Nat} {xs ys : List Int} {o : Obj} (h : OwnD T p a len cap w wr g cp xs) (hp : p < w.heap.size) (R : Row w' g' cp' ys) (G : (wr.alloc o).grownBy w' (some g)) (D : g' = g ∨ g' = wr.heap.size + 1) : OwnD T p a len cap w w' g' cp' ys := by
  have hb := h.base
  have hs := h.left.1.size
  exact ⟨R, by omega, left_own (left_own h.left (World.grownBy_alloc wr o none) (by simp) hp) G (fun i hi => by cases hi; exact hb) hp⟩

def wts60 (xs : List Int) : Bool := xs.all (fun n => within n 1 60)

theorem wts60_append {xs : List Int} {x : Int} (h : wts60 xs = true) (h1 : 1 ≤ x) (h2 : x ≤ 60) : wts60 (xs ++ [x]) = true := by
  simp only [wts60, List.all_append, Bool.and_eq_true]
  exact ⟨h, by simp [within]; omega⟩

theorem wts60_set {xs : List Int} {x : Int} (j : Nat) (h : wts60 xs = true) (h1 : 1 ≤ x) (h2 : x ≤ 60) : wts60 (xs.set j x) = true := by
  simp only [wts60, List.all_eq_true] at h ⊢
  intro y hy
  rcases List.mem_or_eq_of_mem_set hy with hy | hy
  · exact h y hy
  · subst hy; simp [within]; omega

theorem sum60 : ∀ (xs : List Int), wts60 xs = true → sumI xs ≤ 60 * (xs.length : Int)
  | [], _ => by simp [sumI]
  | x :: r, h => by
    simp only [wts60, List.all_cons, Bool.and_eq_true] at h
    have h1 := within_yes h.1
    have h2 := sum60 r h.2
    simp only [sumI, List.length_cons]
    omega

theorem hands_crew {xs : List Int} (h : wts60 xs = true) (h1 : 1 ≤ xs.length) (h7 : xs.length ≤ 7) : crewOk xs = true ∧ sumI xs ≤ 420 := by
  refine ⟨?_, by have := sum60 xs h; omega⟩
  simp only [crewOk, Bool.and_eq_true, List.all_eq_true]
  simp only [wts60, List.all_eq_true] at h
  refine ⟨by simp [within]; omega, fun n hn => ?_⟩
  have := within_yes (h n hn)
  simp [within]; omega

/-- laws.hands: a crew of 1 to 7, whose weights are at most 60. -/
theorem hands_any (T : TypeId) (p : Nat) (a : Option Addr) (len cap : Nat) (w : World) (C : Cur .u64 T p a len cap w) :
    Calls Try.prog 10 #[.pointer (some ⟨p, 0, none⟩)] w fun e w' => ∃ g cp xs, e = .returned (.slice (some ⟨g, 0, none⟩) xs.length cp) ∧ OwnD T p a len cap w w' g cp xs ∧ 1 ≤ xs.length ∧ xs.length ≤ 7 ∧ wts60 xs = true := by
  obtain ⟨i0, hi, hz0, hz1, hz2⟩ := info_parts info_int
  have hp := C.lt
  have HC : Hid (Cur .u64 T p a len cap w) := C
  have O0 : OwnD T p a len cap w (w.alloc (.cells #[] 2)) w.heap.size 0 [] := ⟨row_nil w, Nat.le_refl _, left_own (Left.refl C) (World.grownBy_alloc w _ none) (by simp) hp⟩
  clear C
  go_enter Try.func10, Try.ntmps10
  go_wp2_with fail
  refine (dice_any T p a len cap _ _ (O0.left.cur HC.out) (by omega)).mono ?_
  rintro e w1 ⟨x, rfl, x0, x1, _, L1⟩
  obtain ⟨m0, rfl⟩ := Int.eq_ofNat_of_zero_le x0
  have O1 : Hid (OwnD T p a len cap w w1 w.heap.size 0 []) := O0.draw hp L1
  clear O0 L1 x0
  go_wp2_with fail
  go_loopw [3, 4] (fun v n wr => ∃ m k g cp : Nat, ∃ xs : List Int, n = .int .i64 m ∧ v = .slice (some ⟨g, 0, none⟩) k cp ∧ k + m ≤ 7 ∧ 1 ≤ k + m ∧ Hid (xs.length = k) ∧ Hid (OwnD T p a len cap w wr g cp xs) ∧ Hid (wts60 xs = true)) (fun _ n _ => (intOf n).toNat)
  case atStart => exact ⟨1 + m0, 0, w.heap.size, 0, [], by go_num, rfl, by omega, by omega, rfl, O1, rfl⟩
  case round =>
    obtain ⟨m, k, g, cp, xs, rfl, rfl, hk, hk1, XL, O, WT⟩ := hrel
    by_cases hm : m = 0
    · subst hm
      have hlt : ¬ ((0 : Nat) : Int) > 0 := by omega
      have hki : (0 : Int) < (k : Int) := by omega
      go_wp2_with fail
      refine (dice_any T p a len cap _ _ (O.out.left.cur HC.out) (by omega)).mono ?_
      rintro e w2 ⟨x, rfl, x0, x1, _, L2⟩
      have O2 : Hid (OwnD T p a len cap w w2 g cp xs) := O.out.draw hp L2
      clear L2 O
      by_cases hx : x = 0
      · subst hx
        go_wp2_with fail
        refine (dice_any T p a len cap _ _ (O2.out.left.cur HC.out) (by omega)).mono ?_
        rintro e w3 ⟨y, rfl, y0, y1, _, L3⟩
        have O3 : Hid (OwnD T p a len cap w w3 g cp xs) := O2.out.draw hp L3
        have f3 := O3.out.row.frozen 0
        obtain ⟨z, c3⟩ : ∃ z, w3.cell? ⟨g, 0, none⟩ = some (.int .i64 z) := ⟨_, O3.out.row.cell (j := 0) (by rw [XL.out]; omega)⟩
        clear L3 O2
        go_wp2_with fail
        go_ret
        exact ⟨g, cp, xs.set 0 (1 + y), by rw [List.length_set, XL.out]; rfl, O3.out.set hp 0 _, by rw [List.length_set, XL.out]; omega, by rw [List.length_set, XL.out]; omega, wts60_set 0 WT.out (by omega) (by omega)⟩
      · have hx' : (x == 0) = false := by simpa using hx
        go_wp2_with fail
        go_ret
        exact ⟨g, cp, xs, by rw [XL.out]; rfl, O2.out, by rw [XL.out]; omega, by rw [XL.out]; omega, WT.out⟩
    · have hmi : (0 : Int) < (m : Int) := by omega
      have hmn : 0 < m := by omega
      go_wp2_with fail
      refine (dice_any T p a len cap _ _ (O.out.left.cur HC.out) (by omega)).mono ?_
      rintro e w2 ⟨x, rfl, x0, x1, _, L2⟩
      have O2 : Hid (OwnD T p a len cap w w2 g cp xs) := O.out.draw hp L2
      clear L2 O
      go_wp2_with (at_builtin; refine wpList_append_ints rfl (.tmp 13) (.tmp 17) 27 rfl i0 Try.underlying27 hi hz0 hz1 hz2 _ _ _ xs rfl XL.out.symm (O2.out.row.alloc _) _ _ _ [1 + x] rfl (ints_one _ _ _) (by rw [XL.out]; omega) ?_)
      intro g' cp' w3 R3 G3 D3
      have O3 : Hid (OwnD T p a len cap w w3 g' cp' (xs ++ [1 + x])) := O2.out.append hp R3 G3 D3
      clear R3 G3 D3 O2
      go_wp2_with fail
      go_roundw
      case rel => exact ⟨m - 1, k + 1, g', cp', xs ++ [1 + x], by go_num, rfl, by omega, by omega, by show _ = _; rw [List.length_append, XL.out]; rfl, O3, wts60_append WT.out (by omega) (by omega)⟩
      case measure => simp [intOf]; omega

end Go.Proofs.Ytjhenfdmbagaiaa.Draw
