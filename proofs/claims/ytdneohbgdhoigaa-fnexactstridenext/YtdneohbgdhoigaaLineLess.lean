/-
  A line's Less: who waits ahead, by what each has come and, of two that have come as far, by its number.
-/
import Derived.Test.YtdneohbgdhoigaaLineBase
namespace Go.Proofs.Ytdneohbgdhoigaa.Crew
open Go.ChangeShapes Go.WideShapes Go.ChangeAt Go.RowKit

theorem less_at (w0 : World) (b : Nat) (ca : Option Addr) (la cca : Nat) (cs : List Int) (g lg cg : Nat) (ns : List Int) (ha : Option Addr) (lh ch : Nat) (ws : List Int) (w : World) (L : Ln w0 w b ca la cca cs g lg cg ns ha lh ch ws) (m : Nat) (hm : m ≤ 3000) (C : Counted cs ns m)
    (p q : Nat) (hp : p < lh) (hq : q < lh) (i j : Nat) (hi : gd ws p = (i : Int)) (hj : gd ws q = (j : Int)) (hin : i < cs.length) (hjn : j < cs.length) :
    Calls Try.prog 82 #[.pointer (some ⟨b, 0, none⟩), .int .i64 p, .int .i64 q] w fun e w' => e = .returned (.bool (aheadOf cs ns (gd ws p) (gd ws q))) ∧ Below w.heap.size w w' := by
  obtain ⟨r, rfl, hr, R, hl, hrb, hrg⟩ := L.row (by omega)
  have I := L.ints
  have lca : la = cs.length := I.1.symm
  have lcn : lg = cs.length := by rw [← L.cntl, C.len]
  have l24 := (crew_len C.crew).2
  obtain ⟨cb, co, rfl, hcb, ci⟩ := I.cell (k := i) (by omega)
  obtain ⟨cb2, co2, e2, _, cj⟩ := I.cell (k := j) (by omega)
  cases e2
  have k0 : ∀ x : Kin w, x.u.cell? ⟨b, 0, none⟩ = some (.slice (some ⟨cb, co, none⟩) la cca) := fun x => x.cell L.line.lt L.line.c0
  have k1 : ∀ x : Kin w, x.u.cell? ⟨b, 1, none⟩ = some (.slice (some ⟨g, 0, none⟩) lg cg) := fun x => x.cell L.line.lt L.line.c1
  have k2 : ∀ x : Kin w, x.u.cell? ⟨b, 2, none⟩ = some (.slice (some ⟨r, 0, none⟩) lh ch) := fun x => x.cell L.line.lt L.line.c2
  have wp : ∀ x : Kin w, x.u.cell? ⟨r, p, none⟩ = some (.int .i64 (i : Int)) := fun x => x.cell R.lt (by rw [R.cell (by omega)]; exact congrArg (fun z => some (Value.int .i64 z)) hi)
  have wq : ∀ x : Kin w, x.u.cell? ⟨r, q, none⟩ = some (.int .i64 (j : Int)) := fun x => x.cell R.lt (by rw [R.cell (by omega)]; exact congrArg (fun z => some (Value.int .i64 z)) hj)
  obtain ⟨n1, hn1⟩ : ∃ n1, n1 = ns.getD i 0 := ⟨_, rfl⟩
  obtain ⟨n2, hn2⟩ : ∃ n2, n2 = ns.getD j 0 := ⟨_, rfl⟩
  obtain ⟨c1, hc1⟩ : ∃ c1, c1 = cs.getD i 0 := ⟨_, rfl⟩
  obtain ⟨c2, hc2⟩ : ∃ c2, c2 = cs.getD j 0 := ⟨_, rfl⟩
  have wi : ∀ x : Kin w, x.u.cell? ⟨g, i, none⟩ = some (.int .i64 n1) := fun x => x.cell L.cnt.lt (by rw [hn1]; exact L.cnt.cell (by have := L.cntl; omega))
  have wj : ∀ x : Kin w, x.u.cell? ⟨g, j, none⟩ = some (.int .i64 n2) := fun x => x.cell L.cnt.lt (by rw [hn2]; exact L.cnt.cell (by have := L.cntl; omega))
  have wc : ∀ x : Kin w, x.u.cell? ⟨cb, co + i, none⟩ = some (.int .i64 c1) := fun x => x.cell hcb (by rw [hc1]; exact ci)
  have wd : ∀ x : Kin w, x.u.cell? ⟨cb, co + j, none⟩ = some (.int .i64 c2) := fun x => x.cell hcb (by rw [hc2]; exact cj)
  have e1 : Hid (Ratio.fracLess n1 c1 n2 c2 = early cs ns (i : Int) (j : Int)) := by
    show _ = _
    rw [hn1, hc1, hn2, hc2]; exact frac_early C hm hin hjn
  have e2 : Hid (Ratio.fracLess n2 c2 n1 c1 = early cs ns (j : Int) (i : Int)) := by
    show _ = _
    rw [hn1, hc1, hn2, hc2]; exact frac_early C hm hjn hin
  have hp' : (p : Int) < (lh : Int) := by omega
  have hq' : (q : Int) < (lh : Int) := by omega
  have hi1 : (i : Int) < (lg : Int) := by omega
  have hj1 : (j : Int) < (lg : Int) := by omega
  have hi2 : (i : Int) < (la : Int) := by omega
  have hj2 : (j : Int) < (la : Int) := by omega
  rw [hi, hj]
  have hA : aheadOf cs ns (i : Int) (j : Int) = (Ratio.fracLess n1 c1 n2 c2 || (!Ratio.fracLess n2 c2 n1 c1 && decide ((i : Int) < (j : Int)))) := by rw [e1.out, e2.out]; rfl
  rw [hA]
  clear hA hn1 hn2 hc1 hc2 L R I ci cj hi hj C e1 e2 hp hq hin hjn lca lcn
  have F1 : ∀ u : World, _ := fun u => Ratio.implLess n1 c1 n2 c2 u
  have F2 : ∀ u : World, _ := fun u => Ratio.implLess n2 c2 n1 c1 u
  cases h1 : Ratio.fracLess n1 c1 n2 c2
  · cases h2 : Ratio.fracLess n2 c2 n1 c1
    · simp only [h1] at F1
      simp only [h2] at F2
      clear h1 h2
      go_enter Try.func82, Try.ntmps82
      go_wp2_with fail
      refine wp_region_kin (by kernel_rfl) (by kernel_rfl) (fun hne => ?_)
      repeat (go_big_quiet_step (fail))
      refine wpQuiet_nil ?_
      rintro _ ⟨x, rfl⟩
      go_wp2_with fail
      have bx := x.b
      replace k0 := fun y : Kin x.u => Kin.at (y := y) k0
      replace k1 := fun y : Kin x.u => Kin.at (y := y) k1
      replace wi := fun y : Kin x.u => Kin.at (y := y) wi
      replace wj := fun y : Kin x.u => Kin.at (y := y) wj
      replace wc := fun y : Kin x.u => Kin.at (y := y) wc
      replace wd := fun y : Kin x.u => Kin.at (y := y) wd
      clear k2 wp wq
      refine wp_region_kin (by kernel_rfl) (by kernel_rfl) (fun hne => ?_)
      repeat (go_big_quiet_step ((go_at_call 14; exact kin_calls (F1 _))))
      refine wpQuiet_nil ?_
      rintro _ ⟨y, rfl⟩
      replace bx := below_call bx bx.size y.b
      go_wp2_with fail
      replace k0 := fun z : Kin y.u => Kin.at (y := z) k0
      replace k1 := fun z : Kin y.u => Kin.at (y := z) k1
      replace wi := fun z : Kin y.u => Kin.at (y := z) wi
      replace wj := fun z : Kin y.u => Kin.at (y := z) wj
      replace wc := fun z : Kin y.u => Kin.at (y := z) wc
      replace wd := fun z : Kin y.u => Kin.at (y := z) wd
      refine wp_region_kin (by kernel_rfl) (by kernel_rfl) (fun hne => ?_)
      repeat (go_big_quiet_step ((go_at_call 14; exact kin_calls (F2 _))))
      refine wpQuiet_nil ?_
      rintro _ ⟨z, rfl⟩
      replace bx := below_call bx bx.size z.b
      go_wp2_with fail
      go_ret
      exact ⟨by simp, bx⟩
    · simp only [h1] at F1
      simp only [h2] at F2
      clear h1 h2
      go_enter Try.func82, Try.ntmps82
      go_wp2_with fail
      refine wp_region_kin (by kernel_rfl) (by kernel_rfl) (fun hne => ?_)
      repeat (go_big_quiet_step (fail))
      refine wpQuiet_nil ?_
      rintro _ ⟨x, rfl⟩
      go_wp2_with fail
      have bx := x.b
      replace k0 := fun y : Kin x.u => Kin.at (y := y) k0
      replace k1 := fun y : Kin x.u => Kin.at (y := y) k1
      replace wi := fun y : Kin x.u => Kin.at (y := y) wi
      replace wj := fun y : Kin x.u => Kin.at (y := y) wj
      replace wc := fun y : Kin x.u => Kin.at (y := y) wc
      replace wd := fun y : Kin x.u => Kin.at (y := y) wd
      clear k2 wp wq
      refine wp_region_kin (by kernel_rfl) (by kernel_rfl) (fun hne => ?_)
      repeat (go_big_quiet_step ((go_at_call 14; exact kin_calls (F1 _))))
      refine wpQuiet_nil ?_
      rintro _ ⟨y, rfl⟩
      replace bx := below_call bx bx.size y.b
      go_wp2_with fail
      replace k0 := fun z : Kin y.u => Kin.at (y := z) k0
      replace k1 := fun z : Kin y.u => Kin.at (y := z) k1
      replace wi := fun z : Kin y.u => Kin.at (y := z) wi
      replace wj := fun z : Kin y.u => Kin.at (y := z) wj
      replace wc := fun z : Kin y.u => Kin.at (y := z) wc
      replace wd := fun z : Kin y.u => Kin.at (y := z) wd
      refine wp_region_kin (by kernel_rfl) (by kernel_rfl) (fun hne => ?_)
      repeat (go_big_quiet_step ((go_at_call 14; exact kin_calls (F2 _))))
      refine wpQuiet_nil ?_
      rintro _ ⟨z, rfl⟩
      replace bx := below_call bx bx.size z.b
      go_wp2_with fail
      go_ret
      exact ⟨by simp, bx⟩
  · simp only [h1] at F1
    clear h1 F2
    go_enter Try.func82, Try.ntmps82
    go_wp2_with fail
    refine wp_region_kin (by kernel_rfl) (by kernel_rfl) (fun hne => ?_)
    repeat (go_big_quiet_step (fail))
    refine wpQuiet_nil ?_
    rintro _ ⟨x, rfl⟩
    go_wp2_with fail
    have bx := x.b
    replace k0 := fun y : Kin x.u => Kin.at (y := y) k0
    replace k1 := fun y : Kin x.u => Kin.at (y := y) k1
    replace wi := fun y : Kin x.u => Kin.at (y := y) wi
    replace wj := fun y : Kin x.u => Kin.at (y := y) wj
    replace wc := fun y : Kin x.u => Kin.at (y := y) wc
    replace wd := fun y : Kin x.u => Kin.at (y := y) wd
    clear k2 wp wq
    refine wp_region_kin (by kernel_rfl) (by kernel_rfl) (fun hne => ?_)
    repeat (go_big_quiet_step ((go_at_call 14; exact kin_calls (F1 _))))
    refine wpQuiet_nil ?_
    rintro _ ⟨y, rfl⟩
    replace bx := below_call bx bx.size y.b
    go_wp2_with fail
    go_ret
    exact ⟨by simp, bx⟩

end Go.Proofs.Ytdneohbgdhoigaa.Crew
