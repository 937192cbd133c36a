/-
  Down the list: a List in a block, and whether it is right. spec's and impl's answer alike at every two slices and two numbers.
-/
import Derived.Test.YtcmeimfjedakeaaGreatListMath
import Derived.Test.YtcmeimfjedakeaaGreatSmoothAns
import Derived.Deep.RegionWith
import Derived.Deep.QuietTactic
import Derived.BigQuiet
namespace Go.Proofs.YtcmeimfjedakeaaGreat.Crew
open Go.ChangeShapes Go.WideShapes Go.ChangeAt Go.RowKit

abbrev lv (x y : Value) (t p : Int) : Value := .agg #[x, y, .int .i64 t, .int .i64 p]

/-- The cells of a List. -/
abbrev lc (x y : Value) (t p : Int) : Array Value := #[x, y, .int .i64 t, .int .i64 p]

/-- Block b holds the List. -/
def Quad (w : World) (b : Nat) (x y : Value) (t p : Int) : Prop := w.heap[b]? = some (.cells #[x, y, .int .i64 t, .int .i64 p] 31 (0, 0))

theorem Quad.c0 {w : World} {b : Nat} {x y : Value} {t p : Int} (h : Quad w b x y t p) : w.cell? ⟨b, 0, none⟩ = some x := cell_pair h 0

theorem Quad.c1 {w : World} {b : Nat} {x y : Value} {t p : Int} (h : Quad w b x y t p) : w.cell? ⟨b, 1, none⟩ = some y := cell_pair h 1

theorem Quad.c2 {w : World} {b : Nat} {x y : Value} {t p : Int} (h : Quad w b x y t p) : w.cell? ⟨b, 2, none⟩ = some (.int .i64 t) := cell_pair h 2

theorem Quad.c3 {w : World} {b : Nat} {x y : Value} {t p : Int} (h : Quad w b x y t p) : w.cell? ⟨b, 3, none⟩ = some (.int .i64 p) := cell_pair h 3

theorem Quad.fr {w : World} {b : Nat} {x y : Value} {t p : Int} (h : Quad w b x y t p) (j : Nat) : w.frozen? ⟨b, j, none⟩ = false := frozen_of_row w b j _ _ h

theorem Quad.lt {w : World} {b : Nat} {x y : Value} {t p : Int} (h : Quad w b x y t p) : b < w.heap.size := (Array.getElem?_eq_some_iff.1 h).1

theorem quad_new (w : World) (x y : Value) (t p : Int) : Quad (w.alloc (.cells #[x, y, .int .i64 t, .int .i64 p] 31)) w.heap.size x y t p := heap_alloc_new w _

theorem Quad.other {w w' : World} {b : Nat} {x y : Value} {t p : Int} {row : Option Nat} (h : Quad w b x y t p) (g : w.grownBy w' row) (hb : some b ≠ row) : Quad w' b x y t p := by
  unfold Quad
  rw [g.block b h.lt hb]
  exact h

theorem Quad.alloc {w : World} {b : Nat} {x y : Value} {t p : Int} (h : Quad w b x y t p) (o : Obj) : Quad (w.alloc o) b x y t p := h.other (World.grownBy_alloc w o none) (by simp)

theorem Quad.kept {w w' : World} {b B : Nat} {x y : Value} {t p : Int} (h : Quad w b x y t p) (g : Below B w w') (hb : b < B) : Quad w' b x y t p := by
  unfold Quad
  rw [g.block b hb]
  exact h

theorem Quad.all {w w' : World} {b : Nat} {x y : Value} {t p : Int} (h : Quad w b x y t p) (g : Below w.heap.size w w') : Quad w' b x y t p := h.kept g h.lt

theorem Quad.drew {w : World} {b : Nat} {x y : Value} {t p : Int} (h : Quad w b x y t p) : Quad w.drew b x y t p := h

theorem Quad.set0 {w : World} {b : Nat} {x y : Value} {t p : Int} (h : Quad w b x y t p) (v : Value) : Quad (w.setCell ⟨b, 0, none⟩ v) b v y t p := heap_setCell_same w b 0 _ _ _ h

theorem Quad.set1 {w : World} {b : Nat} {x y : Value} {t p : Int} (h : Quad w b x y t p) (v : Value) : Quad (w.setCell ⟨b, 1, none⟩ v) b x v t p := heap_setCell_same w b 1 _ _ _ h

theorem Quad.set2 {w : World} {b : Nat} {x y : Value} {t p : Int} (h : Quad w b x y t p) (n : Int) : Quad (w.setCell ⟨b, 2, none⟩ (.int .i64 n)) b x y n p := heap_setCell_same w b 2 _ _ _ h

theorem Quad.set3 {w : World} {b : Nat} {x y : Value} {t p : Int} (h : Quad w b x y t p) (n : Int) : Quad (w.setCell ⟨b, 3, none⟩ (.int .i64 n)) b x y t n := heap_setCell_same w b 3 _ _ _ h

theorem Quad.past {w : World} {b b' j : Nat} {x y : Value} {t p : Int} (h : Quad w b x y t p) (hb : b ≠ b') (v : Value) : Quad (w.setCell ⟨b', j, none⟩ v) b x y t p := h.other (grown_at w b' j v) (by simpa using hb)

theorem Quad.wr {w w' : World} {b lo hi : Nat} {x y : Value} {t p : Int} (h : Quad w b x y t p) (k : Wr lo hi w w') (hd : b < lo ∨ hi ≤ b) : Quad w' b x y t p := by
  unfold Quad
  rw [k.block b h.lt hd]
  exact h

theorem info_list : (Tryz.prog.info? 31).map (·.size) = some 4 := by kernel_rfl

theorem ret_quad {fn : Func} {q : Tmp} (h : fn.results = #[.cell q 31]) {tmps : Array Value} {w : World} {g : Nat} {x y : Value} {t p : Int} (hp : tmps.getD q undef = .pointer (some ⟨g, 0, none⟩)) (S : Quad w g x y t p) : (results fn tmps).run Tryz.prog w = .ok (lv x y t p) w :=
  results_cell_row h tmps w g _ _ _ _ hp S Tryz.underlying31 rfl info_list

theorem ret_quad2 {fn : Func} {q u : Tmp} (h : fn.results = #[.cell q 31, .tmp u]) {tmps : Array Value} {w : World} {g : Nat} {x y v : Value} {t p : Int} (hp : tmps.getD q undef = .pointer (some ⟨g, 0, none⟩)) (hv : tmps.getD u undef = v) (S : Quad w g x y t p) : (results fn tmps).run Tryz.prog w = .ok (.tuple #[lv x y t p, v]) w := by
  rw [results_cell_tmp h, hp, hv]
  simp [asAddr, run_loadVar_row w g _ 31 _ _ _ S Tryz.underlying31 rfl info_list]

theorem listOk_end {cs hs : List Int} {t p : Int} (h1 : crewOk cs = true) (h2 : hs.length = cs.length) (h3 : within p 0 ((cs.length : Int) - 1) = true) (h4 : hadTo cs hs hs.length = true) : listOk cs hs t p = decide (sumI hs = t) := by
  rw [listOk, h1, h3, h4]; simp [h2]

theorem hads_small {cs hs : List Int} (hc : crewOk cs = true) (h : hadTo cs hs hs.length = true) : Small hs := by
  intro n hn
  obtain ⟨k, hk, rfl⟩ := List.getElem_of_mem hn
  have h1 := hadTo_get h hk
  have h2 := crew_get hc k
  have e : hs.getD k 0 = hs[k] := by simp [List.getD, hk]
  rw [e] at h1
  omega

/-- spec.ListOk. -/
theorem specListX (a : Option Addr) (len cap : Nat) (cs : List Int) (a' : Option Addr) (len' cap' : Nat) (hs : List Int) (t p : Int) (w : World) (I : Ints w a len cs) (J : Ints w a' len' hs) (hsz : (len : Int) ≤ 1048576) :
    Calls Tryz.prog 144 #[lv (.slice a len cap) (.slice a' len' cap') t p] w fun e w' => e = .returned (.bool (listOk cs hs t p)) ∧ Below w.heap.size w w' := by
  have HI : Hid (Ints (w.alloc (.cells (lc (.slice a len cap) (.slice a' len' cap') t p) 31)) a len cs) := I.alloc _
  have HJ : Hid (Ints (w.alloc (.cells (lc (.slice a len cap) (.slice a' len' cap') t p) 31)) a' len' hs) := J.alloc _
  have HB : Hid (Below w.heap.size w (w.alloc (.cells (lc (.slice a len cap) (.slice a' len' cap') t p) 31))) := below_new _ _
  have hl := I.1
  have hl' := J.1
  clear I J
  cases hc : crewOk cs
  · have e : listOk cs hs t p = false := by simp [listOk, hc]
    rw [e]
    have HC : Hid (crewOk cs = false) := hc
    clear hc e
    go_enter Tryz.func144, Tryz.ntmps144
    go_wp2_with fail
    refine (specCrewOk a len cap cs _ HI.out hsz).mono ?_
    rw [HC.out]
    rintro e w' ⟨rfl, rfl⟩
    go_wp2_with fail
    go_ret
    exact ⟨rfl, HB.out⟩
  · have HC : Hid (crewOk cs = true) := hc
    have hs24 : (len : Int) ≤ 24 := by have := crew_len hc; omega
    have hs1 : (1 : Int) ≤ (len : Int) := by have := crew_len hc; omega
    by_cases hll : len' = len
    · have hne : ((len' : Int) != (len : Int)) = false := by simp [hll]
      cases hw : within p 0 ((len : Int) - 1)
      · have e : listOk cs hs t p = false := by
          rw [listOk, hl, hw]; simp
        rw [e]
        have HW : Hid (within p 0 ((len : Int) - 1) = false) := hw
        clear hc e hw hll
        go_enter Tryz.func144, Tryz.ntmps144
        go_wp2_with fail
        refine (specCrewOk a len cap cs _ HI.out hsz).mono ?_
        rw [HC.out]
        rintro e w' ⟨rfl, rfl⟩
        go_wp2_with fail
        refine (in_any p _ _ _).mono ?_
        rw [HW.out]
        rintro e w' ⟨rfl, rfl⟩
        go_wp2_with fail
        go_ret
        exact ⟨rfl, HB.out⟩
      · have HW : Hid (within p 0 ((len : Int) - 1) = true) := hw
        have LL : Hid (hs.length = cs.length ∧ hs.length = len' ∧ cs.length = len ∧ len' = len) := ⟨by omega, by omega, by omega, hll⟩
        have hs24' : (len' : Int) ≤ 24 := by omega
        clear hc hl hl' hll hw
        go_enter Tryz.func144, Tryz.ntmps144
        go_wp2_with fail
        refine (specCrewOk a len cap cs _ HI.out hsz).mono ?_
        rw [HC.out]
        rintro e w' ⟨rfl, rfl⟩
        go_wp2_with fail
        refine (in_any p _ _ _).mono ?_
        rw [HW.out]
        rintro e w' ⟨rfl, rfl⟩
        go_wp2_with fail
        have HQ : Hid (Quad (w.alloc (.cells #[.slice a len cap, .slice a' len' cap', .int .i64 t, .int .i64 p] 31)) w.heap.size (.slice a len cap) (.slice a' len' cap') t p ∧ Ints (w.alloc (.cells #[.slice a len cap, .slice a' len' cap', .int .i64 t, .int .i64 p] 31)) a len cs ∧ Ints (w.alloc (.cells #[.slice a len cap, .slice a' len' cap', .int .i64 t, .int .i64 p] 31)) a' len' hs ∧ Below w.heap.size w (w.alloc (.cells #[.slice a len cap, .slice a' len' cap', .int .i64 t, .int .i64 p] 31))) := ⟨quad_new w _ _ t p, HI.out, HJ.out, HB.out⟩
        clear HI HJ HB
        generalize w.alloc (.cells #[.slice a len cap, .slice a' len' cap', .int .i64 t, .int .i64 p] 31) = W at *
        go_loopw [3] (fun i wr => ∃ k : Nat, k ≤ len' ∧ i = .int .i64 k ∧ Hid (hadTo cs hs k = true) ∧ Hid (Quad wr w.heap.size (.slice a len cap) (.slice a' len' cap') t p ∧ Ints wr a len cs ∧ Ints wr a' len' hs ∧ Below w.heap.size w wr)) (fun i _ => len' - (intOf i).toNat)
        case atStart => exact ⟨0, Nat.zero_le _, rfl, by show _ = _; rfl, HQ⟩
        case round =>
          obtain ⟨k, hk, rfl, A, Q⟩ := hrel
          have r0 := Q.out.1.c0
          have r1 := Q.out.1.c1
          have r2 := Q.out.1.c2
          by_cases hlt : k < len'
          · obtain ⟨_, h0 | ⟨b, off, rfl, hb, hcc⟩⟩ := id Q.out.2.1
            · have := LL.out; omega
            obtain ⟨_, h0 | ⟨b', off', rfl, hb', hcc'⟩⟩ := id Q.out.2.2.1
            · omega
            obtain ⟨x, hx⟩ : ∃ x, x = hs.getD k 0 := ⟨_, rfl⟩
            obtain ⟨c, hc⟩ : ∃ c, c = cs.getD k 0 := ⟨_, rfl⟩
            have c1 := hcc' k hlt
            have c2 := hcc k (by have := LL.out; omega)
            rw [← hx] at c1
            rw [← hc] at c2
            have X : Hid (x = hs.getD k 0 ∧ c = cs.getD k 0) := ⟨hx, hc⟩
            have hlt' : (k : Int) < (len' : Int) := by omega
            have hlt2 : (k : Int) < (len : Int) := by have := LL.out; omega
            have T := fun n => in_any x 0 c (wr.drewN n)
            clear hcc hcc' hx hc
            go_wp2_with fail
            cases hw : within x 0 c
            · have HX : Hid (within x 0 c = false) := hw
              simp only [hw] at T
              have T2 := hid T
              clear T hw
              go_quiet ((go_at_call 107; exact Calls.quiet_of_same (T2.out _)))
              go_wp2_with fail
              go_ret
              have : listOk cs hs t p = false := by
                have h := hadTo_no (cs := cs) (hs := hs) (n := hs.length) (k := k) (by have := LL.out; omega) (by rw [← X.out.1, ← X.out.2]; exact HX.out)
                rw [listOk, h]; simp
              exact ⟨by rw [this]; rfl, below_drewN Q.out.2.2.2 _⟩
            · have HX : Hid (within x 0 c = true) := hw
              simp only [hw] at T
              have T2 := hid T
              clear T hw
              go_quiet ((go_at_call 107; exact Calls.quiet_of_same (T2.out _)))
              go_wp2_with fail
              go_roundw
              case rel => exact ⟨k + 1, by omega, by go_num, by show _ = _; rw [hadTo, A.out, ← X.out.1, ← X.out.2, HX.out]; rfl, Q.out.1, ints_drewN Q.out.2.1 _, ints_drewN Q.out.2.2.1 _, below_drewN Q.out.2.2.2 _⟩
              case measure => simp [intOf]; omega
          · have hlt' : ¬ (k : Int) < (len' : Int) := by omega
            have hA : Hid (hadTo cs hs hs.length = true) := by
              have h := A.out
              have e : k = hs.length := by have := LL.out; omega
              rwa [e] at h
            have T := hid (fun n => sum_any a' len' cap' hs (wr.drewN n) (ints_drewN Q.out.2.2.1 n) (by omega) (hads_small HC.out hA.out))
            go_wp2_with fail
            go_quiet ((go_at_call 115; exact Calls.quiet_of_same (T.out _)))
            go_wp2_with fail
            go_ret
            refine ⟨?_, below_drewN Q.out.2.2.2 _⟩
            rw [listOk_end HC.out LL.out.1 (by rw [LL.out.2.2.1]; exact HW.out) hA.out]
            simp [BEq.beq, eq_comm]
    · have hne : ((len' : Int) != (len : Int)) = true := by simp; omega
      have e : listOk cs hs t p = false := by
        have : ¬ hs.length = cs.length := by omega
        simp [listOk, this]
      rw [e]
      clear hc e
      go_enter Tryz.func144, Tryz.ntmps144
      go_wp2_with fail
      refine (specCrewOk a len cap cs _ HI.out hsz).mono ?_
      rw [HC.out]
      rintro e w' ⟨rfl, rfl⟩
      go_wp2_with fail
      go_ret
      exact ⟨rfl, HB.out⟩

end Go.Proofs.YtcmeimfjedakeaaGreat.Crew
