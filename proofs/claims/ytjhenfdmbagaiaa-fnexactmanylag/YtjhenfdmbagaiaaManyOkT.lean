/-
  Several processors: impl.ManyOk and spec.ManyOk answer alike.
-/
import Derived.Test.YtjhenfdmbagaiaaManyBase
namespace Go.Proofs.Ytjhenfdmbagaiaa.Crew
open Go.ChangeShapes Go.WideShapes Go.ChangeAt Go.RowKit

/-- impl.ManyOk. -/
theorem implManyX (a : Option Addr) (len cap : Nat) (ps : List Shr) (a' : Option Addr) (len' cap' : Nat) (ns : List Int) (t p : Int) (w : World) (I : Shs w a len ps) (J : Ints w a' len' ns) (hsz : (len : Int) ≤ 1048576) :
    Calls Try.prog 18 #[mv (.slice a len cap) (.slice a' len' cap') t p] w fun e w' => e = .returned (.bool (manyOk ps ns t p)) ∧ Below w.heap.size w w' := by
  have HI : Hid (Shs (w.alloc (.cells (mc (.slice a len cap) (.slice a' len' cap') t p) 33)) a len ps) := I.alloc _
  have HJ : Hid (Ints (w.alloc (.cells (mc (.slice a len cap) (.slice a' len' cap') t p) 33)) a' len' ns) := J.alloc _
  have HQ : Hid (Mny (w.alloc (.cells (mc (.slice a len cap) (.slice a' len' cap') t p) 33)) w.heap.size (.slice a len cap) (.slice a' len' cap') t p) := mny_new _ _ _ _ _
  have HB : Hid (Below w.heap.size w (w.alloc (.cells (mc (.slice a len cap) (.slice a' len' cap') t p) 33))) := below_new _ _
  have hl := I.1
  have hl' := J.1
  clear I J
  cases hc : fitsOn ps t
  · have HC : Hid (fitsOn ps t = false) := hc
    rw [many_fits hc]
    clear hc
    go_enter Try.func18, Try.ntmps18
    go_wp2_with fail
    refine (implFits a len cap ps t _ HI.out hsz).mono ?_
    rw [HC.out]
    rintro e w1 ⟨rfl, B1⟩
    go_wp2_with fail
    go_ret
    exact ⟨rfl, below_call HB.out HB.out.size B1⟩
  · have HC : Hid (fitsOn ps t = true) := hc
    have hs24 : (len : Int) ≤ 24 := by have := fits_len hc; omega
    by_cases hll : len' = len
    · have hne : ((len' : Int) != (len : Int)) = false := by simp [hll]
      have hs24' : (len' : Int) ≤ 24 := by omega
      cases hw : within p 0 1000000
      · rw [many_now hw]
        have HW : Hid (within p 0 1000000 = false) := hw
        clear hc hw hll
        go_enter Try.func18, Try.ntmps18
        go_wp2_with fail
        refine (implFits a len cap ps t _ HI.out hsz).mono ?_
        rw [HC.out]
        rintro e w1 ⟨rfl, B1⟩
        have Q1 := HQ.out.all B1
        have r0 := Q1.c0
        have r1 := Q1.c1
        have r3 := Q1.c3
        have HB1 : Hid (Below w.heap.size w w1) := below_call HB.out HB.out.size B1
        clear B1 Q1
        go_wp2_with fail
        refine (countOk_any p _).mono ?_
        rw [HW.out]
        rintro e w' ⟨rfl, rfl⟩
        go_wp2_with fail
        go_ret
        exact ⟨rfl, HB1.out⟩
      · have HW : Hid (within p 0 1000000 = true) := hw
        have LL : Hid (ns.length = ps.length ∧ ns.length = len' ∧ ps.length = len ∧ len' = len) := ⟨by omega, by omega, by omega, hll⟩
        clear hc hl hl' hll hw
        go_enter Try.func18, Try.ntmps18
        go_wp2_with fail
        refine (implFits a len cap ps t _ HI.out hsz).mono ?_
        rw [HC.out]
        rintro e w1 ⟨rfl, B1⟩
        have Q1 := HQ.out.all B1
        have r0 := Q1.c0
        have r1 := Q1.c1
        have r3 := Q1.c3
        have HQ1 : Hid (Ints w1 a' len' ns ∧ Below w.heap.size w w1) := ⟨HJ.out.kept B1, below_call HB.out HB.out.size B1⟩
        clear B1 Q1 HI HJ HQ HB
        go_wp2_with fail
        refine (countOk_any p _).mono ?_
        rw [HW.out]
        rintro e wq ⟨rfl, rfl⟩
        go_wp2_with fail
        go_loopw [4, 29] (fun _ i wr => ∃ k : Nat, k ≤ len' ∧ i = .int .i64 k ∧ Hid (cnts (ns.take k) = true) ∧ Hid (∃ m, wr = wq.drewN m)) (fun _ i _ => len' - (intOf i).toNat)
        case atStart => exact ⟨0, Nat.zero_le _, rfl, by show _ = _; simp [cnts], 0, rfl⟩
        case round =>
          obtain ⟨k, hk, rfl, A, Q⟩ := hrel
          obtain ⟨m, rfl⟩ := Q.out
          by_cases hlt : k < len'
          · obtain ⟨_, h0 | ⟨b', off', rfl, hb', hcc'⟩⟩ := id HQ1.out.1
            · omega
            obtain ⟨x, hx⟩ : ∃ x, x = ns.getD k 0 := ⟨_, rfl⟩
            have c1 := hcc' k hlt
            rw [← hx] at c1
            have X : Hid (x = ns.getD k 0) := hx
            have hlt' : (k : Int) < (len' : Int) := by omega
            clear hcc' hx
            cases hw : within x 0 1000000
            · have HX : Hid (within x 0 1000000 = false) := hw
              clear hw
              go_wp2_with fail
              refine (countOk_any x _).mono ?_
              rw [HX.out]
              rintro e w' ⟨rfl, rfl⟩
              go_wp2_with fail
              go_ret
              exact ⟨by rw [many_no (k := k) (by have := LL.out; omega) (by rw [← X.out]; exact HX.out)]; rfl, below_drewN HQ1.out.2 _⟩
            · have HX : Hid (within x 0 1000000 = true) := hw
              clear hw
              go_wp2_with fail
              refine (countOk_any x _).mono ?_
              rw [HX.out]
              rintro e w' ⟨rfl, rfl⟩
              go_wp2_with fail
              go_roundw
              case rel => exact ⟨k + 1, by omega, by go_num, by show _ = _; exact cnts_snoc (by have := LL.out; omega) A.out (by rw [← X.out]; exact HX.out), m, rfl⟩
              case measure => simp [intOf]; omega
          · have hlt' : ¬ (k : Int) < (len' : Int) := by omega
            have hA : Hid (cnts ns = true) := by
              have h := A.out
              rwa [List.take_of_length_le (by have := LL.out; omega)] at h
            go_wp2_with fail
            go_ret
            exact ⟨by rw [many_end HC.out LL.out.1 HW.out hA.out]; rfl, below_drewN HQ1.out.2 _⟩
    · have hne : ((len' : Int) != (len : Int)) = true := by simp; omega
      rw [many_len (by omega)]
      clear hc
      go_enter Try.func18, Try.ntmps18
      go_wp2_with fail
      refine (implFits a len cap ps t _ HI.out hsz).mono ?_
      rw [HC.out]
      rintro e w1 ⟨rfl, B1⟩
      have Q1 := HQ.out.all B1
      have r0 := Q1.c0
      have r1 := Q1.c1
      have HB1 : Hid (Below w.heap.size w w1) := below_call HB.out HB.out.size B1
      clear B1 Q1
      go_wp2_with fail
      go_ret
      exact ⟨rfl, HB1.out⟩

/-- spec.ManyOk. -/
theorem specManyX (a : Option Addr) (len cap : Nat) (ps : List Shr) (a' : Option Addr) (len' cap' : Nat) (ns : List Int) (t p : Int) (w : World) (I : Shs w a len ps) (J : Ints w a' len' ns) (hsz : (len : Int) ≤ 1048576) :
    Calls Try.prog 21 #[mv (.slice a len cap) (.slice a' len' cap') t p] w fun e w' => e = .returned (.bool (manyOk ps ns t p)) ∧ Below w.heap.size w w' := by
  have HI : Hid (Shs (w.alloc (.cells (mc (.slice a len cap) (.slice a' len' cap') t p) 33)) a len ps) := I.alloc _
  have HJ : Hid (Ints (w.alloc (.cells (mc (.slice a len cap) (.slice a' len' cap') t p) 33)) a' len' ns) := J.alloc _
  have HQ : Hid (Mny (w.alloc (.cells (mc (.slice a len cap) (.slice a' len' cap') t p) 33)) w.heap.size (.slice a len cap) (.slice a' len' cap') t p) := mny_new _ _ _ _ _
  have HB : Hid (Below w.heap.size w (w.alloc (.cells (mc (.slice a len cap) (.slice a' len' cap') t p) 33))) := below_new _ _
  have hl := I.1
  have hl' := J.1
  clear I J
  cases hc : fitsOn ps t
  · have HC : Hid (fitsOn ps t = false) := hc
    rw [many_fits hc]
    clear hc
    go_enter Try.func21, Try.ntmps21
    go_wp2_with fail
    refine (specFits a len cap ps t _ HI.out hsz).mono ?_
    rw [HC.out]
    rintro e w1 ⟨rfl, B1⟩
    go_wp2_with fail
    go_ret
    exact ⟨rfl, below_call HB.out HB.out.size B1⟩
  · have HC : Hid (fitsOn ps t = true) := hc
    have hs24 : (len : Int) ≤ 24 := by have := fits_len hc; omega
    by_cases hll : len' = len
    · have hne : ((len' : Int) != (len : Int)) = false := by simp [hll]
      have hs24' : (len' : Int) ≤ 24 := by omega
      cases hw : within p 0 1000000
      · rw [many_now hw]
        have HW : Hid (within p 0 1000000 = false) := hw
        clear hc hw hll
        go_enter Try.func21, Try.ntmps21
        go_wp2_with fail
        refine (specFits a len cap ps t _ HI.out hsz).mono ?_
        rw [HC.out]
        rintro e w1 ⟨rfl, B1⟩
        have Q1 := HQ.out.all B1
        have r0 := Q1.c0
        have r1 := Q1.c1
        have r3 := Q1.c3
        have HB1 : Hid (Below w.heap.size w w1) := below_call HB.out HB.out.size B1
        clear B1 Q1
        go_wp2_with fail
        refine (in_any p 0 1000000 _).mono ?_
        rw [HW.out]
        rintro e w' ⟨rfl, rfl⟩
        go_wp2_with fail
        go_ret
        exact ⟨rfl, HB1.out⟩
      · have HW : Hid (within p 0 1000000 = true) := hw
        have LL : Hid (ns.length = ps.length ∧ ns.length = len' ∧ ps.length = len ∧ len' = len) := ⟨by omega, by omega, by omega, hll⟩
        clear hc hl hl' hll hw
        go_enter Try.func21, Try.ntmps21
        go_wp2_with fail
        refine (specFits a len cap ps t _ HI.out hsz).mono ?_
        rw [HC.out]
        rintro e w1 ⟨rfl, B1⟩
        have Q1 := HQ.out.all B1
        have r0 := Q1.c0
        have r1 := Q1.c1
        have r3 := Q1.c3
        have HQ1 : Hid (Ints w1 a' len' ns ∧ Below w.heap.size w w1) := ⟨HJ.out.kept B1, below_call HB.out HB.out.size B1⟩
        clear B1 Q1 HI HJ HQ HB
        go_wp2_with fail
        refine (in_any p 0 1000000 _).mono ?_
        rw [HW.out]
        rintro e wq ⟨rfl, rfl⟩
        go_wp2_with fail
        go_loopw [3] (fun i wr => ∃ k : Nat, k ≤ len' ∧ i = .int .i64 k ∧ Hid (cnts (ns.take k) = true) ∧ Hid (∃ m, wr = wq.drewN m)) (fun i _ => len' - (intOf i).toNat)
        case atStart => exact ⟨0, Nat.zero_le _, rfl, by show _ = _; simp [cnts], 0, rfl⟩
        case round =>
          obtain ⟨k, hk, rfl, A, Q⟩ := hrel
          obtain ⟨m, rfl⟩ := Q.out
          by_cases hlt : k < len'
          · obtain ⟨_, h0 | ⟨b', off', rfl, hb', hcc'⟩⟩ := id HQ1.out.1
            · omega
            obtain ⟨x, hx⟩ : ∃ x, x = ns.getD k 0 := ⟨_, rfl⟩
            have c1 := hcc' k hlt
            rw [← hx] at c1
            have X : Hid (x = ns.getD k 0) := hx
            have hlt' : (k : Int) < (len' : Int) := by omega
            clear hcc' hx
            cases hw : within x 0 1000000
            · have HX : Hid (within x 0 1000000 = false) := hw
              clear hw
              go_wp2_with fail
              refine (in_any x 0 1000000 _).mono ?_
              rw [HX.out]
              rintro e w' ⟨rfl, rfl⟩
              go_wp2_with fail
              go_ret
              exact ⟨by rw [many_no (k := k) (by have := LL.out; omega) (by rw [← X.out]; exact HX.out)]; rfl, below_drewN HQ1.out.2 _⟩
            · have HX : Hid (within x 0 1000000 = true) := hw
              clear hw
              go_wp2_with fail
              refine (in_any x 0 1000000 _).mono ?_
              rw [HX.out]
              rintro e w' ⟨rfl, rfl⟩
              go_wp2_with fail
              go_roundw
              case rel => exact ⟨k + 1, by omega, by go_num, by show _ = _; exact cnts_snoc (by have := LL.out; omega) A.out (by rw [← X.out]; exact HX.out), m, rfl⟩
              case measure => simp [intOf]; omega
          · have hlt' : ¬ (k : Int) < (len' : Int) := by omega
            have hA : Hid (cnts ns = true) := by
              have h := A.out
              rwa [List.take_of_length_le (by have := LL.out; omega)] at h
            go_wp2_with fail
            go_ret
            exact ⟨by rw [many_end HC.out LL.out.1 HW.out hA.out]; rfl, below_drewN HQ1.out.2 _⟩
    · have hne : ((len' : Int) != (len : Int)) = true := by simp; omega
      rw [many_len (by omega)]
      clear hc
      go_enter Try.func21, Try.ntmps21
      go_wp2_with fail
      refine (specFits a len cap ps t _ HI.out hsz).mono ?_
      rw [HC.out]
      rintro e w1 ⟨rfl, B1⟩
      have Q1 := HQ.out.all B1
      have r0 := Q1.c0
      have r1 := Q1.c1
      have HB1 : Hid (Below w.heap.size w w1) := below_call HB.out HB.out.size B1
      clear B1 Q1
      go_wp2_with fail
      go_ret
      exact ⟨rfl, HB1.out⟩

end Go.Proofs.Ytjhenfdmbagaiaa.Crew
