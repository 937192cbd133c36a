/-
  Several processors: impl.ManyOk and spec.ManyOk answer alike, and so do impl.ManyLag and spec.ManyLag.
-/
import Derived.Test.YtjhenfdmbagaiaaGreatManyBase
namespace Go.Proofs.YtjhenfdmbagaiaaGreat.Crew
open Go.ChangeShapes Go.WideShapes Go.ChangeAt Go.RowKit

/-- impl.ManyOk. -/
theorem implManyX (a : Option Addr) (len cap : Nat) (ps : List Shr) (a' : Option Addr) (len' cap' : Nat) (ns : List Int) (t p : Int) (w : World) (I : Shs w a len ps) (J : Ints w a' len' ns) (hsz : (len : Int) ≤ 1048576) :
    Calls Tryz.prog 19 #[mv (.slice a len cap) (.slice a' len' cap') t p] w fun e w' => e = .returned (.bool (manyOk ps ns t p)) ∧ Below w.heap.size w w' := by
  have HI : Hid (Shs (w.alloc (.cells (mc (.slice a len cap) (.slice a' len' cap') t p) 27)) a len ps) := I.alloc _
  have HJ : Hid (Ints (w.alloc (.cells (mc (.slice a len cap) (.slice a' len' cap') t p) 27)) a' len' ns) := J.alloc _
  have HQ : Hid (Mny (w.alloc (.cells (mc (.slice a len cap) (.slice a' len' cap') t p) 27)) w.heap.size (.slice a len cap) (.slice a' len' cap') t p) := mny_new _ _ _ _ _
  have HB : Hid (Below w.heap.size w (w.alloc (.cells (mc (.slice a len cap) (.slice a' len' cap') t p) 27))) := below_new _ _
  have hl := I.1
  have hl' := J.1
  clear I J
  cases hc : fitsOn ps t
  · have HC : Hid (fitsOn ps t = false) := hc
    rw [many_fits hc]
    clear hc
    go_enter Tryz.func19, Tryz.ntmps19
    go_wp2_with fail
    refine (implFits a len cap ps t _ HI.out hsz).mono ?_
    rw [HC.out]
    rintro e w1 ⟨rfl, B1⟩
    go_wp2_with fail
    go_ret
    exact ⟨rfl, below_call HB.out HB.out.size B1⟩
  · have HC : Hid (fitsOn ps t = true) := hc
    have hs24 : (len : Int) ≤ 24 := by have := fits_len hc; omega
    by_cases hll : len' = len
    · have hne : ((len' : Int) != (len : Int)) = false := by simp [hll]
      have hs24' : (len' : Int) ≤ 24 := by omega
      cases hw : within p 0 1000000
      · rw [many_now hw]
        have HW : Hid (within p 0 1000000 = false) := hw
        clear hc hw hll
        go_enter Tryz.func19, Tryz.ntmps19
        go_wp2_with fail
        refine (implFits a len cap ps t _ HI.out hsz).mono ?_
        rw [HC.out]
        rintro e w1 ⟨rfl, B1⟩
        have Q1 := HQ.out.all B1
        have r0 := Q1.c0
        have r1 := Q1.c1
        have r3 := Q1.c3
        have HB1 : Hid (Below w.heap.size w w1) := below_call HB.out HB.out.size B1
        clear B1 Q1
        go_wp2_with fail
        refine (countOk_any p _).mono ?_
        rw [HW.out]
        rintro e w' ⟨rfl, rfl⟩
        go_wp2_with fail
        go_ret
        exact ⟨rfl, HB1.out⟩
      · have HW : Hid (within p 0 1000000 = true) := hw
        have LL : Hid (ns.length = ps.length ∧ ns.length = len' ∧ ps.length = len ∧ len' = len) := ⟨by omega, by omega, by omega, hll⟩
        clear hc hl hl' hll hw
        go_enter Tryz.func19, Tryz.ntmps19
        go_wp2_with fail
        refine (implFits a len cap ps t _ HI.out hsz).mono ?_
        rw [HC.out]
        rintro e w1 ⟨rfl, B1⟩
        have Q1 := HQ.out.all B1
        have r0 := Q1.c0
        have r1 := Q1.c1
        have r3 := Q1.c3
        have HQ1 : Hid (Ints w1 a' len' ns ∧ Below w.heap.size w w1) := ⟨HJ.out.kept B1, below_call HB.out HB.out.size B1⟩
        clear B1 Q1 HI HJ HQ HB
        go_wp2_with fail
        refine (countOk_any p _).mono ?_
        rw [HW.out]
        rintro e wq ⟨rfl, rfl⟩
        go_wp2_with fail
        go_loopw [4, 29] (fun _ i wr => ∃ k : Nat, k ≤ len' ∧ i = .int .i64 k ∧ Hid (cnts (ns.take k) = true) ∧ Hid (∃ m, wr = wq.drewN m)) (fun _ i _ => len' - (intOf i).toNat)
        case atStart => exact ⟨0, Nat.zero_le _, rfl, by show _ = _; simp [cnts], 0, rfl⟩
        case round =>
          obtain ⟨k, hk, rfl, A, Q⟩ := hrel
          obtain ⟨m, rfl⟩ := Q.out
          by_cases hlt : k < len'
          · obtain ⟨_, h0 | ⟨b', off', rfl, hb', hcc'⟩⟩ := id HQ1.out.1
            · omega
            obtain ⟨x, hx⟩ : ∃ x, x = ns.getD k 0 := ⟨_, rfl⟩
            have c1 := hcc' k hlt
            rw [← hx] at c1
            have X : Hid (x = ns.getD k 0) := hx
            have hlt' : (k : Int) < (len' : Int) := by omega
            clear hcc' hx
            cases hw : within x 0 1000000
            · have HX : Hid (within x 0 1000000 = false) := hw
              clear hw
              go_wp2_with fail
              refine (countOk_any x _).mono ?_
              rw [HX.out]
              rintro e w' ⟨rfl, rfl⟩
              go_wp2_with fail
              go_ret
              exact ⟨by rw [many_no (k := k) (by have := LL.out; omega) (by rw [← X.out]; exact HX.out)]; rfl, below_drewN HQ1.out.2 _⟩
            · have HX : Hid (within x 0 1000000 = true) := hw
              clear hw
              go_wp2_with fail
              refine (countOk_any x _).mono ?_
              rw [HX.out]
              rintro e w' ⟨rfl, rfl⟩
              go_wp2_with fail
              go_roundw
              case rel => exact ⟨k + 1, by omega, by go_num, by show _ = _; exact cnts_snoc (by have := LL.out; omega) A.out (by rw [← X.out]; exact HX.out), m, rfl⟩
              case measure => simp [intOf]; omega
          · have hlt' : ¬ (k : Int) < (len' : Int) := by omega
            have hA : Hid (cnts ns = true) := by
              have h := A.out
              rwa [List.take_of_length_le (by have := LL.out; omega)] at h
            go_wp2_with fail
            go_ret
            exact ⟨by rw [many_end HC.out LL.out.1 HW.out hA.out]; rfl, below_drewN HQ1.out.2 _⟩
    · have hne : ((len' : Int) != (len : Int)) = true := by simp; omega
      rw [many_len (by omega)]
      clear hc
      go_enter Tryz.func19, Tryz.ntmps19
      go_wp2_with fail
      refine (implFits a len cap ps t _ HI.out hsz).mono ?_
      rw [HC.out]
      rintro e w1 ⟨rfl, B1⟩
      have Q1 := HQ.out.all B1
      have r0 := Q1.c0
      have r1 := Q1.c1
      have HB1 : Hid (Below w.heap.size w w1) := below_call HB.out HB.out.size B1
      clear B1 Q1
      go_wp2_with fail
      go_ret
      exact ⟨rfl, HB1.out⟩

/-- spec.ManyOk. -/
theorem specManyX (a : Option Addr) (len cap : Nat) (ps : List Shr) (a' : Option Addr) (len' cap' : Nat) (ns : List Int) (t p : Int) (w : World) (I : Shs w a len ps) (J : Ints w a' len' ns) (hsz : (len : Int) ≤ 1048576) :
    Calls Tryz.prog 20 #[mv (.slice a len cap) (.slice a' len' cap') t p] w fun e w' => e = .returned (.bool (manyOk ps ns t p)) ∧ Below w.heap.size w w' := by
  have HI : Hid (Shs (w.alloc (.cells (mc (.slice a len cap) (.slice a' len' cap') t p) 27)) a len ps) := I.alloc _
  have HJ : Hid (Ints (w.alloc (.cells (mc (.slice a len cap) (.slice a' len' cap') t p) 27)) a' len' ns) := J.alloc _
  have HQ : Hid (Mny (w.alloc (.cells (mc (.slice a len cap) (.slice a' len' cap') t p) 27)) w.heap.size (.slice a len cap) (.slice a' len' cap') t p) := mny_new _ _ _ _ _
  have HB : Hid (Below w.heap.size w (w.alloc (.cells (mc (.slice a len cap) (.slice a' len' cap') t p) 27))) := below_new _ _
  have hl := I.1
  have hl' := J.1
  clear I J
  cases hc : fitsOn ps t
  · have HC : Hid (fitsOn ps t = false) := hc
    rw [many_fits hc]
    clear hc
    go_enter Tryz.func20, Tryz.ntmps20
    go_wp2_with fail
    refine (specFits a len cap ps t _ HI.out hsz).mono ?_
    rw [HC.out]
    rintro e w1 ⟨rfl, B1⟩
    go_wp2_with fail
    go_ret
    exact ⟨rfl, below_call HB.out HB.out.size B1⟩
  · have HC : Hid (fitsOn ps t = true) := hc
    have hs24 : (len : Int) ≤ 24 := by have := fits_len hc; omega
    by_cases hll : len' = len
    · have hne : ((len' : Int) != (len : Int)) = false := by simp [hll]
      have hs24' : (len' : Int) ≤ 24 := by omega
      cases hw : within p 0 1000000
      · rw [many_now hw]
        have HW : Hid (within p 0 1000000 = false) := hw
        clear hc hw hll
        go_enter Tryz.func20, Tryz.ntmps20
        go_wp2_with fail
        refine (specFits a len cap ps t _ HI.out hsz).mono ?_
        rw [HC.out]
        rintro e w1 ⟨rfl, B1⟩
        have Q1 := HQ.out.all B1
        have r0 := Q1.c0
        have r1 := Q1.c1
        have r3 := Q1.c3
        have HB1 : Hid (Below w.heap.size w w1) := below_call HB.out HB.out.size B1
        clear B1 Q1
        go_wp2_with fail
        refine (in_any p 0 1000000 _).mono ?_
        rw [HW.out]
        rintro e w' ⟨rfl, rfl⟩
        go_wp2_with fail
        go_ret
        exact ⟨rfl, HB1.out⟩
      · have HW : Hid (within p 0 1000000 = true) := hw
        have LL : Hid (ns.length = ps.length ∧ ns.length = len' ∧ ps.length = len ∧ len' = len) := ⟨by omega, by omega, by omega, hll⟩
        clear hc hl hl' hll hw
        go_enter Tryz.func20, Tryz.ntmps20
        go_wp2_with fail
        refine (specFits a len cap ps t _ HI.out hsz).mono ?_
        rw [HC.out]
        rintro e w1 ⟨rfl, B1⟩
        have Q1 := HQ.out.all B1
        have r0 := Q1.c0
        have r1 := Q1.c1
        have r3 := Q1.c3
        have HQ1 : Hid (Ints w1 a' len' ns ∧ Below w.heap.size w w1) := ⟨HJ.out.kept B1, below_call HB.out HB.out.size B1⟩
        clear B1 Q1 HI HJ HQ HB
        go_wp2_with fail
        refine (in_any p 0 1000000 _).mono ?_
        rw [HW.out]
        rintro e wq ⟨rfl, rfl⟩
        go_wp2_with fail
        go_loopw [3] (fun i wr => ∃ k : Nat, k ≤ len' ∧ i = .int .i64 k ∧ Hid (cnts (ns.take k) = true) ∧ Hid (∃ m, wr = wq.drewN m)) (fun i _ => len' - (intOf i).toNat)
        case atStart => exact ⟨0, Nat.zero_le _, rfl, by show _ = _; simp [cnts], 0, rfl⟩
        case round =>
          obtain ⟨k, hk, rfl, A, Q⟩ := hrel
          obtain ⟨m, rfl⟩ := Q.out
          by_cases hlt : k < len'
          · obtain ⟨_, h0 | ⟨b', off', rfl, hb', hcc'⟩⟩ := id HQ1.out.1
            · omega
            obtain ⟨x, hx⟩ : ∃ x, x = ns.getD k 0 := ⟨_, rfl⟩
            have c1 := hcc' k hlt
            rw [← hx] at c1
            have X : Hid (x = ns.getD k 0) := hx
            have hlt' : (k : Int) < (len' : Int) := by omega
            clear hcc' hx
            cases hw : within x 0 1000000
            · have HX : Hid (within x 0 1000000 = false) := hw
              clear hw
              go_wp2_with fail
              refine (in_any x 0 1000000 _).mono ?_
              rw [HX.out]
              rintro e w' ⟨rfl, rfl⟩
              go_wp2_with fail
              go_ret
              exact ⟨by rw [many_no (k := k) (by have := LL.out; omega) (by rw [← X.out]; exact HX.out)]; rfl, below_drewN HQ1.out.2 _⟩
            · have HX : Hid (within x 0 1000000 = true) := hw
              clear hw
              go_wp2_with fail
              refine (in_any x 0 1000000 _).mono ?_
              rw [HX.out]
              rintro e w' ⟨rfl, rfl⟩
              go_wp2_with fail
              go_roundw
              case rel => exact ⟨k + 1, by omega, by go_num, by show _ = _; exact cnts_snoc (by have := LL.out; omega) A.out (by rw [← X.out]; exact HX.out), m, rfl⟩
              case measure => simp [intOf]; omega
          · have hlt' : ¬ (k : Int) < (len' : Int) := by omega
            have hA : Hid (cnts ns = true) := by
              have h := A.out
              rwa [List.take_of_length_le (by have := LL.out; omega)] at h
            go_wp2_with fail
            go_ret
            exact ⟨by rw [many_end HC.out LL.out.1 HW.out hA.out]; rfl, below_drewN HQ1.out.2 _⟩
    · have hne : ((len' : Int) != (len : Int)) = true := by simp; omega
      rw [many_len (by omega)]
      clear hc
      go_enter Tryz.func20, Tryz.ntmps20
      go_wp2_with fail
      refine (specFits a len cap ps t _ HI.out hsz).mono ?_
      rw [HC.out]
      rintro e w1 ⟨rfl, B1⟩
      have Q1 := HQ.out.all B1
      have r0 := Q1.c0
      have r1 := Q1.c1
      have HB1 : Hid (Below w.heap.size w w1) := below_call HB.out HB.out.size B1
      clear B1 Q1
      go_wp2_with fail
      go_ret
      exact ⟨rfl, HB1.out⟩

end Go.Proofs.YtjhenfdmbagaiaaGreat.Crew

namespace Go.Proofs.YtjhenfdmbagaiaaGreat.Crew
open Go.ChangeShapes Go.WideShapes Go.ChangeAt Go.RowKit

theorem fits_each {ps : List Shr} {q : Int} (h : fitsOn ps q = true) {k : Nat} (hk : k < ps.length) : Win.shareOk (ps.getD k (0, 0)).1 (ps.getD k (0, 0)).2 = true := by
  cases hs : Win.shareOk (ps.getD k (0, 0)).1 (ps.getD k (0, 0)).2
  · exfalso
    have hn : parts ps = none := by
      refine parts_dead (k := k + 1) ?_
      rw [parts_step hk]
      cases hp : parts (ps.take k) with
      | none => rfl
      | some q => exact step_bad hs
    rw [fits_none hn] at h
    cases h
  · rfl

/-- Whether i is one of them, in a Many that is right. -/
def lagIn (ps : List Shr) (ns : List Int) (t p i : Int) : Bool := manyOk ps ns t p && within i 0 ((ps.length : Int) - 1)

def manyLag (ps : List Shr) (ns : List Int) (t p i : Int) : Int :=
  if lagIn ps ns t p i then (ps.getD i.toNat (0, 0)).1 * p - (ps.getD i.toNat (0, 0)).2 * ns.getD i.toNat 0 else 0

theorem lag_no {ps : List Shr} {ns : List Int} {t p i : Int} (h : lagIn ps ns t p i = false) : manyLag ps ns t p i = 0 := by rw [manyLag, h]; rfl

theorem lag_yes {ps : List Shr} {ns : List Int} {t p i : Int} (h : lagIn ps ns t p i = true) : manyLag ps ns t p i = (ps.getD i.toNat (0, 0)).1 * p - (ps.getD i.toNat (0, 0)).2 * ns.getD i.toNat 0 := by rw [manyLag, h]; rfl

theorem share_mul {x d : Int} (hx : 1 ≤ x) (hd : x ≤ 100000000) (h0 : 0 ≤ d) (h1 : d ≤ 1000000) : 0 ≤ x * d ∧ x * d ≤ 100000000000000 := by
  refine ⟨Int.mul_nonneg (by omega) h0, ?_⟩
  have h2 : x * d ≤ 100000000 * 1000000 := Int.mul_le_mul hd h1 h0 (by omega)
  omega

/-- impl.ManyLag. -/
theorem implManyLag (a : Option Addr) (len cap : Nat) (ps : List Shr) (a' : Option Addr) (len' cap' : Nat) (ns : List Int) (t p i : Int) (w : World) (I : Shs w a len ps) (J : Ints w a' len' ns) (hsz : (len : Int) ≤ 1048576) :
    Calls Tryz.prog 14 #[mv (.slice a len cap) (.slice a' len' cap') t p, .int .i64 i] w fun e w' => e = .returned (.tuple #[.int .i64 (manyLag ps ns t p i), .bool (lagIn ps ns t p i)]) ∧ Below w.heap.size w w' := by
  have HI : Hid (Shs (w.alloc (.cells (mc (.slice a len cap) (.slice a' len' cap') t p) 27)) a len ps) := I.alloc _
  have HJ : Hid (Ints (w.alloc (.cells (mc (.slice a len cap) (.slice a' len' cap') t p) 27)) a' len' ns) := J.alloc _
  have HQ : Hid (Mny (w.alloc (.cells (mc (.slice a len cap) (.slice a' len' cap') t p) 27)) w.heap.size (.slice a len cap) (.slice a' len' cap') t p) := mny_new _ _ _ _ _
  have HB : Hid (Below w.heap.size w (w.alloc (.cells (mc (.slice a len cap) (.slice a' len' cap') t p) 27))) := below_new _ _
  have LL : Hid (ps.length = len ∧ ns.length = len') := ⟨I.1, J.1⟩
  clear I J
  cases hk : manyOk ps ns t p
  · have hg : lagIn ps ns t p i = false := by simp [lagIn, hk]
    have HK : Hid (manyOk ps ns t p = false) := hk
    rw [lag_no hg, hg]
    clear hk hg
    go_enter Tryz.func14, Tryz.ntmps14
    go_wp2_with fail
    refine (implManyX a len cap ps a' len' cap' ns t p _ HI.out HJ.out hsz).mono ?_
    rw [HK.out]
    rintro e w1 ⟨rfl, B1⟩
    go_wp2_with fail
    go_ret2
    exact ⟨rfl, below_call HB.out HB.out.size B1⟩
  · have HK : Hid (manyOk ps ns t p = true) := hk
    cases hw : within i 0 ((ps.length : Int) - 1)
    · have hg : lagIn ps ns t p i = false := by rw [lagIn, hw]; simp
      rw [lag_no hg, hg]
      clear hk hg
      have hi := within_no hw
      rw [LL.out.1] at hi
      by_cases hi0 : i < 0
      · clear hw
        go_enter Tryz.func14, Tryz.ntmps14
        go_wp2_with fail
        refine (implManyX a len cap ps a' len' cap' ns t p _ HI.out HJ.out hsz).mono ?_
        rw [HK.out]
        rintro e w1 ⟨rfl, B1⟩
        go_wp2_with fail
        go_ret2
        exact ⟨rfl, below_call HB.out HB.out.size B1⟩
      · have hd : decide (i < 0) = false := by simp; omega
        have hi1 : (len : Int) ≤ i := by omega
        clear hw hi
        go_enter Tryz.func14, Tryz.ntmps14
        go_wp2_with fail
        refine (implManyX a len cap ps a' len' cap' ns t p _ HI.out HJ.out hsz).mono ?_
        rw [HK.out]
        rintro e w1 ⟨rfl, B1⟩
        have Q1 := HQ.out.all B1
        have r0 := Q1.c0
        have HB1 : Hid (Below w.heap.size w w1) := below_call HB.out HB.out.size B1
        clear B1 Q1
        go_wp2_with fail
        go_ret2
        exact ⟨rfl, HB1.out⟩
    · have hg : lagIn ps ns t p i = true := by rw [lagIn, hw, hk]; rfl
      rw [lag_yes hg, hg]
      have hi := within_yes hw
      have hL := LL.out
      obtain ⟨k, rfl⟩ : ∃ k : Nat, i = k := ⟨i.toNat, by omega⟩
      have hk1 : k < ps.length := by omega
      obtain ⟨x, hx⟩ : ∃ x, x = (ps.getD k (0, 0)).1 := ⟨_, rfl⟩
      obtain ⟨y, hy⟩ : ∃ y, y = (ps.getD k (0, 0)).2 := ⟨_, rfl⟩
      obtain ⟨n, hn⟩ : ∃ n, n = ns.getD k 0 := ⟨_, rfl⟩
      obtain ⟨f1, f2, f3, f4⟩ := many_parts hk
      have hsh := Win.share_yes (fits_each f1 hk1)
      have hcn : 0 ≤ n ∧ n ≤ 1000000 := by
        rw [hn]
        exact cnts_mem f4 (by have : k < ns.length := by omega
                              simp [List.getD, this])
      have hnow := within_yes f3
      rw [← hx, ← hy] at hsh
      have m1 := share_mul hsh.1 (by omega) hnow.1 hnow.2
      have m2 := share_mul (x := y) (by omega) hsh.2.2 hcn.1 hcn.2
      have XX : Hid (x = (ps.getD k (0, 0)).1 ∧ y = (ps.getD k (0, 0)).2 ∧ n = ns.getD k 0) := ⟨hx, hy, hn⟩
      have hl2 : (k : Int) < (len : Int) := by omega
      have hl3 : (k : Int) < (len' : Int) := by omega
      have he : ((k : Int).toNat) = k := by simp
      rw [he, ← hx, ← hy, ← hn]
      have hd : decide ((k : Int) < 0) = false := decide_eq_false (by omega)
      have hd1 : ¬ (len : Int) ≤ (k : Int) := by omega
      have hk0 : k < len := by omega
      have hk0' : k < len' := by omega
      clear hx hy hn f1 f2 f3 f4 hk hw hg hL he hi hk1 hsh hcn hnow
      go_enter Tryz.func14, Tryz.ntmps14
      go_wp2_with fail
      refine (implManyX a len cap ps a' len' cap' ns t p _ HI.out HJ.out hsz).mono ?_
      rw [HK.out]
      rintro e w1 ⟨rfl, B1⟩
      have Q1 := HQ.out.all B1
      have r0 := Q1.c0
      have r1 := Q1.c1
      have r3 := Q1.c3
      have HB1 : Hid (Below w.heap.size w w1) := below_call HB.out HB.out.size B1
      obtain ⟨_, h0 | ⟨b, off, rfl, hb, hc⟩⟩ := id (HI.out.kept B1)
      · omega
      obtain ⟨_, h0 | ⟨b', off', rfl, hb', hc'⟩⟩ := id (HJ.out.kept B1)
      · omega
      obtain ⟨c0, c1⟩ := hc k hk0
      have c2 := hc' k hk0'
      rw [← XX.out.1] at c0
      rw [← XX.out.2.1] at c1
      rw [← XX.out.2.2] at c2
      clear B1 Q1 hc hc' HI HJ HQ HB HK
      go_wp2_with fail
      go_quiet (fail)
      go_wp2_with fail
      go_ret2
      exact ⟨rfl, below_drewN HB1.out _⟩

/-- spec.ManyLag. -/
theorem specManyLag (a : Option Addr) (len cap : Nat) (ps : List Shr) (a' : Option Addr) (len' cap' : Nat) (ns : List Int) (t p i : Int) (w : World) (I : Shs w a len ps) (J : Ints w a' len' ns) (hsz : (len : Int) ≤ 1048576) :
    Calls Tryz.prog 15 #[mv (.slice a len cap) (.slice a' len' cap') t p, .int .i64 i] w fun e w' => e = .returned (.tuple #[.int .i64 (manyLag ps ns t p i), .bool (lagIn ps ns t p i)]) ∧ Below w.heap.size w w' := by
  have HI : Hid (Shs (w.alloc (.cells (mc (.slice a len cap) (.slice a' len' cap') t p) 27)) a len ps) := I.alloc _
  have HJ : Hid (Ints (w.alloc (.cells (mc (.slice a len cap) (.slice a' len' cap') t p) 27)) a' len' ns) := J.alloc _
  have HQ : Hid (Mny (w.alloc (.cells (mc (.slice a len cap) (.slice a' len' cap') t p) 27)) w.heap.size (.slice a len cap) (.slice a' len' cap') t p) := mny_new _ _ _ _ _
  have HB : Hid (Below w.heap.size w (w.alloc (.cells (mc (.slice a len cap) (.slice a' len' cap') t p) 27))) := below_new _ _
  have LL : Hid (ps.length = len ∧ ns.length = len') := ⟨I.1, J.1⟩
  clear I J
  cases hk : manyOk ps ns t p
  · have hg : lagIn ps ns t p i = false := by simp [lagIn, hk]
    have HK : Hid (manyOk ps ns t p = false) := hk
    rw [lag_no hg, hg]
    clear hk hg
    go_enter Tryz.func15, Tryz.ntmps15
    go_wp2_with fail
    refine (specManyX a len cap ps a' len' cap' ns t p _ HI.out HJ.out hsz).mono ?_
    rw [HK.out]
    rintro e w1 ⟨rfl, B1⟩
    go_wp2_with fail
    go_ret2
    exact ⟨rfl, below_call HB.out HB.out.size B1⟩
  · have HK : Hid (manyOk ps ns t p = true) := hk
    cases hw : within i 0 ((ps.length : Int) - 1)
    · have hg : lagIn ps ns t p i = false := by rw [lagIn, hw]; simp
      rw [lag_no hg, hg]
      clear hk hg
      have HW : Hid (within i 0 ((len : Int) - 1) = false) := by show _ = _; rw [← LL.out.1]; exact hw
      clear hw
      go_enter Tryz.func15, Tryz.ntmps15
      go_wp2_with fail
      refine (specManyX a len cap ps a' len' cap' ns t p _ HI.out HJ.out hsz).mono ?_
      rw [HK.out]
      rintro e w1 ⟨rfl, B1⟩
      have Q1 := HQ.out.all B1
      have r0 := Q1.c0
      have HB1 : Hid (Below w.heap.size w w1) := below_call HB.out HB.out.size B1
      clear B1 Q1
      go_wp2_with fail
      refine (in_any i _ _ _).mono ?_
      rw [HW.out]
      rintro e w2 ⟨rfl, rfl⟩
      go_wp2_with fail
      go_ret2
      exact ⟨rfl, HB1.out⟩
    · have hg : lagIn ps ns t p i = true := by rw [lagIn, hw, hk]; rfl
      rw [lag_yes hg, hg]
      have hi := within_yes hw
      have hL := LL.out
      obtain ⟨k, rfl⟩ : ∃ k : Nat, i = k := ⟨i.toNat, by omega⟩
      have hk1 : k < ps.length := by omega
      obtain ⟨x, hx⟩ : ∃ x, x = (ps.getD k (0, 0)).1 := ⟨_, rfl⟩
      obtain ⟨y, hy⟩ : ∃ y, y = (ps.getD k (0, 0)).2 := ⟨_, rfl⟩
      obtain ⟨n, hn⟩ : ∃ n, n = ns.getD k 0 := ⟨_, rfl⟩
      obtain ⟨f1, f2, f3, f4⟩ := many_parts hk
      have hsh := Win.share_yes (fits_each f1 hk1)
      have hcn : 0 ≤ n ∧ n ≤ 1000000 := by
        rw [hn]
        exact cnts_mem f4 (by have : k < ns.length := by omega
                              simp [List.getD, this])
      have hnow := within_yes f3
      rw [← hx, ← hy] at hsh
      have m1 := share_mul hsh.1 (by omega) hnow.1 hnow.2
      have m2 := share_mul (x := y) (by omega) hsh.2.2 hcn.1 hcn.2
      have XX : Hid (x = (ps.getD k (0, 0)).1 ∧ y = (ps.getD k (0, 0)).2 ∧ n = ns.getD k 0) := ⟨hx, hy, hn⟩
      have hl2 : (k : Int) < (len : Int) := by omega
      have hl3 : (k : Int) < (len' : Int) := by omega
      have he : ((k : Int).toNat) = k := by simp
      rw [he, ← hx, ← hy, ← hn]
      have HW : Hid (within (k : Int) 0 ((len : Int) - 1) = true) := by show _ = _; rw [← LL.out.1]; exact hw
      have hk0 : k < len := by omega
      have hk0' : k < len' := by omega
      clear hx hy hn f1 f2 f3 f4 hk hw hg hL he hi hk1 hsh hcn hnow
      go_enter Tryz.func15, Tryz.ntmps15
      go_wp2_with fail
      refine (specManyX a len cap ps a' len' cap' ns t p _ HI.out HJ.out hsz).mono ?_
      rw [HK.out]
      rintro e w1 ⟨rfl, B1⟩
      have Q1 := HQ.out.all B1
      have r0 := Q1.c0
      have r1 := Q1.c1
      have r3 := Q1.c3
      have HB1 : Hid (Below w.heap.size w w1) := below_call HB.out HB.out.size B1
      obtain ⟨_, h0 | ⟨b, off, rfl, hb, hc⟩⟩ := id (HI.out.kept B1)
      · omega
      obtain ⟨_, h0 | ⟨b', off', rfl, hb', hc'⟩⟩ := id (HJ.out.kept B1)
      · omega
      obtain ⟨c0, c1⟩ := hc k hk0
      have c2 := hc' k hk0'
      rw [← XX.out.1] at c0
      rw [← XX.out.2.1] at c1
      rw [← XX.out.2.2] at c2
      clear B1 Q1 hc hc' HI HJ HQ HB HK
      go_wp2_with fail
      refine (in_any _ _ _ _).mono ?_
      rw [HW.out]
      rintro e w2 ⟨rfl, rfl⟩
      go_wp2_with fail
      go_quiet (fail)
      go_wp2_with fail
      go_ret2
      exact ⟨rfl, below_drewN HB1.out _⟩

end Go.Proofs.YtjhenfdmbagaiaaGreat.Crew
