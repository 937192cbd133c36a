/-
  The law FnExactManyRun: whatever the arguments, it answers true and nothing that was there is written. (Written by wip/tools/genlaw7.py.)
-/
import Derived.Test.YtjhenfdmbagaiaaGreatManyK
namespace Go.Proofs.YtjhenfdmbagaiaaGreat.Crew
open Go.ChangeShapes Go.WideShapes Go.ChangeAt Go.RowKit

set_option maxRecDepth 100000 in
set_option maxHeartbeats 8000000 in
theorem lawManyRun (a : Option Addr) (len cap : Nat) (xs : List Shr) (a' : Option Addr) (len' cap' : Nat) (ys : List Int) (t p : Int) (n : Int) (w : World) (I : Shs w a len xs) (J : Ints w a' len' ys) (hm : (len : Int) ≤ 9223372036854775807) (hm' : (len' : Int) ≤ 9223372036854775807) :
    Calls Tryz.prog 5 #[mv (.slice a len cap) (.slice a' len' cap') t p, .int .i64 n] w fun e w' => e = .returned (.bool true) ∧ Below w.heap.size w w' := by
  have HI : Hid (Shs w a len xs ∧ Ints w a' len' ys ∧ xs.length = len ∧ ys.length = len') := ⟨I, J, I.1, J.1⟩
  have hx0 := I.1
  have hy0 := J.1
  clear I J
  by_cases hs : (1048576 : Int) < (len : Int) + (len' : Int)
  · clear hx0 hy0
    go_enter Tryz.func5, Tryz.ntmps5
    go_wp2_with fail
    refine (szMany_no a len cap a' len' cap' t p _ hm hm' hs).mono ?_
    rintro e w1 ⟨rfl, B1⟩
    have H1 : Hid (Below w.heap.size w w1) := below_call (below_new w _) (by simp) B1
    clear B1
    go_wp2_with fail
    go_ret
    exact ⟨rfl, H1.out⟩
  · have h0 : (len : Int) + (len' : Int) ≤ 1048576 := by omega
    have h1 : (len : Int) ≤ 1048576 := by omega
    have h2 : (len' : Int) ≤ 1048576 := by omega
    have h3 : ¬ (1048576 - (len : Int) - (len' : Int)) < 0 := by omega
    have hx1 : (xs.length : Int) ≤ 1048576 := by omega
    have hx2 : (ys.length : Int) ≤ 1048576 := by omega
    clear hm hm' hs hx0 hy0
    obtain ⟨D0, hD0⟩ : ∃ D, D = rnD ⟨xs, ys, t, p⟩ n := ⟨_, rfl⟩
    obtain ⟨D1, hD1⟩ : ∃ D, D = rnW ⟨xs, ys, t, p⟩ n := ⟨_, rfl⟩
    have SM := rn_small ⟨xs, ys, t, p⟩ n
    rw [← hD0] at SM
    rw [← hD1] at SM
    have HD : Hid (D0 = rnD ⟨xs, ys, t, p⟩ n ∧ D1 = rnW ⟨xs, ys, t, p⟩ n) := ⟨hD0, hD1⟩
    obtain ⟨⟨z1, z2, z3⟩, z4, z5, z6⟩ := SM
    clear hD0 hD1
    go_enter Tryz.func5, Tryz.ntmps5
    have H0 : Hid (Below w.heap.size w (w.alloc (.cells #[.slice a len cap, .slice a' len' cap', .int .i64 t, .int .i64 p] 48)) ∧ Bx (w.alloc (.cells #[.slice a len cap, .slice a' len' cap', .int .i64 t, .int .i64 p] 48)) w.heap.size [.slice a len cap, .slice a' len' cap', .int .i64 t, .int .i64 p]) := ⟨below_new _ _, bx_new _ _ _⟩
    go_wp2_with fail
    refine (szMany_yes a len cap a' len' cap' t p _ h0).mono ?_
    rintro e w1 ⟨rfl, B1⟩
    have H1 : Hid (Below w.heap.size w w1 ∧ Bx w1 w.heap.size [.slice a len cap, .slice a' len' cap', .int .i64 t, .int .i64 p]) := ⟨below_call H0.out.1 H0.out.1.size B1, H0.out.2.all B1⟩
    clear H0 B1
    have t0 := H1.out.2.2 0 _ rfl
    have t1 := H1.out.2.2 1 _ rfl
    have t2 := H1.out.2.2 2 _ rfl
    have t3 := H1.out.2.2 3 _ rfl
    go_wp2_with fail
    clear t0 t1 t2 t3
    refine (many_to a len cap xs a' len' cap' ys t p _ (HI.out.1.kept H1.out.1) (HI.out.2.1.kept H1.out.1) h1 h2).mono ?_
    rintro e w2 ⟨xa2, xl2, xc2, ya2, yl2, yc2, X2, rfl, R2, f2, B2⟩
    have H2 : Hid (Below w.heap.size w w2 ∧ Bx w2 w.heap.size [.slice a len cap, .slice a' len' cap', .int .i64 t, .int .i64 p] ∧ manyK.rep w2 X2 (mv (.slice xa2 xl2 xc2) (.slice ya2 yl2 yc2) t p) ⟨xs, ys, t, p⟩) := ⟨below_call H1.out.1 H1.out.1.size B2, H1.out.2.all B2, R2⟩
    clear H1 R2 B2 f2
    go_wp2_with fail
    refine (specRunK n H2.out.2.2 hx1).mono ?_
    rw [← HD.out.1, ← HD.out.2]
    rintro e w3 ⟨xaw0, xlw0, xcw0, yaw0, ylw0, ycw0, vw1, W0, W1, rfl, Rw0, Rw1, jw01, fw0, fw1, Bw3⟩
    have zB3 := Bw3.size
    have H3 : Hid (Below w.heap.size w w3 ∧ Bx w3 w.heap.size [.slice a len cap, .slice a' len' cap', .int .i64 t, .int .i64 p] ∧ manyK.rep w3 W0 (mv (.slice xaw0 xlw0 xcw0) (.slice yaw0 ylw0 ycw0) D0.q D0.t) D0 ∧ listsK.rep w3 W1 vw1 D1) := ⟨below_call H2.out.1 H2.out.1.size Bw3, H2.out.2.1.all Bw3, Rw0, Rw1⟩
    clear H2 Bw3 Rw0 Rw1 fw0 fw1 jw01
    have H4 : Hid (Below w.heap.size w (w3.alloc (.cells #[.slice xaw0 xlw0 xcw0, .slice yaw0 ylw0 ycw0, .int .i64 D0.q, .int .i64 D0.t] 27)) ∧ Bx (w3.alloc (.cells #[.slice xaw0 xlw0 xcw0, .slice yaw0 ylw0 ycw0, .int .i64 D0.q, .int .i64 D0.t] 27)) w.heap.size [.slice a len cap, .slice a' len' cap', .int .i64 t, .int .i64 p] ∧ manyK.rep (w3.alloc (.cells #[.slice xaw0 xlw0 xcw0, .slice yaw0 ylw0 ycw0, .int .i64 D0.q, .int .i64 D0.t] 27)) W0 (mv (.slice xaw0 xlw0 xcw0) (.slice yaw0 ylw0 ycw0) D0.q D0.t) D0 ∧ listsK.rep (w3.alloc (.cells #[.slice xaw0 xlw0 xcw0, .slice yaw0 ylw0 ycw0, .int .i64 D0.q, .int .i64 D0.t] 27)) W1 vw1 D1 ∧ Bx (w3.alloc (.cells #[.slice xaw0 xlw0 xcw0, .slice yaw0 ylw0 ycw0, .int .i64 D0.q, .int .i64 D0.t] 27)) w3.heap.size [.slice xaw0 xlw0 xcw0, .slice yaw0 ylw0 ycw0, .int .i64 D0.q, .int .i64 D0.t]) := ⟨below_call H3.out.1 H3.out.1.size (below_new _ _), H3.out.2.1.all (below_new _ _), Knd.all H3.out.2.2.1 (below_new _ _), Knd.all H3.out.2.2.2 (below_new _ _), bx_new _ _ _⟩
    clear H3
    have t0 := H4.out.2.1.2 0 _ rfl
    have t1 := H4.out.2.1.2 1 _ rfl
    have t2 := H4.out.2.1.2 2 _ rfl
    have t3 := H4.out.2.1.2 3 _ rfl
    go_wp2_with fail
    clear t0 t1 t2 t3
    generalize w3.alloc (.cells #[.slice xaw0 xlw0 xcw0, .slice yaw0 ylw0 ycw0, .int .i64 D0.q, .int .i64 D0.t] 27) = W3 at *
    generalize w3.heap.size = bw at *
    refine (many_to a len cap xs a' len' cap' ys t p _ (HI.out.1.kept H4.out.1) (HI.out.2.1.kept H4.out.1) h1 h2).mono ?_
    rintro e w5 ⟨xa5, xl5, xc5, ya5, yl5, yc5, X5, rfl, R5, f5, B5⟩
    have JX5 : Hid ((∀ j, X5 j → w.heap.size ≤ j) ∧ ¬ X5 w.heap.size ∧ Dj W0 X5 ∧ Dj W1 X5 ∧ ¬ X5 bw) := ⟨(fun j hj => Nat.le_trans H4.out.1.size (f5 j hj)), bx_free H4.out.2.1 f5, dj_new H4.out.2.2.1 f5, dj_new H4.out.2.2.2.1 f5, bx_free H4.out.2.2.2.2 f5⟩
    have H5 : Hid (Below w.heap.size w w5 ∧ Bx w5 w.heap.size [.slice a len cap, .slice a' len' cap', .int .i64 t, .int .i64 p] ∧ manyK.rep w5 W0 (mv (.slice xaw0 xlw0 xcw0) (.slice yaw0 ylw0 ycw0) D0.q D0.t) D0 ∧ listsK.rep w5 W1 vw1 D1 ∧ Bx w5 bw [.slice xaw0 xlw0 xcw0, .slice yaw0 ylw0 ycw0, .int .i64 D0.q, .int .i64 D0.t] ∧ manyK.rep w5 X5 (mv (.slice xa5 xl5 xc5) (.slice ya5 yl5 yc5) t p) ⟨xs, ys, t, p⟩) := ⟨below_call H4.out.1 H4.out.1.size B5, H4.out.2.1.all B5, Knd.all H4.out.2.2.1 B5, Knd.all H4.out.2.2.2.1 B5, H4.out.2.2.2.2.all B5, R5⟩
    clear H4 R5 B5 f5
    have NX : Hid (¬ X5 w5.heap.size) := not_new H5.out.2.2.2.2.2
    have H6 : Hid (Below w.heap.size w (w5.alloc (.cells #[.slice xa5 xl5 xc5, .slice ya5 yl5 yc5, .int .i64 t, .int .i64 p] 27)) ∧ Bx (w5.alloc (.cells #[.slice xa5 xl5 xc5, .slice ya5 yl5 yc5, .int .i64 t, .int .i64 p] 27)) w.heap.size [.slice a len cap, .slice a' len' cap', .int .i64 t, .int .i64 p] ∧ manyK.rep (w5.alloc (.cells #[.slice xa5 xl5 xc5, .slice ya5 yl5 yc5, .int .i64 t, .int .i64 p] 27)) W0 (mv (.slice xaw0 xlw0 xcw0) (.slice yaw0 ylw0 ycw0) D0.q D0.t) D0 ∧ listsK.rep (w5.alloc (.cells #[.slice xa5 xl5 xc5, .slice ya5 yl5 yc5, .int .i64 t, .int .i64 p] 27)) W1 vw1 D1 ∧ Bx (w5.alloc (.cells #[.slice xa5 xl5 xc5, .slice ya5 yl5 yc5, .int .i64 t, .int .i64 p] 27)) bw [.slice xaw0 xlw0 xcw0, .slice yaw0 ylw0 ycw0, .int .i64 D0.q, .int .i64 D0.t] ∧ manyK.rep (w5.alloc (.cells #[.slice xa5 xl5 xc5, .slice ya5 yl5 yc5, .int .i64 t, .int .i64 p] 27)) X5 (mv (.slice xa5 xl5 xc5) (.slice ya5 yl5 yc5) t p) ⟨xs, ys, t, p⟩ ∧ Bx (w5.alloc (.cells #[.slice xa5 xl5 xc5, .slice ya5 yl5 yc5, .int .i64 t, .int .i64 p] 27)) w5.heap.size [.slice xa5 xl5 xc5, .slice ya5 yl5 yc5, .int .i64 t, .int .i64 p]) := ⟨below_call H5.out.1 H5.out.1.size (below_new _ _), H5.out.2.1.all (below_new _ _), Knd.all H5.out.2.2.1 (below_new _ _), Knd.all H5.out.2.2.2.1 (below_new _ _), H5.out.2.2.2.2.1.all (below_new _ _), Knd.all H5.out.2.2.2.2.2 (below_new _ _), bx_new _ _ _⟩
    clear H5
    go_wp2_with fail
    generalize w5.alloc (.cells #[.slice xa5 xl5 xc5, .slice ya5 yl5 yc5, .int .i64 t, .int .i64 p] 27) = W5 at *
    generalize w5.heap.size = bx at *
    refine (implRunK n H6.out.2.2.2.2.2.1 hx1).mono ?_
    rw [← HD.out.1, ← HD.out.2]
    rintro e w7 ⟨xag0, xlg0, xcg0, yag0, ylg0, ycg0, vg1, G0, G1, rfl, Rg0, Rg1, jg01, fg0, fg1, Bw7⟩
    have JG0 : Hid ((∀ j, G0 j → w.heap.size ≤ j) ∧ ¬ G0 w.heap.size ∧ Dj W0 G0 ∧ Dj W1 G0 ∧ ¬ G0 bw ∧ Dj X5 G0 ∧ ¬ G0 bx) := ⟨(fun j hj => Nat.le_trans H6.out.1.size (fg0 j hj)), bx_free H6.out.2.1 fg0, dj_new H6.out.2.2.1 fg0, dj_new H6.out.2.2.2.1 fg0, bx_free H6.out.2.2.2.2.1 fg0, dj_new H6.out.2.2.2.2.2.1 fg0, bx_free H6.out.2.2.2.2.2.2 fg0⟩
    have JG1 : Hid ((∀ j, G1 j → w.heap.size ≤ j) ∧ ¬ G1 w.heap.size ∧ Dj W0 G1 ∧ Dj W1 G1 ∧ ¬ G1 bw ∧ Dj X5 G1 ∧ ¬ G1 bx) := ⟨(fun j hj => Nat.le_trans H6.out.1.size (fg1 j hj)), bx_free H6.out.2.1 fg1, dj_new H6.out.2.2.1 fg1, dj_new H6.out.2.2.2.1 fg1, bx_free H6.out.2.2.2.2.1 fg1, dj_new H6.out.2.2.2.2.2.1 fg1, bx_free H6.out.2.2.2.2.2.2 fg1⟩
    have DG : Hid (Dj G0 G1) := jg01
    have H7 : Hid (Below w.heap.size w w7 ∧ Bx w7 w.heap.size [.slice a len cap, .slice a' len' cap', .int .i64 t, .int .i64 p] ∧ manyK.rep w7 W0 (mv (.slice xaw0 xlw0 xcw0) (.slice yaw0 ylw0 ycw0) D0.q D0.t) D0 ∧ listsK.rep w7 W1 vw1 D1 ∧ Bx w7 bw [.slice xaw0 xlw0 xcw0, .slice yaw0 ylw0 ycw0, .int .i64 D0.q, .int .i64 D0.t] ∧ manyK.rep w7 X5 (mv (.slice xa5 xl5 xc5) (.slice ya5 yl5 yc5) t p) ⟨xs, ys, t, p⟩ ∧ Bx w7 bx [.slice xa5 xl5 xc5, .slice ya5 yl5 yc5, .int .i64 t, .int .i64 p] ∧ manyK.rep w7 G0 (mv (.slice xag0 xlg0 xcg0) (.slice yag0 ylg0 ycg0) D0.q D0.t) D0 ∧ listsK.rep w7 G1 vg1 D1) := ⟨below_call H6.out.1 H6.out.1.size Bw7, H6.out.2.1.all Bw7, Knd.all H6.out.2.2.1 Bw7, Knd.all H6.out.2.2.2.1 Bw7, H6.out.2.2.2.2.1.all Bw7, Knd.all H6.out.2.2.2.2.2.1 Bw7, H6.out.2.2.2.2.2.2.all Bw7, Rg0, Rg1⟩
    clear H6 Bw7 Rg0 Rg1 fg0 fg1 jg01
    have NG : Hid (¬ G0 w7.heap.size ∧ ¬ G1 w7.heap.size ∧ ¬ X5 w7.heap.size) := ⟨not_new H7.out.2.2.2.2.2.2.2.1, not_new H7.out.2.2.2.2.2.2.2.2, not_new H7.out.2.2.2.2.2.1⟩
    have H8 : Hid (Below w.heap.size w (w7.alloc (.cells #[.slice xag0 xlg0 xcg0, .slice yag0 ylg0 ycg0, .int .i64 D0.q, .int .i64 D0.t] 27)) ∧ Bx (w7.alloc (.cells #[.slice xag0 xlg0 xcg0, .slice yag0 ylg0 ycg0, .int .i64 D0.q, .int .i64 D0.t] 27)) w.heap.size [.slice a len cap, .slice a' len' cap', .int .i64 t, .int .i64 p] ∧ manyK.rep (w7.alloc (.cells #[.slice xag0 xlg0 xcg0, .slice yag0 ylg0 ycg0, .int .i64 D0.q, .int .i64 D0.t] 27)) W0 (mv (.slice xaw0 xlw0 xcw0) (.slice yaw0 ylw0 ycw0) D0.q D0.t) D0 ∧ listsK.rep (w7.alloc (.cells #[.slice xag0 xlg0 xcg0, .slice yag0 ylg0 ycg0, .int .i64 D0.q, .int .i64 D0.t] 27)) W1 vw1 D1 ∧ Bx (w7.alloc (.cells #[.slice xag0 xlg0 xcg0, .slice yag0 ylg0 ycg0, .int .i64 D0.q, .int .i64 D0.t] 27)) bw [.slice xaw0 xlw0 xcw0, .slice yaw0 ylw0 ycw0, .int .i64 D0.q, .int .i64 D0.t] ∧ manyK.rep (w7.alloc (.cells #[.slice xag0 xlg0 xcg0, .slice yag0 ylg0 ycg0, .int .i64 D0.q, .int .i64 D0.t] 27)) X5 (mv (.slice xa5 xl5 xc5) (.slice ya5 yl5 yc5) t p) ⟨xs, ys, t, p⟩ ∧ Bx (w7.alloc (.cells #[.slice xag0 xlg0 xcg0, .slice yag0 ylg0 ycg0, .int .i64 D0.q, .int .i64 D0.t] 27)) bx [.slice xa5 xl5 xc5, .slice ya5 yl5 yc5, .int .i64 t, .int .i64 p] ∧ manyK.rep (w7.alloc (.cells #[.slice xag0 xlg0 xcg0, .slice yag0 ylg0 ycg0, .int .i64 D0.q, .int .i64 D0.t] 27)) G0 (mv (.slice xag0 xlg0 xcg0) (.slice yag0 ylg0 ycg0) D0.q D0.t) D0 ∧ listsK.rep (w7.alloc (.cells #[.slice xag0 xlg0 xcg0, .slice yag0 ylg0 ycg0, .int .i64 D0.q, .int .i64 D0.t] 27)) G1 vg1 D1 ∧ Bx (w7.alloc (.cells #[.slice xag0 xlg0 xcg0, .slice yag0 ylg0 ycg0, .int .i64 D0.q, .int .i64 D0.t] 27)) w7.heap.size [.slice xag0 xlg0 xcg0, .slice yag0 ylg0 ycg0, .int .i64 D0.q, .int .i64 D0.t]) := ⟨below_call H7.out.1 H7.out.1.size (below_new _ _), H7.out.2.1.all (below_new _ _), Knd.all H7.out.2.2.1 (below_new _ _), Knd.all H7.out.2.2.2.1 (below_new _ _), H7.out.2.2.2.2.1.all (below_new _ _), Knd.all H7.out.2.2.2.2.2.1 (below_new _ _), H7.out.2.2.2.2.2.2.1.all (below_new _ _), Knd.all H7.out.2.2.2.2.2.2.2.1 (below_new _ _), Knd.all H7.out.2.2.2.2.2.2.2.2 (below_new _ _), bx_new _ _ _⟩
    clear H7
    have q0 := H8.out.2.2.2.2.1.2 0 _ rfl
    have q1 := H8.out.2.2.2.2.1.2 1 _ rfl
    have q2 := H8.out.2.2.2.2.1.2 2 _ rfl
    have q3 := H8.out.2.2.2.2.1.2 3 _ rfl
    go_wp2_with fail
    clear q0 q1 q2 q3
    generalize w7.alloc (.cells #[.slice xag0 xlg0 xcg0, .slice yag0 ylg0 ycg0, .int .i64 D0.q, .int .i64 D0.t] 27) = W7 at *
    generalize w7.heap.size = bg at *
    refine (many_eq H8.out.2.2.2.2.2.2.2.1 H8.out.2.2.1 (by omega) (by omega)).mono ?_
    rintro e w9 ⟨rfl, Bw9⟩
    have H9 : Hid (Below w.heap.size w w9 ∧ Bx w9 w.heap.size [.slice a len cap, .slice a' len' cap', .int .i64 t, .int .i64 p] ∧ manyK.rep w9 W0 (mv (.slice xaw0 xlw0 xcw0) (.slice yaw0 ylw0 ycw0) D0.q D0.t) D0 ∧ listsK.rep w9 W1 vw1 D1 ∧ Bx w9 bw [.slice xaw0 xlw0 xcw0, .slice yaw0 ylw0 ycw0, .int .i64 D0.q, .int .i64 D0.t] ∧ manyK.rep w9 X5 (mv (.slice xa5 xl5 xc5) (.slice ya5 yl5 yc5) t p) ⟨xs, ys, t, p⟩ ∧ Bx w9 bx [.slice xa5 xl5 xc5, .slice ya5 yl5 yc5, .int .i64 t, .int .i64 p] ∧ manyK.rep w9 G0 (mv (.slice xag0 xlg0 xcg0) (.slice yag0 ylg0 ycg0) D0.q D0.t) D0 ∧ listsK.rep w9 G1 vg1 D1 ∧ Bx w9 bg [.slice xag0 xlg0 xcg0, .slice yag0 ylg0 ycg0, .int .i64 D0.q, .int .i64 D0.t]) := ⟨below_call H8.out.1 H8.out.1.size Bw9, H8.out.2.1.all Bw9, Knd.all H8.out.2.2.1 Bw9, Knd.all H8.out.2.2.2.1 Bw9, H8.out.2.2.2.2.1.all Bw9, Knd.all H8.out.2.2.2.2.2.1 Bw9, H8.out.2.2.2.2.2.2.1.all Bw9, Knd.all H8.out.2.2.2.2.2.2.2.1 Bw9, Knd.all H8.out.2.2.2.2.2.2.2.2.1 Bw9, H8.out.2.2.2.2.2.2.2.2.2.all Bw9⟩
    clear H8 Bw9
    go_wp2_with fail
    refine (lists_eq H9.out.2.2.2.2.2.2.2.2.1 H9.out.2.2.2.1 (by omega) (by omega)).mono ?_
    rintro e w10 ⟨rfl, Bw10⟩
    have H10 : Hid (Below w.heap.size w w10 ∧ Bx w10 w.heap.size [.slice a len cap, .slice a' len' cap', .int .i64 t, .int .i64 p] ∧ manyK.rep w10 W0 (mv (.slice xaw0 xlw0 xcw0) (.slice yaw0 ylw0 ycw0) D0.q D0.t) D0 ∧ listsK.rep w10 W1 vw1 D1 ∧ Bx w10 bw [.slice xaw0 xlw0 xcw0, .slice yaw0 ylw0 ycw0, .int .i64 D0.q, .int .i64 D0.t] ∧ manyK.rep w10 X5 (mv (.slice xa5 xl5 xc5) (.slice ya5 yl5 yc5) t p) ⟨xs, ys, t, p⟩ ∧ Bx w10 bx [.slice xa5 xl5 xc5, .slice ya5 yl5 yc5, .int .i64 t, .int .i64 p] ∧ manyK.rep w10 G0 (mv (.slice xag0 xlg0 xcg0) (.slice yag0 ylg0 ycg0) D0.q D0.t) D0 ∧ listsK.rep w10 G1 vg1 D1 ∧ Bx w10 bg [.slice xag0 xlg0 xcg0, .slice yag0 ylg0 ycg0, .int .i64 D0.q, .int .i64 D0.t]) := ⟨below_call H9.out.1 H9.out.1.size Bw10, H9.out.2.1.all Bw10, Knd.all H9.out.2.2.1 Bw10, Knd.all H9.out.2.2.2.1 Bw10, H9.out.2.2.2.2.1.all Bw10, Knd.all H9.out.2.2.2.2.2.1 Bw10, H9.out.2.2.2.2.2.2.1.all Bw10, Knd.all H9.out.2.2.2.2.2.2.2.1 Bw10, Knd.all H9.out.2.2.2.2.2.2.2.2.1 Bw10, H9.out.2.2.2.2.2.2.2.2.2.all Bw10⟩
    clear H9 Bw10
    go_wp2_with fail
    have t0 := H10.out.2.1.2 0 _ rfl
    have t1 := H10.out.2.1.2 1 _ rfl
    have t2 := H10.out.2.1.2 2 _ rfl
    have t3 := H10.out.2.1.2 3 _ rfl
    have u0 := H10.out.2.2.2.2.2.2.1.2 0 _ rfl
    have u1 := H10.out.2.2.2.2.2.2.1.2 1 _ rfl
    have u2 := H10.out.2.2.2.2.2.2.1.2 2 _ rfl
    have u3 := H10.out.2.2.2.2.2.2.1.2 3 _ rfl
    go_region_held3 (fun w' => w'.cell? ⟨w.heap.size, 0, none⟩ = some (.slice a len cap) ∧ w'.cell? ⟨w.heap.size, 1, none⟩ = some (.slice a' len' cap') ∧ w'.cell? ⟨w.heap.size, 2, none⟩ = some (.int .i64 t) ∧ w'.cell? ⟨w.heap.size, 3, none⟩ = some (.int .i64 p) ∧ w'.cell? ⟨bx, 0, none⟩ = some (.slice xa5 xl5 xc5) ∧ w'.cell? ⟨bx, 1, none⟩ = some (.slice ya5 yl5 yc5) ∧ w'.cell? ⟨bx, 2, none⟩ = some (.int .i64 t) ∧ w'.cell? ⟨bx, 3, none⟩ = some (.int .i64 p)) (go_keep) (first | (go_at_call 24; refine (many_to a len cap xs a' len' cap' ys t p _ (HI.out.1.kept H10.out.1.drew) (HI.out.2.1.kept H10.out.1.drew) h1 h2).mono ?_; rintro e w90 ⟨xa90, xl90, xc90, ya90, yl90, yc90, X90, rfl, R90, _, B90⟩; have H11 : Hid (Below w.heap.size w w90 ∧ Bx w90 w.heap.size [.slice a len cap, .slice a' len' cap', .int .i64 t, .int .i64 p] ∧ manyK.rep w90 W0 (mv (.slice xaw0 xlw0 xcw0) (.slice yaw0 ylw0 ycw0) D0.q D0.t) D0 ∧ listsK.rep w90 W1 vw1 D1 ∧ Bx w90 bw [.slice xaw0 xlw0 xcw0, .slice yaw0 ylw0 ycw0, .int .i64 D0.q, .int .i64 D0.t] ∧ manyK.rep w90 X5 (mv (.slice xa5 xl5 xc5) (.slice ya5 yl5 yc5) t p) ⟨xs, ys, t, p⟩ ∧ Bx w90 bx [.slice xa5 xl5 xc5, .slice ya5 yl5 yc5, .int .i64 t, .int .i64 p] ∧ manyK.rep w90 G0 (mv (.slice xag0 xlg0 xcg0) (.slice yag0 ylg0 ycg0) D0.q D0.t) D0 ∧ listsK.rep w90 G1 vg1 D1 ∧ Bx w90 bg [.slice xag0 xlg0 xcg0, .slice yag0 ylg0 ycg0, .int .i64 D0.q, .int .i64 D0.t] ∧ manyK.rep w90 X90 (mv (.slice xa90 xl90 xc90) (.slice ya90 yl90 yc90) t p) ⟨xs, ys, t, p⟩) := ⟨below_call (w1 := w10.drew) H10.out.1.drew H10.out.1.drew.size B90, Bx.all (w := w10.drew) H10.out.2.1.drew B90, Knd.all (w := w10.drew) (Knd.drew H10.out.2.2.1) B90, Knd.all (w := w10.drew) (Knd.drew H10.out.2.2.2.1) B90, Bx.all (w := w10.drew) H10.out.2.2.2.2.1.drew B90, Knd.all (w := w10.drew) (Knd.drew H10.out.2.2.2.2.2.1) B90, Bx.all (w := w10.drew) H10.out.2.2.2.2.2.2.1.drew B90, Knd.all (w := w10.drew) (Knd.drew H10.out.2.2.2.2.2.2.2.1) B90, Knd.all (w := w10.drew) (Knd.drew H10.out.2.2.2.2.2.2.2.2.1) B90, Bx.all (w := w10.drew) H10.out.2.2.2.2.2.2.2.2.2.drew B90, R90⟩; have t0 := H11.out.2.1.2 0 _ rfl; have t1 := H11.out.2.1.2 1 _ rfl; have t2 := H11.out.2.1.2 2 _ rfl; have t3 := H11.out.2.1.2 3 _ rfl; have u0 := H11.out.2.2.2.2.2.2.1.2 0 _ rfl; have u1 := H11.out.2.2.2.2.2.2.1.2 1 _ rfl; have u2 := H11.out.2.2.2.2.2.2.1.2 2 _ rfl; have u3 := H11.out.2.2.2.2.2.2.1.2 3 _ rfl; clear R90 B90) | (go_at_call 25; refine (many_eq H11.out.2.2.2.2.2.1 H11.out.2.2.2.2.2.2.2.2.2.2 hx1 hx2).mono ?_; rintro e w91 ⟨rfl, B91⟩; have H12 : Hid (Below w.heap.size w w91 ∧ Bx w91 w.heap.size [.slice a len cap, .slice a' len' cap', .int .i64 t, .int .i64 p] ∧ manyK.rep w91 W0 (mv (.slice xaw0 xlw0 xcw0) (.slice yaw0 ylw0 ycw0) D0.q D0.t) D0 ∧ listsK.rep w91 W1 vw1 D1 ∧ Bx w91 bw [.slice xaw0 xlw0 xcw0, .slice yaw0 ylw0 ycw0, .int .i64 D0.q, .int .i64 D0.t] ∧ manyK.rep w91 X5 (mv (.slice xa5 xl5 xc5) (.slice ya5 yl5 yc5) t p) ⟨xs, ys, t, p⟩ ∧ Bx w91 bx [.slice xa5 xl5 xc5, .slice ya5 yl5 yc5, .int .i64 t, .int .i64 p] ∧ manyK.rep w91 G0 (mv (.slice xag0 xlg0 xcg0) (.slice yag0 ylg0 ycg0) D0.q D0.t) D0 ∧ listsK.rep w91 G1 vg1 D1 ∧ Bx w91 bg [.slice xag0 xlg0 xcg0, .slice yag0 ylg0 ycg0, .int .i64 D0.q, .int .i64 D0.t]) := ⟨below_call H11.out.1 H11.out.1.size B91, H11.out.2.1.all B91, Knd.all H11.out.2.2.1 B91, Knd.all H11.out.2.2.2.1 B91, H11.out.2.2.2.2.1.all B91, Knd.all H11.out.2.2.2.2.2.1 B91, H11.out.2.2.2.2.2.2.1.all B91, Knd.all H11.out.2.2.2.2.2.2.2.1 B91, Knd.all H11.out.2.2.2.2.2.2.2.2.1 B91, H11.out.2.2.2.2.2.2.2.2.2.1.all B91⟩; have t0 := H12.out.2.1.2 0 _ rfl; have t1 := H12.out.2.1.2 1 _ rfl; have t2 := H12.out.2.1.2 2 _ rfl; have t3 := H12.out.2.1.2 3 _ rfl; have u0 := H12.out.2.2.2.2.2.2.1.2 0 _ rfl; have u1 := H12.out.2.2.2.2.2.2.1.2 1 _ rfl; have u2 := H12.out.2.2.2.2.2.2.1.2 2 _ rfl; have u3 := H12.out.2.2.2.2.2.2.1.2 3 _ rfl; clear B91))
    clear H10 H11
    go_wp2_with fail
    clear t0 t1 t2 t3 u0 u1 u2 u3
    refine (many_mark H12.out.2.2.2.2.2.1 1 hx1 hx2 (by omega) (by omega)).mono ?_
    rintro e w92 ⟨rfl, _, C92⟩
    have H13 : Hid (Below w.heap.size w w92 ∧ Bx w92 w.heap.size [.slice a len cap, .slice a' len' cap', .int .i64 t, .int .i64 p] ∧ manyK.rep w92 W0 (mv (.slice xaw0 xlw0 xcw0) (.slice yaw0 ylw0 ycw0) D0.q D0.t) D0 ∧ listsK.rep w92 W1 vw1 D1 ∧ Bx w92 bw [.slice xaw0 xlw0 xcw0, .slice yaw0 ylw0 ycw0, .int .i64 D0.q, .int .i64 D0.t] ∧ manyK.rep w92 G0 (mv (.slice xag0 xlg0 xcg0) (.slice yag0 ylg0 ycg0) D0.q D0.t) D0 ∧ listsK.rep w92 G1 vg1 D1 ∧ Bx w92 bg [.slice xag0 xlg0 xcg0, .slice yag0 ylg0 ycg0, .int .i64 D0.q, .int .i64 D0.t]) := ⟨Chg.under C92 H12.out.1 JX5.out.1 H12.out.1.size, H12.out.2.1.past C92 JX5.out.2.1, Knd.past H12.out.2.2.1 C92 JX5.out.2.2.1, Knd.past H12.out.2.2.2.1 C92 JX5.out.2.2.2.1, H12.out.2.2.2.2.1.past C92 JX5.out.2.2.2.2, Knd.past H12.out.2.2.2.2.2.2.2.1 C92 JG0.out.2.2.2.2.2.1.symm, Knd.past H12.out.2.2.2.2.2.2.2.2.1 C92 JG1.out.2.2.2.2.2.1.symm, H12.out.2.2.2.2.2.2.2.2.2.past C92 NG.out.2.2⟩
    clear H12 C92
    have hk : ¬ (1 + ((manyK.slots ⟨xs, ys, t, p⟩ : Nat) : Int)) < 0 := by omega
    have q0 := H13.out.2.2.2.2.1.2 0 _ rfl
    have q1 := H13.out.2.2.2.2.1.2 1 _ rfl
    have q2 := H13.out.2.2.2.2.1.2 2 _ rfl
    have q3 := H13.out.2.2.2.2.1.2 3 _ rfl
    have g0 := H13.out.2.2.2.2.2.2.2.2 0 _ rfl
    have g1 := H13.out.2.2.2.2.2.2.2.2 1 _ rfl
    have g2 := H13.out.2.2.2.2.2.2.2.2 2 _ rfl
    have g3 := H13.out.2.2.2.2.2.2.2.2 3 _ rfl
    go_wp2_with fail
    clear q0 q1 q2 q3 g0 g1 g2 g3
    refine (many_eq H13.out.2.2.2.2.2.1 H13.out.2.2.1 (by omega) (by omega)).mono ?_
    rintro e w11 ⟨rfl, Bw11⟩
    have H14 : Hid (Below w.heap.size w w11 ∧ Bx w11 w.heap.size [.slice a len cap, .slice a' len' cap', .int .i64 t, .int .i64 p] ∧ manyK.rep w11 W0 (mv (.slice xaw0 xlw0 xcw0) (.slice yaw0 ylw0 ycw0) D0.q D0.t) D0 ∧ listsK.rep w11 W1 vw1 D1 ∧ Bx w11 bw [.slice xaw0 xlw0 xcw0, .slice yaw0 ylw0 ycw0, .int .i64 D0.q, .int .i64 D0.t] ∧ manyK.rep w11 G0 (mv (.slice xag0 xlg0 xcg0) (.slice yag0 ylg0 ycg0) D0.q D0.t) D0 ∧ listsK.rep w11 G1 vg1 D1 ∧ Bx w11 bg [.slice xag0 xlg0 xcg0, .slice yag0 ylg0 ycg0, .int .i64 D0.q, .int .i64 D0.t]) := ⟨below_call H13.out.1 H13.out.1.size Bw11, H13.out.2.1.all Bw11, Knd.all H13.out.2.2.1 Bw11, Knd.all H13.out.2.2.2.1 Bw11, H13.out.2.2.2.2.1.all Bw11, Knd.all H13.out.2.2.2.2.2.1 Bw11, Knd.all H13.out.2.2.2.2.2.2.1 Bw11, H13.out.2.2.2.2.2.2.2.all Bw11⟩
    clear H13 Bw11
    go_wp2_with fail
    refine (lists_eq H14.out.2.2.2.2.2.2.1 H14.out.2.2.2.1 (by omega) (by omega)).mono ?_
    rintro e w12 ⟨rfl, Bw12⟩
    have H15 : Hid (Below w.heap.size w w12 ∧ Bx w12 w.heap.size [.slice a len cap, .slice a' len' cap', .int .i64 t, .int .i64 p] ∧ manyK.rep w12 W0 (mv (.slice xaw0 xlw0 xcw0) (.slice yaw0 ylw0 ycw0) D0.q D0.t) D0 ∧ listsK.rep w12 W1 vw1 D1 ∧ Bx w12 bw [.slice xaw0 xlw0 xcw0, .slice yaw0 ylw0 ycw0, .int .i64 D0.q, .int .i64 D0.t] ∧ manyK.rep w12 G0 (mv (.slice xag0 xlg0 xcg0) (.slice yag0 ylg0 ycg0) D0.q D0.t) D0 ∧ listsK.rep w12 G1 vg1 D1 ∧ Bx w12 bg [.slice xag0 xlg0 xcg0, .slice yag0 ylg0 ycg0, .int .i64 D0.q, .int .i64 D0.t]) := ⟨below_call H14.out.1 H14.out.1.size Bw12, H14.out.2.1.all Bw12, Knd.all H14.out.2.2.1 Bw12, Knd.all H14.out.2.2.2.1 Bw12, H14.out.2.2.2.2.1.all Bw12, Knd.all H14.out.2.2.2.2.2.1 Bw12, Knd.all H14.out.2.2.2.2.2.2.1 Bw12, H14.out.2.2.2.2.2.2.2.all Bw12⟩
    clear H14 Bw12
    have g0 := H15.out.2.2.2.2.2.2.2.2 0 _ rfl
    have g1 := H15.out.2.2.2.2.2.2.2.2 1 _ rfl
    have g2 := H15.out.2.2.2.2.2.2.2.2 2 _ rfl
    have g3 := H15.out.2.2.2.2.2.2.2.2 3 _ rfl
    go_wp2_with fail
    clear g0 g1 g2 g3
    refine (many_mark H15.out.2.2.2.2.2.1 (1) (by omega) (by omega) (by omega) (by omega)).mono ?_
    rintro e w13 ⟨rfl, Mw13, Cw13⟩
    have H16 : Hid (Below w.heap.size w w13 ∧ Bx w13 w.heap.size [.slice a len cap, .slice a' len' cap', .int .i64 t, .int .i64 p] ∧ manyK.rep w13 W0 (mv (.slice xaw0 xlw0 xcw0) (.slice yaw0 ylw0 ycw0) D0.q D0.t) D0 ∧ listsK.rep w13 W1 vw1 D1 ∧ Bx w13 bw [.slice xaw0 xlw0 xcw0, .slice yaw0 ylw0 ycw0, .int .i64 D0.q, .int .i64 D0.t] ∧ manyK.hld w13 G0 (mv (.slice xag0 xlg0 xcg0) (.slice yag0 ylg0 ycg0) D0.q D0.t) D0 (1) ∧ listsK.rep w13 G1 vg1 D1 ∧ Bx w13 bg [.slice xag0 xlg0 xcg0, .slice yag0 ylg0 ycg0, .int .i64 D0.q, .int .i64 D0.t]) := ⟨Chg.under Cw13 H15.out.1 JG0.out.1 H15.out.1.size, H15.out.2.1.past Cw13 JG0.out.2.1, Knd.past H15.out.2.2.1 Cw13 JG0.out.2.2.1, Knd.past H15.out.2.2.2.1 Cw13 JG0.out.2.2.2.1, H15.out.2.2.2.2.1.past Cw13 JG0.out.2.2.2.2.1, Mw13, Knd.past H15.out.2.2.2.2.2.2.1 Cw13 DG.out.symm, H15.out.2.2.2.2.2.2.2.past Cw13 NG.out.1⟩
    clear H15 Cw13 Mw13
    go_wp2_with fail
    refine (lists_mark H16.out.2.2.2.2.2.2.1 (1 + ((manyK.slots D0 : Nat) : Int)) (by omega) (by omega) (by omega) (by omega)).mono ?_
    rintro e w14 ⟨rfl, Mw14, Cw14⟩
    have H17 : Hid (Below w.heap.size w w14 ∧ Bx w14 w.heap.size [.slice a len cap, .slice a' len' cap', .int .i64 t, .int .i64 p] ∧ manyK.rep w14 W0 (mv (.slice xaw0 xlw0 xcw0) (.slice yaw0 ylw0 ycw0) D0.q D0.t) D0 ∧ listsK.rep w14 W1 vw1 D1 ∧ Bx w14 bw [.slice xaw0 xlw0 xcw0, .slice yaw0 ylw0 ycw0, .int .i64 D0.q, .int .i64 D0.t] ∧ manyK.hld w14 G0 (mv (.slice xag0 xlg0 xcg0) (.slice yag0 ylg0 ycg0) D0.q D0.t) D0 (1) ∧ listsK.hld w14 G1 vg1 D1 (1 + ((manyK.slots D0 : Nat) : Int)) ∧ Bx w14 bg [.slice xag0 xlg0 xcg0, .slice yag0 ylg0 ycg0, .int .i64 D0.q, .int .i64 D0.t]) := ⟨Chg.under Cw14 H16.out.1 JG1.out.1 H16.out.1.size, H16.out.2.1.past Cw14 JG1.out.2.1, Knd.past H16.out.2.2.1 Cw14 JG1.out.2.2.1, Knd.past H16.out.2.2.2.1 Cw14 JG1.out.2.2.2.1, H16.out.2.2.2.2.1.past Cw14 JG1.out.2.2.2.2.1, Knd.hpast H16.out.2.2.2.2.2.1 Cw14 DG.out, Mw14, H16.out.2.2.2.2.2.2.2.past Cw14 NG.out.2.1⟩
    clear H16 Cw14 Mw14
    have g0 := H17.out.2.2.2.2.2.2.2.2 0 _ rfl
    have g1 := H17.out.2.2.2.2.2.2.2.2 1 _ rfl
    have g2 := H17.out.2.2.2.2.2.2.2.2 2 _ rfl
    have g3 := H17.out.2.2.2.2.2.2.2.2 3 _ rfl
    go_wp2_with fail
    clear g0 g1 g2 g3
    refine (many_held H17.out.2.2.2.2.2.1 (by omega) (by omega) (by omega) (by omega)).mono ?_
    rintro e w15 ⟨rfl, Bw15⟩
    have H18 : Hid (Below w.heap.size w w15 ∧ Bx w15 w.heap.size [.slice a len cap, .slice a' len' cap', .int .i64 t, .int .i64 p] ∧ manyK.rep w15 W0 (mv (.slice xaw0 xlw0 xcw0) (.slice yaw0 ylw0 ycw0) D0.q D0.t) D0 ∧ listsK.rep w15 W1 vw1 D1 ∧ Bx w15 bw [.slice xaw0 xlw0 xcw0, .slice yaw0 ylw0 ycw0, .int .i64 D0.q, .int .i64 D0.t] ∧ manyK.hld w15 G0 (mv (.slice xag0 xlg0 xcg0) (.slice yag0 ylg0 ycg0) D0.q D0.t) D0 (1) ∧ listsK.hld w15 G1 vg1 D1 (1 + ((manyK.slots D0 : Nat) : Int)) ∧ Bx w15 bg [.slice xag0 xlg0 xcg0, .slice yag0 ylg0 ycg0, .int .i64 D0.q, .int .i64 D0.t]) := ⟨below_call H17.out.1 H17.out.1.size Bw15, H17.out.2.1.all Bw15, Knd.all H17.out.2.2.1 Bw15, Knd.all H17.out.2.2.2.1 Bw15, H17.out.2.2.2.2.1.all Bw15, Knd.hall H17.out.2.2.2.2.2.1 Bw15, Knd.hall H17.out.2.2.2.2.2.2.1 Bw15, H17.out.2.2.2.2.2.2.2.all Bw15⟩
    clear H17 Bw15
    have hq0 : ¬ (1 + ((manyK.slots D0 : Nat) : Int)) < 0 := by omega
    go_wp2_with fail
    refine (lists_held H18.out.2.2.2.2.2.2.1 (by omega) (by omega) (by omega) (by omega)).mono ?_
    rintro e w16 ⟨rfl, Bw16⟩
    have H19 : Hid (Below w.heap.size w w16 ∧ Bx w16 w.heap.size [.slice a len cap, .slice a' len' cap', .int .i64 t, .int .i64 p] ∧ manyK.rep w16 W0 (mv (.slice xaw0 xlw0 xcw0) (.slice yaw0 ylw0 ycw0) D0.q D0.t) D0 ∧ listsK.rep w16 W1 vw1 D1 ∧ Bx w16 bw [.slice xaw0 xlw0 xcw0, .slice yaw0 ylw0 ycw0, .int .i64 D0.q, .int .i64 D0.t] ∧ manyK.hld w16 G0 (mv (.slice xag0 xlg0 xcg0) (.slice yag0 ylg0 ycg0) D0.q D0.t) D0 (1) ∧ listsK.hld w16 G1 vg1 D1 (1 + ((manyK.slots D0 : Nat) : Int)) ∧ Bx w16 bg [.slice xag0 xlg0 xcg0, .slice yag0 ylg0 ycg0, .int .i64 D0.q, .int .i64 D0.t]) := ⟨below_call H18.out.1 H18.out.1.size Bw16, H18.out.2.1.all Bw16, Knd.all H18.out.2.2.1 Bw16, Knd.all H18.out.2.2.2.1 Bw16, H18.out.2.2.2.2.1.all Bw16, Knd.hall H18.out.2.2.2.2.2.1 Bw16, Knd.hall H18.out.2.2.2.2.2.2.1 Bw16, H18.out.2.2.2.2.2.2.2.all Bw16⟩
    clear H18 Bw16
    have hq1 : ¬ (1 + ((manyK.slots D0 : Nat) : Int) + ((listsK.slots D1 : Nat) : Int)) < 0 := by omega
    have hqe : ((1 + ((manyK.slots D0 : Nat) : Int) + ((listsK.slots D1 : Nat) : Int)) != (1 + ((manyK.slots D0 : Nat) : Int) + ((listsK.slots D1 : Nat) : Int))) = false := by simp
    have t0 := H19.out.2.1.2 0 _ rfl
    have t1 := H19.out.2.1.2 1 _ rfl
    have t2 := H19.out.2.1.2 2 _ rfl
    have t3 := H19.out.2.1.2 3 _ rfl
    go_wp2_with fail
    clear t0 t1 t2 t3
    refine (many_to a len cap xs a' len' cap' ys t p _ (HI.out.1.kept H19.out.1) (HI.out.2.1.kept H19.out.1) h1 h2).mono ?_
    rintro e w95 ⟨xa95, xl95, xc95, ya95, yl95, yc95, X95, rfl, R95, f95, B95⟩
    have H20 : Hid (Below w.heap.size w w95 ∧ Bx w95 w.heap.size [.slice a len cap, .slice a' len' cap', .int .i64 t, .int .i64 p] ∧ manyK.rep w95 W0 (mv (.slice xaw0 xlw0 xcw0) (.slice yaw0 ylw0 ycw0) D0.q D0.t) D0 ∧ listsK.rep w95 W1 vw1 D1 ∧ Bx w95 bw [.slice xaw0 xlw0 xcw0, .slice yaw0 ylw0 ycw0, .int .i64 D0.q, .int .i64 D0.t] ∧ manyK.hld w95 G0 (mv (.slice xag0 xlg0 xcg0) (.slice yag0 ylg0 ycg0) D0.q D0.t) D0 (1) ∧ listsK.hld w95 G1 vg1 D1 (1 + ((manyK.slots D0 : Nat) : Int)) ∧ Bx w95 bg [.slice xag0 xlg0 xcg0, .slice yag0 ylg0 ycg0, .int .i64 D0.q, .int .i64 D0.t] ∧ manyK.rep w95 X95 (mv (.slice xa95 xl95 xc95) (.slice ya95 yl95 yc95) t p) ⟨xs, ys, t, p⟩) := ⟨below_call H19.out.1 H19.out.1.size B95, H19.out.2.1.all B95, Knd.all H19.out.2.2.1 B95, Knd.all H19.out.2.2.2.1 B95, H19.out.2.2.2.2.1.all B95, Knd.hall H19.out.2.2.2.2.2.1 B95, Knd.hall H19.out.2.2.2.2.2.2.1 B95, H19.out.2.2.2.2.2.2.2.all B95, R95⟩
    clear H19 R95 B95 f95
    go_wp2_with fail
    refine (implRunK n H20.out.2.2.2.2.2.2.2.2 hx1).mono ?_
    rw [← HD.out.1, ← HD.out.2]
    rintro e w96 ⟨xah0, xlh0, xch0, yah0, ylh0, ych0, vh1, H0, H1, rfl, Rh0, Rh1, jh01, fh0, fh1, Bw96⟩
    have H21 : Hid (Below w.heap.size w w96 ∧ manyK.rep w96 W0 (mv (.slice xaw0 xlw0 xcw0) (.slice yaw0 ylw0 ycw0) D0.q D0.t) D0 ∧ listsK.rep w96 W1 vw1 D1 ∧ Bx w96 bw [.slice xaw0 xlw0 xcw0, .slice yaw0 ylw0 ycw0, .int .i64 D0.q, .int .i64 D0.t] ∧ manyK.hld w96 G0 (mv (.slice xag0 xlg0 xcg0) (.slice yag0 ylg0 ycg0) D0.q D0.t) D0 (1) ∧ listsK.hld w96 G1 vg1 D1 (1 + ((manyK.slots D0 : Nat) : Int)) ∧ Bx w96 bg [.slice xag0 xlg0 xcg0, .slice yag0 ylg0 ycg0, .int .i64 D0.q, .int .i64 D0.t] ∧ manyK.rep w96 H0 (mv (.slice xah0 xlh0 xch0) (.slice yah0 ylh0 ych0) D0.q D0.t) D0 ∧ listsK.rep w96 H1 vh1 D1) := ⟨below_call H20.out.1 H20.out.1.size Bw96, Knd.all H20.out.2.2.1 Bw96, Knd.all H20.out.2.2.2.1 Bw96, H20.out.2.2.2.2.1.all Bw96, Knd.hall H20.out.2.2.2.2.2.1 Bw96, Knd.hall H20.out.2.2.2.2.2.2.1 Bw96, H20.out.2.2.2.2.2.2.2.1.all Bw96, Rh0, Rh1⟩
    clear H20 Bw96 Rh0 Rh1 fh0 fh1 jh01
    have H22 : Hid (Below w.heap.size w (w96.alloc (.cells #[.slice xah0 xlh0 xch0, .slice yah0 ylh0 ych0, .int .i64 D0.q, .int .i64 D0.t] 27)) ∧ manyK.rep (w96.alloc (.cells #[.slice xah0 xlh0 xch0, .slice yah0 ylh0 ych0, .int .i64 D0.q, .int .i64 D0.t] 27)) W0 (mv (.slice xaw0 xlw0 xcw0) (.slice yaw0 ylw0 ycw0) D0.q D0.t) D0 ∧ listsK.rep (w96.alloc (.cells #[.slice xah0 xlh0 xch0, .slice yah0 ylh0 ych0, .int .i64 D0.q, .int .i64 D0.t] 27)) W1 vw1 D1 ∧ Bx (w96.alloc (.cells #[.slice xah0 xlh0 xch0, .slice yah0 ylh0 ych0, .int .i64 D0.q, .int .i64 D0.t] 27)) bw [.slice xaw0 xlw0 xcw0, .slice yaw0 ylw0 ycw0, .int .i64 D0.q, .int .i64 D0.t] ∧ manyK.hld (w96.alloc (.cells #[.slice xah0 xlh0 xch0, .slice yah0 ylh0 ych0, .int .i64 D0.q, .int .i64 D0.t] 27)) G0 (mv (.slice xag0 xlg0 xcg0) (.slice yag0 ylg0 ycg0) D0.q D0.t) D0 (1) ∧ listsK.hld (w96.alloc (.cells #[.slice xah0 xlh0 xch0, .slice yah0 ylh0 ych0, .int .i64 D0.q, .int .i64 D0.t] 27)) G1 vg1 D1 (1 + ((manyK.slots D0 : Nat) : Int)) ∧ Bx (w96.alloc (.cells #[.slice xah0 xlh0 xch0, .slice yah0 ylh0 ych0, .int .i64 D0.q, .int .i64 D0.t] 27)) bg [.slice xag0 xlg0 xcg0, .slice yag0 ylg0 ycg0, .int .i64 D0.q, .int .i64 D0.t] ∧ manyK.rep (w96.alloc (.cells #[.slice xah0 xlh0 xch0, .slice yah0 ylh0 ych0, .int .i64 D0.q, .int .i64 D0.t] 27)) H0 (mv (.slice xah0 xlh0 xch0) (.slice yah0 ylh0 ych0) D0.q D0.t) D0 ∧ listsK.rep (w96.alloc (.cells #[.slice xah0 xlh0 xch0, .slice yah0 ylh0 ych0, .int .i64 D0.q, .int .i64 D0.t] 27)) H1 vh1 D1 ∧ Bx (w96.alloc (.cells #[.slice xah0 xlh0 xch0, .slice yah0 ylh0 ych0, .int .i64 D0.q, .int .i64 D0.t] 27)) w96.heap.size [.slice xah0 xlh0 xch0, .slice yah0 ylh0 ych0, .int .i64 D0.q, .int .i64 D0.t]) := ⟨below_call H21.out.1 H21.out.1.size (below_new _ _), Knd.all H21.out.2.1 (below_new _ _), Knd.all H21.out.2.2.1 (below_new _ _), H21.out.2.2.2.1.all (below_new _ _), Knd.hall H21.out.2.2.2.2.1 (below_new _ _), Knd.hall H21.out.2.2.2.2.2.1 (below_new _ _), H21.out.2.2.2.2.2.2.1.all (below_new _ _), Knd.all H21.out.2.2.2.2.2.2.2.1 (below_new _ _), Knd.all H21.out.2.2.2.2.2.2.2.2 (below_new _ _), bx_new _ _ _⟩
    clear H21
    have q0 := H22.out.2.2.2.1.2 0 _ rfl
    have q1 := H22.out.2.2.2.1.2 1 _ rfl
    have q2 := H22.out.2.2.2.1.2 2 _ rfl
    have q3 := H22.out.2.2.2.1.2 3 _ rfl
    go_wp2_with fail
    clear q0 q1 q2 q3
    generalize w96.alloc (.cells #[.slice xah0 xlh0 xch0, .slice yah0 ylh0 ych0, .int .i64 D0.q, .int .i64 D0.t] 27) = W96 at *
    generalize w96.heap.size = bh at *
    refine (many_eq H22.out.2.2.2.2.2.2.2.1 H22.out.2.1 (by omega) (by omega)).mono ?_
    rintro e w17 ⟨rfl, Bw17⟩
    have H23 : Hid (Below w.heap.size w w17 ∧ manyK.rep w17 W0 (mv (.slice xaw0 xlw0 xcw0) (.slice yaw0 ylw0 ycw0) D0.q D0.t) D0 ∧ listsK.rep w17 W1 vw1 D1 ∧ Bx w17 bw [.slice xaw0 xlw0 xcw0, .slice yaw0 ylw0 ycw0, .int .i64 D0.q, .int .i64 D0.t] ∧ manyK.hld w17 G0 (mv (.slice xag0 xlg0 xcg0) (.slice yag0 ylg0 ycg0) D0.q D0.t) D0 (1) ∧ listsK.hld w17 G1 vg1 D1 (1 + ((manyK.slots D0 : Nat) : Int)) ∧ Bx w17 bg [.slice xag0 xlg0 xcg0, .slice yag0 ylg0 ycg0, .int .i64 D0.q, .int .i64 D0.t] ∧ manyK.rep w17 H0 (mv (.slice xah0 xlh0 xch0) (.slice yah0 ylh0 ych0) D0.q D0.t) D0 ∧ listsK.rep w17 H1 vh1 D1 ∧ Bx w17 bh [.slice xah0 xlh0 xch0, .slice yah0 ylh0 ych0, .int .i64 D0.q, .int .i64 D0.t]) := ⟨below_call H22.out.1 H22.out.1.size Bw17, Knd.all H22.out.2.1 Bw17, Knd.all H22.out.2.2.1 Bw17, H22.out.2.2.2.1.all Bw17, Knd.hall H22.out.2.2.2.2.1 Bw17, Knd.hall H22.out.2.2.2.2.2.1 Bw17, H22.out.2.2.2.2.2.2.1.all Bw17, Knd.all H22.out.2.2.2.2.2.2.2.1 Bw17, Knd.all H22.out.2.2.2.2.2.2.2.2.1 Bw17, H22.out.2.2.2.2.2.2.2.2.2.all Bw17⟩
    clear H22 Bw17
    go_wp2_with fail
    refine (lists_eq H23.out.2.2.2.2.2.2.2.2.1 H23.out.2.2.1 (by omega) (by omega)).mono ?_
    rintro e w18 ⟨rfl, Bw18⟩
    have H24 : Hid (Below w.heap.size w w18 ∧ manyK.rep w18 W0 (mv (.slice xaw0 xlw0 xcw0) (.slice yaw0 ylw0 ycw0) D0.q D0.t) D0 ∧ listsK.rep w18 W1 vw1 D1 ∧ Bx w18 bw [.slice xaw0 xlw0 xcw0, .slice yaw0 ylw0 ycw0, .int .i64 D0.q, .int .i64 D0.t] ∧ manyK.hld w18 G0 (mv (.slice xag0 xlg0 xcg0) (.slice yag0 ylg0 ycg0) D0.q D0.t) D0 (1) ∧ listsK.hld w18 G1 vg1 D1 (1 + ((manyK.slots D0 : Nat) : Int)) ∧ Bx w18 bg [.slice xag0 xlg0 xcg0, .slice yag0 ylg0 ycg0, .int .i64 D0.q, .int .i64 D0.t] ∧ manyK.rep w18 H0 (mv (.slice xah0 xlh0 xch0) (.slice yah0 ylh0 ych0) D0.q D0.t) D0 ∧ listsK.rep w18 H1 vh1 D1 ∧ Bx w18 bh [.slice xah0 xlh0 xch0, .slice yah0 ylh0 ych0, .int .i64 D0.q, .int .i64 D0.t]) := ⟨below_call H23.out.1 H23.out.1.size Bw18, Knd.all H23.out.2.1 Bw18, Knd.all H23.out.2.2.1 Bw18, H23.out.2.2.2.1.all Bw18, Knd.hall H23.out.2.2.2.2.1 Bw18, Knd.hall H23.out.2.2.2.2.2.1 Bw18, H23.out.2.2.2.2.2.2.1.all Bw18, Knd.all H23.out.2.2.2.2.2.2.2.1 Bw18, Knd.all H23.out.2.2.2.2.2.2.2.2.1 Bw18, H23.out.2.2.2.2.2.2.2.2.2.all Bw18⟩
    clear H23 Bw18
    have g0 := H24.out.2.2.2.2.2.2.1.2 0 _ rfl
    have g1 := H24.out.2.2.2.2.2.2.1.2 1 _ rfl
    have g2 := H24.out.2.2.2.2.2.2.1.2 2 _ rfl
    have g3 := H24.out.2.2.2.2.2.2.1.2 3 _ rfl
    go_wp2_with fail
    clear g0 g1 g2 g3
    refine (many_held H24.out.2.2.2.2.1 (by omega) (by omega) (by omega) (by omega)).mono ?_
    rintro e w19 ⟨rfl, Bw19⟩
    have H25 : Hid (Below w.heap.size w w19 ∧ manyK.rep w19 W0 (mv (.slice xaw0 xlw0 xcw0) (.slice yaw0 ylw0 ycw0) D0.q D0.t) D0 ∧ listsK.rep w19 W1 vw1 D1 ∧ Bx w19 bw [.slice xaw0 xlw0 xcw0, .slice yaw0 ylw0 ycw0, .int .i64 D0.q, .int .i64 D0.t] ∧ manyK.hld w19 G0 (mv (.slice xag0 xlg0 xcg0) (.slice yag0 ylg0 ycg0) D0.q D0.t) D0 (1) ∧ listsK.hld w19 G1 vg1 D1 (1 + ((manyK.slots D0 : Nat) : Int)) ∧ Bx w19 bg [.slice xag0 xlg0 xcg0, .slice yag0 ylg0 ycg0, .int .i64 D0.q, .int .i64 D0.t] ∧ manyK.rep w19 H0 (mv (.slice xah0 xlh0 xch0) (.slice yah0 ylh0 ych0) D0.q D0.t) D0 ∧ listsK.rep w19 H1 vh1 D1 ∧ Bx w19 bh [.slice xah0 xlh0 xch0, .slice yah0 ylh0 ych0, .int .i64 D0.q, .int .i64 D0.t]) := ⟨below_call H24.out.1 H24.out.1.size Bw19, Knd.all H24.out.2.1 Bw19, Knd.all H24.out.2.2.1 Bw19, H24.out.2.2.2.1.all Bw19, Knd.hall H24.out.2.2.2.2.1 Bw19, Knd.hall H24.out.2.2.2.2.2.1 Bw19, H24.out.2.2.2.2.2.2.1.all Bw19, Knd.all H24.out.2.2.2.2.2.2.2.1 Bw19, Knd.all H24.out.2.2.2.2.2.2.2.2.1 Bw19, H24.out.2.2.2.2.2.2.2.2.2.all Bw19⟩
    clear H24 Bw19
    go_wp2_with fail
    refine (lists_held H25.out.2.2.2.2.2.1 (by omega) (by omega) (by omega) (by omega)).mono ?_
    rintro e w20 ⟨rfl, Bw20⟩
    have H26 : Hid (Below w.heap.size w w20 ∧ manyK.rep w20 W0 (mv (.slice xaw0 xlw0 xcw0) (.slice yaw0 ylw0 ycw0) D0.q D0.t) D0 ∧ listsK.rep w20 W1 vw1 D1 ∧ Bx w20 bw [.slice xaw0 xlw0 xcw0, .slice yaw0 ylw0 ycw0, .int .i64 D0.q, .int .i64 D0.t] ∧ manyK.hld w20 G0 (mv (.slice xag0 xlg0 xcg0) (.slice yag0 ylg0 ycg0) D0.q D0.t) D0 (1) ∧ listsK.hld w20 G1 vg1 D1 (1 + ((manyK.slots D0 : Nat) : Int)) ∧ Bx w20 bg [.slice xag0 xlg0 xcg0, .slice yag0 ylg0 ycg0, .int .i64 D0.q, .int .i64 D0.t] ∧ manyK.rep w20 H0 (mv (.slice xah0 xlh0 xch0) (.slice yah0 ylh0 ych0) D0.q D0.t) D0 ∧ listsK.rep w20 H1 vh1 D1 ∧ Bx w20 bh [.slice xah0 xlh0 xch0, .slice yah0 ylh0 ych0, .int .i64 D0.q, .int .i64 D0.t]) := ⟨below_call H25.out.1 H25.out.1.size Bw20, Knd.all H25.out.2.1 Bw20, Knd.all H25.out.2.2.1 Bw20, H25.out.2.2.2.1.all Bw20, Knd.hall H25.out.2.2.2.2.1 Bw20, Knd.hall H25.out.2.2.2.2.2.1 Bw20, H25.out.2.2.2.2.2.2.1.all Bw20, Knd.all H25.out.2.2.2.2.2.2.2.1 Bw20, Knd.all H25.out.2.2.2.2.2.2.2.2.1 Bw20, H25.out.2.2.2.2.2.2.2.2.2.all Bw20⟩
    clear H25 Bw20
    go_wp2_with fail
    go_ret
    exact ⟨rfl, H26.out.1⟩

end Go.Proofs.YtjhenfdmbagaiaaGreat.Crew
