/-
  The law FnExactListNext: whatever the arguments, it answers true and nothing that was there is written. (Written by wip/tools/genlaw4.py.)
-/
import Derived.Test.YtlicjbnagapdeaaListNextI
import Derived.Test.YtlicjbnagapdeaaListNextO
namespace Go.Proofs.Ytlicjbnagapdeaa.Crew
open Go.ChangeShapes Go.WideShapes Go.ChangeAt Go.RowKit

set_option maxHeartbeats 2000000 in
theorem lawListNext (a : Option Addr) (len cap : Nat) (xs : List Int) (a' : Option Addr) (len' cap' : Nat) (ys : List Int) (t p : Int) (w : World) (I : Ints w a len xs) (J : Ints w a' len' ys) (hm : (len : Int) ≤ 9223372036854775807) (hm' : (len' : Int) ≤ 9223372036854775807) :
    Calls Try.prog 8 #[lv (.slice a len cap) (.slice a' len' cap') t p] w fun e w' => e = .returned (.bool true) ∧ Below w.heap.size w w' := by
  have HI : Hid (Ints w a len xs ∧ Ints w a' len' ys ∧ xs.length = len ∧ ys.length = len') := ⟨I, J, I.1, J.1⟩
  clear I J
  by_cases hs : (1048576 : Int) < (len : Int) + (len' : Int)
  · go_enter Try.func8, Try.ntmps8
    go_wp2_with fail
    refine (szList_no a len cap a' len' cap' t p _ hm hm' hs).mono ?_
    rintro e w1 ⟨rfl, B1⟩
    have H1 : Hid (Below w.heap.size w w1) := below_call (below_new w _) (by simp) B1
    clear B1
    go_wp2_with fail
    go_ret
    exact ⟨rfl, H1.out⟩
  · have h0 : (len : Int) + (len' : Int) ≤ 1048576 := by omega
    have h1 : (len : Int) ≤ 1048576 := by omega
    have h2 : (len' : Int) ≤ 1048576 := by omega
    have h3 : ¬ (1048576 - (len : Int) - (len' : Int)) < 0 := by omega
    clear hm hm' hs
    obtain ⟨C, hC⟩ : ∃ C, C = lnC xs ys t p := ⟨_, rfl⟩
    obtain ⟨R, hR⟩ : ∃ R, R = lnH xs ys t p := ⟨_, rfl⟩
    obtain ⟨T, hT⟩ : ∃ T, T = lnT xs ys t p := ⟨_, rfl⟩
    obtain ⟨Pp, hP⟩ : ∃ Pp, Pp = lnP xs ys t p := ⟨_, rfl⟩
    obtain ⟨kk, hK⟩ : ∃ kk, kk = lnK xs ys t p := ⟨_, rfl⟩
    obtain ⟨hc24, hr24⟩ := ln_len xs ys t p
    rw [← hC] at hc24
    rw [← hR] at hr24
    have HC : Hid (C = lnC xs ys t p ∧ R = lnH xs ys t p ∧ T = lnT xs ys t p ∧ Pp = lnP xs ys t p ∧ kk = lnK xs ys t p) := ⟨hC, hR, hT, hP, hK⟩
    have hne : (kk != kk) = false := by simp
    clear hC hR hT hP hK
    have H0 : Hid (Below w.heap.size w (w.alloc (.cells #[.slice a len cap, .slice a' len' cap', .int .i64 t, .int .i64 p] 45)) ∧ Four (w.alloc (.cells #[.slice a len cap, .slice a' len' cap', .int .i64 t, .int .i64 p] 45)) w.heap.size (.slice a len cap) (.slice a' len' cap') t p) := ⟨below_new _ _, four_new _ _ _ _ _ _⟩
    go_enter Try.func8, Try.ntmps8
    go_wp2_with fail
    refine (szList_yes a len cap a' len' cap' t p _ h0).mono ?_
    rintro e w1 ⟨rfl, B1⟩
    have H1 : Hid (Below w.heap.size w w1 ∧ Four w1 w.heap.size (.slice a len cap) (.slice a' len' cap') t p) := ⟨below_call H0.out.1 H0.out.1.size B1, H0.out.2.all B1⟩
    clear H0 B1
    have t0 := H1.out.2.c0
    have t1 := H1.out.2.c1
    have t2 := H1.out.2.c2
    have t3 := H1.out.2.c3
    go_wp2_with fail
    clear t0 t1 t2 t3
    refine (toList_any a len cap xs a' len' cap' ys t p _ (HI.out.1.kept H1.out.1) (HI.out.2.1.kept H1.out.1) h1 h2).mono ?_
    rintro e w2 ⟨g2, k2, rfl, R2, S2, hg2, hk2, ne2, B2⟩
    have s2 := B2.size
    have s1 := H1.out.2.1
    have Q2 : Hid (Ints w2 (some ⟨g2, 0, none⟩) len xs ∧ Ints w2 (some ⟨k2, 0, none⟩) len' ys) := ⟨(R2.fit (Nat.zero_le _) HI.out.2.2.1).ints, (S2.fit (Nat.zero_le _) HI.out.2.2.2).ints⟩
    have H2 : Hid (Below w.heap.size w w2 ∧ Four w2 w.heap.size (.slice a len cap) (.slice a' len' cap') t p) := ⟨below_call H1.out.1 H1.out.1.size B2, H1.out.2.all B2⟩
    clear H1 R2 S2 hg2 hk2 ne2 B2
    go_wp2_with fail
    refine (specListNext _ len len xs _ len' len' ys t p _ Q2.out.1 Q2.out.2 h1).mono ?_
    unfold NextPost
    rw [← HC.out.1, ← HC.out.2.1, ← HC.out.2.2.1, ← HC.out.2.2.2.1, ← HC.out.2.2.2.2]
    rintro e w3 ⟨wb, lb, cb, wd, ld, cd, rfl, Fb, Fd, D1, B3⟩
    have lb24 : (lb : Int) ≤ 24 := by have := Fb.1; omega
    have ld24 : (ld : Int) ≤ 24 := by have := Fd.1; omega
    have zB3 := B3.size
    have H3 : Hid (Below w.heap.size w w3 ∧ Four w3 w.heap.size (.slice a len cap) (.slice a' len' cap') t p ∧ Fit w3 w2.heap.size wb lb cb C ∧ Fit w3 w2.heap.size wd ld cd R ∧ Apart wb wd) := ⟨below_call H2.out.1 H2.out.1.size B3, H2.out.2.all B3, ⟨Fb, Fd, D1⟩⟩
    clear H2 Fb Fd Q2 B3
    have H4 : Hid (Below w.heap.size w (w3.alloc (.cells #[.slice wb lb cb, .slice wd ld cd, .int .i64 T, .int .i64 Pp] 31)) ∧ Four (w3.alloc (.cells #[.slice wb lb cb, .slice wd ld cd, .int .i64 T, .int .i64 Pp] 31)) w.heap.size (.slice a len cap) (.slice a' len' cap') t p ∧ AnsL (w3.alloc (.cells #[.slice wb lb cb, .slice wd ld cd, .int .i64 T, .int .i64 Pp] 31)) w2.heap.size w3.heap.size wb lb cb C wd ld cd R T Pp) := ⟨below_call H3.out.1 H3.out.1.size (below_new _ _), H3.out.2.1.all (below_new _ _), ansL_new H3.out.2.2.1 H3.out.2.2.2.1 H3.out.2.2.2.2⟩
    clear H3 
    have y3 : (w3.alloc (.cells #[.slice wb lb cb, .slice wd ld cd, .int .i64 T, .int .i64 Pp] 31)).heap.size = w3.heap.size + 1 := by simp
    have t0 := H4.out.2.1.c0
    have t1 := H4.out.2.1.c1
    have t2 := H4.out.2.1.c2
    have t3 := H4.out.2.1.c3
    go_wp2_with fail
    clear t0 t1 t2 t3
    generalize w3.alloc (.cells #[.slice wb lb cb, .slice wd ld cd, .int .i64 T, .int .i64 Pp] 31) = W3 at *
    generalize w3.heap.size = bw at *
    generalize w2.heap.size = lw at *
    refine (toList_any a len cap xs a' len' cap' ys t p _ (HI.out.1.kept H4.out.1) (HI.out.2.1.kept H4.out.1) h1 h2).mono ?_
    rintro e w5 ⟨g5, k5, rfl, R5, S5, hg5, hk5, ne5, B5⟩
    have z5 := B5.size
    have i5 := R5.lt
    have j5 := S5.lt
    have H5 : Hid (Below w.heap.size w w5 ∧ Four w5 w.heap.size (.slice a len cap) (.slice a' len' cap') t p ∧ AnsL w5 lw bw wb lb cb C wd ld cd R T Pp ∧ Fit w5 W3.heap.size (some ⟨g5, 0, none⟩) len len xs ∧ Fit w5 W3.heap.size (some ⟨k5, 0, none⟩) len' len' ys ∧ Apart (some ⟨g5, 0, none⟩) (some ⟨k5, 0, none⟩)) := ⟨below_call H4.out.1 H4.out.1.size B5, H4.out.2.1.all B5, H4.out.2.2.all B5, ⟨R5.fit hg5 HI.out.2.2.1, S5.fit hk5 HI.out.2.2.2, (fun x y hx hy => by cases hx; cases hy; exact ne5)⟩⟩
    clear H4 R5 S5 hg5 hk5 B5
    have H6 : Hid (Below w.heap.size w (w5.alloc (.cells #[.slice (some ⟨g5, 0, none⟩) len len, .slice (some ⟨k5, 0, none⟩) len' len', .int .i64 t, .int .i64 p] 31)) ∧ Four (w5.alloc (.cells #[.slice (some ⟨g5, 0, none⟩) len len, .slice (some ⟨k5, 0, none⟩) len' len', .int .i64 t, .int .i64 p] 31)) w.heap.size (.slice a len cap) (.slice a' len' cap') t p ∧ AnsL (w5.alloc (.cells #[.slice (some ⟨g5, 0, none⟩) len len, .slice (some ⟨k5, 0, none⟩) len' len', .int .i64 t, .int .i64 p] 31)) lw bw wb lb cb C wd ld cd R T Pp ∧ AnsL (w5.alloc (.cells #[.slice (some ⟨g5, 0, none⟩) len len, .slice (some ⟨k5, 0, none⟩) len' len', .int .i64 t, .int .i64 p] 31)) W3.heap.size w5.heap.size (some ⟨g5, 0, none⟩) len len xs (some ⟨k5, 0, none⟩) len' len' ys t p) := ⟨below_call H5.out.1 H5.out.1.size (below_new _ _), H5.out.2.1.all (below_new _ _), H5.out.2.2.1.all (below_new _ _), ansL_new H5.out.2.2.2.1 H5.out.2.2.2.2.1 H5.out.2.2.2.2.2⟩
    clear H5 
    have y5 : (w5.alloc (.cells #[.slice (some ⟨g5, 0, none⟩) len len, .slice (some ⟨k5, 0, none⟩) len' len', .int .i64 t, .int .i64 p] 31)).heap.size = w5.heap.size + 1 := by simp
    go_wp2_with fail
    generalize w5.alloc (.cells #[.slice (some ⟨g5, 0, none⟩) len len, .slice (some ⟨k5, 0, none⟩) len' len', .int .i64 t, .int .i64 p] 31) = W5 at *
    generalize w5.heap.size = bx at *
    generalize W3.heap.size = lx at *
    refine (implListNext _ len len xs _ len' len' ys t p _ H6.out.2.2.2.one.fit.ints H6.out.2.2.2.two.fit.ints).mono ?_
    unfold NextPost
    rw [← HC.out.1, ← HC.out.2.1, ← HC.out.2.2.1, ← HC.out.2.2.2.1, ← HC.out.2.2.2.2]
    rintro e w7 ⟨xb, mb, kb, xd, md, kd, rfl, Fb, Fd, D1, B7⟩
    have mb24 : (mb : Int) ≤ 24 := by have := Fb.1; omega
    have md24 : (md : Int) ≤ 24 := by have := Fd.1; omega
    have zB7 := B7.size
    have H7 : Hid (Below w.heap.size w w7 ∧ Four w7 w.heap.size (.slice a len cap) (.slice a' len' cap') t p ∧ AnsL w7 lw bw wb lb cb C wd ld cd R T Pp ∧ AnsL w7 lx bx (some ⟨g5, 0, none⟩) len len xs (some ⟨k5, 0, none⟩) len' len' ys t p ∧ Fit w7 W5.heap.size xb mb kb C ∧ Fit w7 W5.heap.size xd md kd R ∧ Apart xb xd) := ⟨below_call H6.out.1 H6.out.1.size B7, H6.out.2.1.all B7, H6.out.2.2.1.all B7, H6.out.2.2.2.all B7, ⟨Fb, Fd, D1⟩⟩
    clear H6 Fb Fd B7
    have H8 : Hid (Below w.heap.size w (w7.alloc (.cells #[.slice xb mb kb, .slice xd md kd, .int .i64 T, .int .i64 Pp] 31)) ∧ Four (w7.alloc (.cells #[.slice xb mb kb, .slice xd md kd, .int .i64 T, .int .i64 Pp] 31)) w.heap.size (.slice a len cap) (.slice a' len' cap') t p ∧ AnsL (w7.alloc (.cells #[.slice xb mb kb, .slice xd md kd, .int .i64 T, .int .i64 Pp] 31)) lw bw wb lb cb C wd ld cd R T Pp ∧ AnsL (w7.alloc (.cells #[.slice xb mb kb, .slice xd md kd, .int .i64 T, .int .i64 Pp] 31)) lx bx (some ⟨g5, 0, none⟩) len len xs (some ⟨k5, 0, none⟩) len' len' ys t p ∧ AnsL (w7.alloc (.cells #[.slice xb mb kb, .slice xd md kd, .int .i64 T, .int .i64 Pp] 31)) W5.heap.size w7.heap.size xb mb kb C xd md kd R T Pp) := ⟨below_call H7.out.1 H7.out.1.size (below_new _ _), H7.out.2.1.all (below_new _ _), H7.out.2.2.1.all (below_new _ _), H7.out.2.2.2.1.all (below_new _ _), ansL_new H7.out.2.2.2.2.1 H7.out.2.2.2.2.2.1 H7.out.2.2.2.2.2.2⟩
    clear H7 
    have q0 := H8.out.2.2.1.quad.c0
    have q1 := H8.out.2.2.1.quad.c1
    have q2 := H8.out.2.2.1.quad.c2
    have q3 := H8.out.2.2.1.quad.c3
    go_wp2_with fail
    clear q0 q1 q2 q3
    generalize w7.alloc (.cells #[.slice xb mb kb, .slice xd md kd, .int .i64 T, .int .i64 Pp] 31) = W7 at *
    generalize w7.heap.size = bg at *
    generalize W5.heap.size = lg at *
    refine (eqList_same xb mb kb xd md kd wb lb cb wd ld cd C R T Pp _ H8.out.2.2.2.2.one.fit.ints H8.out.2.2.2.2.two.fit.ints H8.out.2.2.1.one.fit.ints H8.out.2.2.1.two.fit.ints (by omega) (by omega)).mono ?_
    rintro e w8 ⟨rfl, Bw8⟩
    have H9 : Hid (Below w.heap.size w w8 ∧ Four w8 w.heap.size (.slice a len cap) (.slice a' len' cap') t p ∧ AnsL w8 lw bw wb lb cb C wd ld cd R T Pp ∧ AnsL w8 lx bx (some ⟨g5, 0, none⟩) len len xs (some ⟨k5, 0, none⟩) len' len' ys t p ∧ AnsL w8 lg bg xb mb kb C xd md kd R T Pp) := ⟨below_call H8.out.1 H8.out.1.size Bw8, H8.out.2.1.all Bw8, H8.out.2.2.1.all Bw8, H8.out.2.2.2.1.all Bw8, H8.out.2.2.2.2.all Bw8⟩
    clear H8 Bw8
    go_wp2_with fail
    have t0 := H9.out.2.1.c0
    have t1 := H9.out.2.1.c1
    have t2 := H9.out.2.1.c2
    have t3 := H9.out.2.1.c3
    have u0 := H9.out.2.2.2.1.quad.c0
    have u1 := H9.out.2.2.2.1.quad.c1
    have u2 := H9.out.2.2.2.1.quad.c2
    have u3 := H9.out.2.2.2.1.quad.c3
    go_region_held3 (fun w' => w'.cell? ⟨w.heap.size, 0, none⟩ = some (.slice a len cap) ∧ w'.cell? ⟨w.heap.size, 1, none⟩ = some (.slice a' len' cap') ∧ w'.cell? ⟨w.heap.size, 2, none⟩ = some (.int .i64 t) ∧ w'.cell? ⟨w.heap.size, 3, none⟩ = some (.int .i64 p) ∧ w'.cell? ⟨bx, 0, none⟩ = some (.slice (some ⟨g5, 0, none⟩) len len) ∧ w'.cell? ⟨bx, 1, none⟩ = some (.slice (some ⟨k5, 0, none⟩) len' len') ∧ w'.cell? ⟨bx, 2, none⟩ = some (.int .i64 t) ∧ w'.cell? ⟨bx, 3, none⟩ = some (.int .i64 p)) (go_keep) (first | (go_at_call 29; refine (toList_any a len cap xs a' len' cap' ys t p _ (HI.out.1.kept H9.out.1.drew) (HI.out.2.1.kept H9.out.1.drew) h1 h2).mono ?_; rintro e w9 ⟨g9, k9, rfl, R9, S9, _, _, _, B9⟩; have H10 : Hid (Below w.heap.size w w9 ∧ Four w9 w.heap.size (.slice a len cap) (.slice a' len' cap') t p ∧ AnsL w9 lw bw wb lb cb C wd ld cd R T Pp ∧ AnsL w9 lx bx (some ⟨g5, 0, none⟩) len len xs (some ⟨k5, 0, none⟩) len' len' ys t p ∧ AnsL w9 lg bg xb mb kb C xd md kd R T Pp ∧ (Row w9 g9 len xs ∧ Row w9 k9 len' ys)) := ⟨below_call (w1 := w8.drew) H9.out.1.drew H9.out.1.drew.size B9, Four.all (w := w8.drew) H9.out.2.1.drew B9, H9.out.2.2.1.drew.all B9, H9.out.2.2.2.1.drew.all B9, H9.out.2.2.2.2.drew.all B9, R9, S9⟩; have t0 := H10.out.2.1.c0; have u0 := H10.out.2.2.2.1.quad.c0; have t1 := H10.out.2.1.c1; have u1 := H10.out.2.2.2.1.quad.c1; have t2 := H10.out.2.1.c2; have u2 := H10.out.2.2.2.1.quad.c2; have t3 := H10.out.2.1.c3; have u3 := H10.out.2.2.2.1.quad.c3; clear R9 S9 B9) | (go_at_call 30; refine (eqList_same _ _ _ _ _ _ _ _ _ _ _ _ xs ys t p _ H10.out.2.2.2.1.one.fit.ints H10.out.2.2.2.1.two.fit.ints (H10.out.2.2.2.2.2.1.fit (Nat.zero_le _) HI.out.2.2.1).ints (H10.out.2.2.2.2.2.2.fit (Nat.zero_le _) HI.out.2.2.2).ints h1 h2).mono ?_; rintro e w10 ⟨rfl, B10⟩; have H11 : Hid (Below w.heap.size w w10 ∧ Four w10 w.heap.size (.slice a len cap) (.slice a' len' cap') t p ∧ AnsL w10 lw bw wb lb cb C wd ld cd R T Pp ∧ AnsL w10 lx bx (some ⟨g5, 0, none⟩) len len xs (some ⟨k5, 0, none⟩) len' len' ys t p ∧ AnsL w10 lg bg xb mb kb C xd md kd R T Pp) := ⟨below_call H10.out.1 H10.out.1.size B10, H10.out.2.1.all B10, H10.out.2.2.1.all B10, H10.out.2.2.2.1.all B10, H10.out.2.2.2.2.1.all B10⟩; have t0 := H11.out.2.1.c0; have u0 := H11.out.2.2.2.1.quad.c0; have t1 := H11.out.2.1.c1; have u1 := H11.out.2.2.2.1.quad.c1; have t2 := H11.out.2.1.c2; have u2 := H11.out.2.2.2.1.quad.c2; have t3 := H11.out.2.1.c3; have u3 := H11.out.2.2.2.1.quad.c3; clear B10))
    clear H9 H10
    go_wp2_with fail
    clear t0 t1 t2 t3 u0 u1 u2 u3
    refine (markList_any lx (some ⟨g5, 0, none⟩) len len xs (some ⟨k5, 0, none⟩) len' len' ys t p 1 _ H11.out.2.2.2.1.one.fit H11.out.2.2.2.1.two.fit H11.out.2.2.2.1.apart (by omega) (by omega) (by omega) (by omega)).mono ?_
    rintro e w11 ⟨rfl, Fw11, Gw11, Mw11⟩
    obtain ⟨Aw11, Kw11⟩ := ansL_marked H11.out.2.2.2.1 Fw11 Gw11 Mw11
    have H12 : Hid (Below w.heap.size w w11 ∧ Four w11 w.heap.size (.slice a len cap) (.slice a' len' cap') t p ∧ AnsL w11 lw bw wb lb cb C wd ld cd R T Pp ∧ AnsL w11 lg bg xb mb kb C xd md kd R T Pp) := ⟨Kw11.below _ _ H11.out.1 (by omega) H11.out.1.size, H11.out.2.1.wr Kw11 (by omega), H11.out.2.2.1.wr Kw11 (by omega) (by omega), H11.out.2.2.2.2.wr Kw11 (by omega) (by omega)⟩
    clear H11 Fw11 Gw11 Mw11 Aw11 Kw11
    have hk : ¬ (1 + (len : Int) + (len' : Int)) < 0 := by omega
    have q0 := H12.out.2.2.1.quad.c0
    have q1 := H12.out.2.2.1.quad.c1
    have q2 := H12.out.2.2.1.quad.c2
    have q3 := H12.out.2.2.1.quad.c3
    have v0 := H12.out.2.2.2.quad.c0
    have v1 := H12.out.2.2.2.quad.c1
    have v2 := H12.out.2.2.2.quad.c2
    have v3 := H12.out.2.2.2.quad.c3
    go_wp2_with fail
    clear q0 q1 q2 q3 v0 v1 v2 v3
    refine (eqList_same xb mb kb xd md kd wb lb cb wd ld cd C R T Pp _ H12.out.2.2.2.one.fit.ints H12.out.2.2.2.two.fit.ints H12.out.2.2.1.one.fit.ints H12.out.2.2.1.two.fit.ints (by omega) (by omega)).mono ?_
    rintro e w12 ⟨rfl, Bw12⟩
    have H13 : Hid (Below w.heap.size w w12 ∧ Four w12 w.heap.size (.slice a len cap) (.slice a' len' cap') t p ∧ AnsL w12 lw bw wb lb cb C wd ld cd R T Pp ∧ AnsL w12 lg bg xb mb kb C xd md kd R T Pp) := ⟨below_call H12.out.1 H12.out.1.size Bw12, H12.out.2.1.all Bw12, H12.out.2.2.1.all Bw12, H12.out.2.2.2.all Bw12⟩
    clear H12 Bw12
    have v0 := H13.out.2.2.2.quad.c0
    have v1 := H13.out.2.2.2.quad.c1
    have v2 := H13.out.2.2.2.quad.c2
    have v3 := H13.out.2.2.2.quad.c3
    go_wp2_with fail
    clear v0 v1 v2 v3
    refine (markList_any lg xb mb kb C xd md kd R T Pp 1 _ H13.out.2.2.2.one.fit H13.out.2.2.2.two.fit H13.out.2.2.2.apart (by omega) (by omega) (by omega) (by omega)).mono ?_
    rintro e w13 ⟨rfl, Fw13, Gw13, Mw13⟩
    obtain ⟨Aw13, Kw13⟩ := ansL_marked H13.out.2.2.2 Fw13 Gw13 Mw13
    have H14 : Hid (Below w.heap.size w w13 ∧ Four w13 w.heap.size (.slice a len cap) (.slice a' len' cap') t p ∧ AnsL w13 lw bw wb lb cb C wd ld cd R T Pp ∧ AnsL w13 lg bg xb mb kb (marks 1 mb) xd md kd (marks (1 + mb) md) T Pp) := ⟨Kw13.below _ _ H13.out.1 (by omega) H13.out.1.size, H13.out.2.1.wr Kw13 (by omega), H13.out.2.2.1.wr Kw13 (by omega) (by omega), Aw13⟩
    clear H13 Fw13 Gw13 Mw13 Aw13 Kw13
    have v0 := H14.out.2.2.2.quad.c0
    have v1 := H14.out.2.2.2.quad.c1
    have v2 := H14.out.2.2.2.quad.c2
    have v3 := H14.out.2.2.2.quad.c3
    go_wp2_with fail
    clear v0 v1 v2 v3
    refine (heldList_any xb mb kb xd md kd T Pp 1 _ H14.out.2.2.2.one.fit.ints H14.out.2.2.2.two.fit.ints (by omega) (by omega) (by omega) (by omega)).mono ?_
    rintro e w14 ⟨rfl, Bw14⟩
    have H15 : Hid (Below w.heap.size w w14 ∧ Four w14 w.heap.size (.slice a len cap) (.slice a' len' cap') t p ∧ AnsL w14 lw bw wb lb cb C wd ld cd R T Pp ∧ AnsL w14 lg bg xb mb kb (marks 1 mb) xd md kd (marks (1 + mb) md) T Pp) := ⟨below_call H14.out.1 H14.out.1.size Bw14, H14.out.2.1.all Bw14, H14.out.2.2.1.all Bw14, H14.out.2.2.2.all Bw14⟩
    clear H14 Bw14
    have hq : ¬ (1 + (mb : Int) + (md : Int)) < 0 := by omega
    have t0 := H15.out.2.1.c0
    have t1 := H15.out.2.1.c1
    have t2 := H15.out.2.1.c2
    have t3 := H15.out.2.1.c3
    go_wp2_with fail
    clear t0 t1 t2 t3
    refine (toList_any a len cap xs a' len' cap' ys t p _ (HI.out.1.kept H15.out.1) (HI.out.2.1.kept H15.out.1) h1 h2).mono ?_
    rintro e w15 ⟨g15, k15, rfl, R15, S15, hg15, hk15, ne15, B15⟩
    have Q15 : Hid (Ints w15 (some ⟨g15, 0, none⟩) len xs ∧ Ints w15 (some ⟨k15, 0, none⟩) len' ys) := ⟨(R15.fit (Nat.zero_le _) HI.out.2.2.1).ints, (S15.fit (Nat.zero_le _) HI.out.2.2.2).ints⟩
    have H16 : Hid (Below w.heap.size w w15 ∧ Four w15 w.heap.size (.slice a len cap) (.slice a' len' cap') t p ∧ AnsL w15 lw bw wb lb cb C wd ld cd R T Pp ∧ AnsL w15 lg bg xb mb kb (marks 1 mb) xd md kd (marks (1 + mb) md) T Pp) := ⟨below_call H15.out.1 H15.out.1.size B15, H15.out.2.1.all B15, H15.out.2.2.1.all B15, H15.out.2.2.2.all B15⟩
    clear H15 R15 S15 hg15 hk15 ne15 B15
    go_wp2_with fail
    refine (implListNext _ len len xs _ len' len' ys t p _ Q15.out.1 Q15.out.2).mono ?_
    unfold NextPost
    rw [← HC.out.1, ← HC.out.2.1, ← HC.out.2.2.1, ← HC.out.2.2.2.1, ← HC.out.2.2.2.2]
    rintro e w16 ⟨yb, nb, ob, yd, nd, od, rfl, Fb, Fd, D1, B16⟩
    have nb24 : (nb : Int) ≤ 24 := by have := Fb.1; omega
    have nd24 : (nd : Int) ≤ 24 := by have := Fd.1; omega
    have zB16 := B16.size
    have H17 : Hid (Below w.heap.size w w16 ∧ Four w16 w.heap.size (.slice a len cap) (.slice a' len' cap') t p ∧ AnsL w16 lw bw wb lb cb C wd ld cd R T Pp ∧ AnsL w16 lg bg xb mb kb (marks 1 mb) xd md kd (marks (1 + mb) md) T Pp ∧ Fit w16 w15.heap.size yb nb ob C ∧ Fit w16 w15.heap.size yd nd od R ∧ Apart yb yd) := ⟨below_call H16.out.1 H16.out.1.size B16, H16.out.2.1.all B16, H16.out.2.2.1.all B16, H16.out.2.2.2.all B16, ⟨Fb, Fd, D1⟩⟩
    clear H16 Fb Fd B16 Q15
    have H18 : Hid (Below w.heap.size w (w16.alloc (.cells #[.slice yb nb ob, .slice yd nd od, .int .i64 T, .int .i64 Pp] 31)) ∧ Four (w16.alloc (.cells #[.slice yb nb ob, .slice yd nd od, .int .i64 T, .int .i64 Pp] 31)) w.heap.size (.slice a len cap) (.slice a' len' cap') t p ∧ AnsL (w16.alloc (.cells #[.slice yb nb ob, .slice yd nd od, .int .i64 T, .int .i64 Pp] 31)) lw bw wb lb cb C wd ld cd R T Pp ∧ AnsL (w16.alloc (.cells #[.slice yb nb ob, .slice yd nd od, .int .i64 T, .int .i64 Pp] 31)) lg bg xb mb kb (marks 1 mb) xd md kd (marks (1 + mb) md) T Pp ∧ AnsL (w16.alloc (.cells #[.slice yb nb ob, .slice yd nd od, .int .i64 T, .int .i64 Pp] 31)) w15.heap.size w16.heap.size yb nb ob C yd nd od R T Pp) := ⟨below_call H17.out.1 H17.out.1.size (below_new _ _), H17.out.2.1.all (below_new _ _), H17.out.2.2.1.all (below_new _ _), H17.out.2.2.2.1.all (below_new _ _), ansL_new H17.out.2.2.2.2.1 H17.out.2.2.2.2.2.1 H17.out.2.2.2.2.2.2⟩
    clear H17 
    have q0 := H18.out.2.2.1.quad.c0
    have q1 := H18.out.2.2.1.quad.c1
    have q2 := H18.out.2.2.1.quad.c2
    have q3 := H18.out.2.2.1.quad.c3
    go_wp2_with fail
    clear q0 q1 q2 q3
    generalize w16.alloc (.cells #[.slice yb nb ob, .slice yd nd od, .int .i64 T, .int .i64 Pp] 31) = W16 at *
    generalize w16.heap.size = bh at *
    refine (eqList_same yb nb ob yd nd od wb lb cb wd ld cd C R T Pp _ H18.out.2.2.2.2.one.fit.ints H18.out.2.2.2.2.two.fit.ints H18.out.2.2.1.one.fit.ints H18.out.2.2.1.two.fit.ints (by omega) (by omega)).mono ?_
    rintro e w17 ⟨rfl, Bw17⟩
    have H19 : Hid (Below w.heap.size w w17 ∧ Four w17 w.heap.size (.slice a len cap) (.slice a' len' cap') t p ∧ AnsL w17 lw bw wb lb cb C wd ld cd R T Pp ∧ AnsL w17 lg bg xb mb kb (marks 1 mb) xd md kd (marks (1 + mb) md) T Pp ∧ AnsL w17 w15.heap.size bh yb nb ob C yd nd od R T Pp) := ⟨below_call H18.out.1 H18.out.1.size Bw17, H18.out.2.1.all Bw17, H18.out.2.2.1.all Bw17, H18.out.2.2.2.1.all Bw17, H18.out.2.2.2.2.all Bw17⟩
    clear H18 Bw17
    have v0 := H19.out.2.2.2.1.quad.c0
    have v1 := H19.out.2.2.2.1.quad.c1
    have v2 := H19.out.2.2.2.1.quad.c2
    have v3 := H19.out.2.2.2.1.quad.c3
    go_wp2_with fail
    clear v0 v1 v2 v3
    refine (heldList_any xb mb kb xd md kd T Pp 1 _ H19.out.2.2.2.1.one.fit.ints H19.out.2.2.2.1.two.fit.ints (by omega) (by omega) (by omega) (by omega)).mono ?_
    rintro e w18 ⟨rfl, Bw18⟩
    have H20 : Hid (Below w.heap.size w w18 ∧ Four w18 w.heap.size (.slice a len cap) (.slice a' len' cap') t p ∧ AnsL w18 lw bw wb lb cb C wd ld cd R T Pp ∧ AnsL w18 lg bg xb mb kb (marks 1 mb) xd md kd (marks (1 + mb) md) T Pp ∧ AnsL w18 w15.heap.size bh yb nb ob C yd nd od R T Pp) := ⟨below_call H19.out.1 H19.out.1.size Bw18, H19.out.2.1.all Bw18, H19.out.2.2.1.all Bw18, H19.out.2.2.2.1.all Bw18, H19.out.2.2.2.2.all Bw18⟩
    clear H19 Bw18
    go_wp2_with fail
    go_ret
    exact ⟨rfl, H20.out.1⟩

end Go.Proofs.Ytlicjbnagapdeaa.Crew
