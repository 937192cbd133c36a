/-
  The law FnExactListRun: whatever the arguments, it answers true and nothing that was there is written. (Written by wip/tools/genlaw4.py.)
-/
import Derived.Test.YtlicjbnagapdeaaListRunS
import Derived.Test.YtlicjbnagapdeaaLawListNext
namespace Go.Proofs.Ytlicjbnagapdeaa.Crew
open Go.ChangeShapes Go.WideShapes Go.ChangeAt Go.RowKit

theorem slL_marked {w w' : World} {lo hi : Nat} {a b c : Option Addr} {lc kc : Nat} {L : List Int} (S : Sl w lo hi c lc kc L) (M : ∃ wm, w.grownBy wm (blk a) ∧ wm.grownBy w' (blk b)) (D1 : Apart a c) (D2 : Apart b c) : Sl w' lo hi c lc kc L := by
  obtain ⟨wm, g1, g2⟩ := M
  have h1 := S.fit.other g1 (fun x hx => D1.symm.ne hx)
  exact ⟨h1.other g2 (fun x hx => D2.symm.ne hx), S.under, Nat.le_trans S.top (Nat.le_trans g1.size g2.size)⟩

theorem ansL_past {w w' : World} {lo hi : Nat} {a : Option Addr} {la ca : Nat} {xs : List Int} {b : Option Addr} {lb cb : Nat} {ys : List Int} {t p : Int} {c : Option Addr} {lc kc : Nat} {L L' : List Int} (A : AnsL w lo hi a la ca xs b lb cb ys t p) (S : Sl w lo hi c lc kc L) (F : Fit w' lo c lc kc L') (G : w.grownBy w' (blk c)) (D1 : Apart a c) (D2 : Apart b c) :
    AnsL w' lo hi a la ca xs b lb cb ys t p ∧ Sl w' lo hi c lc kc L' ∧ Wr lo hi w w' := by
  have k := wr_blk G S.range
  exact ⟨⟨A.quad.wr k (.inr (Nat.le_refl _)), ⟨A.one.fit.other G (fun x hx => D1.ne hx), A.one.under, Nat.le_trans A.one.top G.size⟩, ⟨A.two.fit.other G (fun x hx => D2.ne hx), A.two.under, Nat.le_trans A.two.top G.size⟩, A.apart⟩, ⟨F, S.under, Nat.le_trans S.top G.size⟩, k⟩

set_option maxHeartbeats 2000000 in
theorem lawListRun (a : Option Addr) (len cap : Nat) (xs : List Int) (a' : Option Addr) (len' cap' : Nat) (ys : List Int) (t p : Int) (n : Int) (w : World) (I : Ints w a len xs) (J : Ints w a' len' ys) (hm : (len : Int) ≤ 9223372036854775807) (hm' : (len' : Int) ≤ 9223372036854775807) :
    Calls Try.prog 9 #[lv (.slice a len cap) (.slice a' len' cap') t p, .int .i64 n] w fun e w' => e = .returned (.bool true) ∧ Below w.heap.size w w' := by
  have HI : Hid (Ints w a len xs ∧ Ints w a' len' ys ∧ xs.length = len ∧ ys.length = len') := ⟨I, J, I.1, J.1⟩
  clear I J
  by_cases hs : (1048576 : Int) < (len : Int) + (len' : Int)
  · go_enter Try.func9, Try.ntmps9
    go_wp2_with fail
    refine (szList_no a len cap a' len' cap' t p _ hm hm' hs).mono ?_
    rintro e w1 ⟨rfl, B1⟩
    have H1 : Hid (Below w.heap.size w w1) := below_call (below_new w _) (by simp) B1
    clear B1
    go_wp2_with fail
    go_ret
    exact ⟨rfl, H1.out⟩
  · have h0 : (len : Int) + (len' : Int) ≤ 1048576 := by omega
    have h1 : (len : Int) ≤ 1048576 := by omega
    have h2 : (len' : Int) ≤ 1048576 := by omega
    have h3 : ¬ (1048576 - (len : Int) - (len' : Int)) < 0 := by omega
    clear hm hm' hs
    obtain ⟨C, hC⟩ : ∃ C, C = lrC xs ys t p n := ⟨_, rfl⟩
    obtain ⟨R, hR⟩ : ∃ R, R = lrH xs ys t p n := ⟨_, rfl⟩
    obtain ⟨T, hT⟩ : ∃ T, T = lrT xs ys t p n := ⟨_, rfl⟩
    obtain ⟨Pp, hP⟩ : ∃ Pp, Pp = lrP xs ys t p n := ⟨_, rfl⟩
    obtain ⟨L, hL⟩ : ∃ L, L = lrL xs ys t p n := ⟨_, rfl⟩
    obtain ⟨hc24, hr24, hl3k⟩ := lr_len xs ys t p n
    rw [← hC] at hc24
    rw [← hR] at hr24
    rw [← hL] at hl3k
    have HC : Hid (C = lrC xs ys t p n ∧ R = lrH xs ys t p n ∧ T = lrT xs ys t p n ∧ Pp = lrP xs ys t p n ∧ L = lrL xs ys t p n) := ⟨hC, hR, hT, hP, hL⟩
    clear hC hR hT hP hL
    have H0 : Hid (Below w.heap.size w (w.alloc (.cells #[.slice a len cap, .slice a' len' cap', .int .i64 t, .int .i64 p] 45)) ∧ Four (w.alloc (.cells #[.slice a len cap, .slice a' len' cap', .int .i64 t, .int .i64 p] 45)) w.heap.size (.slice a len cap) (.slice a' len' cap') t p) := ⟨below_new _ _, four_new _ _ _ _ _ _⟩
    go_enter Try.func9, Try.ntmps9
    go_wp2_with fail
    refine (szList_yes a len cap a' len' cap' t p _ h0).mono ?_
    rintro e w1 ⟨rfl, B1⟩
    have H1 : Hid (Below w.heap.size w w1 ∧ Four w1 w.heap.size (.slice a len cap) (.slice a' len' cap') t p) := ⟨below_call H0.out.1 H0.out.1.size B1, H0.out.2.all B1⟩
    clear H0 B1
    have t0 := H1.out.2.c0
    have t1 := H1.out.2.c1
    have t2 := H1.out.2.c2
    have t3 := H1.out.2.c3
    go_wp2_with fail
    clear t0 t1 t2 t3
    refine (toList_any a len cap xs a' len' cap' ys t p _ (HI.out.1.kept H1.out.1) (HI.out.2.1.kept H1.out.1) h1 h2).mono ?_
    rintro e w2 ⟨g2, k2, rfl, R2, S2, hg2, hk2, ne2, B2⟩
    have s2 := B2.size
    have s1 := H1.out.2.1
    have Q2 : Hid (Ints w2 (some ⟨g2, 0, none⟩) len xs ∧ Ints w2 (some ⟨k2, 0, none⟩) len' ys) := ⟨(R2.fit (Nat.zero_le _) HI.out.2.2.1).ints, (S2.fit (Nat.zero_le _) HI.out.2.2.2).ints⟩
    have H2 : Hid (Below w.heap.size w w2 ∧ Four w2 w.heap.size (.slice a len cap) (.slice a' len' cap') t p) := ⟨below_call H1.out.1 H1.out.1.size B2, H1.out.2.all B2⟩
    clear H1 R2 S2 hg2 hk2 ne2 B2
    go_wp2_with fail
    refine (specListRun _ len len xs _ len' len' ys t p n _ Q2.out.1 Q2.out.2 h1 h2).mono ?_
    unfold RunPostL
    rw [← HC.out.1, ← HC.out.2.1, ← HC.out.2.2.1, ← HC.out.2.2.2.1, ← HC.out.2.2.2.2]
    rintro e w3 ⟨wb, lb, cb, wd, ld, cd, wbz, wbn, wbk, rfl, Fb, Fd, Fl, D1, D2, D3, B3⟩
    have lb24 : (lb : Int) ≤ 24 := by have := Fb.1; omega
    have ld24 : (ld : Int) ≤ 24 := by have := Fd.1; omega
    have wbn3k : (wbn : Int) ≤ 3000 := by have := Fl.1; omega
    have zB3 := B3.size
    have H3 : Hid (Below w.heap.size w w3 ∧ Four w3 w.heap.size (.slice a len cap) (.slice a' len' cap') t p ∧ Fit w3 w2.heap.size wb lb cb C ∧ Fit w3 w2.heap.size wd ld cd R ∧ Apart wb wd ∧ Fit w3 w2.heap.size wbz wbn wbk L) := ⟨below_call H2.out.1 H2.out.1.size B3, H2.out.2.all B3, ⟨Fb, Fd, D1, Fl⟩⟩
    clear H2 Fb Fd Q2 B3 Fl
    have H4 : Hid (Below w.heap.size w (w3.alloc (.cells #[.slice wb lb cb, .slice wd ld cd, .int .i64 T, .int .i64 Pp] 31)) ∧ Four (w3.alloc (.cells #[.slice wb lb cb, .slice wd ld cd, .int .i64 T, .int .i64 Pp] 31)) w.heap.size (.slice a len cap) (.slice a' len' cap') t p ∧ AnsL (w3.alloc (.cells #[.slice wb lb cb, .slice wd ld cd, .int .i64 T, .int .i64 Pp] 31)) w2.heap.size w3.heap.size wb lb cb C wd ld cd R T Pp ∧ Sl (w3.alloc (.cells #[.slice wb lb cb, .slice wd ld cd, .int .i64 T, .int .i64 Pp] 31)) w2.heap.size w3.heap.size wbz wbn wbk L) := ⟨below_call H3.out.1 H3.out.1.size (below_new _ _), H3.out.2.1.all (below_new _ _), ansL_new H3.out.2.2.1 H3.out.2.2.2.1 H3.out.2.2.2.2.1, H3.out.2.2.2.2.2.sl.all (below_new _ _)⟩
    clear H3 
    have y3 : (w3.alloc (.cells #[.slice wb lb cb, .slice wd ld cd, .int .i64 T, .int .i64 Pp] 31)).heap.size = w3.heap.size + 1 := by simp
    have t0 := H4.out.2.1.c0
    have t1 := H4.out.2.1.c1
    have t2 := H4.out.2.1.c2
    have t3 := H4.out.2.1.c3
    go_wp2_with fail
    clear t0 t1 t2 t3
    generalize w3.alloc (.cells #[.slice wb lb cb, .slice wd ld cd, .int .i64 T, .int .i64 Pp] 31) = W3 at *
    generalize w3.heap.size = bw at *
    generalize w2.heap.size = lw at *
    refine (toList_any a len cap xs a' len' cap' ys t p _ (HI.out.1.kept H4.out.1) (HI.out.2.1.kept H4.out.1) h1 h2).mono ?_
    rintro e w5 ⟨g5, k5, rfl, R5, S5, hg5, hk5, ne5, B5⟩
    have z5 := B5.size
    have i5 := R5.lt
    have j5 := S5.lt
    have H5 : Hid (Below w.heap.size w w5 ∧ Four w5 w.heap.size (.slice a len cap) (.slice a' len' cap') t p ∧ AnsL w5 lw bw wb lb cb C wd ld cd R T Pp ∧ Sl w5 lw bw wbz wbn wbk L ∧ Fit w5 W3.heap.size (some ⟨g5, 0, none⟩) len len xs ∧ Fit w5 W3.heap.size (some ⟨k5, 0, none⟩) len' len' ys ∧ Apart (some ⟨g5, 0, none⟩) (some ⟨k5, 0, none⟩)) := ⟨below_call H4.out.1 H4.out.1.size B5, H4.out.2.1.all B5, H4.out.2.2.1.all B5, H4.out.2.2.2.all B5, ⟨R5.fit hg5 HI.out.2.2.1, S5.fit hk5 HI.out.2.2.2, (fun x y hx hy => by cases hx; cases hy; exact ne5)⟩⟩
    clear H4 R5 S5 hg5 hk5 B5
    have H6 : Hid (Below w.heap.size w (w5.alloc (.cells #[.slice (some ⟨g5, 0, none⟩) len len, .slice (some ⟨k5, 0, none⟩) len' len', .int .i64 t, .int .i64 p] 31)) ∧ Four (w5.alloc (.cells #[.slice (some ⟨g5, 0, none⟩) len len, .slice (some ⟨k5, 0, none⟩) len' len', .int .i64 t, .int .i64 p] 31)) w.heap.size (.slice a len cap) (.slice a' len' cap') t p ∧ AnsL (w5.alloc (.cells #[.slice (some ⟨g5, 0, none⟩) len len, .slice (some ⟨k5, 0, none⟩) len' len', .int .i64 t, .int .i64 p] 31)) lw bw wb lb cb C wd ld cd R T Pp ∧ Sl (w5.alloc (.cells #[.slice (some ⟨g5, 0, none⟩) len len, .slice (some ⟨k5, 0, none⟩) len' len', .int .i64 t, .int .i64 p] 31)) lw bw wbz wbn wbk L ∧ AnsL (w5.alloc (.cells #[.slice (some ⟨g5, 0, none⟩) len len, .slice (some ⟨k5, 0, none⟩) len' len', .int .i64 t, .int .i64 p] 31)) W3.heap.size w5.heap.size (some ⟨g5, 0, none⟩) len len xs (some ⟨k5, 0, none⟩) len' len' ys t p) := ⟨below_call H5.out.1 H5.out.1.size (below_new _ _), H5.out.2.1.all (below_new _ _), H5.out.2.2.1.all (below_new _ _), H5.out.2.2.2.1.all (below_new _ _), ansL_new H5.out.2.2.2.2.1 H5.out.2.2.2.2.2.1 H5.out.2.2.2.2.2.2⟩
    clear H5 
    have y5 : (w5.alloc (.cells #[.slice (some ⟨g5, 0, none⟩) len len, .slice (some ⟨k5, 0, none⟩) len' len', .int .i64 t, .int .i64 p] 31)).heap.size = w5.heap.size + 1 := by simp
    go_wp2_with fail
    generalize w5.alloc (.cells #[.slice (some ⟨g5, 0, none⟩) len len, .slice (some ⟨k5, 0, none⟩) len' len', .int .i64 t, .int .i64 p] 31) = W5 at *
    generalize w5.heap.size = bx at *
    generalize W3.heap.size = lx at *
    refine (implListRun _ len len xs _ len' len' ys t p n _ H6.out.2.2.2.2.one.fit.ints H6.out.2.2.2.2.two.fit.ints).mono ?_
    unfold RunPostL
    rw [← HC.out.1, ← HC.out.2.1, ← HC.out.2.2.1, ← HC.out.2.2.2.1, ← HC.out.2.2.2.2]
    rintro e w7 ⟨xb, mb, kb, xd, md, kd, xbz, xbn, xbk, rfl, Fb, Fd, Fl, D1, D2, D3, B7⟩
    have mb24 : (mb : Int) ≤ 24 := by have := Fb.1; omega
    have md24 : (md : Int) ≤ 24 := by have := Fd.1; omega
    have xbn3k : (xbn : Int) ≤ 3000 := by have := Fl.1; omega
    have zB7 := B7.size
    have DD : Hid (Apart xb xbz ∧ Apart xd xbz) := ⟨D2, D3⟩
    clear D2 D3
    have H7 : Hid (Below w.heap.size w w7 ∧ Four w7 w.heap.size (.slice a len cap) (.slice a' len' cap') t p ∧ AnsL w7 lw bw wb lb cb C wd ld cd R T Pp ∧ Sl w7 lw bw wbz wbn wbk L ∧ AnsL w7 lx bx (some ⟨g5, 0, none⟩) len len xs (some ⟨k5, 0, none⟩) len' len' ys t p ∧ Fit w7 W5.heap.size xb mb kb C ∧ Fit w7 W5.heap.size xd md kd R ∧ Apart xb xd ∧ Fit w7 W5.heap.size xbz xbn xbk L) := ⟨below_call H6.out.1 H6.out.1.size B7, H6.out.2.1.all B7, H6.out.2.2.1.all B7, H6.out.2.2.2.1.all B7, H6.out.2.2.2.2.all B7, ⟨Fb, Fd, D1, Fl⟩⟩
    clear H6 Fb Fd B7 Fl
    have H8 : Hid (Below w.heap.size w (w7.alloc (.cells #[.slice xb mb kb, .slice xd md kd, .int .i64 T, .int .i64 Pp] 31)) ∧ Four (w7.alloc (.cells #[.slice xb mb kb, .slice xd md kd, .int .i64 T, .int .i64 Pp] 31)) w.heap.size (.slice a len cap) (.slice a' len' cap') t p ∧ AnsL (w7.alloc (.cells #[.slice xb mb kb, .slice xd md kd, .int .i64 T, .int .i64 Pp] 31)) lw bw wb lb cb C wd ld cd R T Pp ∧ Sl (w7.alloc (.cells #[.slice xb mb kb, .slice xd md kd, .int .i64 T, .int .i64 Pp] 31)) lw bw wbz wbn wbk L ∧ AnsL (w7.alloc (.cells #[.slice xb mb kb, .slice xd md kd, .int .i64 T, .int .i64 Pp] 31)) lx bx (some ⟨g5, 0, none⟩) len len xs (some ⟨k5, 0, none⟩) len' len' ys t p ∧ AnsL (w7.alloc (.cells #[.slice xb mb kb, .slice xd md kd, .int .i64 T, .int .i64 Pp] 31)) W5.heap.size w7.heap.size xb mb kb C xd md kd R T Pp ∧ Sl (w7.alloc (.cells #[.slice xb mb kb, .slice xd md kd, .int .i64 T, .int .i64 Pp] 31)) W5.heap.size w7.heap.size xbz xbn xbk L) := ⟨below_call H7.out.1 H7.out.1.size (below_new _ _), H7.out.2.1.all (below_new _ _), H7.out.2.2.1.all (below_new _ _), H7.out.2.2.2.1.all (below_new _ _), H7.out.2.2.2.2.1.all (below_new _ _), ansL_new H7.out.2.2.2.2.2.1 H7.out.2.2.2.2.2.2.1 H7.out.2.2.2.2.2.2.2.1, H7.out.2.2.2.2.2.2.2.2.sl.all (below_new _ _)⟩
    clear H7 
    have q0 := H8.out.2.2.1.quad.c0
    have q1 := H8.out.2.2.1.quad.c1
    have q2 := H8.out.2.2.1.quad.c2
    have q3 := H8.out.2.2.1.quad.c3
    go_wp2_with fail
    clear q0 q1 q2 q3
    generalize w7.alloc (.cells #[.slice xb mb kb, .slice xd md kd, .int .i64 T, .int .i64 Pp] 31) = W7 at *
    generalize w7.heap.size = bg at *
    generalize W5.heap.size = lg at *
    refine (eqList_same xb mb kb xd md kd wb lb cb wd ld cd C R T Pp _ H8.out.2.2.2.2.2.1.one.fit.ints H8.out.2.2.2.2.2.1.two.fit.ints H8.out.2.2.1.one.fit.ints H8.out.2.2.1.two.fit.ints (by omega) (by omega)).mono ?_
    rintro e w8 ⟨rfl, Bw8⟩
    have H9 : Hid (Below w.heap.size w w8 ∧ Four w8 w.heap.size (.slice a len cap) (.slice a' len' cap') t p ∧ AnsL w8 lw bw wb lb cb C wd ld cd R T Pp ∧ Sl w8 lw bw wbz wbn wbk L ∧ AnsL w8 lx bx (some ⟨g5, 0, none⟩) len len xs (some ⟨k5, 0, none⟩) len' len' ys t p ∧ AnsL w8 lg bg xb mb kb C xd md kd R T Pp ∧ Sl w8 lg bg xbz xbn xbk L) := ⟨below_call H8.out.1 H8.out.1.size Bw8, H8.out.2.1.all Bw8, H8.out.2.2.1.all Bw8, H8.out.2.2.2.1.all Bw8, H8.out.2.2.2.2.1.all Bw8, H8.out.2.2.2.2.2.1.all Bw8, H8.out.2.2.2.2.2.2.all Bw8⟩
    clear H8 Bw8
    go_wp2_with fail
    refine (eqInts_same xbz xbn xbk L wbz wbn wbk _ H9.out.2.2.2.2.2.2.fit.ints H9.out.2.2.2.1.fit.ints (by omega)).mono ?_
    rintro e w8b ⟨rfl, Bw8b⟩
    have H10 : Hid (Below w.heap.size w w8b ∧ Four w8b w.heap.size (.slice a len cap) (.slice a' len' cap') t p ∧ AnsL w8b lw bw wb lb cb C wd ld cd R T Pp ∧ Sl w8b lw bw wbz wbn wbk L ∧ AnsL w8b lx bx (some ⟨g5, 0, none⟩) len len xs (some ⟨k5, 0, none⟩) len' len' ys t p ∧ AnsL w8b lg bg xb mb kb C xd md kd R T Pp ∧ Sl w8b lg bg xbz xbn xbk L) := ⟨below_call H9.out.1 H9.out.1.size Bw8b, H9.out.2.1.all Bw8b, H9.out.2.2.1.all Bw8b, H9.out.2.2.2.1.all Bw8b, H9.out.2.2.2.2.1.all Bw8b, H9.out.2.2.2.2.2.1.all Bw8b, H9.out.2.2.2.2.2.2.all Bw8b⟩
    clear H9 Bw8b
    go_wp2_with fail
    have t0 := H10.out.2.1.c0
    have t1 := H10.out.2.1.c1
    have t2 := H10.out.2.1.c2
    have t3 := H10.out.2.1.c3
    have u0 := H10.out.2.2.2.2.1.quad.c0
    have u1 := H10.out.2.2.2.2.1.quad.c1
    have u2 := H10.out.2.2.2.2.1.quad.c2
    have u3 := H10.out.2.2.2.2.1.quad.c3
    go_region_held3 (fun w' => w'.cell? ⟨w.heap.size, 0, none⟩ = some (.slice a len cap) ∧ w'.cell? ⟨w.heap.size, 1, none⟩ = some (.slice a' len' cap') ∧ w'.cell? ⟨w.heap.size, 2, none⟩ = some (.int .i64 t) ∧ w'.cell? ⟨w.heap.size, 3, none⟩ = some (.int .i64 p) ∧ w'.cell? ⟨bx, 0, none⟩ = some (.slice (some ⟨g5, 0, none⟩) len len) ∧ w'.cell? ⟨bx, 1, none⟩ = some (.slice (some ⟨k5, 0, none⟩) len' len') ∧ w'.cell? ⟨bx, 2, none⟩ = some (.int .i64 t) ∧ w'.cell? ⟨bx, 3, none⟩ = some (.int .i64 p)) (go_keep) (first | (go_at_call 29; refine (toList_any a len cap xs a' len' cap' ys t p _ (HI.out.1.kept H10.out.1.drew) (HI.out.2.1.kept H10.out.1.drew) h1 h2).mono ?_; rintro e w9 ⟨g9, k9, rfl, R9, S9, _, _, _, B9⟩; have H11 : Hid (Below w.heap.size w w9 ∧ Four w9 w.heap.size (.slice a len cap) (.slice a' len' cap') t p ∧ AnsL w9 lw bw wb lb cb C wd ld cd R T Pp ∧ Sl w9 lw bw wbz wbn wbk L ∧ AnsL w9 lx bx (some ⟨g5, 0, none⟩) len len xs (some ⟨k5, 0, none⟩) len' len' ys t p ∧ AnsL w9 lg bg xb mb kb C xd md kd R T Pp ∧ Sl w9 lg bg xbz xbn xbk L ∧ (Row w9 g9 len xs ∧ Row w9 k9 len' ys)) := ⟨below_call (w1 := w8b.drew) H10.out.1.drew H10.out.1.drew.size B9, Four.all (w := w8b.drew) H10.out.2.1.drew B9, H10.out.2.2.1.drew.all B9, H10.out.2.2.2.1.drew1.all B9, H10.out.2.2.2.2.1.drew.all B9, H10.out.2.2.2.2.2.1.drew.all B9, H10.out.2.2.2.2.2.2.drew1.all B9, R9, S9⟩; have t0 := H11.out.2.1.c0; have u0 := H11.out.2.2.2.2.1.quad.c0; have t1 := H11.out.2.1.c1; have u1 := H11.out.2.2.2.2.1.quad.c1; have t2 := H11.out.2.1.c2; have u2 := H11.out.2.2.2.2.1.quad.c2; have t3 := H11.out.2.1.c3; have u3 := H11.out.2.2.2.2.1.quad.c3; clear R9 S9 B9) | (go_at_call 30; refine (eqList_same _ _ _ _ _ _ _ _ _ _ _ _ xs ys t p _ H11.out.2.2.2.2.1.one.fit.ints H11.out.2.2.2.2.1.two.fit.ints (H11.out.2.2.2.2.2.2.2.1.fit (Nat.zero_le _) HI.out.2.2.1).ints (H11.out.2.2.2.2.2.2.2.2.fit (Nat.zero_le _) HI.out.2.2.2).ints h1 h2).mono ?_; rintro e w10 ⟨rfl, B10⟩; have H12 : Hid (Below w.heap.size w w10 ∧ Four w10 w.heap.size (.slice a len cap) (.slice a' len' cap') t p ∧ AnsL w10 lw bw wb lb cb C wd ld cd R T Pp ∧ Sl w10 lw bw wbz wbn wbk L ∧ AnsL w10 lx bx (some ⟨g5, 0, none⟩) len len xs (some ⟨k5, 0, none⟩) len' len' ys t p ∧ AnsL w10 lg bg xb mb kb C xd md kd R T Pp ∧ Sl w10 lg bg xbz xbn xbk L) := ⟨below_call H11.out.1 H11.out.1.size B10, H11.out.2.1.all B10, H11.out.2.2.1.all B10, H11.out.2.2.2.1.all B10, H11.out.2.2.2.2.1.all B10, H11.out.2.2.2.2.2.1.all B10, H11.out.2.2.2.2.2.2.1.all B10⟩; have t0 := H12.out.2.1.c0; have u0 := H12.out.2.2.2.2.1.quad.c0; have t1 := H12.out.2.1.c1; have u1 := H12.out.2.2.2.2.1.quad.c1; have t2 := H12.out.2.1.c2; have u2 := H12.out.2.2.2.2.1.quad.c2; have t3 := H12.out.2.1.c3; have u3 := H12.out.2.2.2.2.1.quad.c3; clear B10))
    clear H10 H11
    go_wp2_with fail
    clear t0 t1 t2 t3 u0 u1 u2 u3
    refine (markList_any lx (some ⟨g5, 0, none⟩) len len xs (some ⟨k5, 0, none⟩) len' len' ys t p 1 _ H12.out.2.2.2.2.1.one.fit H12.out.2.2.2.2.1.two.fit H12.out.2.2.2.2.1.apart (by omega) (by omega) (by omega) (by omega)).mono ?_
    rintro e w11 ⟨rfl, Fw11, Gw11, Mw11⟩
    obtain ⟨Aw11, Kw11⟩ := ansL_marked H12.out.2.2.2.2.1 Fw11 Gw11 Mw11
    have H13 : Hid (Below w.heap.size w w11 ∧ Four w11 w.heap.size (.slice a len cap) (.slice a' len' cap') t p ∧ AnsL w11 lw bw wb lb cb C wd ld cd R T Pp ∧ Sl w11 lw bw wbz wbn wbk L ∧ AnsL w11 lg bg xb mb kb C xd md kd R T Pp ∧ Sl w11 lg bg xbz xbn xbk L) := ⟨Kw11.below _ _ H12.out.1 (by omega) H12.out.1.size, H12.out.2.1.wr Kw11 (by omega), H12.out.2.2.1.wr Kw11 (by omega) (by omega), H12.out.2.2.2.1.wr Kw11 (by omega), H12.out.2.2.2.2.2.1.wr Kw11 (by omega) (by omega), H12.out.2.2.2.2.2.2.wr Kw11 (by omega)⟩
    clear H12 Fw11 Gw11 Mw11 Aw11 Kw11
    have hk : ¬ (1 + (len : Int) + (len' : Int)) < 0 := by omega
    have q0 := H13.out.2.2.1.quad.c0
    have q1 := H13.out.2.2.1.quad.c1
    have q2 := H13.out.2.2.1.quad.c2
    have q3 := H13.out.2.2.1.quad.c3
    have v0 := H13.out.2.2.2.2.1.quad.c0
    have v1 := H13.out.2.2.2.2.1.quad.c1
    have v2 := H13.out.2.2.2.2.1.quad.c2
    have v3 := H13.out.2.2.2.2.1.quad.c3
    go_wp2_with fail
    clear q0 q1 q2 q3 v0 v1 v2 v3
    refine (eqList_same xb mb kb xd md kd wb lb cb wd ld cd C R T Pp _ H13.out.2.2.2.2.1.one.fit.ints H13.out.2.2.2.2.1.two.fit.ints H13.out.2.2.1.one.fit.ints H13.out.2.2.1.two.fit.ints (by omega) (by omega)).mono ?_
    rintro e w12 ⟨rfl, Bw12⟩
    have H14 : Hid (Below w.heap.size w w12 ∧ Four w12 w.heap.size (.slice a len cap) (.slice a' len' cap') t p ∧ AnsL w12 lw bw wb lb cb C wd ld cd R T Pp ∧ Sl w12 lw bw wbz wbn wbk L ∧ AnsL w12 lg bg xb mb kb C xd md kd R T Pp ∧ Sl w12 lg bg xbz xbn xbk L) := ⟨below_call H13.out.1 H13.out.1.size Bw12, H13.out.2.1.all Bw12, H13.out.2.2.1.all Bw12, H13.out.2.2.2.1.all Bw12, H13.out.2.2.2.2.1.all Bw12, H13.out.2.2.2.2.2.all Bw12⟩
    clear H13 Bw12
    go_wp2_with fail
    refine (eqInts_same xbz xbn xbk L wbz wbn wbk _ H14.out.2.2.2.2.2.fit.ints H14.out.2.2.2.1.fit.ints (by omega)).mono ?_
    rintro e w12b ⟨rfl, Bw12b⟩
    have H15 : Hid (Below w.heap.size w w12b ∧ Four w12b w.heap.size (.slice a len cap) (.slice a' len' cap') t p ∧ AnsL w12b lw bw wb lb cb C wd ld cd R T Pp ∧ Sl w12b lw bw wbz wbn wbk L ∧ AnsL w12b lg bg xb mb kb C xd md kd R T Pp ∧ Sl w12b lg bg xbz xbn xbk L) := ⟨below_call H14.out.1 H14.out.1.size Bw12b, H14.out.2.1.all Bw12b, H14.out.2.2.1.all Bw12b, H14.out.2.2.2.1.all Bw12b, H14.out.2.2.2.2.1.all Bw12b, H14.out.2.2.2.2.2.all Bw12b⟩
    clear H14 Bw12b
    have v0 := H15.out.2.2.2.2.1.quad.c0
    have v1 := H15.out.2.2.2.2.1.quad.c1
    have v2 := H15.out.2.2.2.2.1.quad.c2
    have v3 := H15.out.2.2.2.2.1.quad.c3
    go_wp2_with fail
    clear v0 v1 v2 v3
    refine (markList_any lg xb mb kb C xd md kd R T Pp 1 _ H15.out.2.2.2.2.1.one.fit H15.out.2.2.2.2.1.two.fit H15.out.2.2.2.2.1.apart (by omega) (by omega) (by omega) (by omega)).mono ?_
    rintro e w13 ⟨rfl, Fw13, Gw13, Mw13⟩
    obtain ⟨Aw13, Kw13⟩ := ansL_marked H15.out.2.2.2.2.1 Fw13 Gw13 Mw13
    have H16 : Hid (Below w.heap.size w w13 ∧ Four w13 w.heap.size (.slice a len cap) (.slice a' len' cap') t p ∧ AnsL w13 lw bw wb lb cb C wd ld cd R T Pp ∧ Sl w13 lw bw wbz wbn wbk L ∧ AnsL w13 lg bg xb mb kb (marks 1 mb) xd md kd (marks (1 + mb) md) T Pp ∧ Sl w13 lg bg xbz xbn xbk L) := ⟨Kw13.below _ _ H15.out.1 (by omega) H15.out.1.size, H15.out.2.1.wr Kw13 (by omega), H15.out.2.2.1.wr Kw13 (by omega) (by omega), H15.out.2.2.2.1.wr Kw13 (by omega), Aw13, slL_marked H15.out.2.2.2.2.2 Mw13 DD.out.1 DD.out.2⟩
    clear H15 Fw13 Gw13 Mw13 Aw13 Kw13
    go_wp2_with fail
    refine (markFit lg xbz xbn xbk L (1 + (mb : Int) + (md : Int)) _ H16.out.2.2.2.2.2.fit (by omega) (by omega) (by omega)).mono ?_
    rintro e w13b ⟨rfl, F13, G13⟩
    obtain ⟨A13, S13, K13⟩ := ansL_past H16.out.2.2.2.2.1 H16.out.2.2.2.2.2 F13 G13 DD.out.1 DD.out.2
    have H17 : Hid (Below w.heap.size w w13b ∧ Four w13b w.heap.size (.slice a len cap) (.slice a' len' cap') t p ∧ AnsL w13b lw bw wb lb cb C wd ld cd R T Pp ∧ Sl w13b lw bw wbz wbn wbk L ∧ AnsL w13b lg bg xb mb kb (marks 1 mb) xd md kd (marks (1 + mb) md) T Pp ∧ Sl w13b lg bg xbz xbn xbk (marks (1 + mb + md) xbn)) := ⟨K13.below _ _ H16.out.1 (by omega) H16.out.1.size, H16.out.2.1.wr K13 (by omega), H16.out.2.2.1.wr K13 (by omega) (by omega), H16.out.2.2.2.1.wr K13 (by omega), A13, S13⟩
    clear H16 F13 G13 A13 S13 K13
    have v0 := H17.out.2.2.2.2.1.quad.c0
    have v1 := H17.out.2.2.2.2.1.quad.c1
    have v2 := H17.out.2.2.2.2.1.quad.c2
    have v3 := H17.out.2.2.2.2.1.quad.c3
    go_wp2_with fail
    clear v0 v1 v2 v3
    refine (heldList_any xb mb kb xd md kd T Pp 1 _ H17.out.2.2.2.2.1.one.fit.ints H17.out.2.2.2.2.1.two.fit.ints (by omega) (by omega) (by omega) (by omega)).mono ?_
    rintro e w14 ⟨rfl, Bw14⟩
    have H18 : Hid (Below w.heap.size w w14 ∧ Four w14 w.heap.size (.slice a len cap) (.slice a' len' cap') t p ∧ AnsL w14 lw bw wb lb cb C wd ld cd R T Pp ∧ Sl w14 lw bw wbz wbn wbk L ∧ AnsL w14 lg bg xb mb kb (marks 1 mb) xd md kd (marks (1 + mb) md) T Pp ∧ Sl w14 lg bg xbz xbn xbk (marks (1 + mb + md) xbn)) := ⟨below_call H17.out.1 H17.out.1.size Bw14, H17.out.2.1.all Bw14, H17.out.2.2.1.all Bw14, H17.out.2.2.2.1.all Bw14, H17.out.2.2.2.2.1.all Bw14, H17.out.2.2.2.2.2.all Bw14⟩
    clear H17 Bw14
    have hq : ¬ (1 + (mb : Int) + (md : Int)) < 0 := by omega
    go_wp2_with fail
    refine (heldInts_any xbz xbn xbk (1 + (mb : Int) + (md : Int)) _ H18.out.2.2.2.2.2.fit.ints (by omega) (by omega) (by omega)).mono ?_
    rintro e w14b ⟨rfl, Bw14b⟩
    have H19 : Hid (Below w.heap.size w w14b ∧ Four w14b w.heap.size (.slice a len cap) (.slice a' len' cap') t p ∧ AnsL w14b lw bw wb lb cb C wd ld cd R T Pp ∧ Sl w14b lw bw wbz wbn wbk L ∧ AnsL w14b lg bg xb mb kb (marks 1 mb) xd md kd (marks (1 + mb) md) T Pp ∧ Sl w14b lg bg xbz xbn xbk (marks (1 + mb + md) xbn)) := ⟨below_call H18.out.1 H18.out.1.size Bw14b, H18.out.2.1.all Bw14b, H18.out.2.2.1.all Bw14b, H18.out.2.2.2.1.all Bw14b, H18.out.2.2.2.2.1.all Bw14b, H18.out.2.2.2.2.2.all Bw14b⟩
    clear H18 Bw14b
    have hq2 : ¬ (1 + (mb : Int) + (md : Int) + (xbn : Int)) < 0 := by omega
    have t0 := H19.out.2.1.c0
    have t1 := H19.out.2.1.c1
    have t2 := H19.out.2.1.c2
    have t3 := H19.out.2.1.c3
    go_wp2_with fail
    clear t0 t1 t2 t3
    refine (toList_any a len cap xs a' len' cap' ys t p _ (HI.out.1.kept H19.out.1) (HI.out.2.1.kept H19.out.1) h1 h2).mono ?_
    rintro e w15 ⟨g15, k15, rfl, R15, S15, hg15, hk15, ne15, B15⟩
    have Q15 : Hid (Ints w15 (some ⟨g15, 0, none⟩) len xs ∧ Ints w15 (some ⟨k15, 0, none⟩) len' ys) := ⟨(R15.fit (Nat.zero_le _) HI.out.2.2.1).ints, (S15.fit (Nat.zero_le _) HI.out.2.2.2).ints⟩
    have H20 : Hid (Below w.heap.size w w15 ∧ Four w15 w.heap.size (.slice a len cap) (.slice a' len' cap') t p ∧ AnsL w15 lw bw wb lb cb C wd ld cd R T Pp ∧ Sl w15 lw bw wbz wbn wbk L ∧ AnsL w15 lg bg xb mb kb (marks 1 mb) xd md kd (marks (1 + mb) md) T Pp ∧ Sl w15 lg bg xbz xbn xbk (marks (1 + mb + md) xbn)) := ⟨below_call H19.out.1 H19.out.1.size B15, H19.out.2.1.all B15, H19.out.2.2.1.all B15, H19.out.2.2.2.1.all B15, H19.out.2.2.2.2.1.all B15, H19.out.2.2.2.2.2.all B15⟩
    clear H19 R15 S15 hg15 hk15 ne15 B15
    go_wp2_with fail
    refine (implListRun _ len len xs _ len' len' ys t p n _ Q15.out.1 Q15.out.2).mono ?_
    unfold RunPostL
    rw [← HC.out.1, ← HC.out.2.1, ← HC.out.2.2.1, ← HC.out.2.2.2.1, ← HC.out.2.2.2.2]
    rintro e w16 ⟨yb, nb, ob, yd, nd, od, ybz, ybn, ybk, rfl, Fb, Fd, Fl, D1, D2, D3, B16⟩
    have nb24 : (nb : Int) ≤ 24 := by have := Fb.1; omega
    have nd24 : (nd : Int) ≤ 24 := by have := Fd.1; omega
    have ybn3k : (ybn : Int) ≤ 3000 := by have := Fl.1; omega
    have zB16 := B16.size
    have H21 : Hid (Below w.heap.size w w16 ∧ Four w16 w.heap.size (.slice a len cap) (.slice a' len' cap') t p ∧ AnsL w16 lw bw wb lb cb C wd ld cd R T Pp ∧ Sl w16 lw bw wbz wbn wbk L ∧ AnsL w16 lg bg xb mb kb (marks 1 mb) xd md kd (marks (1 + mb) md) T Pp ∧ Sl w16 lg bg xbz xbn xbk (marks (1 + mb + md) xbn) ∧ Fit w16 w15.heap.size yb nb ob C ∧ Fit w16 w15.heap.size yd nd od R ∧ Apart yb yd ∧ Fit w16 w15.heap.size ybz ybn ybk L) := ⟨below_call H20.out.1 H20.out.1.size B16, H20.out.2.1.all B16, H20.out.2.2.1.all B16, H20.out.2.2.2.1.all B16, H20.out.2.2.2.2.1.all B16, H20.out.2.2.2.2.2.all B16, ⟨Fb, Fd, D1, Fl⟩⟩
    clear H20 Fb Fd B16 Q15 Fl D2 D3
    have H22 : Hid (Below w.heap.size w (w16.alloc (.cells #[.slice yb nb ob, .slice yd nd od, .int .i64 T, .int .i64 Pp] 31)) ∧ Four (w16.alloc (.cells #[.slice yb nb ob, .slice yd nd od, .int .i64 T, .int .i64 Pp] 31)) w.heap.size (.slice a len cap) (.slice a' len' cap') t p ∧ AnsL (w16.alloc (.cells #[.slice yb nb ob, .slice yd nd od, .int .i64 T, .int .i64 Pp] 31)) lw bw wb lb cb C wd ld cd R T Pp ∧ Sl (w16.alloc (.cells #[.slice yb nb ob, .slice yd nd od, .int .i64 T, .int .i64 Pp] 31)) lw bw wbz wbn wbk L ∧ AnsL (w16.alloc (.cells #[.slice yb nb ob, .slice yd nd od, .int .i64 T, .int .i64 Pp] 31)) lg bg xb mb kb (marks 1 mb) xd md kd (marks (1 + mb) md) T Pp ∧ Sl (w16.alloc (.cells #[.slice yb nb ob, .slice yd nd od, .int .i64 T, .int .i64 Pp] 31)) lg bg xbz xbn xbk (marks (1 + mb + md) xbn) ∧ AnsL (w16.alloc (.cells #[.slice yb nb ob, .slice yd nd od, .int .i64 T, .int .i64 Pp] 31)) w15.heap.size w16.heap.size yb nb ob C yd nd od R T Pp ∧ Sl (w16.alloc (.cells #[.slice yb nb ob, .slice yd nd od, .int .i64 T, .int .i64 Pp] 31)) w15.heap.size w16.heap.size ybz ybn ybk L) := ⟨below_call H21.out.1 H21.out.1.size (below_new _ _), H21.out.2.1.all (below_new _ _), H21.out.2.2.1.all (below_new _ _), H21.out.2.2.2.1.all (below_new _ _), H21.out.2.2.2.2.1.all (below_new _ _), H21.out.2.2.2.2.2.1.all (below_new _ _), ansL_new H21.out.2.2.2.2.2.2.1 H21.out.2.2.2.2.2.2.2.1 H21.out.2.2.2.2.2.2.2.2.1, H21.out.2.2.2.2.2.2.2.2.2.sl.all (below_new _ _)⟩
    clear H21 
    have q0 := H22.out.2.2.1.quad.c0
    have q1 := H22.out.2.2.1.quad.c1
    have q2 := H22.out.2.2.1.quad.c2
    have q3 := H22.out.2.2.1.quad.c3
    go_wp2_with fail
    clear q0 q1 q2 q3
    generalize w16.alloc (.cells #[.slice yb nb ob, .slice yd nd od, .int .i64 T, .int .i64 Pp] 31) = W16 at *
    generalize w16.heap.size = bh at *
    refine (eqList_same yb nb ob yd nd od wb lb cb wd ld cd C R T Pp _ H22.out.2.2.2.2.2.2.1.one.fit.ints H22.out.2.2.2.2.2.2.1.two.fit.ints H22.out.2.2.1.one.fit.ints H22.out.2.2.1.two.fit.ints (by omega) (by omega)).mono ?_
    rintro e w17 ⟨rfl, Bw17⟩
    have H23 : Hid (Below w.heap.size w w17 ∧ Four w17 w.heap.size (.slice a len cap) (.slice a' len' cap') t p ∧ AnsL w17 lw bw wb lb cb C wd ld cd R T Pp ∧ Sl w17 lw bw wbz wbn wbk L ∧ AnsL w17 lg bg xb mb kb (marks 1 mb) xd md kd (marks (1 + mb) md) T Pp ∧ Sl w17 lg bg xbz xbn xbk (marks (1 + mb + md) xbn) ∧ AnsL w17 w15.heap.size bh yb nb ob C yd nd od R T Pp ∧ Sl w17 w15.heap.size bh ybz ybn ybk L) := ⟨below_call H22.out.1 H22.out.1.size Bw17, H22.out.2.1.all Bw17, H22.out.2.2.1.all Bw17, H22.out.2.2.2.1.all Bw17, H22.out.2.2.2.2.1.all Bw17, H22.out.2.2.2.2.2.1.all Bw17, H22.out.2.2.2.2.2.2.1.all Bw17, H22.out.2.2.2.2.2.2.2.all Bw17⟩
    clear H22 Bw17
    go_wp2_with fail
    refine (eqInts_same ybz ybn ybk L wbz wbn wbk _ H23.out.2.2.2.2.2.2.2.fit.ints H23.out.2.2.2.1.fit.ints (by omega)).mono ?_
    rintro e w17b ⟨rfl, Bw17b⟩
    have H24 : Hid (Below w.heap.size w w17b ∧ Four w17b w.heap.size (.slice a len cap) (.slice a' len' cap') t p ∧ AnsL w17b lw bw wb lb cb C wd ld cd R T Pp ∧ Sl w17b lw bw wbz wbn wbk L ∧ AnsL w17b lg bg xb mb kb (marks 1 mb) xd md kd (marks (1 + mb) md) T Pp ∧ Sl w17b lg bg xbz xbn xbk (marks (1 + mb + md) xbn) ∧ AnsL w17b w15.heap.size bh yb nb ob C yd nd od R T Pp ∧ Sl w17b w15.heap.size bh ybz ybn ybk L) := ⟨below_call H23.out.1 H23.out.1.size Bw17b, H23.out.2.1.all Bw17b, H23.out.2.2.1.all Bw17b, H23.out.2.2.2.1.all Bw17b, H23.out.2.2.2.2.1.all Bw17b, H23.out.2.2.2.2.2.1.all Bw17b, H23.out.2.2.2.2.2.2.1.all Bw17b, H23.out.2.2.2.2.2.2.2.all Bw17b⟩
    clear H23 Bw17b
    have v0 := H24.out.2.2.2.2.1.quad.c0
    have v1 := H24.out.2.2.2.2.1.quad.c1
    have v2 := H24.out.2.2.2.2.1.quad.c2
    have v3 := H24.out.2.2.2.2.1.quad.c3
    go_wp2_with fail
    clear v0 v1 v2 v3
    refine (heldList_any xb mb kb xd md kd T Pp 1 _ H24.out.2.2.2.2.1.one.fit.ints H24.out.2.2.2.2.1.two.fit.ints (by omega) (by omega) (by omega) (by omega)).mono ?_
    rintro e w18 ⟨rfl, Bw18⟩
    have H25 : Hid (Below w.heap.size w w18 ∧ Four w18 w.heap.size (.slice a len cap) (.slice a' len' cap') t p ∧ AnsL w18 lw bw wb lb cb C wd ld cd R T Pp ∧ Sl w18 lw bw wbz wbn wbk L ∧ AnsL w18 lg bg xb mb kb (marks 1 mb) xd md kd (marks (1 + mb) md) T Pp ∧ Sl w18 lg bg xbz xbn xbk (marks (1 + mb + md) xbn) ∧ AnsL w18 w15.heap.size bh yb nb ob C yd nd od R T Pp ∧ Sl w18 w15.heap.size bh ybz ybn ybk L) := ⟨below_call H24.out.1 H24.out.1.size Bw18, H24.out.2.1.all Bw18, H24.out.2.2.1.all Bw18, H24.out.2.2.2.1.all Bw18, H24.out.2.2.2.2.1.all Bw18, H24.out.2.2.2.2.2.1.all Bw18, H24.out.2.2.2.2.2.2.1.all Bw18, H24.out.2.2.2.2.2.2.2.all Bw18⟩
    clear H24 Bw18
    go_wp2_with fail
    refine (heldInts_any xbz xbn xbk (1 + (mb : Int) + (md : Int)) _ H25.out.2.2.2.2.2.1.fit.ints (by omega) (by omega) (by omega)).mono ?_
    rintro e w18b ⟨rfl, Bw18b⟩
    have H26 : Hid (Below w.heap.size w w18b ∧ Four w18b w.heap.size (.slice a len cap) (.slice a' len' cap') t p ∧ AnsL w18b lw bw wb lb cb C wd ld cd R T Pp ∧ Sl w18b lw bw wbz wbn wbk L ∧ AnsL w18b lg bg xb mb kb (marks 1 mb) xd md kd (marks (1 + mb) md) T Pp ∧ Sl w18b lg bg xbz xbn xbk (marks (1 + mb + md) xbn) ∧ AnsL w18b w15.heap.size bh yb nb ob C yd nd od R T Pp ∧ Sl w18b w15.heap.size bh ybz ybn ybk L) := ⟨below_call H25.out.1 H25.out.1.size Bw18b, H25.out.2.1.all Bw18b, H25.out.2.2.1.all Bw18b, H25.out.2.2.2.1.all Bw18b, H25.out.2.2.2.2.1.all Bw18b, H25.out.2.2.2.2.2.1.all Bw18b, H25.out.2.2.2.2.2.2.1.all Bw18b, H25.out.2.2.2.2.2.2.2.all Bw18b⟩
    clear H25 Bw18b
    go_wp2_with fail
    go_ret
    exact ⟨rfl, H26.out.1⟩

end Go.Proofs.Ytlicjbnagapdeaa.Crew
