/-
  The law FnExactLeftOf: whatever the List, it answers true and nothing that was there is written. (Written by wip/tools/genlaw5.py.)
-/
import Derived.Test.YtlicjbnagapdeaaListNextS
namespace Go.Proofs.Ytlicjbnagapdeaa.Crew
open Go.ChangeShapes Go.WideShapes Go.ChangeAt Go.RowKit

theorem leftOf_len (cs hs : List Int) (t p : Int) : (leftOf cs hs t p).length ≤ 24 := by
  unfold leftOf
  split
  · rename_i h
    obtain ⟨n, _, R⟩ := right_of h
    rw [leftL_length]
    exact (crew_len R.crew).2
  · simp

set_option maxHeartbeats 2000000 in
theorem lawLeft (a : Option Addr) (len cap : Nat) (xs : List Int) (a' : Option Addr) (len' cap' : Nat) (ys : List Int) (t p : Int) (w : World) (I : Ints w a len xs) (J : Ints w a' len' ys) (hm : (len : Int) ≤ 9223372036854775807) (hm' : (len' : Int) ≤ 9223372036854775807) :
    Calls Try.prog 7 #[lv (.slice a len cap) (.slice a' len' cap') t p] w fun e w' => e = .returned (.bool true) ∧ Below w.heap.size w w' := by
  have HI : Hid (Ints w a len xs ∧ Ints w a' len' ys ∧ xs.length = len ∧ ys.length = len') := ⟨I, J, I.1, J.1⟩
  clear I J
  by_cases hs : (1048576 : Int) < (len : Int) + (len' : Int)
  · go_enter Try.func7, Try.ntmps7
    go_wp2_with fail
    refine (szList_no a len cap a' len' cap' t p _ hm hm' hs).mono ?_
    rintro e w1 ⟨rfl, B1⟩
    have H1 : Hid (Below w.heap.size w w1) := below_call (below_new w _) (by simp) B1
    clear B1
    go_wp2_with fail
    go_ret
    exact ⟨rfl, H1.out⟩
  · have h0 : (len : Int) + (len' : Int) ≤ 1048576 := by omega
    have h1 : (len : Int) ≤ 1048576 := by omega
    have h2 : (len' : Int) ≤ 1048576 := by omega
    have h3 : ¬ (1048576 - (len : Int) - (len' : Int)) < 0 := by omega
    clear hm hm' hs
    obtain ⟨L, hL⟩ : ∃ L, L = leftOf xs ys t p := ⟨_, rfl⟩
    obtain ⟨m, hmm⟩ : ∃ m, m = L.length := ⟨_, rfl⟩
    have m24 : (m : Int) ≤ 24 := by have := leftOf_len xs ys t p; rw [← hL, ← hmm] at this; omega
    have HC : Hid (L = leftOf xs ys t p ∧ m = L.length) := ⟨hL, hmm⟩
    clear hL hmm
    have H0 : Hid (Below w.heap.size w (w.alloc (.cells #[.slice a len cap, .slice a' len' cap', .int .i64 t, .int .i64 p] 45)) ∧ Four (w.alloc (.cells #[.slice a len cap, .slice a' len' cap', .int .i64 t, .int .i64 p] 45)) w.heap.size (.slice a len cap) (.slice a' len' cap') t p) := ⟨below_new _ _, four_new _ _ _ _ _ _⟩
    go_enter Try.func7, Try.ntmps7
    go_wp2_with fail
    refine (szList_yes a len cap a' len' cap' t p _ h0).mono ?_
    rintro e w1 ⟨rfl, B1⟩
    have H1 : Hid (Below w.heap.size w w1 ∧ Four w1 w.heap.size (.slice a len cap) (.slice a' len' cap') t p) := ⟨below_call H0.out.1 H0.out.1.size B1, H0.out.2.all B1⟩
    clear H0 B1
    have t0 := H1.out.2.c0
    have t1 := H1.out.2.c1
    have t2 := H1.out.2.c2
    have t3 := H1.out.2.c3
    go_wp2_with fail
    clear t0 t1 t2 t3
    refine (toList_any a len cap xs a' len' cap' ys t p _ (HI.out.1.kept H1.out.1) (HI.out.2.1.kept H1.out.1) h1 h2).mono ?_
    rintro e w2 ⟨g2, k2, rfl, R2, S2, hg2, hk2, ne2, B2⟩
    have s2 := B2.size
    have s1 := H1.out.2.1
    have Q2 : Hid (Ints w2 (some ⟨g2, 0, none⟩) len xs ∧ Ints w2 (some ⟨k2, 0, none⟩) len' ys) := ⟨(R2.fit (Nat.zero_le _) HI.out.2.2.1).ints, (S2.fit (Nat.zero_le _) HI.out.2.2.2).ints⟩
    have H2 : Hid (Below w.heap.size w w2 ∧ Four w2 w.heap.size (.slice a len cap) (.slice a' len' cap') t p) := ⟨below_call H1.out.1 H1.out.1.size B2, H1.out.2.all B2⟩
    clear H1 R2 S2 hg2 hk2 ne2 B2
    go_wp2_with fail
    refine (specLeft _ len len xs _ len' len' ys t p _ Q2.out.1 Q2.out.2 h1).mono ?_
    rw [← HC.out.1, ← HC.out.2]
    rintro e w3 ⟨gw, cw, rfl, Rgw, hgw, B3⟩
    have z3 := B3.size
    have igw := Rgw.lt
    have H3 : Hid (Below w.heap.size w w3 ∧ Four w3 w.heap.size (.slice a len cap) (.slice a' len' cap') t p ∧ Sl w3 w2.heap.size w3.heap.size (some ⟨gw, 0, none⟩) m cw L) := ⟨below_call H2.out.1 H2.out.1.size B3, H2.out.2.all B3, (Rgw.fit hgw HC.out.2.symm).sl⟩
    clear H2 Rgw hgw Q2 B3
    have t0 := H3.out.2.1.c0
    have t1 := H3.out.2.1.c1
    have t2 := H3.out.2.1.c2
    have t3 := H3.out.2.1.c3
    go_wp2_with fail
    clear t0 t1 t2 t3
    generalize w2.heap.size = lw at *
    refine (toList_any a len cap xs a' len' cap' ys t p _ (HI.out.1.kept H3.out.1) (HI.out.2.1.kept H3.out.1) h1 h2).mono ?_
    rintro e w5 ⟨g5, k5, rfl, R5, S5, hg5, hk5, ne5, B5⟩
    have z5 := B5.size
    have i5 := R5.lt
    have j5 := S5.lt
    have H4 : Hid (Below w.heap.size w w5 ∧ Four w5 w.heap.size (.slice a len cap) (.slice a' len' cap') t p ∧ Sl w5 lw w3.heap.size (some ⟨gw, 0, none⟩) m cw L ∧ Fit w5 w3.heap.size (some ⟨g5, 0, none⟩) len len xs ∧ Fit w5 w3.heap.size (some ⟨k5, 0, none⟩) len' len' ys ∧ Apart (some ⟨g5, 0, none⟩) (some ⟨k5, 0, none⟩)) := ⟨below_call H3.out.1 H3.out.1.size B5, H3.out.2.1.all B5, H3.out.2.2.all B5, ⟨R5.fit hg5 HI.out.2.2.1, S5.fit hk5 HI.out.2.2.2, (fun x y hx hy => by cases hx; cases hy; exact ne5)⟩⟩
    clear H3 R5 S5 hg5 hk5 B5
    have H5 : Hid (Below w.heap.size w (w5.alloc (.cells #[.slice (some ⟨g5, 0, none⟩) len len, .slice (some ⟨k5, 0, none⟩) len' len', .int .i64 t, .int .i64 p] 31)) ∧ Four (w5.alloc (.cells #[.slice (some ⟨g5, 0, none⟩) len len, .slice (some ⟨k5, 0, none⟩) len' len', .int .i64 t, .int .i64 p] 31)) w.heap.size (.slice a len cap) (.slice a' len' cap') t p ∧ Sl (w5.alloc (.cells #[.slice (some ⟨g5, 0, none⟩) len len, .slice (some ⟨k5, 0, none⟩) len' len', .int .i64 t, .int .i64 p] 31)) lw w3.heap.size (some ⟨gw, 0, none⟩) m cw L ∧ AnsL (w5.alloc (.cells #[.slice (some ⟨g5, 0, none⟩) len len, .slice (some ⟨k5, 0, none⟩) len' len', .int .i64 t, .int .i64 p] 31)) w3.heap.size w5.heap.size (some ⟨g5, 0, none⟩) len len xs (some ⟨k5, 0, none⟩) len' len' ys t p) := ⟨below_call H4.out.1 H4.out.1.size (below_new _ _), H4.out.2.1.all (below_new _ _), H4.out.2.2.1.all (below_new _ _), ansL_new H4.out.2.2.2.1 H4.out.2.2.2.2.1 H4.out.2.2.2.2.2⟩
    clear H4 
    have y5 : (w5.alloc (.cells #[.slice (some ⟨g5, 0, none⟩) len len, .slice (some ⟨k5, 0, none⟩) len' len', .int .i64 t, .int .i64 p] 31)).heap.size = w5.heap.size + 1 := by simp
    go_wp2_with fail
    generalize w5.alloc (.cells #[.slice (some ⟨g5, 0, none⟩) len len, .slice (some ⟨k5, 0, none⟩) len' len', .int .i64 t, .int .i64 p] 31) = W5 at *
    generalize w5.heap.size = bx at *
    generalize w3.heap.size = lx at *
    refine (implLeft _ len len xs _ len' len' ys t p _ H5.out.2.2.2.one.fit.ints H5.out.2.2.2.two.fit.ints).mono ?_
    rw [← HC.out.1, ← HC.out.2]
    rintro e w7 ⟨gg, cg, rfl, Rgg, hgg, B7⟩
    have z7 := B7.size
    have igg := Rgg.lt
    have H6 : Hid (Below w.heap.size w w7 ∧ Four w7 w.heap.size (.slice a len cap) (.slice a' len' cap') t p ∧ Sl w7 lw lx (some ⟨gw, 0, none⟩) m cw L ∧ AnsL w7 lx bx (some ⟨g5, 0, none⟩) len len xs (some ⟨k5, 0, none⟩) len' len' ys t p ∧ Sl w7 W5.heap.size w7.heap.size (some ⟨gg, 0, none⟩) m cg L) := ⟨below_call H5.out.1 H5.out.1.size B7, H5.out.2.1.all B7, H5.out.2.2.1.all B7, H5.out.2.2.2.all B7, (Rgg.fit hgg HC.out.2.symm).sl⟩
    clear H5 Rgg hgg B7
    go_wp2_with fail
    generalize w7.heap.size = bg at *
    generalize W5.heap.size = lg at *
    refine (eqInts_same (some ⟨gg, 0, none⟩) m cg L (some ⟨gw, 0, none⟩) m cw _ H6.out.2.2.2.2.fit.ints H6.out.2.2.1.fit.ints (by omega)).mono ?_
    rintro e w8 ⟨rfl, Bw8⟩
    have H7 : Hid (Below w.heap.size w w8 ∧ Four w8 w.heap.size (.slice a len cap) (.slice a' len' cap') t p ∧ Sl w8 lw lx (some ⟨gw, 0, none⟩) m cw L ∧ AnsL w8 lx bx (some ⟨g5, 0, none⟩) len len xs (some ⟨k5, 0, none⟩) len' len' ys t p ∧ Sl w8 lg bg (some ⟨gg, 0, none⟩) m cg L) := ⟨below_call H6.out.1 H6.out.1.size Bw8, H6.out.2.1.all Bw8, H6.out.2.2.1.all Bw8, H6.out.2.2.2.1.all Bw8, H6.out.2.2.2.2.all Bw8⟩
    clear H6 Bw8
    go_wp2_with fail
    have t0 := H7.out.2.1.c0
    have t1 := H7.out.2.1.c1
    have t2 := H7.out.2.1.c2
    have t3 := H7.out.2.1.c3
    have u0 := H7.out.2.2.2.1.quad.c0
    have u1 := H7.out.2.2.2.1.quad.c1
    have u2 := H7.out.2.2.2.1.quad.c2
    have u3 := H7.out.2.2.2.1.quad.c3
    go_region_held3 (fun w' => w'.cell? ⟨w.heap.size, 0, none⟩ = some (.slice a len cap) ∧ w'.cell? ⟨w.heap.size, 1, none⟩ = some (.slice a' len' cap') ∧ w'.cell? ⟨w.heap.size, 2, none⟩ = some (.int .i64 t) ∧ w'.cell? ⟨w.heap.size, 3, none⟩ = some (.int .i64 p) ∧ w'.cell? ⟨bx, 0, none⟩ = some (.slice (some ⟨g5, 0, none⟩) len len) ∧ w'.cell? ⟨bx, 1, none⟩ = some (.slice (some ⟨k5, 0, none⟩) len' len') ∧ w'.cell? ⟨bx, 2, none⟩ = some (.int .i64 t) ∧ w'.cell? ⟨bx, 3, none⟩ = some (.int .i64 p)) (go_keep) (first | (go_at_call 29; refine (toList_any a len cap xs a' len' cap' ys t p _ (HI.out.1.kept H7.out.1.drew) (HI.out.2.1.kept H7.out.1.drew) h1 h2).mono ?_; rintro e w9 ⟨g9, k9, rfl, R9, S9, _, _, _, B9⟩; have H8 : Hid (Below w.heap.size w w9 ∧ Four w9 w.heap.size (.slice a len cap) (.slice a' len' cap') t p ∧ Sl w9 lw lx (some ⟨gw, 0, none⟩) m cw L ∧ AnsL w9 lx bx (some ⟨g5, 0, none⟩) len len xs (some ⟨k5, 0, none⟩) len' len' ys t p ∧ Sl w9 lg bg (some ⟨gg, 0, none⟩) m cg L ∧ (Row w9 g9 len xs ∧ Row w9 k9 len' ys)) := ⟨below_call (w1 := w8.drew) H7.out.1.drew H7.out.1.drew.size B9, Four.all (w := w8.drew) H7.out.2.1.drew B9, H7.out.2.2.1.drew1.all B9, H7.out.2.2.2.1.drew.all B9, H7.out.2.2.2.2.drew1.all B9, R9, S9⟩; have t0 := H8.out.2.1.c0; have u0 := H8.out.2.2.2.1.quad.c0; have t1 := H8.out.2.1.c1; have u1 := H8.out.2.2.2.1.quad.c1; have t2 := H8.out.2.1.c2; have u2 := H8.out.2.2.2.1.quad.c2; have t3 := H8.out.2.1.c3; have u3 := H8.out.2.2.2.1.quad.c3; clear R9 S9 B9) | (go_at_call 30; refine (eqList_same _ _ _ _ _ _ _ _ _ _ _ _ xs ys t p _ H8.out.2.2.2.1.one.fit.ints H8.out.2.2.2.1.two.fit.ints (H8.out.2.2.2.2.2.1.fit (Nat.zero_le _) HI.out.2.2.1).ints (H8.out.2.2.2.2.2.2.fit (Nat.zero_le _) HI.out.2.2.2).ints h1 h2).mono ?_; rintro e w10 ⟨rfl, B10⟩; have H9 : Hid (Below w.heap.size w w10 ∧ Four w10 w.heap.size (.slice a len cap) (.slice a' len' cap') t p ∧ Sl w10 lw lx (some ⟨gw, 0, none⟩) m cw L ∧ AnsL w10 lx bx (some ⟨g5, 0, none⟩) len len xs (some ⟨k5, 0, none⟩) len' len' ys t p ∧ Sl w10 lg bg (some ⟨gg, 0, none⟩) m cg L) := ⟨below_call H8.out.1 H8.out.1.size B10, H8.out.2.1.all B10, H8.out.2.2.1.all B10, H8.out.2.2.2.1.all B10, H8.out.2.2.2.2.1.all B10⟩; have t0 := H9.out.2.1.c0; have u0 := H9.out.2.2.2.1.quad.c0; have t1 := H9.out.2.1.c1; have u1 := H9.out.2.2.2.1.quad.c1; have t2 := H9.out.2.1.c2; have u2 := H9.out.2.2.2.1.quad.c2; have t3 := H9.out.2.1.c3; have u3 := H9.out.2.2.2.1.quad.c3; clear B10))
    clear H7 H8
    go_wp2_with fail
    clear t0 t1 t2 t3 u0 u1 u2 u3
    refine (markList_any lx (some ⟨g5, 0, none⟩) len len xs (some ⟨k5, 0, none⟩) len' len' ys t p 1 _ H9.out.2.2.2.1.one.fit H9.out.2.2.2.1.two.fit H9.out.2.2.2.1.apart (by omega) (by omega) (by omega) (by omega)).mono ?_
    rintro e w11 ⟨rfl, Fw11, Gw11, Mw11⟩
    obtain ⟨Aw11, Kw11⟩ := ansL_marked H9.out.2.2.2.1 Fw11 Gw11 Mw11
    have H10 : Hid (Below w.heap.size w w11 ∧ Four w11 w.heap.size (.slice a len cap) (.slice a' len' cap') t p ∧ Sl w11 lw lx (some ⟨gw, 0, none⟩) m cw L ∧ Sl w11 lg bg (some ⟨gg, 0, none⟩) m cg L) := ⟨Kw11.below _ _ H9.out.1 (by omega) H9.out.1.size, H9.out.2.1.wr Kw11 (by omega), H9.out.2.2.1.wr Kw11 (by omega), H9.out.2.2.2.2.wr Kw11 (by omega)⟩
    clear H9 Fw11 Gw11 Mw11 Aw11 Kw11
    have hk : ¬ (1 + (len : Int) + (len' : Int)) < 0 := by omega
    go_wp2_with fail
    refine (eqInts_same (some ⟨gg, 0, none⟩) m cg L (some ⟨gw, 0, none⟩) m cw _ H10.out.2.2.2.fit.ints H10.out.2.2.1.fit.ints (by omega)).mono ?_
    rintro e w12 ⟨rfl, Bw12⟩
    have H11 : Hid (Below w.heap.size w w12 ∧ Four w12 w.heap.size (.slice a len cap) (.slice a' len' cap') t p ∧ Sl w12 lw lx (some ⟨gw, 0, none⟩) m cw L ∧ Sl w12 lg bg (some ⟨gg, 0, none⟩) m cg L) := ⟨below_call H10.out.1 H10.out.1.size Bw12, H10.out.2.1.all Bw12, H10.out.2.2.1.all Bw12, H10.out.2.2.2.all Bw12⟩
    clear H10 Bw12
    go_wp2_with fail
    refine (markFit lg (some ⟨gg, 0, none⟩) m cg L 1 _ H11.out.2.2.2.fit (by omega) (by omega) (by omega)).mono ?_
    rintro e w13 ⟨rfl, F13, G13⟩
    have K13 := wr_blk G13 H11.out.2.2.2.range
    have H12 : Hid (Below w.heap.size w w13 ∧ Four w13 w.heap.size (.slice a len cap) (.slice a' len' cap') t p ∧ Sl w13 lw lx (some ⟨gw, 0, none⟩) m cw L ∧ Sl w13 lg bg (some ⟨gg, 0, none⟩) m cg (marks 1 m)) := ⟨K13.below _ _ H11.out.1 (by omega) H11.out.1.size, H11.out.2.1.wr K13 (by omega), H11.out.2.2.1.wr K13 (by omega), ⟨F13, H11.out.2.2.2.under, Nat.le_trans H11.out.2.2.2.top K13.size⟩⟩
    clear H11 F13 G13 K13
    go_wp2_with fail
    refine (heldInts_any (some ⟨gg, 0, none⟩) m cg 1 _ H12.out.2.2.2.fit.ints (by omega) (by omega) (by omega)).mono ?_
    rintro e w14 ⟨rfl, Bw14⟩
    have H13 : Hid (Below w.heap.size w w14 ∧ Four w14 w.heap.size (.slice a len cap) (.slice a' len' cap') t p ∧ Sl w14 lw lx (some ⟨gw, 0, none⟩) m cw L ∧ Sl w14 lg bg (some ⟨gg, 0, none⟩) m cg (marks 1 m)) := ⟨below_call H12.out.1 H12.out.1.size Bw14, H12.out.2.1.all Bw14, H12.out.2.2.1.all Bw14, H12.out.2.2.2.all Bw14⟩
    clear H12 Bw14
    have hq : ¬ (1 + (m : Int)) < 0 := by omega
    have hqm : ((1 : Int) + (m : Int) != 1 + (m : Int)) = false := by simp
    have t0 := H13.out.2.1.c0
    have t1 := H13.out.2.1.c1
    have t2 := H13.out.2.1.c2
    have t3 := H13.out.2.1.c3
    go_wp2_with fail
    clear t0 t1 t2 t3
    refine (toList_any a len cap xs a' len' cap' ys t p _ (HI.out.1.kept H13.out.1) (HI.out.2.1.kept H13.out.1) h1 h2).mono ?_
    rintro e w15 ⟨g15, k15, rfl, R15, S15, hg15, hk15, ne15, B15⟩
    have Q15 : Hid (Ints w15 (some ⟨g15, 0, none⟩) len xs ∧ Ints w15 (some ⟨k15, 0, none⟩) len' ys) := ⟨(R15.fit (Nat.zero_le _) HI.out.2.2.1).ints, (S15.fit (Nat.zero_le _) HI.out.2.2.2).ints⟩
    have H14 : Hid (Below w.heap.size w w15 ∧ Four w15 w.heap.size (.slice a len cap) (.slice a' len' cap') t p ∧ Sl w15 lw lx (some ⟨gw, 0, none⟩) m cw L ∧ Sl w15 lg bg (some ⟨gg, 0, none⟩) m cg (marks 1 m)) := ⟨below_call H13.out.1 H13.out.1.size B15, H13.out.2.1.all B15, H13.out.2.2.1.all B15, H13.out.2.2.2.all B15⟩
    clear H13 R15 S15 hg15 hk15 ne15 B15
    go_wp2_with fail
    refine (implLeft _ len len xs _ len' len' ys t p _ Q15.out.1 Q15.out.2).mono ?_
    rw [← HC.out.1, ← HC.out.2]
    rintro e w16 ⟨gh, ch, rfl, Rgh, hgh, B16⟩
    have z16 := B16.size
    have igh := Rgh.lt
    have H15 : Hid (Below w.heap.size w w16 ∧ Four w16 w.heap.size (.slice a len cap) (.slice a' len' cap') t p ∧ Sl w16 lw lx (some ⟨gw, 0, none⟩) m cw L ∧ Sl w16 lg bg (some ⟨gg, 0, none⟩) m cg (marks 1 m) ∧ Sl w16 w15.heap.size w16.heap.size (some ⟨gh, 0, none⟩) m ch L) := ⟨below_call H14.out.1 H14.out.1.size B16, H14.out.2.1.all B16, H14.out.2.2.1.all B16, H14.out.2.2.2.all B16, (Rgh.fit hgh HC.out.2.symm).sl⟩
    clear H14 Rgh hgh Q15 B16
    go_wp2_with fail
    refine (eqInts_same (some ⟨gh, 0, none⟩) m ch L (some ⟨gw, 0, none⟩) m cw _ H15.out.2.2.2.2.fit.ints H15.out.2.2.1.fit.ints (by omega)).mono ?_
    rintro e w17 ⟨rfl, Bw17⟩
    have H16 : Hid (Below w.heap.size w w17 ∧ Four w17 w.heap.size (.slice a len cap) (.slice a' len' cap') t p ∧ Sl w17 lw lx (some ⟨gw, 0, none⟩) m cw L ∧ Sl w17 lg bg (some ⟨gg, 0, none⟩) m cg (marks 1 m) ∧ Sl w17 w15.heap.size w16.heap.size (some ⟨gh, 0, none⟩) m ch L) := ⟨below_call H15.out.1 H15.out.1.size Bw17, H15.out.2.1.all Bw17, H15.out.2.2.1.all Bw17, H15.out.2.2.2.1.all Bw17, H15.out.2.2.2.2.all Bw17⟩
    clear H15 Bw17
    go_wp2_with fail
    refine (heldInts_any (some ⟨gg, 0, none⟩) m cg 1 _ H16.out.2.2.2.1.fit.ints (by omega) (by omega) (by omega)).mono ?_
    rintro e w18 ⟨rfl, Bw18⟩
    have H17 : Hid (Below w.heap.size w w18 ∧ Four w18 w.heap.size (.slice a len cap) (.slice a' len' cap') t p ∧ Sl w18 lw lx (some ⟨gw, 0, none⟩) m cw L ∧ Sl w18 lg bg (some ⟨gg, 0, none⟩) m cg (marks 1 m) ∧ Sl w18 w15.heap.size w16.heap.size (some ⟨gh, 0, none⟩) m ch L) := ⟨below_call H16.out.1 H16.out.1.size Bw18, H16.out.2.1.all Bw18, H16.out.2.2.1.all Bw18, H16.out.2.2.2.1.all Bw18, H16.out.2.2.2.2.all Bw18⟩
    clear H16 Bw18
    go_wp2_with fail
    go_ret
    exact ⟨rfl, H17.out.1⟩

end Go.Proofs.Ytlicjbnagapdeaa.Crew
