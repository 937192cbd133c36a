/-
  The law FnExactSingleRun: whatever the arguments, it answers true and nothing that was there is written.
-/
import Derived.Test.YtlmlgidfgjejpaaSingleRunI
import Derived.Test.YtlmlgidfgjejpaaTwoAns
import Derived.Test.YtlmlgidfgjejpaaIntsBase
namespace Go.Proofs.Ytlmlgidfgjejpaa.Crew
open Go.ChangeShapes Go.WideShapes Go.ChangeAt Go.RowKit

set_option maxHeartbeats 2000000 in
theorem lawSingleRun (a : Option Addr) (len cap : Nat) (cs : List Int) (a' : Option Addr) (len' cap' : Nat) (ns : List Int) (n : Int) (w : World) (I : Ints w a len cs) (J : Ints w a' len' ns) :
    Calls Try.prog 6 #[.slice a len cap, .slice a' len' cap', .int .i64 n] w fun e w' => e = .returned (.bool true) ∧ Below w.heap.size w w' := by
  have HI : Hid (Ints w a len cs ∧ Ints w a' len' ns ∧ cs.length = len ∧ ns.length = len') := ⟨I, J, I.1, J.1⟩
  clear I J
  by_cases hs : (1048576 : Int) < (len : Int)
  · go_enter Try.func6, Try.ntmps6
    go_wp2_with fail
    go_ret
    exact ⟨rfl, Below.refl _ _⟩
  by_cases hs2 : (1048576 : Int) < (len' : Int)
  · have hs' : (len : Int) ≤ 1048576 := by omega
    go_enter Try.func6, Try.ntmps6
    go_wp2_with fail
    go_ret
    exact ⟨rfl, Below.refl _ _⟩
  have hs' : (len : Int) ≤ 1048576 := by omega
  have hs2' : (len' : Int) ≤ 1048576 := by omega
  have hc24 := singleC_len cs ns n
  have hd3k := singleL_len cs ns n
  obtain ⟨C, hC⟩ : ∃ C, C = singleC cs ns n := ⟨_, rfl⟩
  obtain ⟨D, hD⟩ : ∃ D, D = singleL cs ns n := ⟨_, rfl⟩
  rw [← hC] at hc24
  rw [← hD] at hd3k
  have HC : Hid (C = singleC cs ns n ∧ D = singleL cs ns n) := ⟨hC, hD⟩
  clear hC hD
  go_enter Try.func6, Try.ntmps6
  go_wp2_with fail
  refine (toInts_any a len cap cs _ HI.out.1 hs').mono ?_
  rintro e w1 ⟨rfl, R1, B1⟩
  go_wp2_with fail
  refine (toInts_any a' len' cap' ns _ (HI.out.2.1.kept B1) hs2').mono ?_
  rintro e w2 ⟨rfl, R2, B2⟩
  have T2 : Hid (Below w.heap.size w w2 ∧ Ints w2 (some ⟨w.heap.size, 0, none⟩) len cs ∧ Ints w2 (some ⟨w1.heap.size, 0, none⟩) len' ns) := ⟨below_call B1 B1.size B2, by have := (R1.all B2).ints; rwa [HI.out.2.2.1] at this, by have := R2.ints; rwa [HI.out.2.2.2] at this⟩
  have z2 := T2.out.1.size
  clear R1 R2 B1 B2
  go_wp2_with fail
  refine (specSingleRun _ len len cs _ len' len' ns n _ T2.out.2.1 T2.out.2.2 hs' hs2').mono ?_
  unfold TwoPost
  rw [← HC.out.1, ← HC.out.2]
  rintro e w3 ⟨wb, lb, cb, wd, ld, cd, rfl, Fb, Fd, _, B3⟩
  have lb24 : (lb : Int) ≤ 24 := by have := Fb.1; omega
  have ld3k : (ld : Int) ≤ 3000 := by have := Fd.1; omega
  have T3 : Hid (Below w.heap.size w w3 ∧ Sl w3 w2.heap.size w3.heap.size wb lb cb C ∧ Sl w3 w2.heap.size w3.heap.size wd ld cd D) := ⟨below_call T2.out.1 z2 B3, Fb.sl, Fd.sl⟩
  have z3 := B3.size
  clear T2 Fb Fd B3
  generalize w2.heap.size = l1 at *
  go_wp2_with fail
  refine (toInts_any a len cap cs _ (HI.out.1.kept T3.out.1) hs').mono ?_
  rintro e w4 ⟨rfl, R4, B4⟩
  have z4 : w3.heap.size < w4.heap.size := R4.lt
  have T4 : Hid (Below w.heap.size w w4 ∧ Sl w4 l1 w3.heap.size wb lb cb C ∧ Sl w4 l1 w3.heap.size wd ld cd D ∧ Row w4 w3.heap.size len cs) := ⟨below_call T3.out.1 T3.out.1.size B4, T3.out.2.1.all B4, T3.out.2.2.all B4, R4⟩
  clear T3 R4 B4
  generalize w3.heap.size = gx at *
  go_wp2_with fail
  refine (toInts_any a' len' cap' ns _ (HI.out.2.1.kept T4.out.1) hs2').mono ?_
  rintro e w5 ⟨rfl, R5, B5⟩
  have z5 : w4.heap.size < w5.heap.size := R5.lt
  have T5 : Hid (Below w.heap.size w w5 ∧ Sl w5 l1 gx wb lb cb C ∧ Sl w5 l1 gx wd ld cd D ∧ Row w5 gx len cs ∧ Row w5 w4.heap.size len' ns) := ⟨below_call T4.out.1 T4.out.1.size B5, T4.out.2.1.all B5, T4.out.2.2.1.all B5, T4.out.2.2.2.all B5, R5⟩
  clear T4 R5 B5
  generalize w4.heap.size = gy at *
  go_wp2_with fail
  refine (implSingleRun _ len len cs _ len' len' ns n _ (by have := T5.out.2.2.2.1.ints; rwa [HI.out.2.2.1] at this) (by have := T5.out.2.2.2.2.ints; rwa [HI.out.2.2.2] at this)).mono ?_
  unfold TwoPost
  rw [← HC.out.1, ← HC.out.2]
  rintro e w6 ⟨xb, mb, kb, xd, md, kd, rfl, Fb, Fd, DD, B6⟩
  have mb24 : (mb : Int) ≤ 24 := by have := Fb.1; omega
  have md3k : (md : Int) ≤ 3000 := by have := Fd.1; omega
  have T6 : Hid (Ans2 w l1 gx wb lb cb wd ld cd C D w5.heap.size w6.heap.size xb mb kb xd md kd C D w6 ∧ Row w6 gx len cs ∧ Row w6 gy len' ns) := ⟨⟨below_call T5.out.1 T5.out.1.size B6, T5.out.2.1.all B6, T5.out.2.2.1.all B6, Fb.sl, Fd.sl, DD, z2, by omega, z3⟩, T5.out.2.2.2.1.all B6, T5.out.2.2.2.2.all B6⟩
  clear T5 Fb Fd DD B6
  generalize w5.heap.size = l2 at *
  generalize w6.heap.size = h2 at *

  go_wp2_with fail
  refine (eqInts_same _ _ _ C _ _ _ _ T6.out.1.g0.fit.ints T6.out.1.s0.fit.ints (by omega)).mono ?_
  rintro e w7 ⟨rfl, BB⟩
  have T7 : Hid (Ans2 w l1 gx wb lb cb wd ld cd C D l2 h2 xb mb kb xd md kd C D w7 ∧ Row w7 gx len cs ∧ Row w7 gy len' ns) := ⟨T6.out.1.all BB, T6.out.2.1.all BB, T6.out.2.2.all BB⟩
  clear T6
  clear BB
  go_wp2_with fail
  refine (eqInts_same _ _ _ D _ _ _ _ T7.out.1.g1.fit.ints T7.out.1.s1.fit.ints (by omega)).mono ?_
  rintro e w8 ⟨rfl, BB⟩
  have T8 : Hid (Ans2 w l1 gx wb lb cb wd ld cd C D l2 h2 xb mb kb xd md kd C D w8 ∧ Row w8 gx len cs ∧ Row w8 gy len' ns) := ⟨T7.out.1.all BB, T7.out.2.1.all BB, T7.out.2.2.all BB⟩
  clear T7
  clear BB
  go_wp2_with fail
  refine (toInts_any a len cap cs _ (HI.out.1.kept T8.out.1.bel) hs').mono ?_
  rintro e w9 ⟨rfl, RR, BB⟩
  have T9 : Hid (Ans2 w l1 gx wb lb cb wd ld cd C D l2 h2 xb mb kb xd md kd C D w9 ∧ Row w9 gx len cs ∧ Row w9 gy len' ns) := ⟨T8.out.1.all BB, T8.out.2.1.all BB, T8.out.2.2.all BB⟩
  clear T8
  clear BB
  have RI : Hid (Ints w9 (some ⟨w8.heap.size, 0, none⟩) len cs) := by have := RR.ints; rwa [HI.out.2.2.1] at this
  clear RR
  go_wp2_with fail
  refine (eqInts_same _ len _ cs _ _ _ _ (by have := T9.out.2.1.ints; rwa [HI.out.2.2.1] at this) RI.out hs').mono ?_
  rintro e w10 ⟨rfl, BB⟩
  have T10 : Hid (Ans2 w l1 gx wb lb cb wd ld cd C D l2 h2 xb mb kb xd md kd C D w10 ∧ Row w10 gx len cs ∧ Row w10 gy len' ns) := ⟨T9.out.1.all BB, T9.out.2.1.all BB, T9.out.2.2.all BB⟩
  clear T9
  clear BB RI
  go_wp2_with fail
  refine (toInts_any a' len' cap' ns _ (HI.out.2.1.kept T10.out.1.bel) hs2').mono ?_
  rintro e w11 ⟨rfl, RR, BB⟩
  have T11 : Hid (Ans2 w l1 gx wb lb cb wd ld cd C D l2 h2 xb mb kb xd md kd C D w11 ∧ Row w11 gx len cs ∧ Row w11 gy len' ns) := ⟨T10.out.1.all BB, T10.out.2.1.all BB, T10.out.2.2.all BB⟩
  clear T10
  clear BB
  have RI : Hid (Ints w11 (some ⟨w10.heap.size, 0, none⟩) len' ns) := by have := RR.ints; rwa [HI.out.2.2.2] at this
  clear RR
  go_wp2_with fail
  refine (eqInts_same _ len' _ ns _ _ _ _ (by have := T11.out.2.2.ints; rwa [HI.out.2.2.2] at this) RI.out hs2').mono ?_
  rintro e w12 ⟨rfl, BB⟩
  have T12 : Hid (Ans2 w l1 gx wb lb cb wd ld cd C D l2 h2 xb mb kb xd md kd C D w12 ∧ Row w12 gx len cs ∧ Row w12 gy len' ns) := ⟨T11.out.1.all BB, T11.out.2.1.all BB, T11.out.2.2.all BB⟩
  clear T11
  clear BB RI
  go_wp2_with fail
  refine (markFit w.heap.size _ len len cs 1 _ (T12.out.2.1.fit (by have := T12.out.1.lo; have := T12.out.1.ord; omega) HI.out.2.2.1) hs' (by omega) (by omega)).mono ?_
  rintro e w13 ⟨rfl, _, GG⟩
  have KK : Wr gx (gx + 1) _ _ := wr_row GG
  have T13 : Hid (Ans2 w l1 gx wb lb cb wd ld cd C D l2 h2 xb mb kb xd md kd C D w13 ∧ Row w13 gy len' ns) := ⟨T12.out.1.wr KK (Nat.le_refl _) (by omega), T12.out.2.2.wr KK (by omega)⟩
  clear T12
  clear GG KK
  go_wp2_with fail
  refine (markFit w.heap.size _ len' len' ns (1 + (len : Int)) _ (T13.out.2.fit (by have := T13.out.1.lo; have := T13.out.1.ord; omega) HI.out.2.2.2) hs2' (by omega) (by omega)).mono ?_
  rintro e w14 ⟨rfl, _, GG⟩
  have KK : Wr gy (gy + 1) _ _ := wr_row GG
  have T14 : Hid (Ans2 w l1 gx wb lb cb wd ld cd C D l2 h2 xb mb kb xd md kd C D w14) := T13.out.1.wr KK (by omega) (by omega)
  clear T13
  clear GG KK
  have hk : ¬ (1 + (len : Int) + (len' : Int)) < 0 := by omega
  go_wp2_with fail
  refine (eqInts_same _ _ _ C _ _ _ _ T14.out.g0.fit.ints T14.out.s0.fit.ints (by omega)).mono ?_
  rintro e w15 ⟨rfl, BB⟩
  have T15 : Hid (Ans2 w l1 gx wb lb cb wd ld cd C D l2 h2 xb mb kb xd md kd C D w15) := T14.out.all BB
  clear T14
  clear BB
  go_wp2_with fail
  refine (eqInts_same _ _ _ D _ _ _ _ T15.out.g1.fit.ints T15.out.s1.fit.ints (by omega)).mono ?_
  rintro e w16 ⟨rfl, BB⟩
  have T16 : Hid (Ans2 w l1 gx wb lb cb wd ld cd C D l2 h2 xb mb kb xd md kd C D w16) := T15.out.all BB
  clear T15
  clear BB
  go_wp2_with fail
  refine (markFit l2 xb mb kb C 1 _ T16.out.g0.fit (by omega) (by omega) (by omega)).mono ?_
  rintro e w17 ⟨rfl, FF, GG⟩
  have T17 : Hid (Ans2 w l1 gx wb lb cb wd ld cd C D l2 h2 xb mb kb xd md kd (marks 1 mb) D w17) := T16.out.mark0 FF GG
  clear T16
  clear FF GG
  go_wp2_with fail
  refine (markFit l2 xd md kd D (1 + (mb : Int)) _ T17.out.g1.fit (by omega) (by omega) (by omega)).mono ?_
  rintro e w18 ⟨rfl, FF, GG⟩
  have T18 : Hid (Ans2 w l1 gx wb lb cb wd ld cd C D l2 h2 xb mb kb xd md kd (marks 1 mb) (marks (1 + mb) md) w18) := T17.out.mark1 FF GG
  clear T17
  clear FF GG
  go_wp2_with fail
  refine (heldInts_any xb mb kb 1 _ T18.out.g0.fit.ints (by omega) (by omega) (by omega)).mono ?_
  rintro e w19 ⟨rfl, BB⟩
  have T19 : Hid (Ans2 w l1 gx wb lb cb wd ld cd C D l2 h2 xb mb kb xd md kd (marks 1 mb) (marks (1 + mb) md) w19) := T18.out.all BB
  clear T18
  clear BB
  have hq : ¬ (1 + (mb : Int)) < 0 := by omega
  go_wp2_with fail
  refine (heldInts_any xd md kd (1 + (mb : Int)) _ T19.out.g1.fit.ints (by omega) (by omega) (by omega)).mono ?_
  rintro e w20 ⟨rfl, BB⟩
  have T20 : Hid (Ans2 w l1 gx wb lb cb wd ld cd C D l2 h2 xb mb kb xd md kd (marks 1 mb) (marks (1 + mb) md) w20) := T19.out.all BB
  clear T19
  clear BB
  have hq2 : ¬ (1 + (mb : Int) + (md : Int)) < 0 := by omega
  have hq3 : ((1 + (mb : Int) + (md : Int)) != (1 + (mb : Int) + (md : Int))) = false := by simp
  go_wp2_with fail
  refine (toInts_any a len cap cs _ (HI.out.1.kept T20.out.bel) hs').mono ?_
  rintro e w21 ⟨rfl, RR, BB⟩
  have T21 : Hid (Ans2 w l1 gx wb lb cb wd ld cd C D l2 h2 xb mb kb xd md kd (marks 1 mb) (marks (1 + mb) md) w21) := T20.out.all BB
  clear T20
  clear BB
  go_wp2_with fail
  refine (toInts_any a' len' cap' ns _ (HI.out.2.1.kept T21.out.bel) hs2').mono ?_
  rintro e w22 ⟨rfl, RQ, BB⟩
  have RI : Hid (Ints w22 (some ⟨w20.heap.size, 0, none⟩) len cs ∧ Ints w22 (some ⟨w21.heap.size, 0, none⟩) len' ns) := ⟨by have := (RR.all BB).ints; rwa [HI.out.2.2.1] at this, by have := RQ.ints; rwa [HI.out.2.2.2] at this⟩
  have T22 : Hid (Ans2 w l1 gx wb lb cb wd ld cd C D l2 h2 xb mb kb xd md kd (marks 1 mb) (marks (1 + mb) md) w22) := T21.out.all BB
  clear T21
  clear BB RR RQ
  go_wp2_with fail
  refine (implSingleRun _ len len cs _ len' len' ns n _ RI.out.1 RI.out.2).mono ?_
  unfold TwoPost
  rw [← HC.out.1, ← HC.out.2]
  rintro e w23 ⟨yb, nb, ob, yd, nd, od, rfl, Fb, Fd, _, BB⟩
  have nb24 : (nb : Int) ≤ 24 := by have := Fb.1; omega
  have nd3k : (nd : Int) ≤ 3000 := by have := Fd.1; omega
  have Y : Hid (Ints w23 yb nb C ∧ Ints w23 yd nd D) := ⟨Fb.ints, Fd.ints⟩
  have T23 : Hid (Ans2 w l1 gx wb lb cb wd ld cd C D l2 h2 xb mb kb xd md kd (marks 1 mb) (marks (1 + mb) md) w23) := T22.out.all BB
  clear T22
  clear BB Fb Fd RI
  go_wp2_with fail
  refine (eqInts_same yb nb ob C wb lb cb _ Y.out.1 T23.out.s0.fit.ints (by omega)).mono ?_
  rintro e w24 ⟨rfl, BB⟩
  have Y2 : Hid (Ints w24 yd nd D) := Y.out.2.kept BB
  have T24 : Hid (Ans2 w l1 gx wb lb cb wd ld cd C D l2 h2 xb mb kb xd md kd (marks 1 mb) (marks (1 + mb) md) w24) := T23.out.all BB
  clear T23
  clear BB Y
  go_wp2_with fail
  refine (eqInts_same yd nd od D wd ld cd _ Y2.out T24.out.s1.fit.ints (by omega)).mono ?_
  rintro e w25 ⟨rfl, BB⟩
  have T25 : Hid (Ans2 w l1 gx wb lb cb wd ld cd C D l2 h2 xb mb kb xd md kd (marks 1 mb) (marks (1 + mb) md) w25) := T24.out.all BB
  clear T24
  clear BB Y2
  go_wp2_with fail
  refine (heldInts_any xb mb kb 1 _ T25.out.g0.fit.ints (by omega) (by omega) (by omega)).mono ?_
  rintro e w26 ⟨rfl, BB⟩
  have T26 : Hid (Ans2 w l1 gx wb lb cb wd ld cd C D l2 h2 xb mb kb xd md kd (marks 1 mb) (marks (1 + mb) md) w26) := T25.out.all BB
  clear T25
  clear BB
  go_wp2_with fail
  refine (heldInts_any xd md kd (1 + (mb : Int)) _ T26.out.g1.fit.ints (by omega) (by omega) (by omega)).mono ?_
  rintro e w27 ⟨rfl, BB⟩
  have T27 : Hid (Ans2 w l1 gx wb lb cb wd ld cd C D l2 h2 xb mb kb xd md kd (marks 1 mb) (marks (1 + mb) md) w27) := T26.out.all BB
  clear T26
  clear BB
  go_wp2_with fail
  go_ret
  exact ⟨rfl, T27.out.bel⟩

end Go.Proofs.Ytlmlgidfgjejpaa.Crew
