/-
  The law FnSingleRun: whatever the bytes, it answers true and nothing that was there is written.
-/
import Derived.Test.YtlmlgidfgjejpaaSingleRunI
import Derived.Test.YtlmlgidfgjejpaaDrawSingle
import Derived.Test.YtlmlgidfgjejpaaHands
import Derived.Test.YtlmlgidfgjejpaaIntsBase
namespace Go.Proofs.Ytlmlgidfgjejpaa.Crew
open Go.ChangeShapes Go.WideShapes Go.ChangeAt Go.RowKit
open Go.Proofs.Ytlmlgidfgjejpaa.Draw

/-- A run from no turn on, of as many turns as all weights together. -/
theorem single_whole {xs : List Int} (hc : crewOk xs = true) {N : Nat} (hN : sumI xs = (N : Int)) (h420 : (N : Int) ≤ 420) : singleC xs (zerosOf xs) (N : Int) = xs := by
  have e : (sumI xs).toNat = N := by omega
  have hend := flow_end hc (by omega)
  rw [e] at hend
  have hk : singleOk xs (zerosOf xs) (N : Int) = true := by
    have e1 : within (N : Int) 0 3000 = true := by simp [within]; omega
    have e2 : decide (sumI (zerosOf xs) + (N : Int) ≤ 1000000) = true := by rw [zerosOf, sum_zeros]; simp; omega
    rw [singleOk, zero_ok hc, e1, e2, Int.toNat_natCast, (flow_at hc N (by omega)).2.1]; rfl
  rw [(single_yes hk).1, Int.toNat_natCast, hend]

set_option maxHeartbeats 2000000 in
theorem lawFnSingleRun (a : Option Addr) (len cap : Nat) (w : World) (B : Bytes w a len) :
    Calls Try.prog 4 #[.slice a len cap] w fun e w' => e = .returned (.bool true) ∧ Below w.heap.size w w' := by
  have HB : Hid (Bytes w a len) := B
  clear B
  by_cases hbig : (4096 : Int) < (len : Int)
  · go_enter Try.func4, Try.ntmps4
    go_wp2_with fail
    refine (big_any a len cap _).mono ?_
    rw [decide_eq_true hbig]
    rintro e w1 ⟨rfl, rfl⟩
    go_wp2_with fail
    go_ret
    exact ⟨rfl, Below.refl _ _⟩
  · have ht : len ≤ 9223372036854775806 := by omega
    have HT : Hid (len ≤ 9223372036854775806) := ht
    have HBG : Hid (decide ((4096 : Int) < (len : Int)) = false) := decide_eq_false hbig
    clear hbig
    go_enter Try.func4, Try.ntmps4
    go_wp2_with fail
    refine (big_any a len cap _).mono ?_
    rw [HBG.out]
    rintro e w1 ⟨rfl, rfl⟩
    go_wp2_with fail
    refine (drawSingleRun_any a len cap _ HB.out HT.out).mono ?_
    rintro e w2 ⟨ne, me, ge, ce, gf, cf, es, fs, x, rfl, Ie, If, hne, hme, B2⟩
    have H2 : Hid (Below w1.heap.size w1 w2 ∧ Ints w2 (some ⟨ge, 0, none⟩) ne es ∧ Ints w2 (some ⟨gf, 0, none⟩) me fs) := ⟨B2, Ie, If⟩
    clear Ie If B2
    have hc24 := singleC_len es fs x
    have hd3k := singleL_len es fs x
    obtain ⟨P, hP⟩ : ∃ P, P = singleC es fs x := ⟨_, rfl⟩
    obtain ⟨Q, hQ⟩ : ∃ Q, Q = singleL es fs x := ⟨_, rfl⟩
    rw [← hP] at hc24
    rw [← hQ] at hd3k
    have HC : Hid (P = singleC es fs x ∧ Q = singleL es fs x) := ⟨hP, hQ⟩
    clear hP hQ
    go_wp2_with fail
    refine (implSingleRun _ ne ce es _ me cf fs x _ H2.out.2.1 H2.out.2.2).mono ?_
    unfold TwoPost
    rw [← HC.out.1, ← HC.out.2]
    rintro e w3 ⟨pb, mp, kp, qb, mq, kq, rfl, Fp, Fq, _, B3⟩
    have hmp : (mp : Int) ≤ 24 := by have := Fp.1; omega
    have hmq : (mq : Int) ≤ 3000 := by have := Fq.1; omega
    have H3 : Hid (Below w1.heap.size w1 w3 ∧ Ints w3 (some ⟨ge, 0, none⟩) ne es ∧ Ints w3 (some ⟨gf, 0, none⟩) me fs ∧ Ints w3 pb mp P ∧ Ints w3 qb mq Q) := ⟨below_call H2.out.1 H2.out.1.size B3, H2.out.2.1.kept B3, H2.out.2.2.kept B3, Fp.ints, Fq.ints⟩
    clear H2 Fp Fq B3
    go_wp2_with fail
    refine (specSingleRun _ ne ce es _ me cf fs x _ H3.out.2.1 H3.out.2.2.1 (by omega) (by omega)).mono ?_
    unfold TwoPost
    rw [← HC.out.1, ← HC.out.2]
    rintro e w4 ⟨yb, my, ky, zb, mz, kz, rfl, Fp, Fq, _, B4⟩
    have H4 : Hid (Below w1.heap.size w1 w4 ∧ Ints w4 pb mp P ∧ Ints w4 qb mq Q ∧ Ints w4 yb my P ∧ Ints w4 zb mz Q) := ⟨below_call H3.out.1 H3.out.1.size B4, H3.out.2.2.2.1.kept B4, H3.out.2.2.2.2.kept B4, Fp.ints, Fq.ints⟩
    clear H3 Fp Fq B4 hc24 hd3k
    go_wp2_with fail
    refine (likeInts_same pb mp kp P yb my ky _ H4.out.2.1 H4.out.2.2.2.1 (by omega)).mono ?_
    rintro e w5 ⟨rfl, B5⟩
    have H5 : Hid (Below w1.heap.size w1 w5 ∧ Ints w5 qb mq Q ∧ Ints w5 zb mz Q) := ⟨below_call H4.out.1 H4.out.1.size B5, H4.out.2.2.1.kept B5, H4.out.2.2.2.2.kept B5⟩
    clear H4 B5
    go_wp2_with fail
    refine (likeInts_same qb mq kq Q zb mz kz _ H5.out.2.1 H5.out.2.2 (by omega)).mono ?_
    rintro e w6 ⟨rfl, B6⟩
    have H6 : Hid (Below w1.heap.size w1 w6) := below_call H5.out.1 H5.out.1.size B6
    clear H5 B6
    go_wp2_with fail
    refine (roll_any a len cap 11 _ (HB.out.grown H6.out) HT.out).mono ?_
    rintro e w7 ⟨rfl, h, L7⟩
    have C7 := L7.cur (cur_new (HB.out.grown H6.out) HT.out h)
    have B7 := new_below L7
    have p7 := C7.lt
    have H7 : Hid (Cur .u64 43 w6.heap.size a len cap w7 ∧ Below w6.heap.size w6 w7) := ⟨C7, B7⟩
    clear L7 C7 B7
    go_wp2_with fail
    refine (hands_any _ _ a len cap _ H7.out.1).mono ?_
    rintro e w8 ⟨g, cp, xs, rfl, O8, n1, n7, wt⟩
    obtain ⟨hcr, h420⟩ := hands_crew wt n1 n7
    have hT := total_pos hcr
    obtain ⟨N, hN⟩ : ∃ N : Nat, sumI xs = (N : Int) := ⟨(sumI xs).toNat, by omega⟩
    obtain ⟨n, hn⟩ : ∃ n, n = xs.length := ⟨_, rfl⟩
    rw [← hn]
    have hN2 : (N : Int) ≤ 420 := by omega
    have hn7 : (n : Int) ≤ 7 := by omega
    have HX : Hid (totalOf xs = (N : Int) ∧ xs.length = n ∧ singleC xs (zerosOf xs) (N : Int) = xs) := ⟨by rw [totalOf, if_pos hcr, hN], hn.symm, single_whole hcr hN hN2⟩
    have H8 : Hid (Below w1.heap.size w1 w8 ∧ Ints w8 (some ⟨g, 0, none⟩) n xs) := ⟨below_call H6.out H6.out.size (H7.out.2.trans (left_below O8.left (Nat.le_refl _) p7)), by rw [hn]; exact O8.row.ints⟩
    clear O8 H7 H6 hcr h420 hT hN hn wt n1 n7 p7
    have hmk := made_ints n (by omega)
    have ZX : Hid (Ints (w8.alloc (.cells (zeros n) 2)) (some ⟨w8.heap.size, 0, none⟩) n (zerosOf xs)) := by
      have := (row_zeros w8 n (by omega)).ints
      rw [List.length_replicate] at this
      rw [zerosOf, HX.out.2.1]
      exact this
    have KX : Hid (Below w1.heap.size w1 (w8.alloc (.cells (zeros n) 2)) ∧ Ints (w8.alloc (.cells (zeros n) 2)) (some ⟨g, 0, none⟩) n xs) := ⟨below_call H8.out.1 H8.out.1.size (below_new _ _), H8.out.2.kept (below_new _ _)⟩
    go_upto_region 9 with fail
    go_cut [11] from 50 to 59 (fun s wx => ∃ (ub : Option Addr) (mu ku : Nat), s = .slice ub mu ku ∧ (mu : Int) ≤ 7 ∧ Hid (Below w1.heap.size w1 wx ∧ Ints wx (some ⟨g, 0, none⟩) n xs ∧ Ints wx ub mu xs))
    case first =>
      go_region_held3 (fun _ => True) (trivial)
        (first | (go_at_call 10; refine (specTotal _ n cp xs _ ?_ (by omega)).mono ?_; (repeat (first | (with_reducible exact H8.out.2) | (with_reducible apply Ints.drew) | (with_reducible apply Ints.alloc))); rw [HX.out.1]; rintro e u ⟨rfl, rfl⟩) | (go_at_call 14; refine (implSingleRun _ n cp xs _ n n (zerosOf xs) (N : Int) _ ?_ ?_).mono ?_; (repeat (first | (with_reducible exact KX.out.2) | (with_reducible apply Ints.drew))); (repeat (first | (with_reducible exact ZX.out) | (with_reducible apply Ints.drew))); unfold TwoPost; rw [HX.out.2.2]; rintro e w9 ⟨ub, mu, ku, ud, nd, kd, rfl, Fu, Fd, _, B9⟩))
      all_goals
        have hmu : (mu : Int) ≤ 7 := by have := Fu.1; have := HX.out.2.1; omega
        have H9 : Hid (Below w1.heap.size w1 w9 ∧ Ints w9 (some ⟨g, 0, none⟩) n xs ∧ Ints w9 ub mu xs) := ⟨below_call KX.out.1.drew KX.out.1.drew.size B9, KX.out.2.drew.kept B9, Fu.ints⟩
        clear Fu Fd B9 H8 ZX KX hmk
        go_wp2_with fail
        go_meet
        exact ⟨ub, mu, ku, rfl, hmu, H9⟩
    case rest =>
      obtain ⟨ub, mu, ku, rfl, hmu, H9⟩ := hcut
      clear H8 ZX KX hmk
      go_wp2_with fail
      refine (drawSingleNext_any a len cap _ (HB.out.grown H9.out.1) HT.out).mono ?_
      rintro e w10 ⟨nu, mv, gu, cu, gv, cv, us, vs, rfl, Iu, Iv, hnu, hmv, B10⟩
      have H10 : Hid (Below w1.heap.size w1 w10 ∧ Ints w10 (some ⟨g, 0, none⟩) n xs ∧ Ints w10 ub mu xs ∧ Ints w10 (some ⟨gu, 0, none⟩) nu us ∧ Ints w10 (some ⟨gv, 0, none⟩) mv vs) := ⟨below_call H9.out.1 H9.out.1.size B10, H9.out.2.1.kept B10, H9.out.2.2.kept B10, Iu, Iv⟩
      clear H9 Iu Iv B10
      have hee : (singleNext us vs == singleNext us vs) = true := by simp
      go_wp2_with fail
      refine (likeInts_same ub mu ku xs _ n cp _ H10.out.2.2.1 H10.out.2.1 (by omega)).mono ?_
      rintro e w11 ⟨rfl, B11⟩
      have H11 : Hid (Below w1.heap.size w1 w11 ∧ Ints w11 (some ⟨gu, 0, none⟩) nu us ∧ Ints w11 (some ⟨gv, 0, none⟩) mv vs) := ⟨below_call H10.out.1 H10.out.1.size B11, H10.out.2.2.2.1.kept B11, H10.out.2.2.2.2.kept B11⟩
      clear H10 B11
      go_wp2_with fail
      refine (implSingleNext _ nu cu us _ mv cv vs _ H11.out.2.1 H11.out.2.2).mono ?_
      rintro e w12 ⟨rfl, B12⟩
      have H12 : Hid (Below w1.heap.size w1 w12 ∧ Ints w12 (some ⟨gu, 0, none⟩) nu us ∧ Ints w12 (some ⟨gv, 0, none⟩) mv vs) := ⟨below_call H11.out.1 H11.out.1.size B12, H11.out.2.1.kept B12, H11.out.2.2.kept B12⟩
      clear H11 B12
      go_wp2_with fail
      refine (specSingleNext _ nu cu us _ mv cv vs _ H12.out.2.1 H12.out.2.2 (by omega)).mono ?_
      rintro e w13 ⟨rfl, B13⟩
      have H13 : Hid (Below w1.heap.size w1 w13) := below_call H12.out.1 H12.out.1.size B13
      clear H12 B13
      go_wp2_with fail
      go_ret
      exact ⟨rfl, H13.out⟩

end Go.Proofs.Ytlmlgidfgjejpaa.Crew
