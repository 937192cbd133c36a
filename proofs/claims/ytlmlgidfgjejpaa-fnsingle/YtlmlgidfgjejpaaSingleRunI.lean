/-
  A run on one processor: impl.SingleRun.
-/
import Derived.Test.YtlmlgidfgjejpaaSingleRunS
import Derived.Test.YtlmlgidfgjejpaaSingleNextI
import Derived.Deep.CutRange
namespace Go.Proofs.Ytlmlgidfgjejpaa.Crew
open Go.ChangeShapes Go.WideShapes Go.ChangeAt Go.RowKit

/-- What a call knows that began earlier. -/
theorem Sr.low {w w1 : World} {g cg h ch : Nat} {xs ys : List Int} {wr : World} (H : Sr w1 g cg h ch xs ys wr) (B : Below w.heap.size w w1) : Sr w g cg h ch xs ys wr :=
  ⟨below_call B B.size H.bel, H.cnt, H.out, Nat.le_trans B.size H.lg, Nat.le_trans B.size H.lh, H.ne⟩

/-- Who was taken, into its place. -/
theorem Sr.put {w : World} {g cg h ch : Nat} {xs ys : List Int} {wr : World} (H : Sr w g cg h ch xs ys wr) (j : Nat) (v : Int) : Sr w g cg h ch xs (ys.set j v) (wr.setCell ⟨h, j, none⟩ (.int .i64 v)) :=
  ⟨below_set H.bel H.lh _, H.cnt.past H.ne _, H.out.set j v, H.lg, H.lh, H.ne⟩

theorem Sr.drew {w : World} {g cg h ch : Nat} {xs ys : List Int} {wr : World} (H : Sr w g cg h ch xs ys wr) : Sr w g cg h ch xs ys wr.drew := H.all (Below.refl _ _).drew

/-- The counts copied first, then room for those that are taken. -/
theorem sr_copy {w w2 : World} {len' N : Nat} {ns : List Int} (R : Row w2 w.heap.size len' ns) (B : Below w.heap.size w w2) (hN : (N : Int) ≤ 3000) : Sr w w.heap.size len' w2.heap.size N ns (List.replicate N 0) (w2.alloc (.cells (zeros N) 2)) :=
  ⟨below_call B B.size (below_new _ _), R.alloc _, row_zeros w2 N (by omega), Nat.le_refl _, B.size, Nat.ne_of_lt R.lt⟩

/-- The same the other way round. -/
theorem sr_make {w w2 : World} {len' N : Nat} {ns : List Int} (R : Row w2 (w.heap.size + 1) len' ns) (B : Below (w.alloc (.cells (zeros N) 2)).heap.size (w.alloc (.cells (zeros N) 2)) w2) (hN : (N : Int) ≤ 3000) : Sr w (w.heap.size + 1) len' w.heap.size N ns (List.replicate N 0) w2 :=
  ⟨below_call (below_new _ _) (by simp) B, R, (row_zeros w N (by omega)).all B, by omega, Nat.le_refl _, by omega⟩

set_option maxHeartbeats 4000000 in
/-- impl.SingleRun at every two slices and number. -/
theorem implSingleRun (a : Option Addr) (len cap : Nat) (cs : List Int) (a' : Option Addr) (len' cap' : Nat) (ns : List Int) (n : Int) (w : World) (I : Ints w a len cs) (J : Ints w a' len' ns) :
    Calls Try.prog 14 #[.slice a len cap, .slice a' len' cap', .int .i64 n] w (TwoPost (singleC cs ns n) (singleL cs ns n) w) := by
  have HI : Hid (Ints w a len cs ∧ Ints w a' len' ns) := ⟨I, J⟩
  clear I J
  cases hk : countsOk cs ns
  · have HK : Hid (countsOk cs ns = false) := hk
    have HN : Hid (singleOk cs ns n = false) := by show _ = _; rw [singleOk, hk]; rfl
    clear hk
    go_enter Try.func14, Try.ntmps14
    go_wp2_with fail
    refine (implCounts a len cap cs a' len' cap' ns _ HI.out.1 HI.out.2).mono ?_
    rw [HK.out]
    rintro e w1 ⟨rfl, rfl⟩
    go_wp2_with fail
    go_ret2
    exact two_end (single_no HN.out).1 (single_no HN.out).2 rfl (Below.refl _ _)
  cases hw : within n 0 3000
  · have HK : Hid (countsOk cs ns = true ∧ within n 0 3000 = false) := ⟨hk, hw⟩
    have HN : Hid (singleOk cs ns n = false) := by show _ = _; rw [singleOk, hk, hw]; rfl
    clear hk hw
    go_enter Try.func14, Try.ntmps14
    go_wp2_with fail
    refine (implCounts a len cap cs a' len' cap' ns _ HI.out.1 HI.out.2).mono ?_
    rw [HK.out.1]
    rintro e w1 ⟨rfl, rfl⟩
    go_wp2_with fail
    refine (steps_any n _).mono ?_
    rw [HK.out.2]
    rintro e w1 ⟨rfl, rfl⟩
    go_wp2_with fail
    go_ret2
    exact two_end (single_no HN.out).1 (single_no HN.out).2 rfl (Below.refl _ _)
  have b1 := within_yes hw
  have C := timed_start hk
  have hc24 := crew_len C.crew
  have hln := C.len
  obtain ⟨N, rfl⟩ := Int.eq_ofNat_of_zero_le b1.1
  have hmk := made_ints N (by omega)
  have hN3 := b1.2
  have HK : Hid (countsOk cs ns = true ∧ within (N : Int) 0 3000 = true ∧ cs.length = len ∧ len' = len ∧ Timed cs ns ∧ ns.length = len') := ⟨hk, hw, HI.out.1.1, by have := HI.out.1.1; have := HI.out.2.1; omega, C, HI.out.2.1⟩
  have l24 : (len' : Int) ≤ 24 := by have := HI.out.2.1; omega
  clear hw hk C hc24 hln b1
  go_enter Try.func14, Try.ntmps14
  go_wp2_with fail
  refine (implCounts a len cap cs a' len' cap' ns _ HI.out.1 HI.out.2).mono ?_
  rw [HK.out.1]
  rintro e w1 ⟨rfl, rfl⟩
  go_wp2_with fail
  refine (steps_any (N : Int) _).mono ?_
  rw [HK.out.2.1]
  rintro e w1 ⟨rfl, rfl⟩
  go_wp2_with fail
  refine (windowsOf_any a len cap cs _ HI.out.1 HK.out.2.2.2.2.1.crew).mono ?_
  rintro e w2 ⟨T, rfl, TB⟩
  have H2 : Hid (Tab w1 w2 T len cs len) := TB
  have J2 : Hid (Ints w2 a' len' ns) := HI.out.2.kept TB.bel
  clear TB
  go_upto_region 4 with fail
  go_cut [9, 10] from 26 to 29 (fun s t wx => ∃ g cg h : Nat, s = .slice (some ⟨g, 0, none⟩) len' cg ∧ t = .slice (some ⟨h, 0, none⟩) N N ∧ Hid (Sr w2 g cg h N ns (List.replicate N 0) wx))
  case first =>
    go_region_held3 (fun _ => True) (trivial)
      ((go_at_call 38; refine (copied_any a' len' cap' ns _ ?_ (by omega)).mono ?_; (repeat (first | exact J2.out | apply Ints.drew | apply Ints.alloc)); rintro e w3 ⟨rfl, R3, B3⟩))
    · have H3 : Hid (Sr w2 w2.heap.size len' w3.heap.size N ns (List.replicate N 0) (w3.alloc (.cells (zeros N) 2))) := sr_copy R3 (below_call (Below.refl _ _).drew (Nat.le_refl _) B3) hN3
      clear R3 B3
      go_wp2_with fail
      go_meet
      exact ⟨_, _, _, rfl, rfl, H3⟩
    · have hz : (w2.alloc (.cells (zeros N) 2)).drew.heap.size = w2.heap.size + 1 := by simp
      have B4 : Below (w2.alloc (.cells (zeros N) 2)).heap.size (w2.alloc (.cells (zeros N) 2)) w3 := below_call (Below.refl _ _).drew (Nat.le_refl _) B3
      rw [hz] at R3
      have H3 : Hid (Sr w2 (w2.heap.size + 1) len' w2.heap.size N ns (List.replicate N 0) w3) := sr_make R3 B4 hN3
      clear R3 B3 B4 hz
      go_wp2_with fail
      go_meet
      exact ⟨_, _, _, rfl, rfl, H3⟩
  case rest =>
    obtain ⟨g, cg, h, rfl, rfl, H3⟩ := hcut
    have H4 : Hid (sgCan cs ns 0 = true ∧ Sr w2 g cg h N (sgAt cs ns 0) (sgWho cs ns 0 ++ List.replicate (N - 0) 0) wc) := ⟨rfl, H3.out⟩
    clear H3
    go_wp2_with fail
    go_loopw [32] (fun v wr => ∃ k : Nat, v = .int .i64 k ∧ k ≤ N ∧ Hid (sgCan cs ns k = true ∧ Sr w2 g cg h N (sgAt cs ns k) (sgWho cs ns k ++ List.replicate (N - k) 0) wr)) (fun v _ => N - (intOf v).toNat)
    case atStart => exact ⟨0, rfl, Nat.zero_le _, H4⟩
    case round =>
      obtain ⟨k, rfl, hk, H⟩ := hrel
      by_cases hlt : k < N
      · have hlt' : (k : Int) < (N : Int) := by omega
        have Ck := timed_at HK.out.2.2.2.2.1 k
        have hcl : (sgAt cs ns k).length = len' := by rw [sgAt_length, HK.out.2.2.2.2.2]
        go_wp2_with fail
        refine (firstDue_any w1 T len cs _ len' cg (sgAt cs ns k) Ck _ HK.out.2.2.1 (H2.out.all H.out.2.bel) (by have := H.out.2.cnt.ints; rwa [hcl] at this)).mono ?_
        rintro e w4 ⟨rfl, B4⟩
        have hti := sgOf_in cs (sgAt cs ns k)
        obtain ⟨q, hq⟩ : ∃ q, q = sgOf cs (sgAt cs ns k) := ⟨_, rfl⟩
        rw [← hq] at hti ⊢
        have H5 : Hid (Sr w2 g cg h N (sgAt cs ns k) (sgWho cs ns k ++ List.replicate (N - k) 0) w4) := H.out.2.all B4
        by_cases hq0 : q < 0
        · have HQ : Hid (singleOk cs ns (N : Int) = false) := single_stuck hlt (by rw [← hq]; exact hq0)
          clear hq hti Ck B4 H
          go_wp2_with fail
          go_ret2
          exact two_end (single_no HQ.out).1 (single_no HQ.out).2 rfl (H5.out.low H2.out.bel).bel
        · obtain ⟨t, rfl⟩ := Int.eq_ofNat_of_zero_le (show 0 ≤ q by omega)
          obtain ⟨v, hv⟩ : ∃ v, v = (sgAt cs ns k).getD t 0 := ⟨_, rfl⟩
          have bv := Ck.nat t
          have bt := Ck.top t
          rw [← hv] at bv bt
          have htl : (t : Int) < (len' : Int) := by have := HK.out; omega
          have c1 : w4.cell? ⟨g, t, none⟩ = some (.int .i64 v) := by rw [hv]; exact H5.out.cnt.cell (by rw [hcl]; omega)
          have f1 := H5.out.cnt.frozen t
          have n1 : ¬ g = h := H5.out.ne
          have n2 : ¬ h = g := Ne.symm H5.out.ne
          obtain ⟨y, cT⟩ : ∃ y, w4.cell? ⟨h, k, none⟩ = some (.int .i64 y) := ⟨_, H5.out.out.cell (j := k) (by simp [sgWho_length]; omega)⟩
          have fT := H5.out.out.frozen k
          have HV : Hid ((t : Int) = sgOf cs (sgAt cs ns k) ∧ v = (sgAt cs ns k).getD t 0) := ⟨hq, hv⟩
          have H6 : Hid (sgCan cs ns (k + 1) = true ∧ Sr w2 g cg h N (sgAt cs ns (k + 1)) (sgWho cs ns (k + 1) ++ List.replicate (N - (k + 1)) 0) ((w4.setCell ⟨g, t, none⟩ (.int .i64 (v + 1))).setCell ⟨h, k, none⟩ (.int .i64 (t : Int)))) := by
            refine ⟨sgCan_step H.out.1 (by rw [← hq]; omega), ?_⟩
            have := (H5.out.set t (v + 1)).put k (t : Int)
            rw [fill_step _ (sgWho_length cs ns k) hlt] at this
            rw [sgAt_succ, sgTurn, sgWho_succ, ← HV.out.1, if_neg (by omega), Int.toNat_natCast, ← HV.out.2]
            exact this
          clear B4 hti hq hv hcl H Ck
          go_wp2_with fail
          go_roundw
          case rel => exact ⟨k + 1, by go_num, by omega, H6⟩
          case measure => simp [intOf]; omega
      · have hlt' : ¬ (k : Int) < (N : Int) := by omega
        have e : k = N := by omega
        subst e
        have hcl : (sgAt cs ns k).length = len' := by rw [sgAt_length, HK.out.2.2.2.2.2]
        have HO : Hid (countsOk cs (sgAt cs ns k) = decide (sumI ns + (k : Int) ≤ 1000000)) := by
          show _ = _
          rw [(timed_at HK.out.2.2.2.2.1 k).ok, sg_sumAt HK.out.2.2.2.2.1 H.out.1]
        by_cases hm : sumI ns + (k : Int) ≤ 1000000
        · have HN : Hid (singleOk cs ns (k : Int) = true ∧ countsOk cs (sgAt cs ns k) = true) := ⟨by rw [singleOk, HK.out.1, HK.out.2.1, decide_eq_true hm, Int.toNat_natCast, H.out.1]; rfl, by rw [HO.out, decide_eq_true hm]⟩
          clear hm
          go_wp2_with fail
          refine (implCounts a len cap cs _ len' cg (sgAt cs ns k) _ (HI.out.1.kept (H.out.2.low H2.out.bel).bel) (by have := H.out.2.cnt.ints; rwa [hcl] at this)).mono ?_
          rw [HN.out.2]
          rintro e w5 ⟨rfl, rfl⟩
          go_wp2_with fail
          go_ret2
          have Y := single_yes HN.out.1
          rw [Int.toNat_natCast] at Y
          have R := H.out.2.low H2.out.bel
          rw [Nat.sub_self, List.replicate_zero, List.append_nil] at R
          exact R.two Y.1 Y.2 hcl (sgWho_length _ _ _)
        · have HN : Hid (singleOk cs ns (k : Int) = false ∧ countsOk cs (sgAt cs ns k) = false) := ⟨by rw [singleOk, decide_eq_false hm, Bool.and_false, Bool.false_and], by rw [HO.out, decide_eq_false hm]⟩
          clear hm
          go_wp2_with fail
          refine (implCounts a len cap cs _ len' cg (sgAt cs ns k) _ (HI.out.1.kept (H.out.2.low H2.out.bel).bel) (by have := H.out.2.cnt.ints; rwa [hcl] at this)).mono ?_
          rw [HN.out.2]
          rintro e w5 ⟨rfl, rfl⟩
          go_wp2_with fail
          go_ret2
          exact two_end (single_no HN.out.1).1 (single_no HN.out.1).2 rfl (H.out.2.low H2.out.bel).bel

end Go.Proofs.Ytlmlgidfgjejpaa.Crew
