/-
  A run on one processor: spec.SingleRun.
-/
import Derived.Test.YtlmlgidfgjejpaaSingleNextS
import Derived.Test.YtlmlgidfgjejpaaSmoothBase
import Derived.Test.YtlmlgidfgjejpaaSmoothCopy
import Derived.Test.YtlmlgidfgjejpaaRunBase
namespace Go.Proofs.Ytlmlgidfgjejpaa.Crew
open Go.ChangeShapes Go.WideShapes Go.ChangeAt Go.RowKit

/-- May it be run so far? -/
def singleOk (cs ns : List Int) (n : Int) : Bool := countsOk cs ns && within n 0 3000 && decide (sumI ns + n ≤ 1000000) && sgCan cs ns n.toNat

def singleC (cs ns : List Int) (n : Int) : List Int := if singleOk cs ns n then sgAt cs ns n.toNat else []

def singleL (cs ns : List Int) (n : Int) : List Int := if singleOk cs ns n then sgWho cs ns n.toNat else []

theorem single_yes {cs ns : List Int} {n : Int} (h : singleOk cs ns n = true) : singleC cs ns n = sgAt cs ns n.toNat ∧ singleL cs ns n = sgWho cs ns n.toNat := by
  rw [singleC, singleL, if_pos h, if_pos h]
  exact ⟨rfl, rfl⟩

theorem single_no {cs ns : List Int} {n : Int} (h : singleOk cs ns n = false) : singleC cs ns n = [] ∧ singleL cs ns n = [] := by
  rw [singleC, singleL, if_neg (by simp [h]), if_neg (by simp [h])]
  exact ⟨rfl, rfl⟩

theorem singleC_len (cs ns : List Int) (n : Int) : (singleC cs ns n).length ≤ 24 := by
  cases h : singleOk cs ns n
  · rw [(single_no h).1]; simp
  · rw [(single_yes h).1, sgAt_length]
    simp only [singleOk, Bool.and_eq_true] at h
    have C := timed_start h.1.1.1
    rw [C.len]
    exact (crew_len C.crew).2

theorem singleL_len (cs ns : List Int) (n : Int) : (singleL cs ns n).length ≤ 3000 := by
  cases h : singleOk cs ns n
  · rw [(single_no h).2]; simp
  · rw [(single_yes h).2, sgWho_length]
    simp only [singleOk, Bool.and_eq_true] at h
    have := within_yes h.1.1.2
    omega

/-- A run that stops since nobody may be taken. -/
theorem single_stuck {cs ns : List Int} {k N : Nat} (hk : k < N) (h : sgOf cs (sgAt cs ns k) < 0) : singleOk cs ns (N : Int) = false := by
  rw [singleOk, Int.toNat_natCast, sgCan_false (sgCan_not h) (show k + 1 ≤ N by omega), Bool.and_false]

set_option maxHeartbeats 2000000 in
/-- spec.SingleRun at every two slices and number. -/
theorem specSingleRun (a : Option Addr) (len cap : Nat) (cs : List Int) (a' : Option Addr) (len' cap' : Nat) (ns : List Int) (n : Int) (w : World) (I : Ints w a len cs) (J : Ints w a' len' ns) (hs : (len : Int) ≤ 1048576) (hs' : (len' : Int) ≤ 1048576) :
    Calls Try.prog 15 #[.slice a len cap, .slice a' len' cap', .int .i64 n] w (TwoPost (singleC cs ns n) (singleL cs ns n) w) := by
  obtain ⟨i0, hi, hz0, hz1, hz2⟩ := info_parts info_int
  have HI : Hid (Ints w a len cs ∧ Ints w a' len' ns) := ⟨I, J⟩
  clear I J
  cases hk : countsOk cs ns
  · have HK : Hid (countsOk cs ns = false) := hk
    have HN : Hid (singleOk cs ns n = false) := by show _ = _; rw [singleOk, hk]; rfl
    clear hk
    go_enter Try.func15, Try.ntmps15
    go_wp2_with fail
    refine (specCounts a len cap cs a' len' cap' ns _ HI.out.1 HI.out.2 hs).mono ?_
    rw [HK.out]
    rintro e w1 ⟨rfl, rfl⟩
    go_wp2_with fail
    go_ret2
    exact two_end (single_no HN.out).1 (single_no HN.out).2 rfl (Below.refl _ _)
  cases hw : within n 0 3000
  · have HK : Hid (countsOk cs ns = true ∧ within n 0 3000 = false) := ⟨hk, hw⟩
    have HN : Hid (singleOk cs ns n = false) := by show _ = _; rw [singleOk, hk, hw]; rfl
    clear hk hw
    go_enter Try.func15, Try.ntmps15
    go_wp2_with fail
    refine (specCounts a len cap cs a' len' cap' ns _ HI.out.1 HI.out.2 hs).mono ?_
    rw [HK.out.1]
    rintro e w1 ⟨rfl, rfl⟩
    go_wp2_with fail
    refine (specSteps_any n _).mono ?_
    rw [HK.out.2]
    rintro e w1 ⟨rfl, rfl⟩
    go_wp2_with fail
    go_ret2
    exact two_end (single_no HN.out).1 (single_no HN.out).2 rfl (Below.refl _ _)
  have b1 := within_yes hw
  have S := cnts_small (counts_parts hk).2.2.1
  have C := timed_start hk
  have hc24 := crew_len C.crew
  have hlen' : ns.length = len' := HI.out.2.1
  have hlen : cs.length = len := HI.out.1.1
  have hln := C.len
  have b2 := timed_sums C
  by_cases hm : sumI ns + n ≤ 1000000
  · have hm' : ¬ 1000000 < sumI ns + n := by omega
    have hd : decide (1000000 < sumI ns + n) = false := by simp; omega
    obtain ⟨N, rfl⟩ := Int.eq_ofNat_of_zero_le b1.1
    have HN : Hid (sgCan cs ns N = true → singleOk cs ns (N : Int) = true) := by
      intro h
      rw [singleOk, hk, hw, decide_eq_true hm, Int.toNat_natCast, h]; rfl
    have HK : Hid (countsOk cs ns = true ∧ within (N : Int) 0 3000 = true ∧ cs.length = len ∧ ns.length = len' ∧ ns.length = cs.length ∧ Timed cs ns) := ⟨hk, hw, hlen, hlen', hln, C⟩
    have l24 : (len' : Int) ≤ 24 := by have := HK.out; omega
    generalize hS : sumI ns = T at *
    have HT : Hid (sumI ns = T) := hS
    clear hk hw hm hlen hlen' hln hS C
    go_enter Try.func15, Try.ntmps15
    go_wp2_with fail
    refine (specCounts a len cap cs a' len' cap' ns _ HI.out.1 HI.out.2 hs).mono ?_
    rw [HK.out.1]
    rintro e w1 ⟨rfl, rfl⟩
    go_wp2_with fail
    refine (specSteps_any (N : Int) _).mono ?_
    rw [HK.out.2.1]
    rintro e w1 ⟨rfl, rfl⟩
    go_wp2_with fail
    refine (sum_any a' len' cap' ns _ HI.out.2 hs' S).mono ?_
    rw [HT.out]
    rintro e w1 ⟨rfl, rfl⟩
    go_wp2_with fail
    refine (copy_any a' len' cap' ns _ HI.out.2 hs').mono ?_
    rintro e w2 ⟨g, cg, rfl, R2, hg2, B2⟩
    have H2 : Hid (sgCan cs ns 0 = true ∧ Sr w1 g cg w2.heap.size 0 (sgAt cs ns 0) (sgWho cs ns 0) (w2.alloc (.cells #[] 2))) := ⟨rfl, sr_start B2 R2 hg2⟩
    clear R2 hg2 B2
    go_wp2_with fail
    generalize w2.alloc (.cells #[] 2) = w3 at *
    generalize w2.heap.size = h0 at *
    go_loopw [2, 8] (fun v o wr => ∃ (k h ch : Nat), v = .int .i64 ((N : Int) - k) ∧ o = .slice (some ⟨h, 0, none⟩) k ch ∧ k ≤ N ∧ Hid (sgCan cs ns k = true ∧ Sr w1 g cg h ch (sgAt cs ns k) (sgWho cs ns k) wr)) (fun v _ _ => (intOf v).toNat)
    case atStart => exact ⟨0, h0, 0, by simp, rfl, Nat.zero_le _, H2⟩
    case round =>
      obtain ⟨k, h, ch, rfl, rfl, hk, H⟩ := hrel
      by_cases hlt : k < N
      · have hlt' : (0 : Int) < (N : Int) - (k : Int) := by omega
        have Ck := timed_at HK.out.2.2.2.2.2 k
        have hcl : (sgAt cs ns k).length = len' := by rw [sgAt_length, HK.out.2.2.2.1]
        go_wp2_with fail
        refine (next10_any a len cap cs _ len' cg (sgAt cs ns k) Ck _ (HI.out.1.kept H.out.2.bel) (by have := H.out.2.cnt.ints; rwa [hcl] at this)).mono ?_
        rintro e w4 ⟨rfl, B4⟩
        have hti := sgOf_in cs (sgAt cs ns k)
        obtain ⟨q, hq⟩ : ∃ q, q = sgOf cs (sgAt cs ns k) := ⟨_, rfl⟩
        rw [← hq] at hti ⊢
        have H4 : Hid (Sr w1 g cg h ch (sgAt cs ns k) (sgWho cs ns k) w4) := H.out.2.all B4
        by_cases hq0 : q < 0
        · have HQ : Hid (singleOk cs ns (N : Int) = false) := single_stuck hlt (by rw [← hq]; exact hq0)
          clear hq hti Ck B4 H
          go_wp2_with fail
          go_ret2
          exact two_end (single_no HQ.out).1 (single_no HQ.out).2 rfl H4.out.bel
        · obtain ⟨t, rfl⟩ := Int.eq_ofNat_of_zero_le (show 0 ≤ q by omega)
          obtain ⟨v, hv⟩ : ∃ v, v = (sgAt cs ns k).getD t 0 := ⟨_, rfl⟩
          have bv := Ck.nat t
          have bt := Ck.top t
          rw [← hv] at bv bt
          have htl : (t : Int) < (len' : Int) := by have := HK.out; omega
          have c1 : w4.cell? ⟨g, t, none⟩ = some (.int .i64 v) := by rw [hv]; exact H4.out.cnt.cell (by rw [hcl]; omega)
          have f1 := H4.out.cnt.frozen t
          have HV : Hid ((t : Int) = sgOf cs (sgAt cs ns k) ∧ v = (sgAt cs ns k).getD t 0) := ⟨hq, hv⟩
          have hC1 : Hid (sgCan cs ns (k + 1) = true) := sgCan_step H.out.1 (by rw [← hq]; omega)
          have H5 : Hid (Sr w1 g cg h ch (sgAt cs ns (k + 1)) (sgWho cs ns k) (w4.setCell ⟨g, t, none⟩ (.int .i64 (v + 1)))) := by
            have := H4.out.set t (v + 1)
            rw [sgAt_succ, sgTurn, ← HV.out.1, if_neg (by omega), Int.toNat_natCast, ← HV.out.2]
            exact this
          clear B4 hti hq hv hcl H Ck
          go_wp2_with (at_builtin; refine wpList_append_ints rfl (.tmp 50) (.tmp 52) 27 rfl i0 Try.underlying27 hi hz0 hz1 hz2 h k ch (sgWho cs ns k) rfl (sgWho_length cs ns k).symm (H5.out.out.alloc _) _ _ _ [(t : Int)] rfl (ints_put (by simp) (t : Int) _) (by rw [sgWho_length]; omega) ?_)
          intro h6 c6 w6 R6 G6 D6
          have H6 : Hid (sgCan cs ns (k + 1) = true ∧ Sr w1 g cg h6 c6 (sgAt cs ns (k + 1)) (sgWho cs ns (k + 1)) w6) := by
            refine ⟨hC1.out, ?_⟩
            rw [sgWho_succ, ← HV.out.1]
            exact (H5.out.all (below_new _ _)).append R6 G6 (by simpa using D6)
          clear R6 G6 D6 c1 f1
          go_wp2_with fail
          go_roundw
          case rel => exact ⟨k + 1, h6, c6, by go_num, rfl, by omega, H6⟩
          case measure => simp [intOf]; omega
      · have hlt' : ¬ (0 : Int) < (N : Int) - (k : Int) := by omega
        go_wp2_with fail
        go_ret2
        have e : k = N := by omega
        subst e
        have Y := single_yes (HN.out H.out.1)
        rw [Int.toNat_natCast] at Y
        exact H.out.2.two Y.1 Y.2 (by rw [sgAt_length, HK.out.2.2.2.1]) (sgWho_length _ _ _)
  · have hm' : 1000000 < sumI ns + n := by omega
    have hd : decide (1000000 < sumI ns + n) = true := by simp; omega
    have HN : Hid (singleOk cs ns n = false) := by show _ = _; rw [singleOk, decide_eq_false hm, Bool.and_false, Bool.false_and]
    have HK : Hid (countsOk cs ns = true ∧ within n 0 3000 = true) := ⟨hk, hw⟩
    generalize hS : sumI ns = T at *
    have HT : Hid (sumI ns = T) := hS
    clear hk hw hm hlen hlen' hln hS C
    go_enter Try.func15, Try.ntmps15
    go_wp2_with fail
    refine (specCounts a len cap cs a' len' cap' ns _ HI.out.1 HI.out.2 hs).mono ?_
    rw [HK.out.1]
    rintro e w1 ⟨rfl, rfl⟩
    go_wp2_with fail
    refine (specSteps_any n _).mono ?_
    rw [HK.out.2]
    rintro e w1 ⟨rfl, rfl⟩
    go_wp2_with fail
    refine (sum_any a' len' cap' ns _ HI.out.2 hs' S).mono ?_
    rw [HT.out]
    rintro e w1 ⟨rfl, rfl⟩
    go_wp2_with fail
    go_ret2
    exact two_end (single_no HN.out).1 (single_no HN.out).2 rfl (Below.refl _ _)

end Go.Proofs.Ytlmlgidfgjejpaa.Crew
