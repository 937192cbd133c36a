/-
  The law FnLags: whatever the code, it answers true and nothing that was there is written.
-/
import Derived.Test.YtcaegaeihnophaaLagWorst
import Derived.Test.YtcaegaeihnophaaDrawLags
import Derived.Test.YtcaegaeihnophaaBig
namespace Go.Proofs.Ytcaegaeihnophaa.Crew
open Go.ChangeShapes Go.WideShapes Go.ChangeAt Go.RowKit
open Go.Proofs.Ytcaegaeihnophaa.Draw (Bytes big_any drawWorst_any)

/-- The first k lags together. -/
def lagSum (cs ns : List Int) : Nat → Int
  | 0 => 0
  | k + 1 => lagSum cs ns k + lagOf cs ns k

theorem lagOf_in {cs ns : List Int} (hc : countsOk cs ns = true) {k : Nat} (hk : k < cs.length) : lagOf cs ns k = lagAt cs ns k := by
  have h : lagIs cs ns k = true := by
    simp only [lagIs, hc, Bool.true_and, within, decide_eq_true_eq]
    omega
  simp [lagOf, h]

theorem lagOf_none {cs ns : List Int} (hc : countsOk cs ns = false) (i : Int) : lagOf cs ns i = 0 := by simp [lagOf, lagIs, hc]

theorem lagOf_bound (cs ns : List Int) (i : Int) : -24000000000000 ≤ lagOf cs ns i ∧ lagOf cs ns i ≤ 24000000000000 := by
  cases h : lagIs cs ns i
  · simp [lagOf, h]
  · have h2 := h
    simp only [lagIs, Bool.and_eq_true] at h2
    have := within_yes h2.2
    have hb := lagAt_bound h2.1 (k := i.toNat) (by omega)
    simpa [lagOf, h] using hb

theorem lagSum_bound (cs ns : List Int) (k : Nat) : -24000000000000 * (k : Int) ≤ lagSum cs ns k ∧ lagSum cs ns k ≤ 24000000000000 * (k : Int) := by
  induction k with
  | zero => simp [lagSum]
  | succ k ih =>
    have := lagOf_bound cs ns k
    simp only [lagSum]
    omega

theorem lagSum_none {cs ns : List Int} (hc : countsOk cs ns = false) (k : Nat) : lagSum cs ns k = 0 := by
  induction k with
  | zero => rfl
  | succ k ih => rw [lagSum, ih, lagOf_none hc]; rfl

theorem lagSum_part {cs ns : List Int} (hc : countsOk cs ns = true) (k : Nat) (hk : k ≤ cs.length) : lagSum cs ns k = sumI (cs.take k) * sumI ns - sumI cs * sumI (ns.take k) := by
  have hl := (counts_parts hc).2.1
  induction k with
  | zero => simp [lagSum, sumI]
  | succ k ih =>
    rw [lagSum, ih (by omega), lagOf_in hc (by omega), lagAt, sumI_step (by omega), sumI_step (by omega), Int.add_mul, Int.mul_add]
    omega

/-- All lags together are 0. -/
theorem lagSum_all (cs ns : List Int) : lagSum cs ns cs.length = 0 := by
  cases hc : countsOk cs ns
  · exact lagSum_none hc _
  · rw [lagSum_part hc _ (Nat.le_refl _), List.take_of_length_le (Nat.le_refl _), List.take_of_length_le (by have := (counts_parts hc).2.1; omega)]
    omega

theorem lag_worst {cs ns : List Int} {k : Nat} (hk : k < cs.length) (h : lagIs cs ns k = true) : leastOf cs ns ≤ lagOf cs ns k ∧ lagOf cs ns k ≤ mostOf cs ns := by
  have hc : countsOk cs ns = true := by
    simp only [lagIs, Bool.and_eq_true] at h
    exact h.1
  rw [lagOf_in hc hk]
  simp only [leastOf, mostOf, hc, if_true]
  exact ⟨leastTo_le (by omega), le_mostTo (by omega)⟩

theorem lags_long (a : Option Addr) (len cap : Nat) (w : World) (hb : (4096 : Int) < (len : Int)) :
    Calls Try.prog 3 #[.slice a len cap] w fun e w' => e = .returned (.bool true) ∧ Below w.heap.size w w' := by
  have hd : decide (4096 < (len : Int)) = true := by simp; omega
  go_enter Try.func3, Try.ntmps3
  go_wp2_with fail
  refine (big_any a len cap _).mono ?_
  rintro e w1 ⟨rfl, rfl⟩
  rw [hd]
  clear hd
  go_wp2_with fail
  go_ret
  exact ⟨rfl, Below.refl _ _⟩

theorem lags_short (a : Option Addr) (len cap : Nat) (w : World) (B : Bytes w a len) (hb : ¬ (4096 : Int) < (len : Int)) :
    Calls Try.prog 3 #[.slice a len cap] w fun e w' => e = .returned (.bool true) ∧ Below w.heap.size w w' := by
  have ht : len ≤ 9223372036854775806 := by omega
  have hd : decide (4096 < (len : Int)) = false := by simp; omega
  go_enter Try.func3, Try.ntmps3
  go_wp2_with fail
  refine (big_any a len cap _).mono ?_
  rintro e w1 ⟨rfl, rfl⟩
  rw [hd]
  clear hd
  go_wp2_with fail
  refine (drawWorst_any a len cap _ B ht).mono ?_
  rintro e w2 ⟨n, m, g, cp, g', cp', cs, ns, rfl, I, J, hn, hm, B2⟩
  have hni : (n : Int) ≤ 30 := by omega
  have hmi : (m : Int) ≤ 30 := by omega
  have NL : Hid (cs.length = n) := I.1
  have HI := hid I
  have HJ := hid J
  obtain ⟨lo, hlo⟩ : ∃ lo, lo = leastOf cs ns := ⟨_, rfl⟩
  obtain ⟨hi, hhi⟩ : ∃ hi, hi = mostOf cs ns := ⟨_, rfl⟩
  have LO := hid hlo
  have HIH := hid hhi
  clear B I J hlo hhi
  go_wp2_with fail
  refine (implWorst _ n cp cs _ m cp' ns _ HI.out HJ.out).mono ?_
  rw [← LO.out, ← HIH.out]
  rintro e w3 ⟨rfl, B3⟩
  have C3 := hid (B2.trans (B3.mono B2.size))
  have I3 := hid (HI.out.kept B3)
  have J3 := hid (HJ.out.kept B3)
  have S3 := hid B3.size
  clear B2 B3 HI HJ
  go_wp2_with fail
  go_loopw [7, 8, 9, 10, 11, 12] (fun t i _ _ _ _ wr => ∃ k : Nat, ∃ s : Int, k ≤ n ∧ i = .int .i64 k ∧ t = .int .i64 s ∧ Hid (s = lagSum cs ns k) ∧ Hid (Below w3.heap.size w3 wr)) (fun _ i _ _ _ _ _ => n - (intOf i).toNat)
  case atStart => exact ⟨0, 0, Nat.zero_le _, rfl, rfl, rfl, Below.refl _ _⟩
  case round =>
    obtain ⟨k, s, hk, rfl, rfl, E, BR⟩ := hrel
    by_cases hlt : k < n
    · have hlt' : (k : Int) < (n : Int) := by omega
      have bs := lagSum_bound cs ns k
      rw [← E.out] at bs
      have bv := lagOf_bound cs ns k
      obtain ⟨v, hv⟩ : ∃ v, v = lagOf cs ns k := ⟨_, rfl⟩
      rw [← hv] at bv
      have LI := implLagOf _ n cp cs _ m cp' ns k wr (I3.out.kept BR.out) (J3.out.kept BR.out)
      have LS := fun (wz : World) (hz : Below wr.heap.size wr wz) => specLagOf _ n cp cs _ m cp' ns k wz ((I3.out.kept BR.out).kept hz) ((J3.out.kept BR.out).kept hz) (by omega)
      have hvv : (v != v) = false := by simp
      cases his : lagIs cs ns k
      · simp only [← hv, his] at LI LS
        have HLI := hid LI
        have HLS := hid LS
        have V := hid hv
        clear LI LS his hv
        go_wp2_with fail
        refine HLI.out.mono ?_
        rintro e w4 ⟨rfl, B4⟩
        have B4' := hid B4
        clear B4 HLI
        go_wp2_with fail
        refine (HLS.out _ B4'.out).mono ?_
        rintro e w5 ⟨rfl, B5⟩
        have D5 := hid (BR.out.trans ((B4'.out.trans (B5.mono B4'.out.size)).mono BR.out.size))
        clear B5 HLS B4' BR
        go_wp2_with fail
        go_roundw
        case rel => exact ⟨k + 1, s + v, by omega, by go_num, rfl, by show _ = _; rw [lagSum, E.out, V.out], D5⟩
        case measure => simp [intOf]; omega
      · have hw := lag_worst (cs := cs) (ns := ns) (k := k) (by have := NL.out; omega) his
        rw [← LO.out, ← HIH.out, ← hv] at hw
        have hd1 : decide (v < lo) = false := decide_eq_false (by omega)
        have hd2 : decide (v > hi) = false := decide_eq_false (by omega)
        simp only [← hv, his] at LI LS
        have HLI := hid LI
        have HLS := hid LS
        have V := hid hv
        clear LI LS his hv
        go_wp2_with fail
        refine HLI.out.mono ?_
        rintro e w4 ⟨rfl, B4⟩
        have B4' := hid B4
        clear B4 HLI
        go_wp2_with fail
        refine (HLS.out _ B4'.out).mono ?_
        rintro e w5 ⟨rfl, B5⟩
        have D5 := hid (BR.out.trans ((B4'.out.trans (B5.mono B4'.out.size)).mono BR.out.size))
        clear B5 HLS B4' BR
        go_wp2_with fail
        go_roundw
        case rel => exact ⟨k + 1, s + v, by omega, by go_num, rfl, by show _ = _; rw [lagSum, E.out, V.out], D5⟩
        case measure => simp [intOf]; omega
    · have hlt' : ¬ (k : Int) < (n : Int) := by omega
      have hs0 : s = 0 := by
        have e : k = cs.length := by have := NL.out; omega
        rw [E.out, e]
        exact lagSum_all cs ns
      subst hs0
      have h00 : ((0 : Int) == 0) = true := rfl
      have hll : (lo == lo) = true := by simp
      have hhh : (hi == hi) = true := by simp
      obtain ⟨tv, htv⟩ : ∃ tv, tv = turnsOf cs ns := ⟨_, rfl⟩
      obtain ⟨cv, hcv⟩ : ∃ cv, cv = countsOk cs ns := ⟨_, rfl⟩
      have TV := hid htv
      have CV := hid hcv
      have htt : (tv == tv) = true := by simp
      have hcc : (cv == cv) = true := by simp
      have IR := hid (I3.out.kept BR.out)
      have JR := hid (J3.out.kept BR.out)
      clear htv hcv E I3 J3
      go_wp2_with fail
      refine (specWorst _ n cp cs _ m cp' ns _ IR.out JR.out (by omega)).mono ?_
      rw [← LO.out, ← HIH.out]
      rintro e w4 ⟨rfl, B4⟩
      have I4 := hid (IR.out.kept B4)
      have J4 := hid (JR.out.kept B4)
      have D4 := hid (BR.out.trans (B4.mono BR.out.size))
      clear B4 IR JR BR
      go_wp2_with fail
      refine (implTurns _ n cp cs _ m cp' ns _ I4.out J4.out).mono ?_
      rw [← TV.out]
      rintro e w5 ⟨rfl, rfl⟩
      go_wp2_with fail
      refine (specTurns _ n cp cs _ m cp' ns _ I4.out J4.out (by omega)).mono ?_
      rw [← TV.out]
      rintro e w6 ⟨rfl, rfl⟩
      go_wp2_with fail
      refine (implCounts _ n cp cs _ m cp' ns _ I4.out J4.out).mono ?_
      rw [← CV.out]
      rintro e w7 ⟨rfl, rfl⟩
      go_wp2_with fail
      refine (specCounts _ n cp cs _ m cp' ns _ I4.out J4.out (by omega)).mono ?_
      rw [← CV.out]
      rintro e w8 ⟨rfl, rfl⟩
      go_wp2_with fail
      go_ret
      exact ⟨by first | rfl | (rw [hcc]; rfl), C3.out.trans (D4.out.mono C3.out.size)⟩

theorem lawLags (a : Option Addr) (len cap : Nat) (w : World) (B : Bytes w a len) :
    Calls Try.prog 3 #[.slice a len cap] w fun e w' => e = .returned (.bool true) ∧ Below w.heap.size w w' := by
  by_cases hb : (4096 : Int) < (len : Int)
  · exact lags_long a len cap w hb
  · exact lags_short a len cap w B hb

end Go.Proofs.Ytcaegaeihnophaa.Crew
