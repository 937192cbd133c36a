/-
  The law FnAdjusted: whatever the code, it answers true and nothing that was there is written.
-/
import Derived.Test.YtidmpcnjhpnlcaaDrawAdj
import Derived.Test.YtidmpcnjhpnlcaaFitsSpec
import Derived.Test.YtidmpcnjhpnlcaaRatioBase
import Derived.Deep.CutRange
namespace Go.Proofs.Ytidmpcnjhpnlcaa.Crew
open Go.ChangeShapes Go.WideShapes Go.ChangeAt Go.RowKit
open Go.Proofs.Ytidmpcnjhpnlcaa.Draw (Bytes big_any drawFits_any drawAdjusted_any)
open Go.Proofs.Ytidmpcnjhpnlcaa.Ratio (fracLess implLess)

/-- laws.likeShares where both read alike. -/
theorem likeShares_same (a : Option Addr) (la ca : Nat) (ps : List Shr) (b : Option Addr) (lb cb : Nat) (w : World) (I : Shs w a la ps) (J : Shs w b lb ps) (hs : (la : Int) ≤ 1048576) :
    Calls Try.prog 11 #[.slice a la ca, .slice b lb cb] w fun e w' => e = .returned (.bool true) ∧ Below w.heap.size w w' := by
  have hll : la = lb := by have := I.1; have := J.1; omega
  subst hll
  have HI : Hid (Shs w a la ps) := I
  have HJ : Hid (Shs w b la ps) := J
  clear I J
  have hne : ((la : Int) != (la : Int)) = false := by simp
  go_enter Try.func11, Try.ntmps11
  go_wp2_with fail
  go_loopw [5] (fun i wr => ∃ k : Nat, k ≤ la ∧ i = .int .i64 k ∧ Hid (Below w.heap.size w wr)) (fun i _ => la - (intOf i).toNat)
  case atStart => exact ⟨0, Nat.zero_le _, rfl, Below.refl _ _⟩
  case round =>
    obtain ⟨k, hk, rfl, B⟩ := hrel
    by_cases hlt : k < la
    · obtain ⟨hl1, h0 | ⟨b1, off1, rfl, hb1, hc1⟩⟩ := HI.out.kept B.out
      · omega
      obtain ⟨hl2, h0 | ⟨b2, off2, rfl, hb2, hc2⟩⟩ := HJ.out.kept B.out
      · omega
      obtain ⟨x, hx⟩ : ∃ x, x = (ps.getD k (0, 0)).1 := ⟨_, rfl⟩
      obtain ⟨y, hy⟩ : ∃ y, y = (ps.getD k (0, 0)).2 := ⟨_, rfl⟩
      obtain ⟨p0, p1⟩ := hc1 k hlt
      obtain ⟨q0, q1⟩ := hc2 k hlt
      rw [← hx] at p0 q0
      rw [← hy] at p1 q1
      have hlt' : (k : Int) < (la : Int) := by omega
      clear hc1 hc2 hx hy
      go_wp2_with fail
      go_quiet (fail)
      have BZ : Hid (∀ n, Below w.heap.size w (wr.drewN n)) := fun n => below_drewN B.out n
      go_wp2_with fail
      go_roundw
      case rel => exact ⟨k + 1, by omega, by go_num, BZ.out _⟩
      case measure => simp [intOf]; omega
    · have hlt' : ¬ (k : Int) < (la : Int) := by omega
      go_wp2_with fail
      go_ret
      exact ⟨rfl, B.out⟩

theorem less_not {a b c d : Int} (h : ¬ a * d < c * b) : fracLess a b c d = false := by
  unfold fracLess
  rw [decide_eq_false h, Bool.and_false]

set_option maxRecDepth 100000 in
theorem adj_long (a : Option Addr) (len cap : Nat) (w : World) (hb : (4096 : Int) < (len : Int)) :
    Calls Try.prog 3 #[.slice a len cap] w fun e w' => e = .returned (.bool true) ∧ Below w.heap.size w w' := by
  have hd : decide (4096 < (len : Int)) = true := by simp; omega
  go_enter Try.func3, Try.ntmps3
  go_wp2_with fail
  refine (big_any a len cap _).mono ?_
  rintro e w1 ⟨rfl, rfl⟩
  rw [hd]
  clear hd
  go_wp2_with fail
  go_ret
  exact ⟨rfl, Below.refl _ _⟩

set_option maxRecDepth 100000 in
set_option maxHeartbeats 8000000 in
theorem adj_short (a : Option Addr) (len cap : Nat) (w : World) (B : Bytes w a len) (hb : ¬ (4096 : Int) < (len : Int)) :
    Calls Try.prog 3 #[.slice a len cap] w fun e w' => e = .returned (.bool true) ∧ Below w.heap.size w w' := by
  have ht : len ≤ 9223372036854775806 := by omega
  have hd : decide (4096 < (len : Int)) = false := by simp; omega
  have HB : Hid (Bytes w a len) := B
  clear B
  go_enter Try.func3, Try.ntmps3
  go_wp2_with fail
  refine (big_any a len cap _).mono ?_
  rintro e w1 ⟨rfl, rfl⟩
  rw [hd]
  clear hd
  go_wp2_with fail
  refine (drawAdjusted_any a len cap _ HB.out ht).mono ?_
  rintro e w2 ⟨n, g, cp, xs, x, rfl, I2, hn, B2⟩
  have H2 : Hid (Ints w2 (some ⟨g, 0, none⟩) n xs ∧ Below w1.heap.size w1 w2) := ⟨I2, B2⟩
  clear I2 B2
  have hn30 : (n : Int) ≤ 30 := by omega
  clear hn
  obtain ⟨m, hm⟩ : ∃ m, m = (adjusted xs x).length := ⟨_, rfl⟩
  have hm24 : (m : Int) ≤ 24 := by have := adjusted_len xs x; omega
  have HM : Hid (m = (adjusted xs x).length) := hm
  clear hm
  go_wp2_with fail
  refine (implAdj _ _ _ xs x _ H2.out.1).mono ?_
  rw [← HM.out]
  rintro e w3 ⟨gl, cl, rfl, R3, hgl, B3⟩
  have H3 : Hid (Ints w3 (some ⟨g, 0, none⟩) n xs ∧ Shs w3 (some ⟨gl, 0, none⟩) m (adjusted xs x) ∧ Below w1.heap.size w1 w3) := ⟨H2.out.1.kept B3, by have := R3.shs; rwa [← HM.out] at this, H2.out.2.trans (B3.mono H2.out.2.size)⟩
  clear R3 B3 hgl H2
  go_wp2_with fail
  refine (drawFits_any a len cap _ (HB.out.grown H3.out.2.2) ht).mono ?_
  rintro e w4 ⟨m2, g2, cp2, ps, x2, rfl, I4, hm2, B4⟩
  have H4 : Hid (Ints w4 (some ⟨g, 0, none⟩) n xs ∧ Shs w4 (some ⟨gl, 0, none⟩) m (adjusted xs x) ∧ Shs w4 (some ⟨g2, 0, none⟩) m2 ps ∧ Below w1.heap.size w1 w4) := ⟨H3.out.1.kept B4, H3.out.2.1.kept B4, I4, H3.out.2.2.trans (B4.mono H3.out.2.2.size)⟩
  have hm2' : (m2 : Int) ≤ 7 := by omega
  clear I4 B4 hm2 H3
  go_wp2_with fail
  refine (specAdj _ _ _ xs x _ H4.out.1 (by omega)).mono ?_
  rw [← HM.out]
  rintro e w5 ⟨g5, c5, rfl, R5, hg5, B5⟩
  have J5 := R5.shs
  rw [← HM.out] at J5
  have H5 : Hid (Ints w5 (some ⟨g, 0, none⟩) n xs ∧ Shs w5 (some ⟨gl, 0, none⟩) m (adjusted xs x) ∧ Shs w5 (some ⟨g2, 0, none⟩) m2 ps ∧ Below w1.heap.size w1 w5) := ⟨H4.out.1.kept B5, H4.out.2.1.kept B5, H4.out.2.2.1.kept B5, H4.out.2.2.2.trans (B5.mono H4.out.2.2.2.size)⟩
  clear R5 hg5 B5 H4
  go_wp2_with fail
  refine (likeShares_same _ _ _ _ _ _ _ _ H5.out.2.1 J5 (by omega)).mono ?_
  rintro e w6 ⟨rfl, B6⟩
  have H6 : Hid (Ints w6 (some ⟨g, 0, none⟩) n xs ∧ Shs w6 (some ⟨gl, 0, none⟩) m (adjusted xs x) ∧ Shs w6 (some ⟨g2, 0, none⟩) m2 ps ∧ Below w1.heap.size w1 w6) := ⟨H5.out.1.kept B6, H5.out.2.1.kept B6, H5.out.2.2.1.kept B6, H5.out.2.2.2.trans (B6.mono H5.out.2.2.2.size)⟩
  clear J5 B6 H5
  obtain ⟨t, hft⟩ : ∃ t, t = fitsOn ps x2 := ⟨_, rfl⟩
  have HT : Hid (fitsOn ps x2 = t) := hft.symm
  have hbt : (t != t) = false := by simp
  clear hft
  go_wp2_with fail
  refine (implFits _ _ _ ps x2 _ H6.out.2.2.1 (by omega)).mono ?_
  rw [HT.out]
  rintro e w7 ⟨rfl, B7⟩
  have H7 : Hid (Ints w7 (some ⟨g, 0, none⟩) n xs ∧ Shs w7 (some ⟨gl, 0, none⟩) m (adjusted xs x) ∧ Shs w7 (some ⟨g2, 0, none⟩) m2 ps ∧ Below w1.heap.size w1 w7) := ⟨H6.out.1.kept B7, H6.out.2.1.kept B7, H6.out.2.2.1.kept B7, H6.out.2.2.2.trans (B7.mono H6.out.2.2.2.size)⟩
  clear B7 H6
  go_wp2_with fail
  refine (specFits _ _ _ ps x2 _ H7.out.2.2.1 (by omega)).mono ?_
  rw [HT.out]
  rintro e w8 ⟨rfl, B8⟩
  have H8 : Hid (Ints w8 (some ⟨g, 0, none⟩) n xs ∧ Shs w8 (some ⟨gl, 0, none⟩) m (adjusted xs x) ∧ Shs w8 (some ⟨g2, 0, none⟩) m2 ps ∧ Below w1.heap.size w1 w8) := ⟨H7.out.1.kept B8, H7.out.2.1.kept B8, H7.out.2.2.1.kept B8, H7.out.2.2.2.trans (B8.mono H7.out.2.2.2.size)⟩
  clear B8 H7 HT
  obtain ⟨q, hq⟩ : ∃ q, q = wholeN ps := ⟨_, rfl⟩
  have HQ : Hid (wholeN ps = q) := hq.symm
  have hbq : ((q : Int) != (q : Int)) = false := by simp
  clear hq
  go_wp2_with fail
  refine (implWhole _ _ _ ps _ H8.out.2.2.1 (by omega)).mono ?_
  rw [HQ.out]
  rintro e w9 ⟨rfl, B9⟩
  have H9 : Hid (Ints w9 (some ⟨g, 0, none⟩) n xs ∧ Shs w9 (some ⟨gl, 0, none⟩) m (adjusted xs x) ∧ Shs w9 (some ⟨g2, 0, none⟩) m2 ps ∧ Below w1.heap.size w1 w9) := ⟨H8.out.1.kept B9, H8.out.2.1.kept B9, H8.out.2.2.1.kept B9, H8.out.2.2.2.trans (B9.mono H8.out.2.2.2.size)⟩
  clear B9 H8
  go_wp2_with fail
  refine (specWhole _ _ _ ps _ H9.out.2.2.1 (by omega)).mono ?_
  rw [HQ.out]
  rintro e w10 ⟨rfl, B10⟩
  have H10 : Hid (Ints w10 (some ⟨g, 0, none⟩) n xs ∧ Shs w10 (some ⟨gl, 0, none⟩) m (adjusted xs x) ∧ Below w1.heap.size w1 w10) := ⟨H9.out.1.kept B10, H9.out.2.1.kept B10, H9.out.2.2.2.trans (B10.mono H9.out.2.2.2.size)⟩
  clear B10 H9 HQ hm2'
  by_cases hok : crewOk xs = false ∨ procsOk x = false
  · have hm0 : m = 0 := by rw [HM.out, adjusted_no hok]; rfl
    subst hm0
    cases hc : crewOk xs
    · go_wp2_with fail
      refine (specCrewOk _ _ _ xs _ H10.out.1 (by omega)).mono ?_
      rw [hc]
      rintro e w11 ⟨rfl, rfl⟩
      go_wp2_with fail
      go_ret
      exact ⟨rfl, H10.out.2.2⟩
    · have hp : procsOk x = false := by rcases hok with h | h; rw [hc] at h; cases h; exact h
      have hpx : x < 1 ∨ 8 < x := by
        simp [procsOk, within] at hp
        omega
      clear hok hp
      go_wp2_with fail
      refine (specCrewOk _ _ _ xs _ H10.out.1 (by omega)).mono ?_
      rw [hc]
      rintro e w11 ⟨rfl, rfl⟩
      rcases hpx with hp | hp
      · go_wp2_with fail
        go_ret
        exact ⟨rfl, H10.out.2.2⟩
      · have hp' : ¬ x < 1 := by omega
        go_wp2_with fail
        go_ret
        exact ⟨rfl, H10.out.2.2⟩
  · have hc : crewOk xs = true := by cases h : crewOk xs; exact absurd (.inl h) hok; rfl
    have hp : procsOk x = true := by cases h : procsOk x; exact absurd (.inr h) hok; rfl
    obtain ⟨c, P, W, F⟩ := fairly hc hp
    obtain ⟨p1, p8⟩ := procs_yes hp
    have hxl : xs.length = n := H10.out.1.1
    have hmn : m = n := by rw [HM.out, F.len, hxl]
    subst hmn
    have hl1 := crew_len hc
    rw [hxl] at hl1
    have m1 : (1 : Int) ≤ (m : Int) := by omega
    have hm0 : ¬ (m : Int) = 0 := by omega
    have HF : Hid (Fairly xs x c P W ∧ crewOk xs = true ∧ procsOk x = true ∧ xs.length = m) := ⟨F, hc, hp, hxl⟩
    have HWN : Hid (wholeN (adjusted xs x) = c) := F.wholes hc
    have hcm : (c : Int) ≤ (m : Int) := by have := F.le; omega
    obtain ⟨L, hL⟩ : ∃ L, L = adjusted xs x := ⟨_, rfl⟩
    have HLe : Hid (L = adjusted xs x) := hL
    have HLL : Hid (L.length = m) := by show _ = _; rw [hL]; exact HM.out.symm
    rw [← hL] at H10 HWN
    clear hok hc hp F hxl hl1 HM hL
    go_wp2_with fail
    refine (implWhole _ _ _ L _ H10.out.2.1 (by omega)).mono ?_
    rw [HWN.out]
    rintro e w11 ⟨rfl, B11⟩
    have H11 : Hid (Ints w11 (some ⟨g, 0, none⟩) m xs ∧ Shs w11 (some ⟨gl, 0, none⟩) m L ∧ Below w1.heap.size w1 w11) := ⟨H10.out.1.kept B11, H10.out.2.1.kept B11, H10.out.2.2.trans (B11.mono H10.out.2.2.size)⟩
    clear B11 H10
    go_wp2_with fail
    go_loopw [9, 10, 11, 12] (fun s d i _ wr => ∃ (k : Nat) (S D : Int), k ≤ m ∧ i = .int .i64 k ∧ s = .int .i64 S ∧ d = .int .i64 D ∧ 0 ≤ S ∧ S ≤ 600000000 ∧ Hid (S = numsI (L.take k) ∧ D = denI (L.take k)) ∧ Hid (Below w11.heap.size w11 wr)) (fun _ _ i _ _ => m - (intOf i).toNat)
    case atStart => exact ⟨0, 0, 0, Nat.zero_le _, rfl, rfl, rfl, by omega, by omega, ⟨rfl, rfl⟩, Below.refl _ _⟩
    case round =>
      obtain ⟨k, S, D, hk, rfl, rfl, rfl, S0, S1, HS, BR⟩ := hrel
      by_cases hlt : k < m
      · have hlt' : (k : Int) < (m : Int) := by omega
        have HS1 : Hid (numsI (L.take (k + 1)) = numsI (L.take k) + (if (L.getD k (0, 0)).1 < (L.getD k (0, 0)).2 then (L.getD k (0, 0)).1 else 0) ∧ denI (L.take (k + 1)) = if (L.getD k (0, 0)).1 < (L.getD k (0, 0)).2 then (L.getD k (0, 0)).2 else denI (L.take k)) := ⟨numsI_step (by rw [HLL.out]; exact hlt), denI_step (by rw [HLL.out]; exact hlt)⟩
        have HB0 : Hid (0 ≤ numsI (L.take (k + 1)) ∧ numsI (L.take (k + 1)) ≤ 24000000 * 24) := by
          have := HF.out.1.nums_take HF.out.2.1 (k + 1)
          rw [← HLe.out] at this
          exact this
        have bk := HF.out.1.bounds HF.out.2.1 (j := k) (by rw [HF.out.2.2.2]; omega)
        rw [← HLe.out] at bk
        have S24 : S ≤ 600000000 := S1
        have BR2 : Hid (∀ q, Below w11.heap.size w11 (wr.drewN q)) := fun q => below_drewN BR.out q
        obtain ⟨_, h0 | ⟨b2, off2, hb2e, hb2, hc2⟩⟩ := H11.out.2.1
        · omega
        obtain ⟨rfl, rfl⟩ : gl = b2 ∧ off2 = 0 := by cases hb2e; exact ⟨rfl, rfl⟩
        obtain ⟨lk0, lk1⟩ := hc2 k hlt
        rw [Nat.zero_add] at lk0 lk1
        rw [← BR.out.cell (p := ⟨gl, k * 2, none⟩) hb2] at lk0
        rw [← BR.out.cell (p := ⟨gl, k * 2 + 1, none⟩) hb2] at lk1
        obtain ⟨u, hu⟩ : ∃ u, u = (L.getD k (0, 0)).1 := ⟨_, rfl⟩
        obtain ⟨v, hv⟩ : ∃ v, v = (L.getD k (0, 0)).2 := ⟨_, rfl⟩
        rw [← hu] at lk0 bk HS1
        rw [← hv] at lk1 bk HS1
        obtain ⟨bk1, bk2, bk3, bk4⟩ := bk
        clear hc2 hu hv hb2e
        have HSD : Hid (u < v → S + u = numsI (L.take (k + 1)) ∧ v = denI (L.take (k + 1))) := fun huv => ⟨by rw [HS1.out.1, if_pos huv, HS.out.1], by rw [HS1.out.2, if_pos huv]⟩
        have HSE : Hid (¬ u < v → S = numsI (L.take (k + 1)) ∧ D = denI (L.take (k + 1))) := fun huv => ⟨by rw [HS1.out.1, if_neg huv, HS.out.1, Int.add_zero], by rw [HS1.out.2, if_neg huv, HS.out.2]⟩
        clear HS1
        go_wp2_with fail
        go_quiet (fail)
        go_upto_if 82 with fail
        go_cut [9, 10] from 66 to 167 (fun s d wx => ∃ S2 D2 : Int, s = .int .i64 S2 ∧ d = .int .i64 D2 ∧ Hid (S2 = numsI (L.take (k + 1)) ∧ D2 = denI (L.take (k + 1))) ∧ Hid (Below w11.heap.size w11 wx))
        case first =>
          by_cases huv : u < v
          · have hdu : decide (u < v) = true := by simp; omega
            go_wp2_with fail
            go_meet
            exact ⟨S + u, v, by go_num, rfl, HSD.out huv, BR2.out _⟩
          · have hdu : decide (u < v) = false := by simp; omega
            go_wp2_with fail
            go_meet
            exact ⟨S, D, rfl, rfl, HSE.out huv, BR2.out _⟩
        case rest =>
          obtain ⟨S2, D2, rfl, rfl, HS2, BC⟩ := hcut
          have HB1 : Hid (0 ≤ S2 ∧ S2 ≤ 24000000 * 24) := by rw [HS2.out.1]; exact HB0.out
          clear HSD HSE lk0 lk1 HB0 BR2
          go_wp2_with fail
          go_loopw [12] (fun j wq => ∃ k2 : Nat, k2 ≤ k ∧ j = .int .i64 k2 ∧ Hid (Below w11.heap.size w11 wq)) (fun j _ => k - (intOf j).toNat)
          case atStart => exact ⟨0, Nat.zero_le _, rfl, BC⟩
          case round =>
            obtain ⟨k2, hk2, rfl, BQ⟩ := hrel
            by_cases hlt2 : k2 < k
            · have hlt2' : (k2 : Int) < (k : Int) := by omega
              have hk2m : (k2 : Int) < (m : Int) := by omega
              obtain ⟨_, h0 | ⟨b1, off1, hb1e, hb1, hc1⟩⟩ := H11.out.1
              · omega
              obtain ⟨rfl, rfl⟩ : g = b1 ∧ off1 = 0 := by cases hb1e; exact ⟨rfl, rfl⟩
              obtain ⟨_, h0 | ⟨b2, off2, hb2e, hb2, hc2⟩⟩ := H11.out.2.1
              · omega
              obtain ⟨rfl, rfl⟩ : gl = b2 ∧ off2 = 0 := by cases hb2e; exact ⟨rfl, rfl⟩
              have hgr := Nat.lt_of_lt_of_le hb1 BQ.out.size
              have hglr := Nat.lt_of_lt_of_le hb2 BQ.out.size
              have ck := hc1 k hlt
              have cj := hc1 k2 (by omega)
              obtain ⟨lk0, lk1⟩ := hc2 k hlt
              obtain ⟨lj0, lj1⟩ := hc2 k2 (by omega)
              rw [Nat.zero_add] at ck cj lk0 lk1 lj0 lj1
              have bk := HF.out.1.bounds HF.out.2.1 (j := k) (by rw [HF.out.2.2.2]; omega)
              have bj := HF.out.1.bounds HF.out.2.1 (j := k2) (by rw [HF.out.2.2.2]; omega)
              have mo := HF.out.1.mono HF.out.2.1 (i := k) (k := k2) (by rw [HF.out.2.2.2]; omega) (by rw [HF.out.2.2.2]; omega)
              have eqs : xs.getD k 0 = xs.getD k2 0 → L.getD k (0, 0) = L.getD k2 (0, 0) := by
                intro h
                rw [HLe.out, HF.out.1.get (by rw [HF.out.2.2.2]; omega), HF.out.1.get (by rw [HF.out.2.2.2]; omega), h]
              rw [← HLe.out] at bk bj mo
              obtain ⟨y, hy⟩ : ∃ y, y = xs.getD k 0 := ⟨_, rfl⟩
              obtain ⟨z, hz⟩ : ∃ z, z = xs.getD k2 0 := ⟨_, rfl⟩
              obtain ⟨p0, hp0⟩ : ∃ p0, p0 = (L.getD k (0, 0)).1 := ⟨_, rfl⟩
              obtain ⟨q0, hq0⟩ : ∃ q0, q0 = (L.getD k (0, 0)).2 := ⟨_, rfl⟩
              obtain ⟨p2, hp2⟩ : ∃ p2, p2 = (L.getD k2 (0, 0)).1 := ⟨_, rfl⟩
              obtain ⟨q2, hq2⟩ : ∃ q2, q2 = (L.getD k2 (0, 0)).2 := ⟨_, rfl⟩
              have eqp : y = z → p0 = p2 ∧ q0 = q2 := by
                intro h
                rw [hy, hz] at h
                rw [hp0, hq0, hp2, hq2, eqs h]
                exact ⟨rfl, rfl⟩
              rw [← hy] at ck mo
              rw [← hz] at cj mo
              rw [← hp0] at lk0 mo bk
              rw [← hq0] at lk1 mo bk
              rw [← hp2] at lj0 mo bj
              rw [← hq2] at lj1 mo bj
              have C1 := fun zz : Kin wr => zz.cell (p := ⟨g, k, none⟩) hgr ((BQ.out.cell (p := ⟨g, k, none⟩) hb1).trans ck)
              have C2 := fun zz : Kin wr => zz.cell (p := ⟨g, k2, none⟩) hgr ((BQ.out.cell (p := ⟨g, k2, none⟩) hb1).trans cj)
              have C3 := fun zz : Kin wr => zz.cell (p := ⟨gl, k * 2, none⟩) hglr ((BQ.out.cell (p := ⟨gl, k * 2, none⟩) hb2).trans lk0)
              have C4 := fun zz : Kin wr => zz.cell (p := ⟨gl, k * 2 + 1, none⟩) hglr ((BQ.out.cell (p := ⟨gl, k * 2 + 1, none⟩) hb2).trans lk1)
              have C5 := fun zz : Kin wr => zz.cell (p := ⟨gl, k2 * 2, none⟩) hglr ((BQ.out.cell (p := ⟨gl, k2 * 2, none⟩) hb2).trans lj0)
              have C6 := fun zz : Kin wr => zz.cell (p := ⟨gl, k2 * 2 + 1, none⟩) hglr ((BQ.out.cell (p := ⟨gl, k2 * 2 + 1, none⟩) hb2).trans lj1)
              obtain ⟨bk1, bk2, bk3, bk4⟩ := bk
              have hpq : 0 ≤ p0 * q0 ∧ p0 * q0 ≤ 24000000 * 24000000 := ⟨Int.mul_nonneg (by omega) (by omega), Int.mul_le_mul bk2 bk4 (by omega) (by omega)⟩
              obtain ⟨pq0, pq1⟩ := hpq
              have FL : Hid (z ≤ y → ∀ u : Kin wr, Calls Try.prog 18 #[.int .i64 p0, .int .i64 q0, .int .i64 p2, .int .i64 q2] u.u fun e w' => e = .returned (.bool false) ∧ Below u.u.heap.size u.u w') := by
                intro h u
                have := implLess p0 q0 p2 q2 u.u
                rw [less_not (mo h)] at this
                exact this
              clear hc1 hc2 ck cj lk0 lk1 lj0 lj1 mo eqs hy hz hp0 hq0 hp2 hq2 hb1e hb2e bj
              go_upto_region 22 with fail
              go_cut [167] from 95 to 167 (fun b wx => b = .bool false ∧ Hid (Below w11.heap.size w11 wx))
              case first =>
                dsimp only [List.append]
                rcases Int.lt_trichotomy y z with hyz | hyz | hyz
                · have d2 : (y == z) = false := by simp; omega
                  have d5 : decide (z < y) = false := by simp; omega
                  have d6 : decide (y = z) = false := by simp; omega
                  clear eqp FL
                  refine wp_region_kin (by kernel_rfl) (by kernel_rfl) (fun hne => ?_)
                  repeat (go_big_quiet_step (fail))
                  refine wpQuiet_nil ?_
                  rintro _ ⟨zz, rfl⟩
                  have BZ : Hid (Below w11.heap.size w11 zz.u) := BQ.out.trans (zz.b.mono BQ.out.size)
                  clear C1 C2 C3 C4 C5 C6
                  go_wp2_with fail
                  go_meet
                  exact ⟨rfl, BZ⟩
                · obtain ⟨ep, eq⟩ := eqp hyz
                  subst hyz
                  subst ep
                  subst eq
                  have d1 : ¬ y < y := by omega
                  have d3 : (p0 * q0 != p0 * q0) = false := by simp
                  clear eqp FL
                  refine wp_region_kin (by kernel_rfl) (by kernel_rfl) (fun hne => ?_)
                  repeat (go_big_quiet_step (fail))
                  refine wpQuiet_nil ?_
                  rintro _ ⟨zz, rfl⟩
                  have BZ : Hid (Below w11.heap.size w11 zz.u) := BQ.out.trans (zz.b.mono BQ.out.size)
                  clear C1 C2 C3 C4 C5 C6
                  go_wp2_with fail
                  go_meet
                  exact ⟨rfl, BZ⟩
                · have d2 : (y == z) = false := by simp; omega
                  have d5 : decide (z < y) = true := by simp; omega
                  have d6 : decide (y = z) = false := by simp; omega
                  have hzy : z ≤ y := by omega
                  clear eqp
                  refine wp_region_kin (by kernel_rfl) (by kernel_rfl) (fun hne => ?_)
                  repeat (go_big_quiet_step ((go_at_call 18; exact kin_calls (FL.out hzy _))))
                  refine wpQuiet_nil ?_
                  rintro _ ⟨zz, rfl⟩
                  have BZ : Hid (Below w11.heap.size w11 zz.u) := BQ.out.trans (zz.b.mono BQ.out.size)
                  clear C1 C2 C3 C4 C5 C6
                  go_wp2_with fail
                  go_meet
                  exact ⟨rfl, BZ⟩
              case rest =>
                obtain ⟨rfl, BZ⟩ := hcut
                clear C1 C2 C3 C4 C5 C6 FL eqp
                go_wp2_with fail
                go_roundw
                case rel => exact ⟨k2 + 1, by omega, by go_num, BZ⟩
                case measure => simp [intOf]; omega
            · have hlt2' : ¬ (k2 : Int) < (k : Int) := by omega
              go_wp2_with fail
              go_roundw
              case rel => exact ⟨k + 1, S2, D2, by omega, by go_num, by go_num, by go_num, by have := HB1.out; omega, by have := HB1.out; omega, HS2, BQ⟩
              case measure => simp [intOf]; omega
      · have hlt' : ¬ (k : Int) < (m : Int) := by omega
        have e : k = m := by omega
        subst e
        have HS2 : Hid (S = numsI L ∧ D = denI L) := by have := HS.out; rwa [List.take_of_length_le (by rw [HLL.out]; exact Nat.le_refl _)] at this
        have H12 : Hid (Shs wr (some ⟨gl, 0, none⟩) k L ∧ Below w1.heap.size w1 wr) := ⟨H11.out.2.1.kept BR.out, H11.out.2.2.trans (BR.out.mono H11.out.2.2.size)⟩
        have HFT : Hid (fitsOn L x = true) := by rw [HLe.out]; exact HF.out.1.fits HF.out.2.1 HF.out.2.2.1
        by_cases hle : (k : Int) ≤ x
        · have hcc : (c : Int) = (k : Int) := by have := HF.out.1.all (by rw [HF.out.2.2.2]; exact hle); have := HF.out.2.2.2; omega
          have hck : ((c : Int) == (k : Int)) = true := by simp; omega
          go_wp2_with fail
          refine (implFits _ _ _ L x _ H12.out.1 (by omega)).mono ?_
          rw [HFT.out]
          rintro e w13 ⟨rfl, B13⟩
          have C13 := H12.out.2.trans (B13.mono H12.out.2.size)
          go_wp2_with fail
          go_ret
          exact ⟨rfl, C13⟩
        · obtain ⟨hPl, hP0⟩ := (⟨HF.out.1.left, HF.out.1.nonneg⟩ : P = x - c ∧ 0 ≤ P)
          have hcl : c < xs.length := by have := HF.out.2.2.2; omega
          have hW := (HF.out.1.rest hcl).2
          have hWt := HF.out.1.top.2
          have hD : D = W := by
            rcases HF.out.1.den HF.out.2.1 with ⟨_, h⟩ | ⟨h, _⟩
            · rw [HS2.out.2, HLe.out, h]
            · omega
          have hSS : S = W * (x - c) := by rw [HS2.out.1, HLe.out, HF.out.1.nums HF.out.2.1, hPl]
          have hb2 : 0 ≤ W * (x - c) ∧ W * (x - c) ≤ 24000000 * 8 := by
            refine ⟨Int.mul_nonneg (by omega) (by omega), Int.mul_le_mul hWt (by omega) (by omega) (by omega)⟩
          obtain ⟨b20, b21⟩ := hb2
          subst hD
          have hd0 : (D == 0) = false := by simp; omega
          have hse : (S == D * (x - (c : Int))) = true := by simp [hSS]
          have HSS : Hid (S = D * (x - c)) := hSS
          clear hcl hSS
          go_wp2_with fail
          refine (implFits _ _ _ L x _ H12.out.1 (by omega)).mono ?_
          rw [HFT.out]
          rintro e w13 ⟨rfl, B13⟩
          have C13 := H12.out.2.trans (B13.mono H12.out.2.size)
          go_wp2_with fail
          go_ret
          exact ⟨rfl, C13⟩

/-- FnAdjusted at every code. -/
theorem lawFnAdjusted (a : Option Addr) (len cap : Nat) (w : World) (B : Bytes w a len) :
    Calls Try.prog 3 #[.slice a len cap] w fun e w' => e = .returned (.bool true) ∧ Below w.heap.size w w' := by
  by_cases hb : (4096 : Int) < (len : Int)
  · exact adj_long a len cap w hb
  · exact adj_short a len cap w B hb

end Go.Proofs.Ytidmpcnjhpnlcaa.Crew
