/-
  The law FnSingle: whatever the bytes, it answers true and nothing that was there is written.
-/
import Derived.Test.YtlmlgidfgjejpaaSingleRunI
import Derived.Test.YtlmlgidfgjejpaaLagWorst
import Derived.Test.YtlmlgidfgjejpaaHands
namespace Go.Proofs.Ytlmlgidfgjejpaa.Crew
open Go.ChangeShapes Go.WideShapes Go.ChangeAt Go.RowKit
open Go.Proofs.Ytlmlgidfgjejpaa.Draw

theorem least_above {f : Nat → Int} {b : Int} {k : Nat} (h : ∀ i, i ≤ k → b < f i) : b < leastTo f k := by
  induction k with
  | zero => exact h 0 (Nat.le_refl _)
  | succ k ih =>
    have h1 := ih (fun i hi => h i (by omega))
    have h2 := h (k + 1) (Nat.le_refl _)
    simp only [leastTo]
    omega

theorem most_under {f : Nat → Int} {b : Int} {k : Nat} (h : ∀ i, i ≤ k → f i < b) : mostTo f k < b := by
  induction k with
  | zero => exact h 0 (Nat.le_refl _)
  | succ k ih =>
    have h1 := ih (fun i hi => h i (by omega))
    have h2 := h (k + 1) (Nat.le_refl _)
    simp only [mostTo]
    omega

/-- Nobody is a whole turn ahead or behind, in the words of WorstLag. -/
theorem flow_worst {cs ns : List Int} (F : Flow cs ns) (hk : countsOk cs ns = true) : -(sumI cs) < leastOf cs ns ∧ mostOf cs ns < sumI cs := by
  have h24 := crew_len F.timed.crew
  rw [leastOf, mostOf, if_pos hk, if_pos hk]
  exact ⟨least_above (fun i hi => (flow_lag F (by omega)).1), most_under (fun i hi => (flow_lag F (by omega)).2)⟩

theorem flow_ok {cs : List Int} (hc : crewOk cs = true) {k : Nat} (hk : (k : Int) ≤ 1000000) : countsOk cs (sgAt cs (zerosOf cs) k) = true := by
  obtain ⟨F, _, S⟩ := flow_at hc k hk
  rw [F.timed.ok, S, decide_eq_true hk]

set_option maxHeartbeats 2000000 in
theorem lawFnSingle (a : Option Addr) (len cap : Nat) (w : World) (B : Bytes w a len) :
    Calls Try.prog 3 #[.slice a len cap] w fun e w' => e = .returned (.bool true) ∧ Below w.heap.size w w' := by
  have HB : Hid (Bytes w a len) := B
  clear B
  by_cases hbig : (4096 : Int) < (len : Int)
  · go_enter Try.func3, Try.ntmps3
    go_wp2_with fail
    refine (big_any a len cap _).mono ?_
    rw [decide_eq_true hbig]
    rintro e w1 ⟨rfl, rfl⟩
    go_wp2_with fail
    go_ret
    exact ⟨rfl, Below.refl _ _⟩
  · have ht : len ≤ 9223372036854775806 := by omega
    have HBG : Hid (decide ((4096 : Int) < (len : Int)) = false) := decide_eq_false hbig
    clear hbig
    go_enter Try.func3, Try.ntmps3
    go_wp2_with fail
    refine (big_any a len cap _).mono ?_
    rw [HBG.out]
    rintro e w1 ⟨rfl, rfl⟩
    go_wp2_with fail
    refine (roll_any a len cap 10 _ HB.out ht).mono ?_
    rintro e w2 ⟨rfl, h, L2⟩
    have C2 := L2.cur (cur_new HB.out ht h)
    have B2 := new_below L2
    have p2 := C2.lt
    have H2 : Hid (Cur .u64 43 w1.heap.size a len cap w2 ∧ Below w1.heap.size w1 w2) := ⟨C2, B2⟩
    clear L2 C2 B2
    go_wp2_with fail
    refine (hands_any _ _ a len cap _ H2.out.1).mono ?_
    rintro e w3 ⟨g, cp, xs, rfl, O3, n1, n7, wt⟩
    obtain ⟨hcr, h420⟩ := hands_crew wt n1 n7
    have hT := total_pos hcr
    obtain ⟨N, hN⟩ : ∃ N : Nat, sumI xs = (N : Int) := ⟨(sumI xs).toNat, by omega⟩
    obtain ⟨n, hn⟩ : ∃ n, n = xs.length := ⟨_, rfl⟩
    rw [← hn]
    have gb := O3.base
    have hgp : w1.heap.size ≤ g := by omega
    have HX : Hid (crewOk xs = true ∧ xs.length = n ∧ totalOf xs = (N : Int) ∧ sumI xs = (N : Int)) := ⟨hcr, hn.symm, by rw [totalOf, if_pos hcr, hN], hN⟩
    have H3 : Hid (Below w1.heap.size w1 w3 ∧ Row w3 g cp xs ∧ Ints w3 (some ⟨g, 0, none⟩) n xs) := ⟨H2.out.2.trans (left_below O3.left (Nat.le_refl _) p2), O3.row, by rw [hn]; exact O3.row.ints⟩
    have hN1 : (1 : Int) ≤ (N : Int) := by omega
    have hN2 : (N : Int) ≤ 420 := by omega
    have hn7 : (n : Int) ≤ 7 := by omega
    clear O3 H2 hcr h420 hT hN hn wt n1 n7 gb
    have hmk := made_ints n (by omega)
    go_wp2_with fail
    refine (specTotal _ n cp xs _ H3.out.2.2 (by omega)).mono ?_
    rw [HX.out.2.2.1]
    rintro e w4 ⟨rfl, rfl⟩
    have H4 : Hid (Sr w1 g cp w4.heap.size n xs (sgAt xs (zerosOf xs) 0) (w4.alloc (.cells (zeros n) 2))) := by
      refine ⟨below_call H3.out.1 H3.out.1.size (below_new _ _), H3.out.2.1.alloc _, ?_, hgp, H3.out.1.size, Nat.ne_of_lt H3.out.2.1.lt⟩
      show Row _ _ _ (zerosOf xs)
      rw [zerosOf, HX.out.2.1]
      exact row_zeros _ n (by omega)
    clear H3
    go_wp2_with fail
    generalize w4.alloc (.cells (zeros n) 2) = W4 at *
    generalize w4.heap.size = gz at *
    go_loopw [7] (fun v wr => ∃ k : Nat, v = .int .i64 k ∧ k ≤ 100 ∧ Hid (Sr w1 g cp gz n xs (sgAt xs (zerosOf xs) k) wr)) (fun v _ => 100 - (intOf v).toNat)
    case atStart => exact ⟨0, rfl, Nat.zero_le _, H4⟩
    case round =>
      obtain ⟨k, rfl, hk, H⟩ := hrel
      by_cases hlt : k < 100
      · have hlt' : (k : Int) < 100 := by omega
        have hok := flow_ok HX.out.1 (k := k) (by omega)
        obtain ⟨F, _, S⟩ := flow_at HX.out.1 k (by omega)
        have h0 := flow_can F.timed (by omega)
        have hin := sgOf_in xs (sgAt xs (zerosOf xs) k)
        have hlc : (sgAt xs (zerosOf xs) k).length = n := by rw [F.timed.len, HX.out.2.1]
        have bv := F.timed.nat
        have bt := F.timed.top
        obtain ⟨q, hq⟩ : ∃ q, q = sgOf xs (sgAt xs (zerosOf xs) k) := ⟨_, rfl⟩
        rw [← hq] at h0 hin
        obtain ⟨t, rfl⟩ := Int.eq_ofNat_of_zero_le h0
        obtain ⟨v, hv⟩ : ∃ v, v = (sgAt xs (zerosOf xs) k).getD t 0 := ⟨_, rfl⟩
        have bv1 := bv t
        have bt1 := bt t
        rw [← hv] at bv1 bt1
        have htn : (t : Int) < (n : Int) := by have := HX.out.2.1; omega
        have HV : Hid (singleNext xs (sgAt xs (zerosOf xs) k) = (t : Int) ∧ (t : Int) = sgOf xs (sgAt xs (zerosOf xs) k) ∧ v = (sgAt xs (zerosOf xs) k).getD t 0 ∧ (sgAt xs (zerosOf xs) k).length = n) := ⟨by rw [singleNext_yes hok, hq], hq, hv, hlc⟩
        have HW : Hid (-(N : Int) < leastOf xs (sgAt xs (zerosOf xs) (k + 1)) ∧ mostOf xs (sgAt xs (zerosOf xs) (k + 1)) < (N : Int)) := by
          have := flow_worst (flow_at HX.out.1 (k + 1) (by omega)).1 (flow_ok HX.out.1 (by omega))
          rw [HX.out.2.2.2] at this
          exact this
        clear hok F S h0 hin hlc bv bt hq hv
        go_wp2_with fail
        refine (implSingleNext _ n cp xs _ n n (sgAt xs (zerosOf xs) k) _ (by have := H.out.cnt.ints; rwa [HX.out.2.1] at this) (by have := H.out.out.ints; rwa [HV.out.2.2.2] at this)).mono ?_
        rw [HV.out.1]
        rintro e w5 ⟨rfl, B5⟩
        have H5 : Hid (Sr w1 g cp gz n xs (sgAt xs (zerosOf xs) k) w5) := H.out.all B5
        clear B5 H
        have c1 : w5.cell? ⟨gz, t, none⟩ = some (.int .i64 v) := by rw [HV.out.2.2.1]; exact H5.out.out.cell (by rw [HV.out.2.2.2]; omega)
        have f1 := H5.out.out.frozen t
        have H6 : Hid (Sr w1 g cp gz n xs (sgAt xs (zerosOf xs) (k + 1)) (w5.setCell ⟨gz, t, none⟩ (.int .i64 (v + 1)))) := by
          have := H5.out.put t (v + 1)
          rw [sgAt_succ, sgTurn, ← HV.out.2.1, if_neg (by omega), Int.toNat_natCast, ← HV.out.2.2.1]
          exact this
        have HL : Hid ((sgAt xs (zerosOf xs) (k + 1)).length = n) := by show _ = _; rw [sgAt_length, zerosOf, List.length_replicate, HX.out.2.1]
        go_wp2_with fail
        generalize w5.setCell ⟨gz, t, none⟩ (.int .i64 (v + 1)) = w6 at *
        refine (specWorst _ n cp xs _ n n (sgAt xs (zerosOf xs) (k + 1)) _ (by have := H6.out.cnt.ints; rwa [HX.out.2.1] at this) (by have := H6.out.out.ints; rwa [HL.out] at this) (by omega)).mono ?_
        rintro e w7 ⟨rfl, B7⟩
        have H7 : Hid (Sr w1 g cp gz n xs (sgAt xs (zerosOf xs) (k + 1)) w7) := H6.out.all B7
        clear B7 H6 H5 c1 f1
        have hW := HW.out
        generalize leastOf xs (sgAt xs (zerosOf xs) (k + 1)) = x at *
        generalize mostOf xs (sgAt xs (zerosOf xs) (k + 1)) = y at *
        have x1 : ¬ x ≤ -(N : Int) := by omega
        have x2 : decide (x ≤ -(N : Int)) = false := by simp; omega
        have y1 : ¬ (N : Int) ≤ y := by omega
        have y2 : decide ((N : Int) ≤ y) = false := by simp; omega
        go_wp2_with fail
        go_roundw
        case rel => exact ⟨k + 1, by go_num, by omega, H7⟩
        case measure => simp [intOf]; omega
      · have hlt' : ¬ (k : Int) < 100 := by omega
        go_wp2_with fail
        go_ret
        exact ⟨rfl, H.out.bel⟩

end Go.Proofs.Ytlmlgidfgjejpaa.Crew
