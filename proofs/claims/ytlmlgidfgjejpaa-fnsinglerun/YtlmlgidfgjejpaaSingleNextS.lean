/-
  Who is due first of those that are ready: spec.l10Next, spec.SingleNext.
-/
import Derived.Test.YtlmlgidfgjejpaaSingleMath
import Derived.Test.YtlmlgidfgjejpaaLineBase
namespace Go.Proofs.Ytlmlgidfgjejpaa.Crew
open Go.ChangeShapes Go.WideShapes Go.ChangeAt Go.RowKit

/-- What one of a crew comes to: its share and its next turn are right, when it is ready and due. -/
theorem one_turn {cs ns : List Int} (h : Timed cs ns) {k : Nat} (hk : k < cs.length) (hn : ns.getD k 0 < 1000000) :
    Win.turnOk (cs.getD k 0) (sumI cs) (ns.getD k 0 + 1) = true ∧ Win.readyV (cs.getD k 0) (sumI cs) (ns.getD k 0 + 1) = rdyN cs ns k ∧ Win.dueV (cs.getD k 0) (sumI cs) (ns.getD k 0 + 1) = dueN cs ns k ∧ mayN cs ns k = decide (rdyN cs ns k ≤ sumI ns) := by
  have hs := (crew_share h.crew hk).1
  have h0 := h.nat k
  have ht : Win.turnOk (cs.getD k 0) (sumI cs) (ns.getD k 0 + 1) = true := by
    rw [Win.turnOk, hs, Bool.true_and]
    generalize ns.getD k 0 = n at *
    simp [within]
    omega
  refine ⟨ht, ?_, ?_, ?_⟩
  · rw [Win.readyV_yes ht, rdyN, show ns.getD k 0 + 1 - 1 = ns.getD k 0 by omega]
  · rw [Win.dueV_yes ht, dueN]
  · rw [mayN, decide_eq_true hn, Bool.true_and]

theorem one_over {cs ns : List Int} {k : Nat} (hn : ¬ ns.getD k 0 < 1000000) : mayN cs ns k = false := by rw [mayN, decide_eq_false hn, Bool.false_and]

theorem timed_sums {cs ns : List Int} (h : Timed cs ns) : 1 ≤ sumI cs ∧ sumI cs ≤ 24000000 ∧ 0 ≤ sumI ns ∧ sumI ns ≤ 24000000 := by
  have h24 := crew_len h.crew
  have h1 := crew_share h.crew (i := 0) (by omega)
  have h2 := sum_nonneg (xs := ns) (fun n hn => (cnts_mem h.cnts hn).1)
  have h3 := sum_most (xs := ns) (fun n hn => (cnts_mem h.cnts hn).2)
  have h4 := h.len
  omega

set_option maxHeartbeats 2000000 in
/-- spec.l10Next. -/
theorem next10_any (a : Option Addr) (len cap : Nat) (cs : List Int) (a' : Option Addr) (len' cap' : Nat) (ns : List Int) (T : Timed cs ns) (w : World) (I : Ints w a len cs) (J : Ints w a' len' ns) :
    Calls Try.prog 41 #[.slice a len cap, .slice a' len' cap'] w fun e w' => e = .returned (.int .i64 (sgOf cs ns)) ∧ Below w.heap.size w w' := by
  have h24 := crew_len T.crew
  have hl := I.1
  have hl' := J.1
  have hll := T.len
  have l24 : (len : Int) ≤ 24 := by omega
  have l24' : (len' : Int) ≤ 24 := by omega
  have S1 := crew_small T.crew
  have S2 := cnts_small T.cnts
  have bS := timed_sums T
  obtain ⟨X, hX⟩ : ∃ X, X = sumI cs := ⟨_, rfl⟩
  obtain ⟨t, ht⟩ : ∃ t, t = sumI ns := ⟨_, rfl⟩
  rw [← hX, ← ht] at bS
  have H0 : Hid (Ints w a len cs ∧ Ints w a' len' ns ∧ cs.length = len ∧ len' = len ∧ X = sumI cs ∧ t = sumI ns ∧ Timed cs ns) := ⟨I, J, hl, by omega, hX, ht, T⟩
  clear I J hl hl' hll h24 hX ht T
  go_enter Try.func41, Try.ntmps41
  go_wp2_with fail
  refine (sum_any a len cap cs _ H0.out.1 (by omega) S1).mono ?_
  rw [← H0.out.2.2.2.2.1]
  rintro e w0 ⟨rfl, rfl⟩
  go_wp2_with fail
  refine (sum_any a' len' cap' ns _ H0.out.2.1 (by omega) S2).mono ?_
  rw [← H0.out.2.2.2.2.2.1]
  rintro e w ⟨rfl, rfl⟩
  clear S1 S2
  go_wp2_with fail
  go_loopw [7, 8, 9] (fun b d i wr => ∃ (k : Nat) (q u : Int), b = .int .i64 q ∧ d = .int .i64 u ∧ i = .int .i64 k ∧ k ≤ len ∧ Hid (q = sgTo cs ns k ∧ u = sgDue cs ns k ∧ Below w.heap.size w wr)) (fun _ _ i _ => len - (intOf i).toNat)
  case atStart => exact ⟨0, -1, 0, rfl, rfl, rfl, Nat.zero_le _, rfl, rfl, Below.refl _ _⟩
  case round =>
    obtain ⟨k, q, u, rfl, rfl, rfl, hk, H⟩ := hrel
    by_cases hlt : k < len
    · have hlt' : (k : Int) < (len : Int) := by omega
      have hlt2 : (k : Int) < (len' : Int) := by have := H0.out.2.2.2.1; omega
      obtain ⟨b1, o1, rfl, hb1, ck⟩ := (H0.out.1.kept H.out.2.2).cell (k := k) hlt
      obtain ⟨b2, o2, rfl, hb2, nk⟩ := (H0.out.2.1.kept H.out.2.2).cell (k := k) (by omega)
      have bn := H0.out.2.2.2.2.2.2.nat k
      have bn2 := H0.out.2.2.2.2.2.2.top k
      have hkc : k < cs.length := by have := H0.out.2.2.1; omega
      have bc := crew_share H0.out.2.2.2.2.2.2.crew hkc
      rw [← H0.out.2.2.2.2.1] at bc
      have HO := fun hn => one_turn H0.out.2.2.2.2.2.2 hkc hn
      rw [← H0.out.2.2.2.2.1, ← H0.out.2.2.2.2.2.1] at HO
      have HV := one_over (cs := cs) (ns := ns) (k := k)
      generalize ns.getD k 0 = n at *
      generalize cs.getD k 0 = c at *
      have bc1 := bc.2.1
      have bc2 := bc.2.2.1
      clear bc hkc
      by_cases hn : n < 1000000
      · obtain ⟨hT, hR, hD, hM⟩ := HO hn
        generalize rdyN cs ns k = R at *
        obtain ⟨D, hDD⟩ : ∃ D, D = dueN cs ns k := ⟨_, rfl⟩
        rw [← hDD] at hD
        have HD : Hid (Win.turnOk c X (n + 1) = true ∧ Win.readyV c X (n + 1) = R ∧ Win.dueV c X (n + 1) = D ∧ D = dueN cs ns k ∧ mayN cs ns k = decide (R ≤ t)) := ⟨hT, hR, hD, hDD, hM⟩
        clear hT hR hD hM hDD HO HV
        have hnn : ¬ 1000000 ≤ n := by omega
        have hnd : decide (1000000 ≤ n) = false := by simp; omega
        have HB : Hid (Win.Box (wr.alloc (.cells #[.int .i64 c, .int .i64 X] 67)) wr.heap.size c X) := Win.box_new wr c X _
        go_wp2_with fail
        refine (Win.specReadyIn c X (n + 1) HD.out.1 _).mono ?_
        rw [HD.out.2.1]
        rintro e w2 ⟨rfl, B2⟩
        have H2 : Hid (Win.Box w2 wr.heap.size c X ∧ Below w.heap.size w w2) := ⟨HB.out.kept B2 HB.out.1, below_call (below_call H.out.2.2 H.out.2.2.size (below_new _ _)) (by have := H.out.2.2.size; simp; omega) B2⟩
        have HQ : Hid (q = sgTo cs ns k ∧ u = sgDue cs ns k) := ⟨H.out.1, H.out.2.1⟩
        clear B2 HB H ck nk
        generalize wr.heap.size = g at *
        by_cases hr : R ≤ t
        · have hr' : ¬ t < R := by omega
          have hrd : decide (t < R) = false := by simp; omega
          have HM : Hid (mayN cs ns k = true) := by show _ = _; rw [HD.out.2.2.2.2, decide_eq_true hr]
          obtain ⟨x0, x1, x2⟩ := H2.out.1
          by_cases hq : q < 0
          · have hqd : decide (q < 0) = true := by simp; omega
            have HS : Hid (sgTo cs ns (k + 1) = (k : Int)) := sgTo_first HM.out (by rw [← HQ.out.1]; exact hq)
            go_wp2_with fail
            refine (Win.specDueIn c X (n + 1) HD.out.1 _).mono ?_
            rw [HD.out.2.2.1]
            rintro e w3 ⟨rfl, B3⟩
            go_wp2_with fail
            go_roundw
            case rel => exact ⟨k + 1, k, D, rfl, rfl, by go_num, by omega, HS.out.symm, by rw [sgDue_take HS.out, HD.out.2.2.2.1], below_call H2.out.2 H2.out.2.size B3⟩
            case measure => simp [intOf]; omega
          · have hqd : decide (q < 0) = false := by simp; omega
            by_cases hu : D < u
            · have hud : decide (D < u) = true := by simp; omega
              have HS : Hid (sgTo cs ns (k + 1) = (k : Int)) := sgTo_less HM.out (by rw [← HQ.out.1]; exact hq) (by rw [← HQ.out.2, ← HD.out.2.2.2.1]; exact hu)
              go_wp2_with fail
              refine (Win.specDueIn c X (n + 1) HD.out.1 _).mono ?_
              rw [HD.out.2.2.1]
              rintro e w3 ⟨rfl, B3⟩
              have H3 : Hid (Win.Box w3 g c X ∧ Below w.heap.size w w3) := ⟨H2.out.1.kept B3 H2.out.1.1, below_call H2.out.2 H2.out.2.size B3⟩
              clear B3 x0 x1 x2
              obtain ⟨x0, x1, x2⟩ := H3.out.1
              go_wp2_with fail
              refine (Win.specDueIn c X (n + 1) HD.out.1 _).mono ?_
              rw [HD.out.2.2.1]
              rintro e w4 ⟨rfl, B4⟩
              go_wp2_with fail
              go_roundw
              case rel => exact ⟨k + 1, k, D, rfl, rfl, by go_num, by omega, HS.out.symm, by rw [sgDue_take HS.out, HD.out.2.2.2.1], below_call H3.out.2 H3.out.2.size B4⟩
              case measure => simp [intOf]; omega
            · have hud : decide (D < u) = false := by simp; omega
              have HS : Hid (sgTo cs ns (k + 1) = sgTo cs ns k) := sgTo_stay (by rw [← HQ.out.1]; exact hq) (by rw [← HQ.out.2, ← HD.out.2.2.2.1]; exact hu)
              go_wp2_with fail
              refine (Win.specDueIn c X (n + 1) HD.out.1 _).mono ?_
              rw [HD.out.2.2.1]
              rintro e w3 ⟨rfl, B3⟩
              go_wp2_with fail
              go_roundw
              case rel => exact ⟨k + 1, q, u, rfl, rfl, by go_num, by omega, by rw [HS.out]; exact HQ.out.1, by rw [sgDue_keep HS.out]; exact HQ.out.2, below_call H2.out.2 H2.out.2.size B3⟩
              case measure => simp [intOf]; omega
        · have hr' : t < R := by omega
          have hrd : decide (t < R) = true := by simp; omega
          have HS : Hid (sgTo cs ns (k + 1) = sgTo cs ns k) := sgTo_not (by rw [HD.out.2.2.2.2, decide_eq_false hr])
          go_wp2_with fail
          go_roundw
          case rel => exact ⟨k + 1, q, u, rfl, rfl, by go_num, by omega, by rw [HS.out]; exact HQ.out.1, by rw [sgDue_keep HS.out]; exact HQ.out.2, H2.out.2⟩
          case measure => simp [intOf]; omega
      · have hnn : 1000000 ≤ n := by omega
        have hnd : decide (1000000 ≤ n) = true := by simp; omega
        have HS : Hid (sgTo cs ns (k + 1) = sgTo cs ns k) := sgTo_not (HV hn)
        clear HO HV
        go_wp2_with fail
        go_roundw
        case rel => exact ⟨k + 1, q, u, rfl, rfl, by go_num, by omega, by rw [HS.out]; exact H.out.1, by rw [sgDue_keep HS.out]; exact H.out.2.1, below_call H.out.2.2 H.out.2.2.size (below_new _ _)⟩
        case measure => simp [intOf]; omega
    · have hlt' : ¬ (k : Int) < (len : Int) := by omega
      have e : k = len := by omega
      have e2 : q = sgOf cs ns := by rw [H.out.1, sgOf, H0.out.2.2.1, e]
      have E2 : Hid (q = sgOf cs ns) := e2
      clear e e2
      go_wp2_with fail
      go_ret
      exact ⟨by rw [E2.out]; rfl, H.out.2.2⟩

/-- What SingleNext answers. -/
def singleNext (cs ns : List Int) : Int := if countsOk cs ns then sgOf cs ns else -1

theorem singleNext_yes {cs ns : List Int} (h : countsOk cs ns = true) : singleNext cs ns = sgOf cs ns := by rw [singleNext, if_pos h]

theorem singleNext_no {cs ns : List Int} (h : countsOk cs ns = false) : singleNext cs ns = -1 := by rw [singleNext, if_neg (by simp [h])]

/-- spec.SingleNext at every two slices. -/
theorem specSingleNext (a : Option Addr) (len cap : Nat) (cs : List Int) (a' : Option Addr) (len' cap' : Nat) (ns : List Int) (w : World) (I : Ints w a len cs) (J : Ints w a' len' ns) (hs : (len : Int) ≤ 1048576) :
    Calls Try.prog 18 #[.slice a len cap, .slice a' len' cap'] w fun e w' => e = .returned (.int .i64 (singleNext cs ns)) ∧ Below w.heap.size w w' := by
  have HI : Hid (Ints w a len cs ∧ Ints w a' len' ns) := ⟨I, J⟩
  clear I J
  cases hc : countsOk cs ns
  · rw [singleNext_no hc]
    have HC : Hid (countsOk cs ns = false) := hc
    clear hc
    go_enter Try.func18, Try.ntmps18
    go_wp2_with fail
    refine (specCounts a len cap cs a' len' cap' ns _ HI.out.1 HI.out.2 hs).mono ?_
    rw [HC.out]
    rintro e w1 ⟨rfl, rfl⟩
    go_wp2_with fail
    go_ret
    exact ⟨rfl, Below.refl _ _⟩
  · rw [singleNext_yes hc]
    have C := timed_start hc
    have HC : Hid (countsOk cs ns = true) := hc
    clear hc
    go_enter Try.func18, Try.ntmps18
    go_wp2_with fail
    refine (specCounts a len cap cs a' len' cap' ns _ HI.out.1 HI.out.2 hs).mono ?_
    rw [HC.out]
    rintro e w1 ⟨rfl, rfl⟩
    go_wp2_with fail
    refine (next10_any a len cap cs a' len' cap' ns C _ HI.out.1 HI.out.2).mono ?_
    rintro e w2 ⟨rfl, B2⟩
    go_wp2_with fail
    go_ret
    exact ⟨rfl, B2⟩

end Go.Proofs.Ytlmlgidfgjejpaa.Crew
