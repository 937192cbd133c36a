/-
  Who is due first of those that are ready: impl.firstDue, impl.SingleNext.
-/
import Derived.Test.YtlmlgidfgjejpaaSingleTab
namespace Go.Proofs.Ytlmlgidfgjejpaa.Crew
open Go.ChangeShapes Go.WideShapes Go.ChangeAt Go.RowKit

/-- What one of a crew comes to, in the words of a window's methods. -/
theorem one_window {cs ns : List Int} (h : Timed cs ns) {k : Nat} (hk : k < cs.length) (hn : ns.getD k 0 < 1000000) :
    Win.turnOk (cs.getD k 0) (sumI cs) (ns.getD k 0 + 1) = true ∧ (ns.getD k 0 + 1 - 1) * sumI cs / cs.getD k 0 = rdyN cs ns k ∧ ((ns.getD k 0 + 1) * sumI cs + cs.getD k 0 - 1) / cs.getD k 0 = dueN cs ns k ∧ mayN cs ns k = decide (rdyN cs ns k ≤ sumI ns) := by
  obtain ⟨h1, h2, h3, h4⟩ := one_turn h hk hn
  exact ⟨h1, by rw [← h2, Win.readyV_yes h1], by rw [← h3, Win.dueV_yes h1], h4⟩

theorem one_none {cs ns : List Int} (h : Timed cs ns) {k : Nat} (hn : ¬ ns.getD k 0 < 1000000) : Win.turnOk (cs.getD k 0) (sumI cs) (ns.getD k 0 + 1) = false ∧ mayN cs ns k = false := by
  refine ⟨?_, one_over hn⟩
  have := h.top k
  generalize ns.getD k 0 = n at *
  rw [Win.turnOk, show within (n + 1) 1 1000000 = false by simp [within]; omega, Bool.and_false]

set_option maxHeartbeats 4000000 in
/-- impl.firstDue over a table of a crew's windows. -/
theorem firstDue_any (w0 : World) (T len : Nat) (cs : List Int) (a' : Option Addr) (len' cap' : Nat) (ns : List Int) (TM : Timed cs ns) (w : World) (hl : cs.length = len) (TB : Tab w0 w T len cs len) (J : Ints w a' len' ns) :
    Calls Try.prog 27 #[.slice (some ⟨T, 0, none⟩) len len, .slice a' len' cap'] w fun e w' => e = .returned (.int .i64 (sgOf cs ns)) ∧ Below w.heap.size w w' := by
  have h24 := crew_len TM.crew
  have hl' := J.1
  have hll := TM.len
  have l24 : (len : Int) ≤ 24 := by omega
  have l24' : (len' : Int) ≤ 24 := by omega
  have S2 := cnts_small TM.cnts
  have bS := timed_sums TM
  obtain ⟨X, hX⟩ : ∃ X, X = sumI cs := ⟨_, rfl⟩
  obtain ⟨t, ht⟩ : ∃ t, t = sumI ns := ⟨_, rfl⟩
  rw [← hX, ← ht] at bS
  have H0 : Hid (Tab w0 w T len cs len ∧ Ints w a' len' ns ∧ cs.length = len ∧ len' = len ∧ X = sumI cs ∧ t = sumI ns ∧ Timed cs ns) := ⟨TB, J, hl, by omega, hX, ht, TM⟩
  clear TB J hl hl' hll h24 hX ht TM
  go_enter Try.func27, Try.ntmps27
  go_wp2_with fail
  refine (sumOf_any a' len' cap' ns _ H0.out.2.1 (by omega) S2).mono ?_
  rw [← H0.out.2.2.2.2.2.1]
  rintro e wq ⟨rfl, rfl⟩
  clear S2
  go_wp2_with fail
  go_loopw [6, 7, 17] (fun b d i wr => ∃ (k : Nat) (q u : Int), b = .int .i64 q ∧ d = .int .i64 u ∧ i = .int .i64 k ∧ k ≤ len ∧ Hid (q = sgTo cs ns k ∧ u = sgDue cs ns k ∧ Below wq.heap.size wq wr)) (fun _ _ i _ => len - (intOf i).toNat)
  case atStart => exact ⟨0, -1, 0, rfl, rfl, rfl, Nat.zero_le _, rfl, rfl, Below.refl _ _⟩
  case round =>
    obtain ⟨k, q, u, rfl, rfl, rfl, hk, H⟩ := hrel
    by_cases hlt : k < len
    · have hlt' : (k : Int) < (len : Int) := by omega
      have hlt2 : (k : Int) < (len' : Int) := by have := H0.out.2.2.2.1; omega
      obtain ⟨b1, cT, BX⟩ := (H0.out.1.all H.out.2.2).cell (i := k) hlt
      obtain ⟨b2, o2, rfl, hb2, nk⟩ := (H0.out.2.1.kept H.out.2.2).cell (k := k) (by omega)
      have bn := H0.out.2.2.2.2.2.2.nat k
      have bn2 := H0.out.2.2.2.2.2.2.top k
      have hkc : k < cs.length := by have := H0.out.2.2.1; omega
      have bc := crew_share H0.out.2.2.2.2.2.2.crew hkc
      rw [← H0.out.2.2.2.2.1] at bc
      have HO := fun hn => one_window H0.out.2.2.2.2.2.2 hkc hn
      have HV := fun hn => one_none H0.out.2.2.2.2.2.2 (k := k) hn
      rw [← H0.out.2.2.2.2.1] at BX
      rw [← H0.out.2.2.2.2.1, ← H0.out.2.2.2.2.2.1] at HO
      rw [← H0.out.2.2.2.2.1] at HV
      generalize ns.getD k 0 = n at *
      generalize cs.getD k 0 = c at *
      have bc1 := bc.2.1
      have bc2 := bc.2.2.1
      have HQ : Hid (q = sgTo cs ns k ∧ u = sgDue cs ns k ∧ Below wq.heap.size wq wr ∧ Win.Box wr b1 c X) := ⟨H.out.1, H.out.2.1, H.out.2.2, BX⟩
      clear bc hkc H BX
      by_cases hn : n < 1000000
      · obtain ⟨hT, hR, hD, hM⟩ := HO hn
        generalize rdyN cs ns k = R at *
        obtain ⟨D, hDD⟩ : ∃ D, D = dueN cs ns k := ⟨_, rfl⟩
        rw [← hDD] at hD
        have HD : Hid (Win.turnOk c X (n + 1) = true ∧ (n + 1 - 1) * X / c = R ∧ ((n + 1) * X + c - 1) / c = D ∧ D = dueN cs ns k ∧ mayN cs ns k = decide (R ≤ t)) := ⟨hT, hR, hD, hDD, hM⟩
        clear hT hR hD hM hDD HO HV
        go_wp2_with fail
        refine (tell_yes c X (n + 1) HD.out.1 b1 _ HQ.out.2.2.2).mono ?_
        rintro e w2 ⟨g, rfl, BG, B2⟩
        have H2 : Hid (Wbk (w2.alloc (.cells #[.pointer (some ⟨g, 0, none⟩), .int .i64 (n + 1)] 63)) w2.heap.size (.pointer (some ⟨g, 0, none⟩)) (.int .i64 (n + 1)) ∧ Win.Box (w2.alloc (.cells #[.pointer (some ⟨g, 0, none⟩), .int .i64 (n + 1)] 63)) g c X ∧ Below wq.heap.size wq (w2.alloc (.cells #[.pointer (some ⟨g, 0, none⟩), .int .i64 (n + 1)] 63))) := by
          have k2 := below_call HQ.out.2.2.1 HQ.out.2.2.1.size B2
          exact ⟨wbk_new _ _ _, BG.alloc _, below_call k2 k2.size (below_new _ _)⟩
        have HS0 : Hid (q = sgTo cs ns k ∧ u = sgDue cs ns k) := ⟨HQ.out.1, HQ.out.2.1⟩
        clear BG B2 HQ cT nk
        go_wp2_with fail
        refine (Win.ready_at c X (n + 1) g bc1 bc2 (by omega) (by omega) (by omega) _ H2.out.2.1).mono ?_
        rw [HD.out.2.1]
        rintro e w3 ⟨rfl, B3⟩
        have H3 : Hid (Wbk w3 w2.heap.size (.pointer (some ⟨g, 0, none⟩)) (.int .i64 (n + 1)) ∧ Win.Box w3 g c X ∧ Below wq.heap.size wq w3) := ⟨H2.out.1.all B3, H2.out.2.1.kept B3 H2.out.2.1.1, below_call H2.out.2.2 H2.out.2.2.size B3⟩
        clear B3 H2
        generalize w2.heap.size = s2 at *
        by_cases hr : R ≤ t
        · have hr' : ¬ t < R := by omega
          have hrd : decide (t < R) = false := by simp; omega
          have HM : Hid (mayN cs ns k = true) := by show _ = _; rw [HD.out.2.2.2.2, decide_eq_true hr]
          have y0 := H3.out.1.c0
          have y1 := H3.out.1.c1
          go_wp2_with fail
          refine (Win.due_at c X (n + 1) g bc1 bc2 (by omega) (by omega) (by omega) _ H3.out.2.1).mono ?_
          rw [HD.out.2.2.1]
          rintro e w4 ⟨rfl, B4⟩
          have H4 : Hid (Below wq.heap.size wq w4) := below_call H3.out.2.2 H3.out.2.2.size B4
          clear B4 H3 y0 y1
          by_cases hq : q < 0
          · have hqd : decide (q < 0) = true := by simp; omega
            have HS : Hid (sgTo cs ns (k + 1) = (k : Int)) := sgTo_first HM.out (by rw [← HS0.out.1]; exact hq)
            go_wp2_with fail
            go_roundw
            case rel => exact ⟨k + 1, k, D, rfl, rfl, by go_num, by omega, HS.out.symm, by rw [sgDue_take HS.out, HD.out.2.2.2.1], H4.out⟩
            case measure => simp [intOf]; omega
          · have hqd : decide (q < 0) = false := by simp; omega
            by_cases hu : D < u
            · have hud : decide (D < u) = true := by simp; omega
              have HS : Hid (sgTo cs ns (k + 1) = (k : Int)) := sgTo_less HM.out (by rw [← HS0.out.1]; exact hq) (by rw [← HS0.out.2, ← HD.out.2.2.2.1]; exact hu)
              go_wp2_with fail
              go_roundw
              case rel => exact ⟨k + 1, k, D, rfl, rfl, by go_num, by omega, HS.out.symm, by rw [sgDue_take HS.out, HD.out.2.2.2.1], H4.out⟩
              case measure => simp [intOf]; omega
            · have hud : decide (D < u) = false := by simp; omega
              have HS : Hid (sgTo cs ns (k + 1) = sgTo cs ns k) := sgTo_stay (by rw [← HS0.out.1]; exact hq) (by rw [← HS0.out.2, ← HD.out.2.2.2.1]; exact hu)
              go_wp2_with fail
              go_roundw
              case rel => exact ⟨k + 1, q, u, rfl, rfl, by go_num, by omega, by rw [HS.out]; exact HS0.out.1, by rw [sgDue_keep HS.out]; exact HS0.out.2, H4.out⟩
              case measure => simp [intOf]; omega
        · have hr' : t < R := by omega
          have hrd : decide (t < R) = true := by simp; omega
          have HS : Hid (sgTo cs ns (k + 1) = sgTo cs ns k) := sgTo_not (by rw [HD.out.2.2.2.2, decide_eq_false hr])
          go_wp2_with fail
          go_roundw
          case rel => exact ⟨k + 1, q, u, rfl, rfl, by go_num, by omega, by rw [HS.out]; exact HS0.out.1, by rw [sgDue_keep HS.out]; exact HS0.out.2, H3.out.2.2⟩
          case measure => simp [intOf]; omega
      · obtain ⟨hT, hM⟩ := HV hn
        have HS : Hid (sgTo cs ns (k + 1) = sgTo cs ns k ∧ Win.turnOk c X (n + 1) = false) := ⟨sgTo_not hM, hT⟩
        clear hT hM HO HV
        go_wp2_with fail
        refine (tell_no c X (n + 1) HS.out.2 b1 _ HQ.out.2.2.2).mono ?_
        rintro e w2 ⟨rfl, B2⟩
        have H2 : Hid (Below wq.heap.size wq (w2.alloc (.cells #[.pointer none, .int .i64 0] 63))) := by
          have k2 := below_call HQ.out.2.2.1 HQ.out.2.2.1.size B2
          exact below_call k2 k2.size (below_new _ _)
        clear B2 cT nk
        go_wp2_with fail
        go_roundw
        case rel => exact ⟨k + 1, q, u, rfl, rfl, by go_num, by omega, by rw [HS.out.1]; exact HQ.out.1, by rw [sgDue_keep HS.out.1]; exact HQ.out.2.1, H2.out⟩
        case measure => simp [intOf]; omega
    · have hlt' : ¬ (k : Int) < (len : Int) := by omega
      have e : k = len := by omega
      have e2 : q = sgOf cs ns := by rw [H.out.1, sgOf, H0.out.2.2.1, e]
      have E2 : Hid (q = sgOf cs ns) := e2
      clear e e2
      go_wp2_with fail
      go_ret
      exact ⟨by rw [E2.out]; rfl, H.out.2.2⟩

/-- impl.SingleNext at every two slices. -/
theorem implSingleNext (a : Option Addr) (len cap : Nat) (cs : List Int) (a' : Option Addr) (len' cap' : Nat) (ns : List Int) (w : World) (I : Ints w a len cs) (J : Ints w a' len' ns) :
    Calls Try.prog 11 #[.slice a len cap, .slice a' len' cap'] w fun e w' => e = .returned (.int .i64 (singleNext cs ns)) ∧ Below w.heap.size w w' := by
  have HI : Hid (Ints w a len cs ∧ Ints w a' len' ns) := ⟨I, J⟩
  clear I J
  cases hc : countsOk cs ns
  · rw [singleNext_no hc]
    have HC : Hid (countsOk cs ns = false) := hc
    clear hc
    go_enter Try.func11, Try.ntmps11
    go_wp2_with fail
    refine (implCounts a len cap cs a' len' cap' ns _ HI.out.1 HI.out.2).mono ?_
    rw [HC.out]
    rintro e w1 ⟨rfl, rfl⟩
    go_wp2_with fail
    go_ret
    exact ⟨rfl, Below.refl _ _⟩
  · rw [singleNext_yes hc]
    have HC : Hid (countsOk cs ns = true ∧ Timed cs ns) := ⟨hc, timed_start hc⟩
    clear hc
    go_enter Try.func11, Try.ntmps11
    go_wp2_with fail
    refine (implCounts a len cap cs a' len' cap' ns _ HI.out.1 HI.out.2).mono ?_
    rw [HC.out.1]
    rintro e w1 ⟨rfl, rfl⟩
    go_wp2_with fail
    refine (windowsOf_any a len cap cs _ HI.out.1 HC.out.2.crew).mono ?_
    rintro e w2 ⟨T, rfl, TB⟩
    have H2 : Hid (Tab w1 w2 T len cs len) := TB
    clear TB
    go_wp2_with fail
    refine (firstDue_any w1 T len cs a' len' cap' ns HC.out.2 _ HI.out.1.1 H2.out (HI.out.2.kept H2.out.bel)).mono ?_
    rintro e w3 ⟨rfl, B3⟩
    have H3 : Hid (Below w1.heap.size w1 w3) := below_call H2.out.bel H2.out.bel.size B3
    clear B3
    go_wp2_with fail
    go_ret
    exact ⟨rfl, H3.out⟩

end Go.Proofs.Ytlmlgidfgjejpaa.Crew
