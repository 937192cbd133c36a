/-
  The next one, by spec, where it can be: spec.SmoothNext.
-/
import Derived.Test.YtkfepehldjkedaaSmoothNextS
import Derived.Deep.RegionWith
import Derived.Deep.DrawnRows
import Derived.Deep.CutRange
namespace Go.Proofs.Ytkfepehldjkedaa.Crew
open Go.ChangeShapes Go.WideShapes Go.ChangeAt Go.RowKit
attribute [local go_sem ↓] Go.wp_at_zero Go.wp_at_succ

set_option maxHeartbeats 2000000 in
theorem specNext_on (a : Option Addr) (len cap : Nat) (cs : List Int) (a' : Option Addr) (len' cap' : Nat) (rs : List Int) (w : World) (I : Ints w a len cs) (J : Ints w a' len' rs) (hk : smoothOk cs rs = true) :
    Calls Try.prog 23 #[sm (.slice a len cap) (.slice a' len' cap')] w fun e w' => ∃ b lb cb d ld cd, e = .returned (.tuple #[sm (.slice b lb cb) (.slice d ld cd), .int .i64 (nextK cs rs)]) ∧ Fit w' w.heap.size b lb cb (nextC cs rs) ∧ Fit w' w.heap.size d ld cd (nextR cs rs) ∧ Apart b d ∧ Below w.heap.size w w' := by
  obtain ⟨k1, k2, k3, k4⟩ := smooth_parts hk
  have hl := I.1
  have hl' := J.1
  have hll : len' = len := by omega
  subst hll
  have h24 : (len' : Int) ≤ 24 := by have := crew_len k1; omega
  have h1n : (1 : Int) ≤ (len' : Int) := by have := crew_len k1; omega
  have HI : Hid (Ints w a len' cs ∧ Ints w a' len' rs ∧ smoothOk cs rs = true) := ⟨I, J, hk⟩
  have HK : Hid (crewOk cs = true ∧ rs.length = cs.length ∧ richs rs = true ∧ cs.length = len' ∧ rs.length = len') := ⟨k1, k2, k3, hl, hl'⟩
  obtain ⟨p, hp⟩ : ∃ p, p = paidL cs rs := ⟨_, rfl⟩
  have HP : Hid (p = paidL cs rs ∧ p.length = len' ∧ p.length = rs.length) := ⟨hp, by rw [hp, paid_length k2]; exact hl', by rw [hp, paid_length k2]⟩
  clear I J hk k1 k2 k3 k4 hl hl' hp
  have C := below_new w (.cells #[.slice a len' cap, .slice a' len' cap'] 31)
  have hC : Hid (Below w.heap.size w ((w.alloc (.cells #[.slice a len' cap, .slice a' len' cap'] 31)).alloc (.cells #[.slice none 0 0, .slice none 0 0] 31)) ∧ Pair ((w.alloc (.cells #[.slice a len' cap, .slice a' len' cap'] 31)).alloc (.cells #[.slice none 0 0, .slice none 0 0] 31)) (w.heap.size + 1) (.slice none 0 0) (.slice none 0 0) ∧ Two ((w.alloc (.cells #[.slice a len' cap, .slice a' len' cap'] 31)).alloc (.cells #[.slice none 0 0, .slice none 0 0] 31)) w.heap.size (.slice a len' cap) (.slice a' len' cap')) := ⟨C.alloc (by simp) _, by have := pair_new (w.alloc (.cells #[.slice a len' cap, .slice a' len' cap'] 31)) (.slice none 0 0) (.slice none 0 0); simpa using this, (two_new _ _ _ _).alloc _⟩
  clear C
  go_enter Try.func23, Try.ntmps23
  go_wp2_with fail
  refine (specSmooth a len' cap cs a' len' cap' rs _ (HI.out.1.kept hC.out.1) (HI.out.2.1.kept hC.out.1) (by omega)).mono ?_
  rw [HI.out.2.2]
  rintro e w1 ⟨rfl, B1⟩
  have H1 : Hid (Below w.heap.size w w1 ∧ Pair w1 (w.heap.size + 1) (.slice none 0 0) (.slice none 0 0)) := ⟨below_call hC.out.1 hC.out.1.size B1, hC.out.2.1.all B1⟩
  have t0 := (hC.out.2.2.all B1).2.1
  have t1 := (hC.out.2.2.all B1).2.2
  clear B1 hC
  go_wp2_with fail
  clear t0 t1
  refine (copy6_any a len' cap cs a' len' cap' rs _ (HI.out.1.kept H1.out.1) (HI.out.2.1.kept H1.out.1) (by omega) (by omega)).mono ?_
  rintro e w2 ⟨gC, cC, gR, cR, rfl, RC, RR, hgC, hgR, hne, B2⟩
  have lC := RC.lt
  have lR := RR.lt
  have l1 := H1.out.2.lt
  have L2 : Hid (Lp w w.heap.size w2.heap.size gC cC gR cR len' cs rs (w2.alloc (.cells #[.slice (some ⟨gC, 0, none⟩) len' cC, .slice (some ⟨gR, 0, none⟩) len' cR] 31))) :=
    ⟨pair_new _ _ _, RC.alloc _, RR.alloc _, (H1.out.2.all B2).alloc _, below_call (below_call H1.out.1 H1.out.1.size B2) (by have := H1.out.1.size; have := B2.size; omega) (below_new _ _)⟩
  have hbo1 : gC < w2.heap.size := lC
  have hbo2 : gR < w2.heap.size := lR
  have hs1 : w.heap.size + 1 < gC := by omega
  have hs2 : w.heap.size + 1 < gR := by omega
  clear B2 H1 RC RR lC lR l1 hgC hgR
  go_wp2_with fail
  generalize w2.alloc (.cells #[.slice (some ⟨gC, 0, none⟩) len' cC, .slice (some ⟨gR, 0, none⟩) len' cR] 31) = W2 at *
  generalize w2.heap.size = bo at *
  go_loopw [5, 6] (fun b i wr => ∃ k : Nat, k ≤ len' ∧ i = .int .i64 k ∧ b = .int .i64 (bestTo p k : Nat) ∧ Hid (Lp w w.heap.size bo gC cC gR cR len' cs (p.take k ++ rs.drop k) wr)) (fun _ i _ => len' - (intOf i).toNat)
  case atStart => exact ⟨0, Nat.zero_le _, rfl, rfl, by simpa using L2⟩
  case round =>
    obtain ⟨k, hk, rfl, rfl, L⟩ := hrel
    have o0 := L.out.out.c0
    have o1 := L.out.out.c1
    by_cases hlt : k < len'
    · obtain ⟨x, hx⟩ : ∃ x, x = rs.getD k 0 := ⟨_, rfl⟩
      obtain ⟨c, hc⟩ : ∃ c, c = cs.getD k 0 := ⟨_, rfl⟩
      have d0 := L.out.crew.cell (j := k) (by have := HK.out; omega)
      rw [← hc] at d0
      have d1 := L.out.rich.cell (j := k) (by rw [part_length HP.out.2.2 (by have := HK.out; omega)]; have := HK.out; omega)
      rw [part_hi HP.out.2.2 (by have := HK.out; omega), ← hx] at d1
      have f1 := L.out.rich.frozen k
      have bx := richs_get HK.out.2.2.1 k
      rw [← hx] at bx
      have bc := crew_get HK.out.1 k
      rw [← hc] at bc
      have hlt' : (k : Int) < (len' : Int) := by omega
      have hk0 : (0 : Int) ≤ (k : Int) := by omega
      obtain ⟨b, hb⟩ : ∃ b, b = bestTo p k := ⟨_, rfl⟩
      have hbk : b ≤ k := by rw [hb]; exact best_le p k
      rw [← hb]
      have HB : Hid (b = bestTo p k ∧ x = rs.getD k 0 ∧ c = cs.getD k 0) := ⟨hb, hx, hc⟩
      clear hb hx hc
      go_wp2_with fail
      go_region
      have L3 : Hid (Lp w w.heap.size bo gC cC gR cR len' cs (p.take (k + 1) ++ rs.drop (k + 1)) (wr.setCell ⟨gR, k, none⟩ (.int .i64 (x + c))).drew) := by
        have h := L.out.set k (x + c) (by omega) hne (by omega)
        have e : x + c = (paidL cs rs).getD k 0 := by rw [paid_get HK.out.2.1 (by have := HK.out; omega), HB.out.2.1, HB.out.2.2]
        have e2 : (p.take k ++ rs.drop k).set k (x + c) = p.take (k + 1) ++ rs.drop (k + 1) := by
          rw [HP.out.1, e]
          exact paid_step HK.out.2.1 (by have := HK.out; omega)
        rw [e2] at h
        exact h.drew
      clear d0 d1 f1 o0 o1 L
      generalize (wr.setCell ⟨gR, k, none⟩ (.int .i64 (x + c))).drew = w3 at *
      obtain ⟨y, hy⟩ : ∃ y, y = p.getD k 0 := ⟨_, rfl⟩
      obtain ⟨m, hm⟩ : ∃ m, m = p.getD b 0 := ⟨_, rfl⟩
      have o0 := L3.out.out.c0
      have o1 := L3.out.out.c1
      have d0 := L3.out.rich.cell (j := k) (by rw [part_length HP.out.2.2 (by have := HK.out; omega)]; have := HK.out; omega)
      rw [part_lo HP.out.2.2 (by omega) (by have := HK.out; omega), ← hy] at d0
      have d1 := L3.out.rich.cell (j := b) (by rw [part_length HP.out.2.2 (by have := HK.out; omega)]; have := HK.out; omega)
      rw [part_lo HP.out.2.2 (by omega) (by have := HK.out; omega), ← hm] at d1
      have hb0 : (0 : Int) ≤ (b : Int) := by omega
      have hb1 : (b : Int) < (len' : Int) := by omega
      have HY : Hid (y = p.getD k 0 ∧ m = p.getD b 0) := ⟨hy, hm⟩
      clear hy hm
      by_cases hmy : m < y
      · have HB1 : Hid (bestTo p (k + 1) = k) := by
          show _ = _
          rw [bestTo, ← HB.out.1, ← HY.out.1, ← HY.out.2, if_pos hmy]
        go_wp2_with fail
        go_quiet (fail)
        go_wp2_with fail
        go_roundw
        case rel => exact ⟨k + 1, by omega, by go_num, by rw [HB1.out], L3.out.drewN _⟩
        case measure => simp [intOf]; omega
      · have hd : decide (m < y) = false := by simpa using hmy
        have HB1 : Hid (bestTo p (k + 1) = b) := by
          show _ = _
          rw [bestTo, ← HB.out.1, ← HY.out.1, ← HY.out.2, if_neg hmy]
        go_wp2_with fail
        go_quiet (fail)
        go_wp2_with fail
        go_roundw
        case rel => exact ⟨k + 1, by omega, by go_num, by rw [HB1.out], L3.out.drewN _⟩
        case measure => simp [intOf]; omega
    · have hkl : k = len' := by omega
      subst hkl
      have hlt' : ¬ (k : Int) < (k : Int) := by omega
      have L4 : Hid (Lp w w.heap.size bo gC cC gR cR k cs p wr) := by
        have h := L.out
        have e := part_all HP.out.2.2
        rw [HK.out.2.2.2.2] at e
        rw [e] at h
        exact h
      clear L hlt
      obtain ⟨b, hb⟩ : ∃ b, b = bestTo p k := ⟨_, rfl⟩
      have hbk : b < k := by rw [hb]; exact best_lt p (by omega)
      rw [← hb]
      obtain ⟨m, hm⟩ : ∃ m, m = p.getD b 0 := ⟨_, rfl⟩
      obtain ⟨t, ht⟩ : ∃ t, t = sumI cs := ⟨_, rfl⟩
      have d1 := L4.out.rich.cell (j := b) (by have := HP.out; omega)
      rw [← hm] at d1
      have f1 := L4.out.rich.frozen b
      have hb0 : (0 : Int) ≤ (b : Int) := by omega
      have hb1 : (b : Int) < (k : Int) := by omega
      have bt := crew_sum HK.out.1
      rw [← ht] at bt
      have bm : -100000000 ≤ m ∧ m ≤ 101000000 := by
        rw [hm, HP.out.1, paid_get HK.out.2.1 (by have := HK.out; omega)]
        have h1 := richs_get HK.out.2.2.1 b
        have h2 := crew_get HK.out.1 b
        omega
      have HS : Hid (∀ x : World, Lp w w.heap.size bo gC cC gR cR k cs p x → Calls Try.prog 38 #[.slice (some ⟨gC, 0, none⟩) k cC] x fun e w' => e = .returned (.int .i64 t) ∧ w' = x) := by
        intro x hx
        rw [ht]
        have h := hx.crew.ints
        rw [HK.out.2.2.2.1] at h
        exact sum_any _ _ _ cs x h (by omega) (crew_small HK.out.1)
      have HM : Hid (b = best cs rs ∧ m = p.getD b 0 ∧ t = sumI cs) := ⟨by rw [hb, best, HP.out.1, HK.out.2.2.2.2], hm, ht⟩
      clear hb hm ht
      have HW : Hid (IntKind.i64.wrap (m - t) = m - t) := by
        show _ = _
        rw [IntKind.wrap_i64]
        omega
      go_upto_region 11 with fail
      go_cut [5] from 47 to 59 (fun s wx => s = .int .i64 b ∧ Hid (Lp w w.heap.size bo gC cC gR cR k cs (p.set b (m - t)) wx))
      case first =>
        go_region_with (go_at_call 38; refine (HS.out _ (by first | (exact L4.out) | (exact L4.out.drew))).mono ?_; rintro e w5 ⟨rfl, rfl⟩)
        all_goals
          go_wp2_with fail
          go_meet
          exact ⟨rfl, by rw [HW.out]; exact (L4.out.set b (m - t) (by omega) hne (by omega)).drew⟩
      case rest =>
        obtain ⟨rfl, L5⟩ := hcut
        have E : Hid (p.set b (m - t) = stepR cs rs) := by
          show _ = _
          rw [stepR, HM.out.2.1, HM.out.2.2, HM.out.1, HP.out.1]
        have Q5 : Hid (Ints wc (some ⟨gC, 0, none⟩) k cs ∧ Ints wc (some ⟨gR, 0, none⟩) k (stepR cs rs) ∧ Lp w w.heap.size bo gC cC gR cR k cs (stepR cs rs) wc) := by
          have h := L5.out
          rw [E.out] at h
          have h1 := h.crew.ints
          have h2 := h.rich.ints
          rw [HK.out.2.2.2.1] at h1
          rw [step_length HK.out.2.1, HK.out.2.2.2.2] at h2
          exact ⟨h1, h2, h⟩
        clear o0 o1 d1 f1 L4 L5 HS hb0 hb1 bt bm L2
        have o0 := Q5.out.2.2.out.c0
        have o1 := Q5.out.2.2.out.c1
        cases hn : smoothOk cs (stepR cs rs)
        · have HN : Hid (smoothOk cs (stepR cs rs) = false) := hn
          have NN : Hid (nextOk cs rs = false) := (next_at HI.out.2.2).trans hn
          clear hn
          go_wp2_with fail
          refine (specSmooth _ k cC cs _ k cR (stepR cs rs) _ Q5.out.1 Q5.out.2.1 (by omega)).mono ?_
          rw [HN.out]
          rintro e w6 ⟨rfl, B6⟩
          have L6 : Hid (Lp w w.heap.size bo gC cC gR cR k cs (stepR cs rs) w6) := Q5.out.2.2.all B6
          clear B6 o0 o1
          have p0 := L6.out.res.c0
          have p1 := L6.out.res.c1
          have f0 := L6.out.res.fr 0
          have f1 := L6.out.res.fr 1
          go_wp2_with fail
          refine bodyPost_ret (ret_pair2 rfl rfl rfl ((L6.out.res.set0 _).set1 _)) rfl ?_
          rw [(next_no NN.out).1, (next_no NN.out).2.1, (next_no NN.out).2.2]
          exact ⟨_, _, _, _, _, _, rfl, fit_nil _ _, fit_nil _ _, apart_none _, below_set (below_set L6.out.bel (by omega) _) (by omega) _⟩
        · have HN : Hid (smoothOk cs (stepR cs rs) = true) := hn
          have NN : Hid (nextOk cs rs = true) := (next_at HI.out.2.2).trans hn
          clear hn
          go_wp2_with fail
          refine (specSmooth _ k cC cs _ k cR (stepR cs rs) _ Q5.out.1 Q5.out.2.1 (by omega)).mono ?_
          rw [HN.out]
          rintro e w6 ⟨rfl, B6⟩
          have L6 : Hid (Lp w w.heap.size bo gC cC gR cR k cs (stepR cs rs) w6) := Q5.out.2.2.all B6
          clear B6 o0 o1
          have o0 := L6.out.out.c0
          have o1 := L6.out.out.c1
          have p0 := L6.out.res.c0
          have p1 := L6.out.res.c1
          have f0 := L6.out.res.fr 0
          have f1 := L6.out.res.fr 1
          go_wp2_with fail
          refine bodyPost_ret (ret_pair2 rfl rfl rfl ((L6.out.res.set0 _).set1 _)) rfl ?_
          rw [(next_yes NN.out).1, (next_yes NN.out).2.1, (next_yes NN.out).2.2, ← HM.out.1]
          refine ⟨_, _, _, _, _, _, rfl, ?_, ?_, ?_, ?_⟩
          · exact ((L6.out.crew.past (by omega) _).past (by omega) _).fit (by omega) HK.out.2.2.2.1
          · exact ((L6.out.rich.past (by omega) _).past (by omega) _).fit (by omega) (by rw [step_length HK.out.2.1, HK.out.2.2.2.2])
          · exact fun x y hx hy => by cases hx; cases hy; exact hne
          · exact below_set (below_set L6.out.bel (by omega) _) (by omega) _

/-- spec.SmoothNext at every two slices. -/
theorem specNext (a : Option Addr) (len cap : Nat) (cs : List Int) (a' : Option Addr) (len' cap' : Nat) (rs : List Int) (w : World) (I : Ints w a len cs) (J : Ints w a' len' rs) (hs : (len : Int) ≤ 1048576) :
    Calls Try.prog 23 #[sm (.slice a len cap) (.slice a' len' cap')] w fun e w' => ∃ b lb cb d ld cd, e = .returned (.tuple #[sm (.slice b lb cb) (.slice d ld cd), .int .i64 (nextK cs rs)]) ∧ Fit w' w.heap.size b lb cb (nextC cs rs) ∧ Fit w' w.heap.size d ld cd (nextR cs rs) ∧ Apart b d ∧ Below w.heap.size w w' := by
  cases hk : smoothOk cs rs
  · have hn := next_off hk
    rw [(next_no hn).1, (next_no hn).2.1, (next_no hn).2.2]
    refine (specNext_off a len cap cs a' len' cap' rs w I J hs hk).mono ?_
    rintro e w' ⟨rfl, B⟩
    exact ⟨_, _, _, _, _, _, rfl, fit_nil _ _, fit_nil _ _, apart_none _, B⟩
  · exact specNext_on a len cap cs a' len' cap' rs w I J hk

end Go.Proofs.Ytkfepehldjkedaa.Crew
