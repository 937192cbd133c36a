/-
  impl.wholeOnes and impl.Adjusted.
-/
import Derived.Test.YtcmeimfjedakeaaGreatAdjFair
import Derived.Test.YtcmeimfjedakeaaGreatFitsOn
import Derived.WalkMore
import Derived.BigRegion
namespace Go.Proofs.YtcmeimfjedakeaaGreat.Crew
open Go.ChangeShapes Go.WideShapes Go.ChangeAt Go.RowKit

/-- impl.wholeOnes over a right crew and its order. -/
theorem wholeOnes_any (a : Option Addr) (len cap : Nat) (ws : List Int) (g cp : Nat) (n : Int) (w : World) (I : Ints w a len ws) (hc : crewOk ws = true) (J : Ints w (some ⟨g, 0, none⟩) len (byW ws len)) (n1 : 1 ≤ n) (n8 : n ≤ 8) :
    Calls Tryz.prog 233 #[.slice a len cap, .slice (some ⟨g, 0, none⟩) len cp, .int .i64 n] w fun e w' =>
      e = .returned (.tuple #[.int .i64 ((downs ws (byW ws len) n (sumI ws)).1 : Nat), .int .i64 (downs ws (byW ws len) n (sumI ws)).2.1, .int .i64 (downs ws (byW ws len) n (sumI ws)).2.2]) ∧ w' = w := by
  have hl := I.1
  have h24 := crew_len hc
  have hsz : (len : Int) ≤ 24 := by omega
  have HI : Hid (Ints w a len ws) := I
  have HJ : Hid (Ints w (some ⟨g, 0, none⟩) len (byW ws len)) := J
  have HC : Hid (crewOk ws = true) := hc
  obtain ⟨X, hX⟩ : ∃ X, X = sumI ws := ⟨_, rfl⟩
  have hb := sumI_bound ws (crew_small hc)
  have X0 : -24000000000 ≤ X := by omega
  have X1 : X ≤ 24000000000 := by omega
  have HX : Hid (X = sumI ws ∧ totalOf ws = X) := ⟨hX, by rw [totalOf, if_pos hc, hX]⟩
  rw [← hX]
  clear I J hc hX hb hl h24
  go_enter Tryz.func233, Tryz.ntmps233
  go_wp2_with fail
  go_step3
  go_wp2_with fail
  refine (implTotal a len cap ws _ HI.out).mono ?_
  rw [HX.out.2]
  rintro e wq ⟨rfl, rfl⟩
  go_wp2_with fail
  go_step3
  go_wp2_with fail
  go_loop [2, 9, 10, 18] (fun p c q i => ∃ (k : Nat) (P W : Int), k ≤ len ∧ i = .int .i64 k ∧ c = .int .i64 k ∧ p = .int .i64 P ∧ q = .int .i64 W ∧ n - (k : Int) ≤ P ∧ P ≤ n ∧ X - 1000000 * (k : Int) ≤ W ∧ W ≤ X ∧ Hid (DInv ws (byW ws len) n X k P W)) (fun _ _ _ i => len - (intOf i).toNat)
  case atStart => exact ⟨0, n, X, Nat.zero_le _, rfl, rfl, rfl, rfl, by omega, by omega, by omega, by omega, dinv_start _ _ _ _⟩
  case round =>
    obtain ⟨k, P, W, hk, rfl, rfl, rfl, rfl, p0, p1, q0, q1, D⟩ := hrel
    by_cases hlt : k < len
    · obtain ⟨_, h0 | ⟨b1, off1, rfl, hb1, hc1⟩⟩ := HI.out
      · omega
      obtain ⟨_, h0 | ⟨b2, off2, hbe, hb2, hc2⟩⟩ := HJ.out
      · omega
      obtain ⟨rfl, rfl⟩ : g = b2 ∧ off2 = 0 := by cases hbe; exact ⟨rfl, rfl⟩
      obtain ⟨j, hj, hje⟩ := byW_get ws len k hlt
      have c2 := hc2 k hlt
      rw [hje, Nat.zero_add] at c2
      have c1 := hc1 j hj
      obtain ⟨x, hx⟩ : ∃ x, x = ws.getD j 0 := ⟨_, rfl⟩
      rw [← hx] at c1
      have HW : Hid (wt ws (j : Int) = x) := by show _ = _; rw [wt, Int.toNat_natCast, hx]
      have hxb := wt_bd HC.out (j : Int)
      rw [HW.out] at hxb
      obtain ⟨x0, x1⟩ := hxb
      obtain ⟨m0, m1⟩ := mul_near x0 x1 (q := P) (by omega) (by omega)
      have hlt' : (k : Int) < (len : Int) := by omega
      have hj' : (j : Int) < (len : Int) := by omega
      have HE : Hid ((byW ws len).getD k 0 = (j : Int)) := hje
      clear hc1 hc2 hx hje hbe
      by_cases hcd : W ≤ x * P
      · have D2 : Hid (DInv ws (byW ws len) n X (k + 1) (P - 1) (W - x)) := by
          have := dinv_next D.out (by rw [byW_length]; exact hlt) HE.out (by rw [HW.out]; exact hcd)
          rw [HW.out] at this
          exact this
        have hdd : decide (W ≤ x * P) = true := by simp; omega
        go_wp2_with fail
        go_round
        case rel => exact ⟨k + 1, P - 1, W - x, by omega, by go_num, by go_num, by go_num, by go_num, by omega, by omega, by omega, by omega, D2⟩
        case measure => simp [intOf]; omega
      · have D2 : Hid (downs ws (byW ws len) n X = (k, P, W)) := dinv_stop D.out (by rw [byW_length]; exact hlt) HE.out (by rw [HW.out]; exact hcd)
        have hdd : decide (W ≤ x * P) = false := by simp; omega
        go_wp2_with fail
        try rw [Exit.noGoto_ret]
        go_ret3
        exact ⟨by rw [D2.out]; rfl, rfl⟩
    · have hlt' : ¬ (k : Int) < (len : Int) := by omega
      have D2 : Hid (downs ws (byW ws len) n X = (k, P, W)) := dinv_end D.out (by rw [byW_length]; omega)
      go_wp2_with fail
      try rw [Exit.noGoto_ret]
      go_ret3
      exact ⟨by rw [D2.out]; rfl, rfl⟩

/-- impl.Adjusted where it is a crew, on a right number of processors. -/
theorem implAdj_yes (a : Option Addr) (len cap : Nat) (ws : List Int) (n : Int) (w : World) (I : Ints w a len ws) (hc : crewOk ws = true) (hp : procsOk n = true) :
    Calls Tryz.prog 227 #[.slice a len cap, .int .i64 n] w fun e w' => ∃ g, e = .returned (.slice (some ⟨g, 0, none⟩) len len) ∧ SRow w' g len (adjusted ws n) ∧ w.heap.size ≤ g ∧ Below w.heap.size w w' := by
  have hl := I.1
  rw [adjusted_yes hc hp, hl]
  obtain ⟨n1, n8⟩ := procs_yes hp
  have h24 := crew_len hc
  have hsz : (len : Int) ≤ 24 := by omega
  obtain ⟨c, P, W, hr⟩ : ∃ (c : Nat) (P W : Int), downs ws (byW ws len) n (sumI ws) = (c, P, W) := ⟨_, _, _, rfl⟩
  have hbd := downs_bd ws (wt_bd hc) (byW ws len) n (sumI ws)
  rw [hr, byW_length] at hbd
  simp only at hbd
  obtain ⟨hcl, p0, p1, q0, q1⟩ := hbd
  have hsb := sumI_bound ws (crew_small hc)
  have W0 : -25000000000 ≤ W := by omega
  have W1 : W ≤ 24000000000 := by omega
  have P0 : -24 ≤ P := by omega
  have P1 : P ≤ 8 := by omega
  have hcl' : (c : Int) ≤ (len : Int) := by omega
  have HC : Hid (crewOk ws = true) := hc
  have HR : Hid (downs ws (byW ws len) n (sumI ws) = (c, P, W)) := hr
  have HL : Hid (ws.length = len) := hl
  rw [hr]
  have HI : Hid (Ints w a len ws) := I
  obtain ⟨i0, hi, hz0, hz1, hz2⟩ := info_parts info_shr
  clear I hc hl hr q0 q1 p0 p1 hsb h24
  go_enter Tryz.func227, Tryz.ntmps227
  go_wp2_with fail
  refine (implCrewOk a len cap ws _ HI.out).mono ?_
  rw [HC.out]
  rintro e wq ⟨rfl, rfl⟩
  go_wp2_with fail
  refine (implProcs n _).mono ?_
  rw [hp]
  rintro e w0 ⟨rfl, rfl⟩
  clear hp
  go_wp2_with fail
  refine (implBy_yes a len cap ws _ HI.out HC.out).mono ?_
  rintro e w1 ⟨g, rfl, R1, hg1, B1⟩
  have J1 := R1.ints
  rw [byW_length] at J1
  go_wp2_with fail
  refine (wholeOnes_any a len cap ws g len n _ (HI.out.kept B1) HC.out J1 n1 n8).mono ?_
  rw [HR.out]
  rintro e w1' ⟨rfl, rfl⟩
  clear J1
  have hg1' := R1.lt
  have H1 : Hid (Row w1' g len (byW ws len) ∧ Below w0.heap.size w0 w1') := ⟨R1, B1⟩
  have hs1 := B1.size
  clear R1 B1
  go_wp2_with (at_make; refine wpList_make_full _ rfl (.tmp 34) (.tmp 34) 32 rfl w1'.heap.size 122 i0 (.agg #[.int .i64 0, .int .i64 0]) 2 Tryz.underlying32 hi hz0 hz1 _ _ _ _ len rfl rfl rfl rfl (by rw [hz2]; omega) (by unfold maxLen; omega) (Nat.le_refl _) ?_)
  intro w2 hown hgrow
  have hown' : w2.ownsRow w1'.heap.size 122 2 (.slice (some ⟨w1'.heap.size, 0, none⟩) len len) len (flat (List.replicate len (0, 0))) := by rw [← made_shares]; exact hown
  have H2 : Hid (SRow w2 w1'.heap.size len (List.replicate len (0, 0)) ∧ Row w2 g len (byW ws len) ∧ Below w0.heap.size w0 w2) := ⟨(srow_of_owns hown').1, H1.out.1.other hgrow (by simp), H1.out.2.grown hgrow hs1 (fun k h => by cases h)⟩
  clear hown hown' hgrow hi hz0 hz1 hz2 H1
  generalize w1'.heap.size = G at *
  have hgG : ¬ g = G := by omega
  go_wp2_with fail
  go_loopw [11, 40] (fun _ i wr => ∃ k : Nat, k ≤ c ∧ i = .int .i64 k ∧ Hid (SRow wr G len (setAll (fun _ => (1, 1)) (((byW ws len).take c).take k) (List.replicate len (0, 0))) ∧ Row wr g len (byW ws len) ∧ Below w0.heap.size w0 wr)) (fun _ i _ => c - (intOf i).toNat)
  case atStart => exact ⟨0, Nat.zero_le _, rfl, by simpa [setAll] using H2⟩
  case round =>
    obtain ⟨k, hk, rfl, R⟩ := hrel
    by_cases hlt : k < c
    · have hlt' : (k : Int) < (c : Int) := by omega
      obtain ⟨j, hj, hje⟩ := byW_get ws len k (by omega)
      have c2 := R.out.2.1.cell (j := k) (by rw [byW_length]; omega)
      rw [hje] at c2
      have hj' : (j : Int) < (len : Int) := by omega
      have f0 := R.out.1.frozen (j * 2)
      have f1 := R.out.1.frozen (j * 2 + 1)
      have q0 := R.out.1.c0 (j := j) (by rw [setAll_length]; simp; omega)
      have q1 := R.out.1.c1 (j := j) (by rw [setAll_length]; simp; omega)
      generalize ((setAll (fun _ => (1, 1)) (((byW ws len).take c).take k) (List.replicate len (0, 0))).getD j (0, 0)).1 = u at q0
      generalize ((setAll (fun _ => (1, 1)) (((byW ws len).take c).take k) (List.replicate len (0, 0))).getD j (0, 0)).2 = v at q1
      have H3 : Hid (SRow ((wr.setCell ⟨G, j * 2, none⟩ (.int .i64 1)).setCell ⟨G, j * 2 + 1, none⟩ (.int .i64 1)) G len (setAll (fun _ => (1, 1)) (((byW ws len).take c).take (k + 1)) (List.replicate len (0, 0))) ∧ Row ((wr.setCell ⟨G, j * 2, none⟩ (.int .i64 1)).setCell ⟨G, j * 2 + 1, none⟩ (.int .i64 1)) g len (byW ws len) ∧ Below w0.heap.size w0 ((wr.setCell ⟨G, j * 2, none⟩ (.int .i64 1)).setCell ⟨G, j * 2 + 1, none⟩ (.int .i64 1))) := by
        refine ⟨?_, R.out.2.1.other (grown_two _ _ _ _ _ _) (by simpa using hgG), R.out.2.2.grown (grown_two _ _ _ _ _ _) R.out.2.2.size (fun i hi => by cases hi; omega)⟩
        have e : ((byW ws len).take c).getD k 0 = (j : Int) := by rw [← hje]; simp [List.getD, hlt]
        rw [setAll_step _ (by rw [List.length_take, byW_length]; omega), e, Int.toNat_natCast]
        exact R.out.1.set j 1 1
      clear hje
      go_wp2_with fail
      go_roundw
      case rel => exact ⟨k + 1, by omega, by go_num, H3⟩
      case measure => simp [intOf]; omega
    · have hlt' : ¬ (k : Int) < (c : Int) := by omega
      have e : k = c := by omega
      subst e
      have H3 : Hid (SRow wr G len (setAll (fun _ => (1, 1)) ((byW ws len).take k) (List.replicate len (0, 0))) ∧ Row wr g len (byW ws len) ∧ Below w0.heap.size w0 wr) := by
        have := R.out
        rw [List.take_take, Nat.min_self] at this
        exact this
      obtain ⟨ones, hones⟩ : ∃ ones, ones = setAll (fun _ => (1, 1)) ((byW ws len).take k) (List.replicate len (0, 0)) := ⟨_, rfl⟩
      rw [← hones] at H3
      have HO : Hid (ones = setAll (fun _ => (1, 1)) ((byW ws len).take k) (List.replicate len (0, 0))) := hones
      have HN : Hid (ones.length = len) := by show _ = _; rw [hones, setAll_length, List.length_replicate]
      clear R H2 hk hlt hones
      by_cases hkl : k = len
      · subst hkl
        have SF : Hid (sharesOf ws (byW ws k) (k, P, W) = ones) := by
          show _ = _
          rw [sharesOf, HL.out, HO.out]
          simp only
          rw [List.drop_eq_nil_of_le (by rw [byW_length]; exact Nat.le_refl _)]
          rfl
        go_wp2_with fail
        go_loopw [13, 53] (fun _ i wr => i = .int .i64 0 ∧ Hid (SRow wr G k ones ∧ Row wr g k (byW ws k) ∧ Below w0.heap.size w0 wr)) (fun _ _ _ => 0)
        case atStart => exact ⟨rfl, H3⟩
        case round =>
          obtain ⟨rfl, R⟩ := hrel
          go_wp2_with fail
          go_ret
          exact ⟨G, rfl, by rw [SF.out]; exact R.out.1, by omega, R.out.2.2⟩
      · have hkl1 : k < len := by omega
        have hkl2 : ¬ len = k := by omega
        have hkl3 : (k : Int) < (len : Int) := by omega
        go_wp2_with fail
        generalize hT : len - k = T at *
        go_loopw [13, 53] (fun _ i wr => ∃ m : Nat, m ≤ T ∧ i = .int .i64 m ∧ Hid (SRow wr G len (setAll (fun x => (wt ws x * P, W)) (((byW ws len).drop k).take m) ones) ∧ Row wr g len (byW ws len) ∧ Below w0.heap.size w0 wr)) (fun _ i _ => T - (intOf i).toNat)
        case atStart => exact ⟨0, Nat.zero_le _, rfl, by simpa [setAll] using H3⟩
        case round =>
          obtain ⟨m, hm, rfl, R⟩ := hrel
          by_cases hlt : m < T
          · have hlt2 : (m : Int) < (T : Int) := by omega
            obtain ⟨j, hj, hje⟩ := byW_get ws len (k + m) (by omega)
            have c2 := R.out.2.1.cell (j := k + m) (by rw [byW_length]; omega)
            rw [hje] at c2
            have hj' : (j : Int) < (len : Int) := by omega
            obtain ⟨_, h0 | ⟨b1, off1, rfl, hb1, hc1⟩⟩ := HI.out.kept R.out.2.2
            · omega
            have c1 := hc1 j hj
            obtain ⟨x, hx⟩ : ∃ x, x = ws.getD j 0 := ⟨_, rfl⟩
            rw [← hx] at c1
            have HW : Hid (wt ws (j : Int) = x) := by show _ = _; rw [wt, Int.toNat_natCast, hx]
            have hxb := wt_bd HC.out (j : Int)
            rw [HW.out] at hxb
            obtain ⟨x0, x1⟩ := hxb
            obtain ⟨m0, m1⟩ := mul_near x0 x1 (q := P) P0 P1
            have f0 := R.out.1.frozen (j * 2)
            have f1 := R.out.1.frozen (j * 2 + 1)
            have q0 := R.out.1.c0 (j := j) (by rw [setAll_length, HN.out]; omega)
            have q1 := R.out.1.c1 (j := j) (by rw [setAll_length, HN.out]; omega)
            generalize ((setAll (fun x => (wt ws x * P, W)) (((byW ws len).drop k).take m) ones).getD j (0, 0)).1 = u at q0
            generalize ((setAll (fun x => (wt ws x * P, W)) (((byW ws len).drop k).take m) ones).getD j (0, 0)).2 = v at q1
            have H4 : Hid (SRow ((wr.setCell ⟨G, j * 2, none⟩ (.int .i64 (x * P))).setCell ⟨G, j * 2 + 1, none⟩ (.int .i64 W)) G len (setAll (fun x => (wt ws x * P, W)) (((byW ws len).drop k).take (m + 1)) ones) ∧ Row ((wr.setCell ⟨G, j * 2, none⟩ (.int .i64 (x * P))).setCell ⟨G, j * 2 + 1, none⟩ (.int .i64 W)) g len (byW ws len) ∧ Below w0.heap.size w0 ((wr.setCell ⟨G, j * 2, none⟩ (.int .i64 (x * P))).setCell ⟨G, j * 2 + 1, none⟩ (.int .i64 W))) := by
              refine ⟨?_, R.out.2.1.other (grown_two _ _ _ _ _ _) (by simpa using hgG), R.out.2.2.grown (grown_two _ _ _ _ _ _) R.out.2.2.size (fun i hi => by cases hi; omega)⟩
              have e : ((byW ws len).drop k).getD m 0 = (j : Int) := by rw [← hje]; simp [List.getD]
              rw [setAll_step _ (by rw [List.length_drop, byW_length]; omega), e, Int.toNat_natCast, HW.out]
              exact R.out.1.set j (x * P) W
            clear hje hc1 hx
            go_wp2_with fail
            go_roundw
            case rel => exact ⟨m + 1, by omega, by go_num, H4⟩
            case measure => simp [intOf]; omega
          · have hlt2 : ¬ (m : Int) < (T : Int) := by omega
            have SF : Hid (sharesOf ws (byW ws len) (k, P, W) = setAll (fun x => (wt ws x * P, W)) (((byW ws len).drop k).take m) ones) := by
              show _ = _
              rw [sharesOf, HL.out, HO.out]
              simp only
              rw [show ((byW ws len).drop k).take m = (byW ws len).drop k from List.take_of_length_le (by rw [List.length_drop, byW_length]; omega)]
            go_wp2_with fail
            go_ret
            exact ⟨G, rfl, by rw [SF.out]; exact R.out.1, by omega, R.out.2.2⟩

theorem implAdj_no (a : Option Addr) (len cap : Nat) (ws : List Int) (n : Int) (w : World) (I : Ints w a len ws) (h : crewOk ws = false ∨ procsOk n = false) :
    Calls Tryz.prog 227 #[.slice a len cap, .int .i64 n] w fun e w' => ∃ g, e = .returned (.slice (some ⟨g, 0, none⟩) 0 0) ∧ SRow w' g 0 [] ∧ w.heap.size ≤ g ∧ Below w.heap.size w w' := by
  have HI : Hid (Ints w a len ws) := I
  clear I
  have R2 := srow_nil w
  have B2 := (Below.refl w.heap.size w).alloc (Nat.le_refl _) (.cells #[] 122)
  cases hc : crewOk ws
  · clear h
    go_enter Tryz.func227, Tryz.ntmps227
    go_wp2_with fail
    refine (implCrewOk a len cap ws _ HI.out).mono ?_
    rw [hc]
    rintro e wq ⟨rfl, rfl⟩
    go_wp2_with fail
    go_ret
    exact ⟨_, rfl, R2, Nat.le_refl _, B2⟩
  · have hp : procsOk n = false := by rcases h with h | h; rw [hc] at h; cases h; exact h
    clear h
    go_enter Tryz.func227, Tryz.ntmps227
    go_wp2_with fail
    refine (implCrewOk a len cap ws _ HI.out).mono ?_
    rw [hc]
    rintro e wq ⟨rfl, rfl⟩
    go_wp2_with fail
    refine (implProcs n _).mono ?_
    rw [hp]
    rintro e w0 ⟨rfl, rfl⟩
    go_wp2_with fail
    go_ret
    exact ⟨_, rfl, R2, Nat.le_refl _, B2⟩

/-- impl.Adjusted at every slice and number. -/
theorem implAdj (a : Option Addr) (len cap : Nat) (ws : List Int) (n : Int) (w : World) (I : Ints w a len ws) :
    Calls Tryz.prog 227 #[.slice a len cap, .int .i64 n] w fun e w' => ∃ g cp, e = .returned (.slice (some ⟨g, 0, none⟩) (adjusted ws n).length cp) ∧ SRow w' g cp (adjusted ws n) ∧ w.heap.size ≤ g ∧ Below w.heap.size w w' := by
  have hl := I.1
  by_cases h : crewOk ws = false ∨ procsOk n = false
  · refine (implAdj_no a len cap ws n w I h).mono ?_
    rintro e w' ⟨g, rfl, r⟩
    rw [adjusted_no h]
    exact ⟨g, 0, rfl, r⟩
  · have h1 : crewOk ws = true := by cases hc : crewOk ws; exact absurd (.inl hc) h; rfl
    have h2 : procsOk n = true := by cases hc : procsOk n; exact absurd (.inr hc) h; rfl
    refine (implAdj_yes a len cap ws n w I h1 h2).mono ?_
    rintro e w' ⟨g, rfl, r⟩
    have e : (adjusted ws n).length = len := by rw [adjusted_yes h1 h2, sharesOf, setAll_length, setAll_length, List.length_replicate, hl]
    rw [e]
    exact ⟨g, len, rfl, r⟩

end Go.Proofs.YtcmeimfjedakeaaGreat.Crew

/-
  spec.Adjusted, and FnExactAdjusted.
-/
namespace Go.Proofs.YtcmeimfjedakeaaGreat.Crew
open Go.ChangeShapes Go.WideShapes Go.ChangeAt Go.RowKit

/-- spec.Adjusted where it is a crew, on a right number of processors. -/
theorem specAdj_yes (a : Option Addr) (len cap : Nat) (ws : List Int) (n : Int) (w : World) (I : Ints w a len ws) (hc : crewOk ws = true) (hp : procsOk n = true) :
    Calls Tryz.prog 51 #[.slice a len cap, .int .i64 n] w fun e w' => ∃ g, e = .returned (.slice (some ⟨g, 0, none⟩) len len) ∧ SRow w' g len (adjusted ws n) ∧ w.heap.size ≤ g ∧ Below w.heap.size w w' := by
  have hl := I.1
  rw [adjusted_yes hc hp, hl]
  obtain ⟨n1, n8⟩ := procs_yes hp
  have h24 := crew_len hc
  have hsz : (len : Int) ≤ 24 := by omega
  have HC : Hid (crewOk ws = true) := hc
  have HL : Hid (ws.length = len) := hl
  have HI : Hid (Ints w a len ws) := I
  obtain ⟨X, hX⟩ : ∃ X, X = sumI ws := ⟨_, rfl⟩
  have hb := sumI_bound ws (crew_small hc)
  have X0 : -24000000000 ≤ X := by omega
  have X1 : X ≤ 24000000000 := by omega
  have HX : Hid (sumI ws = X) := hX.symm
  rw [← hX]
  obtain ⟨i0, hi, hz0, hz1, hz2⟩ := info_parts info_shr
  clear I hc hl h24 hX hb
  go_enter Tryz.func51, Tryz.ntmps51
  go_wp2_with fail
  refine (specCrewOk a len cap ws _ HI.out (by omega)).mono ?_
  rw [HC.out]
  rintro e wq ⟨rfl, rfl⟩
  go_wp2_with fail
  refine (specProcs n _).mono ?_
  rw [hp]
  rintro e w0 ⟨rfl, rfl⟩
  clear hp
  go_wp2_with (at_make; refine wpList_make_full _ rfl (.tmp 19) (.tmp 19) 32 rfl w0.heap.size 122 i0 (.agg #[.int .i64 0, .int .i64 0]) 2 Tryz.underlying32 hi hz0 hz1 _ _ _ _ len rfl rfl rfl rfl (by rw [hz2]; omega) (by unfold maxLen; omega) (Nat.le_refl _) ?_)
  intro w2 hown hgrow
  have hown' : w2.ownsRow w0.heap.size 122 2 (.slice (some ⟨w0.heap.size, 0, none⟩) len len) len (flat (List.replicate len (0, 0))) := by rw [← made_shares]; exact hown
  have H2 : Hid (SRow w2 w0.heap.size len (List.replicate len (0, 0)) ∧ Below w0.heap.size w0 w2) := ⟨(srow_of_owns hown').1, (Below.refl _ _).grown hgrow (Nat.le_refl _) (fun k h => by cases h)⟩
  clear hown hown' hgrow hi hz0 hz1 hz2
  go_wp2_with fail
  refine (specBy_yes a len cap ws _ (HI.out.kept H2.out.2) HC.out).mono ?_
  rintro e w3 ⟨g, cp, rfl, R3, hg3, B3⟩
  have hgG : ¬ g = w0.heap.size := by have := H2.out.1.lt; omega
  have H3 : Hid (SRow w3 w0.heap.size len (List.replicate len (0, 0)) ∧ Row w3 g cp (byW ws len) ∧ Below w0.heap.size w0 w3) := ⟨H2.out.1.all B3, R3, H2.out.2.trans (B3.mono H2.out.2.size)⟩
  have hg0 : w0.heap.size ≤ g := by have := H2.out.2.size; omega
  clear H2 R3 B3 hg3
  go_wp2_with fail
  refine (sum_any a len cap ws _ (HI.out.kept H3.out.2.2) (by omega) (crew_small HC.out)).mono ?_
  rw [HX.out]
  rintro e w4 ⟨rfl, rfl⟩
  go_wp2_with fail
  have hbnd : ∀ k : Nat, ((setAll (fun _ => (1, 1)) ((byW ws len).take k) (List.replicate len (0, 0)))).length = len := fun k => by rw [setAll_length, List.length_replicate]
  have HB : Hid (∀ k : Nat, ((setAll (fun _ => (1, 1)) ((byW ws len).take k) (List.replicate len (0, 0)))).length = len) := hbnd
  clear hbnd
  go_loopw [1, 7, 8] (fun p q i wr => ∃ (k : Nat) (P W : Int), k ≤ len ∧ i = .int .i64 k ∧ p = .int .i64 P ∧ q = .int .i64 W ∧ n - (k : Int) ≤ P ∧ P ≤ n ∧ X - 1000000 * (k : Int) ≤ W ∧ W ≤ X ∧ Hid (DInv ws (byW ws len) n X k P W) ∧ Hid (SRow wr w0.heap.size len (setAll (fun _ => (1, 1)) ((byW ws len).take k) (List.replicate len (0, 0))) ∧ Row wr g cp (byW ws len) ∧ Below w0.heap.size w0 wr)) (fun _ _ i _ => len - (intOf i).toNat)
  case atStart => exact ⟨0, n, X, Nat.zero_le _, rfl, rfl, rfl, by omega, by omega, by omega, by omega, dinv_start _ _ _ _, by simpa [setAll] using H3⟩
  case round =>
    obtain ⟨k, P, W, hk, rfl, rfl, rfl, p0, p1, q0, q1, D, R⟩ := hrel
    clear H3
    by_cases hlt : k < len
    · have hlt' : (k : Int) < (len : Int) := by omega
      obtain ⟨_, h0 | ⟨b1, off1, rfl, hb1, hc1⟩⟩ := HI.out
      · omega
      have B1 := R.out.2.2
      have hb1' : b1 < wr.heap.size := Nat.lt_of_lt_of_le hb1 B1.size
      obtain ⟨j, hj, hje⟩ := byW_get ws len k hlt
      have c2 := R.out.2.1.cell (j := k) (by rw [byW_length]; omega)
      rw [hje] at c2
      have c1 : wr.cell? ⟨b1, off1 + j, none⟩ = some (.int .i64 (ws.getD j 0)) := by rw [B1.cell (p := ⟨b1, off1 + j, none⟩) hb1]; exact hc1 j hj
      obtain ⟨x, hx⟩ : ∃ x, x = ws.getD j 0 := ⟨_, rfl⟩
      rw [← hx] at c1
      have HW : Hid (wt ws (j : Int) = x) := by show _ = _; rw [wt, Int.toNat_natCast, hx]
      have hxb := wt_bd HC.out (j : Int)
      rw [HW.out] at hxb
      obtain ⟨x0, x1⟩ := hxb
      obtain ⟨m0, m1⟩ := mul_near x0 x1 (q := P) (by omega) (by omega)
      have hj' : (j : Int) < (len : Int) := by omega
      have HE : Hid ((byW ws len).getD k 0 = (j : Int)) := hje
      have n1 : ¬ b1 = w0.heap.size := by omega
      have n2 : ¬ w0.heap.size = b1 := by omega
      have n3 : ¬ w0.heap.size = g := by omega
      clear hc1 hx hje B1
      by_cases hcd : W ≤ x * P
      · have D2 : Hid (DInv ws (byW ws len) n X (k + 1) (P - 1) (W - x)) := by
          have := dinv_next D.out (by rw [byW_length]; exact hlt) HE.out (by rw [HW.out]; exact hcd)
          rw [HW.out] at this
          exact this
        have f0 := R.out.1.frozen (j * 2)
        have f1 := R.out.1.frozen (j * 2 + 1)
        have u0 := R.out.1.c0 (j := j) (by rw [HB.out]; omega)
        have u1 := R.out.1.c1 (j := j) (by rw [HB.out]; omega)
        generalize ((setAll (fun _ => (1, 1)) ((byW ws len).take k) (List.replicate len (0, 0))).getD j (0, 0)).1 = u at u0
        generalize ((setAll (fun _ => (1, 1)) ((byW ws len).take k) (List.replicate len (0, 0))).getD j (0, 0)).2 = v at u1
        have H4 : Hid (SRow ((wr.setCell ⟨w0.heap.size, j * 2, none⟩ (.int .i64 1)).setCell ⟨w0.heap.size, j * 2 + 1, none⟩ (.int .i64 1)) w0.heap.size len (setAll (fun _ => (1, 1)) ((byW ws len).take (k + 1)) (List.replicate len (0, 0))) ∧ Row ((wr.setCell ⟨w0.heap.size, j * 2, none⟩ (.int .i64 1)).setCell ⟨w0.heap.size, j * 2 + 1, none⟩ (.int .i64 1)) g cp (byW ws len) ∧ Below w0.heap.size w0 ((wr.setCell ⟨w0.heap.size, j * 2, none⟩ (.int .i64 1)).setCell ⟨w0.heap.size, j * 2 + 1, none⟩ (.int .i64 1))) := by
          refine ⟨?_, R.out.2.1.other (grown_two _ _ _ _ _ _) (by simpa using hgG), R.out.2.2.grown (grown_two _ _ _ _ _ _) R.out.2.2.size (fun i hi => by cases hi; omega)⟩
          rw [setAll_step _ (by rw [byW_length]; omega), HE.out, Int.toNat_natCast]
          exact R.out.1.set j 1 1
        have hdd : decide (W ≤ x * P) = true := by simp; omega
        go_wp2_with fail
        go_roundw
        case rel => exact ⟨k + 1, P - 1, W - x, by omega, by go_num, by go_num, by go_num, by omega, by omega, by omega, by omega, D2, H4⟩
        case measure => simp [intOf]; omega
      · have D2 : Hid (downs ws (byW ws len) n X = (k, P, W)) := dinv_stop D.out (by rw [byW_length]; exact hlt) HE.out (by rw [HW.out]; exact hcd)
        have hdd : decide (W ≤ x * P) = false := by simp; omega
        go_wp2_with fail
        clear hdd hcd m0 m1 x0 x1 HW HE c1 c2 hj' hj
        obtain ⟨ones, hones⟩ : ∃ ones, ones = setAll (fun _ => (1, 1)) ((byW ws len).take k) (List.replicate len (0, 0)) := ⟨_, rfl⟩
        have HN : Hid (ones.length = len) := by show _ = _; rw [hones]; exact HB.out k
        have HO : Hid (ones = setAll (fun _ => (1, 1)) ((byW ws len).take k) (List.replicate len (0, 0))) := hones
        have R1 : Hid (SRow wr w0.heap.size len ones ∧ Row wr g cp (byW ws len) ∧ Below w0.heap.size w0 wr) := by rw [hones]; exact R
        clear hones HB R D hb1'
        go_loopw [8] (fun i wr => ∃ m : Nat, k + m ≤ len ∧ i = .int .i64 ((k + m : Nat) : Int) ∧ Hid (SRow wr w0.heap.size len (setAll (fun x => (wt ws x * P, W)) (((byW ws len).drop k).take m) ones) ∧ Row wr g cp (byW ws len) ∧ Below w0.heap.size w0 wr)) (fun i _ => len - (intOf i).toNat)
        case atStart => exact ⟨0, by omega, rfl, by simpa [setAll] using R1⟩
        case round =>
          obtain ⟨m, hm, rfl, R⟩ := hrel
          clear R1
          obtain ⟨t, ht⟩ : ∃ t, t = k + m := ⟨_, rfl⟩
          rw [← ht] at hm
          have HT : Hid (t = k + m) := ht
          rw [← ht]
          clear ht
          by_cases hlt : t < len
          · have hlt2 : (t : Int) < (len : Int) := by omega
            obtain ⟨j, hj, hje⟩ := byW_get ws len t hlt
            have c2 := R.out.2.1.cell (j := t) (by rw [byW_length]; omega)
            rw [hje] at c2
            have hj' : (j : Int) < (len : Int) := by omega
            obtain ⟨_, h0 | ⟨b2, off2, hbe, hb2, hc1⟩⟩ := HI.out
            · omega
            obtain ⟨rfl, rfl⟩ : b1 = b2 ∧ off1 = off2 := by cases hbe; exact ⟨rfl, rfl⟩
            have B1 := R.out.2.2
            have hb1' : b1 < wr.heap.size := Nat.lt_of_lt_of_le hb1 B1.size
            have c1 : wr.cell? ⟨b1, off1 + j, none⟩ = some (.int .i64 (ws.getD j 0)) := by rw [B1.cell (p := ⟨b1, off1 + j, none⟩) hb1]; exact hc1 j hj
            obtain ⟨x, hx⟩ : ∃ x, x = ws.getD j 0 := ⟨_, rfl⟩
            rw [← hx] at c1
            have HW : Hid (wt ws (j : Int) = x) := by show _ = _; rw [wt, Int.toNat_natCast, hx]
            have hxb := wt_bd HC.out (j : Int)
            rw [HW.out] at hxb
            obtain ⟨x0, x1⟩ := hxb
            obtain ⟨m0, m1⟩ := mul_near x0 x1 (q := P) (by omega) (by omega)
            have f0 := R.out.1.frozen (j * 2)
            have f1 := R.out.1.frozen (j * 2 + 1)
            have u0 := R.out.1.c0 (j := j) (by rw [setAll_length, HN.out]; omega)
            have u1 := R.out.1.c1 (j := j) (by rw [setAll_length, HN.out]; omega)
            generalize ((setAll (fun x => (wt ws x * P, W)) (((byW ws len).drop k).take m) ones).getD j (0, 0)).1 = u at u0
            generalize ((setAll (fun x => (wt ws x * P, W)) (((byW ws len).drop k).take m) ones).getD j (0, 0)).2 = v at u1
            have H4 : Hid (∀ N, SRow (((wr.drewN N).setCell ⟨w0.heap.size, j * 2, none⟩ (.int .i64 (x * P))).setCell ⟨w0.heap.size, j * 2 + 1, none⟩ (.int .i64 W)) w0.heap.size len (setAll (fun x => (wt ws x * P, W)) (((byW ws len).drop k).take (m + 1)) ones) ∧ Row (((wr.drewN N).setCell ⟨w0.heap.size, j * 2, none⟩ (.int .i64 (x * P))).setCell ⟨w0.heap.size, j * 2 + 1, none⟩ (.int .i64 W)) g cp (byW ws len) ∧ Below w0.heap.size w0 (((wr.drewN N).setCell ⟨w0.heap.size, j * 2, none⟩ (.int .i64 (x * P))).setCell ⟨w0.heap.size, j * 2 + 1, none⟩ (.int .i64 W))) := by
              intro N
              have BD : Below wr.heap.size wr (wr.drewN N) := below_drewN (Below.refl _ _) N
              have S1 := R.out.1.all BD
              have S2 := R.out.2.1.all BD
              have S3 := R.out.2.2.trans (BD.mono R.out.2.2.size)
              refine ⟨?_, S2.other (grown_two _ _ _ _ _ _) (by simpa using hgG), S3.grown (grown_two _ _ _ _ _ _) S3.size (fun i hi => by cases hi; omega)⟩
              have e : ((byW ws len).drop k).getD m 0 = (j : Int) := by rw [← hje, HT.out]; simp [List.getD]
              rw [setAll_step _ (by have := HT.out; rw [List.length_drop, byW_length]; omega), e, Int.toNat_natCast, HW.out]
              exact S1.set j (x * P) W
            clear hje hc1 hx hbe B1
            go_wp2_with fail
            go_region
            go_wp2_with fail
            go_roundw
            case rel => exact ⟨m + 1, by have := HT.out; omega, by rw [HT.out]; go_num, H4.out _⟩
            case measure => simp [intOf]; omega
          · have hlt2 : ¬ (t : Int) < (len : Int) := by omega
            have SF : Hid (sharesOf ws (byW ws len) (k, P, W) = setAll (fun x => (wt ws x * P, W)) (((byW ws len).drop k).take m) ones) := by
              show _ = _
              rw [sharesOf, HL.out, HO.out]
              simp only
              rw [show ((byW ws len).drop k).take m = (byW ws len).drop k from List.take_of_length_le (by have := HT.out; rw [List.length_drop, byW_length]; omega)]
            go_wp2_with fail
            go_ret
            exact ⟨w0.heap.size, rfl, by rw [D2.out, SF.out]; exact R.out.1, by omega, R.out.2.2⟩
    · have hlt' : ¬ (k : Int) < (len : Int) := by omega
      have D2 : Hid (downs ws (byW ws len) n X = (k, P, W)) := dinv_end D.out (by rw [byW_length]; omega)
      have e : k = len := by omega
      go_wp2_with fail
      subst e
      have SF : Hid (sharesOf ws (byW ws k) (k, P, W) = setAll (fun _ => (1, 1)) ((byW ws k).take k) (List.replicate k (0, 0))) := by
        show _ = _
        rw [sharesOf, HL.out]
        simp only
        rw [List.drop_eq_nil_of_le (by rw [byW_length]; exact Nat.le_refl _)]
        rfl
      go_loopw [8] (fun i wr => i = .int .i64 k ∧ Hid (SRow wr w0.heap.size k (setAll (fun _ => (1, 1)) ((byW ws k).take k) (List.replicate k (0, 0))) ∧ Row wr g cp (byW ws k) ∧ Below w0.heap.size w0 wr)) (fun _ _ => 0)
      case atStart => exact ⟨rfl, R⟩
      case round =>
        obtain ⟨rfl, R⟩ := hrel
        go_wp2_with fail
        go_ret
        exact ⟨w0.heap.size, rfl, by rw [D2.out, SF.out]; exact R.out.1, by omega, R.out.2.2⟩

theorem specAdj_no (a : Option Addr) (len cap : Nat) (ws : List Int) (n : Int) (w : World) (I : Ints w a len ws) (hs : (len : Int) ≤ 1048576) (h : crewOk ws = false ∨ procsOk n = false) :
    Calls Tryz.prog 51 #[.slice a len cap, .int .i64 n] w fun e w' => ∃ g, e = .returned (.slice (some ⟨g, 0, none⟩) 0 0) ∧ SRow w' g 0 [] ∧ w.heap.size ≤ g ∧ Below w.heap.size w w' := by
  have HI : Hid (Ints w a len ws) := I
  clear I
  have R2 := srow_nil w
  have B2 := (Below.refl w.heap.size w).alloc (Nat.le_refl _) (.cells #[] 122)
  cases hc : crewOk ws
  · clear h
    go_enter Tryz.func51, Tryz.ntmps51
    go_wp2_with fail
    refine (specCrewOk a len cap ws _ HI.out hs).mono ?_
    rw [hc]
    rintro e wq ⟨rfl, rfl⟩
    go_wp2_with fail
    go_ret
    exact ⟨_, rfl, R2, Nat.le_refl _, B2⟩
  · have hp : procsOk n = false := by rcases h with h | h; rw [hc] at h; cases h; exact h
    clear h
    go_enter Tryz.func51, Tryz.ntmps51
    go_wp2_with fail
    refine (specCrewOk a len cap ws _ HI.out hs).mono ?_
    rw [hc]
    rintro e wq ⟨rfl, rfl⟩
    go_wp2_with fail
    refine (specProcs n _).mono ?_
    rw [hp]
    rintro e w0 ⟨rfl, rfl⟩
    go_wp2_with fail
    go_ret
    exact ⟨_, rfl, R2, Nat.le_refl _, B2⟩

/-- spec.Adjusted at every slice and number. -/
theorem specAdj (a : Option Addr) (len cap : Nat) (ws : List Int) (n : Int) (w : World) (I : Ints w a len ws) (hs : (len : Int) ≤ 1048576) :
    Calls Tryz.prog 51 #[.slice a len cap, .int .i64 n] w fun e w' => ∃ g cp, e = .returned (.slice (some ⟨g, 0, none⟩) (adjusted ws n).length cp) ∧ SRow w' g cp (adjusted ws n) ∧ w.heap.size ≤ g ∧ Below w.heap.size w w' := by
  have hl := I.1
  by_cases h : crewOk ws = false ∨ procsOk n = false
  · refine (specAdj_no a len cap ws n w I hs h).mono ?_
    rintro e w' ⟨g, rfl, r⟩
    rw [adjusted_no h]
    exact ⟨g, 0, rfl, r⟩
  · have h1 : crewOk ws = true := by cases hc : crewOk ws; exact absurd (.inl hc) h; rfl
    have h2 : procsOk n = true := by cases hc : procsOk n; exact absurd (.inr hc) h; rfl
    refine (specAdj_yes a len cap ws n w I h1 h2).mono ?_
    rintro e w' ⟨g, rfl, r⟩
    have e : (adjusted ws n).length = len := by rw [adjusted_yes h1 h2, sharesOf, setAll_length, setAll_length, List.length_replicate, hl]
    rw [e]
    exact ⟨g, len, rfl, r⟩

end Go.Proofs.YtcmeimfjedakeaaGreat.Crew
