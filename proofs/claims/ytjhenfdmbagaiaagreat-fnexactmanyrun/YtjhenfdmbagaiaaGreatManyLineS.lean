/-
  spec.l12Line at every right Many .
-/
import Derived.Test.YtjhenfdmbagaiaaGreatManyMath
import Derived.Test.YtjhenfdmbagaiaaGreatManyBase
import Derived.Test.YtjhenfdmbagaiaaGreatRankSpec
import Derived.Test.YtjhenfdmbagaiaaGreatCrewSort
namespace Go.Proofs.YtjhenfdmbagaiaaGreat.Crew
open Go.ChangeShapes Go.WideShapes Go.ChangeAt Go.RowKit Go.Proofs.YtjhenfdmbagaiaaGreat.Win

/-- Behind 'append(.., rest...)', where the line grows. -/
theorem line_done {w w3 w4 : World} {ps : List Shr} {ns : List Int} {now : Int} {n t g2 g3 c3 : Nat} (hr : tnR ps ns now n = true) (P : posOf (lnF ps ns n) (lnM ps ns now n) (lnM ps ns now n).length = t) (B : Below w.heap.size w w3) (hg : w.heap.size ≤ g2) (R4 : Row w4 g3 c3 ((lnM ps ns now n).take t ++ (n : Int) :: (lnM ps ns now n).drop t)) (G : w3.grownBy w4 (some g2)) (D : g3 = g2 ∨ g3 = w3.heap.size) :
    Row w4 g3 c3 (lnM ps ns now (n + 1)) ∧ w.heap.size ≤ g3 ∧ Below w.heap.size w w4 := by
  have hs := B.size
  refine ⟨?_, by omega, B.grown G (by omega) (fun k hk => by cases hk; omega)⟩
  rw [lnM, if_pos hr, insertBy, P]
  exact R4

set_option maxRecDepth 100000 in
set_option maxHeartbeats 4000000 in
theorem specLine (a : Option Addr) (len cap : Nat) (ps : List Shr) (a' : Option Addr) (len' cap' : Nat) (ns : List Int) (t p : Int) (w : World) (I : Shs w a len ps) (J : Ints w a' len' ns) (hk : manyOk ps ns t p = true) :
    Calls Tryz.prog 44 #[mv (.slice a len cap) (.slice a' len' cap') t p] w fun e w' => ∃ g cp, e = .returned (.slice (some ⟨g, 0, none⟩) (lnM ps ns p len).length cp) ∧ Row w' g cp (lnM ps ns p len) ∧ w.heap.size ≤ g ∧ Below w.heap.size w w' := by
  obtain ⟨i0, hi, hz0, hz1, hz2⟩ := info_parts info_int
  have h24 : len ≤ 24 := by have := fits_len (many_parts hk).1; have := I.1; omega
  have hlen : len' = len := by have := (many_parts hk).2.1; have := I.1; have := J.1; omega
  have HK : Hid (manyOk ps ns t p = true ∧ ps.length = len) := ⟨hk, I.1⟩
  have HI : Hid (Shs (w.alloc (.cells (mc (.slice a len cap) (.slice a' len' cap') t p) 27)) a len ps) := I.alloc _
  have HJ : Hid (Ints (w.alloc (.cells (mc (.slice a len cap) (.slice a' len' cap') t p) 27)) a' len' ns) := J.alloc _
  have HQ : Hid (Mny (w.alloc (.cells (mc (.slice a len cap) (.slice a' len' cap') t p) 27)) w.heap.size (.slice a len cap) (.slice a' len' cap') t p) := mny_new _ _ _ _ _
  have HB : Hid (Below w.heap.size w (w.alloc (.cells (mc (.slice a len cap) (.slice a' len' cap') t p) 27))) := below_new _ _
  clear I J hk
  go_enter Tryz.func44, Tryz.ntmps44
  go_wp2_with fail
  obtain ⟨w1, hw1⟩ : ∃ w1, w1 = w.alloc (.cells (mc (.slice a len cap) (.slice a' len' cap') t p) 27) := ⟨_, rfl⟩
  rw [← hw1] at HI HJ HQ HB
  have hz : w1.heap.size = w.heap.size + 1 := by rw [hw1]; simp
  have R0 : Hid (Row ((w.alloc (.cells (mc (.slice a len cap) (.slice a' len' cap') t p) 27)).alloc (.cells #[] 2)) (w.heap.size + 1) 0 [] ∧ Below w1.heap.size w1 ((w.alloc (.cells (mc (.slice a len cap) (.slice a' len' cap') t p) 27)).alloc (.cells #[] 2))) := by
    rw [← hw1, ← hz]
    exact ⟨row_nil w1, below_new _ _⟩
  clear hw1
  subst hlen
  go_loopw [3, 4, 5, 6, 7] (fun v i _ _ _ wr => ∃ n m g cp : Nat, n ≤ len' ∧ i = .int .i64 n ∧ v = .slice (some ⟨g, 0, none⟩) m cp ∧ Hid ((lnM ps ns p n).length = m) ∧ Hid (Row wr g cp (lnM ps ns p n) ∧ w1.heap.size ≤ g ∧ Below w1.heap.size w1 wr)) (fun _ i _ _ _ _ => len' - (intOf i).toNat)
  case atStart => exact ⟨0, 0, w.heap.size + 1, 0, Nat.zero_le _, rfl, rfl, rfl, R0.out.1, by omega, R0.out.2⟩
  case round =>
    obtain ⟨n, m, g, cp, hn, rfl, rfl, LM, R⟩ := hrel
    have t0 := (HQ.out.all R.out.2.2).c0
    have t1 := (HQ.out.all R.out.2.2).c1
    have t3 := (HQ.out.all R.out.2.2).c3
    by_cases hlt : n < len'
    · have hlt' : (n : Int) < (len' : Int) := by omega
      obtain ⟨_, h0 | ⟨bs, os, rfl, hbs, hcs⟩⟩ := HI.out.kept R.out.2.2
      · omega
      obtain ⟨_, h0 | ⟨bn, on, rfl, hbn, hcn⟩⟩ := HJ.out.kept R.out.2.2
      · omega
      have HS : Hid (∀ i, i < len' → wr.cell? ⟨bs, os + i * 2, none⟩ = some (.int .i64 (ps.getD i (0, 0)).1) ∧ wr.cell? ⟨bs, os + i * 2 + 1, none⟩ = some (.int .i64 (ps.getD i (0, 0)).2)) := hcs
      have HN : Hid (∀ i, i < len' → wr.cell? ⟨bn, on + i, none⟩ = some (.int .i64 (ns.getD i 0))) := hcn
      have s0 := (hcs n hlt).1
      have s1 := (hcs n hlt).2
      have d0 := hcn n hlt
      clear hcs hcn
      obtain ⟨c, hc⟩ : ∃ c, c = ns.getD n 0 := ⟨_, rfl⟩
      obtain ⟨N, hN⟩ : ∃ N, N = (ps.getD n (0, 0)).1 := ⟨_, rfl⟩
      obtain ⟨D, hD⟩ : ∃ D, D = (ps.getD n (0, 0)).2 := ⟨_, rfl⟩
      rw [← hN] at s0
      rw [← hD] at s1
      rw [← hc] at d0
      have hok := many_parts HK.out.1
      have hsh := fits_share hok.1 (i := n) (by rw [HK.out.2]; exact hlt)
      have hcb : 0 ≤ c ∧ c ≤ 1000000 := by rw [hc]; exact cnts_get hok.2.2.2 n
      have HV : Hid (c = ns.getD n 0 ∧ N = (ps.getD n (0, 0)).1 ∧ D = (ps.getD n (0, 0)).2 ∧ shareOk N D = true) := ⟨hc, hN, hD, by rw [hN, hD]; exact hsh⟩
      clear hc hN hD hsh hok
      have hbx : w.heap.size < wr.heap.size := (HQ.out.all R.out.2.2).lt
      have k0 : ∀ x : Kin wr, x.u.cell? ⟨w.heap.size, 0, none⟩ = some (.slice (some ⟨bs, os, none⟩) len' cap) := fun x => x.cell hbx t0
      have k1 : ∀ x : Kin wr, x.u.cell? ⟨w.heap.size, 1, none⟩ = some (.slice (some ⟨bn, on, none⟩) len' cap') := fun x => x.cell hbx t1
      have k3 : ∀ x : Kin wr, x.u.cell? ⟨w.heap.size, 3, none⟩ = some (.int .i64 p) := fun x => x.cell hbx t3
      have e0 : ∀ x : Kin wr, x.u.cell? ⟨bs, os + n * 2, none⟩ = some (.int .i64 N) := fun x => x.cell hbs s0
      have e1 : ∀ x : Kin wr, x.u.cell? ⟨bs, os + n * 2 + 1, none⟩ = some (.int .i64 D) := fun x => x.cell hbs s1
      have e2 : ∀ x : Kin wr, x.u.cell? ⟨bn, on + n, none⟩ = some (.int .i64 c) := fun x => x.cell hbn d0
      by_cases hc6 : c < 1000000
      · have hc6' : ¬ (1000000 : Int) ≤ c := by omega
        have hd6 : decide ((1000000 : Int) ≤ c) = false := decide_eq_false hc6'
        obtain ⟨v, hv⟩ : ∃ v, v = readyV N D (c + 1) := ⟨_, rfl⟩
        have SR : Hid (∀ w, Calls Tryz.prog 64 #[sh N D, .int .i64 (c + 1)] w fun e w' => e = .returned (.int .i64 v) ∧ Below w.heap.size w w') := by rw [hv]; exact specReadyIn N D (c + 1) (turn_mk HV.out.2.2.2 (by omega) (by omega))
        have HVV : Hid (v = readyV N D (c + 1)) := hv
        clear hv
        go_wp2_with fail
        refine wp_region_kin (by kernel_rfl) (by kernel_rfl) (fun hne => ?_)
        repeat (go_big_quiet_step ((first | (go_at_call 64; exact kin_calls (SR.out _)))))
        refine wpQuiet_nil ?_
        rintro _ ⟨x, rfl⟩
        have RX : Hid (Row x.u g cp (lnM ps ns p n) ∧ w1.heap.size ≤ g ∧ Below w1.heap.size w1 x.u) := ⟨R.out.1.all x.b, R.out.2.1, below_call R.out.2.2 R.out.2.2.size x.b⟩
        clear k0 k1 k3 e0 e1 e2 hne SR t0 t1 t3 s0 s1 d0 R HS HN
        generalize x.u = wx at *
        by_cases hvp : v ≤ p
        · have hr : tnR ps ns p n = true := by
            rw [tnR, ← HV.out.1, ← HV.out.2.1, ← HV.out.2.2.1, ← HVV.out, decide_eq_true hc6, decide_eq_true hvp]
            rfl
          have HR : Hid (tnR ps ns p n = true) := hr
          have hvp' : ¬ p < v := by omega
          clear hr
          go_wp2_with fail
          have RH : Hid (Row wx g cp (lnM ps ns p n) ∧ w1.heap.size ≤ g ∧ Below w1.heap.size w1 wx) := RX.out
          clear R0 RX HVV
          go_loopw [6] (fun k wr => ∃ t : Nat, t ≤ m ∧ k = .int .i64 t ∧ Hid (Row wr g cp (lnM ps ns p n) ∧ w1.heap.size ≤ g ∧ Below w1.heap.size w1 wr) ∧ Hid (posOf (lnF ps ns n) (lnM ps ns p n) m = posOf (lnF ps ns n) (lnM ps ns p n) t)) (fun k _ => (intOf k).toNat)
          case atStart => exact ⟨m, Nat.le_refl _, rfl, RH.out, rfl⟩
          case round =>
            obtain ⟨t, ht, rfl, RQ, PQ⟩ := hrel
            have hm24 : m ≤ 24 := by have := LM.out; have := lnM_len (ps := ps) (ns := ns) (now := p) n; omega
            by_cases ht0 : t = 0
            · have hd : decide ((0 : Int) < (t : Int)) = false := by simp; omega
              have hdn : decide (0 < t) = false := by simp; omega
              have PT : Hid (posOf (lnF ps ns n) (lnM ps ns p n) m = t) := by show _ = _; rw [PQ.out, ht0]; rfl
              clear ht0
              go_wp2_with fail
              refine wp_region_kin (by kernel_rfl) (by kernel_rfl) (fun hne => ?_)
              repeat (go_big_quiet_step (fail))
              refine wpQuiet_nil ?_
              rintro _ ⟨x, rfl⟩
              have RX : Hid (Row x.u g cp (lnM ps ns p n) ∧ w1.heap.size ≤ g ∧ Below w1.heap.size w1 x.u) := ⟨RQ.out.1.all x.b, RQ.out.2.1, below_call RQ.out.2.2 RQ.out.2.2.size x.b⟩
              clear hne RQ
              generalize x.u = wx at RX ⊢
              have hcp : t ≤ cp := by obtain ⟨_, _, hl, _⟩ := RX.out.1; rw [LM.out] at hl; omega
              have hgx : g < wx.heap.size := RX.out.1.lt
              go_wp2_with (at_builtin; refine wpList_append_ints rfl (.tmp 75) (.tmp 78) 25 rfl i0 Tryz.underlying25 hi hz0 hz1 hz2 _ _ _ [] rfl rfl (row_nil wx) _ _ _ ((lnM ps ns p n).drop t) rfl ((RX.out.1.alloc _).tail LM.out t ht _ (by intro h; first | rfl | simp [h])) (by simp; omega) ?_)
              all_goals
                intro g1 c1 w2 R2 G2 D2
                have K2 : Hid (Row w2 g1 c1 ((lnM ps ns p n).drop t) ∧ wx.heap.size ≤ g1 ∧ Row w2 g cp ((lnM ps ns p n).take t) ∧ Below w1.heap.size w1 w2) := rest_done RX.out.1 RX.out.2.2 (by simpa using R2) G2 D2
                have hg1 : g1 < w2.heap.size := K2.out.1.lt
                clear R2 G2 D2
                go_wp2_with (at_builtin; refine wpList_append_ints rfl (.tmp 82) (.tmp 84) 25 rfl i0 Tryz.underlying25 hi hz0 hz1 hz2 _ _ _ ((lnM ps ns p n).take t) rfl (by rw [List.length_take, LM.out]; omega) (by first | exact K2.out.2.2.1.alloc _ | (have hct : cp = t := (by assumption); rw [hct] at K2; exact K2.out.2.2.1.alloc _)) _ _ _ [(n : Int)] rfl (ints_one _ _ _) (by rw [List.length_take, LM.out]; omega) ?_)
                intro g2 c2 w3 R3 G3 D3
                have K3 : Hid (Row w3 g2 c2 ((lnM ps ns p n).take t ++ [(n : Int)]) ∧ g ≤ g2 ∧ Row w3 g1 c1 ((lnM ps ns p n).drop t) ∧ Below w1.heap.size w1 w3) := one_done K2.out.1 K2.out.2.2.2 RX.out.2.1 (by have := K2.out.2.1; omega) R3 G3 D3
                have hg2 : g2 < w3.heap.size := K3.out.1.lt
                clear R3 G3 D3
                go_wp2_with (at_builtin; refine wpList_append_ints rfl (.tmp 85) (.tmp 86) 25 rfl i0 Tryz.underlying25 hi hz0 hz1 hz2 _ _ _ ((lnM ps ns p n).take t ++ [(n : Int)]) rfl (by rw [List.length_append, List.length_take, LM.out, List.length_singleton]; omega) K3.out.1 _ _ _ ((lnM ps ns p n).drop t) rfl (by have := K3.out.2.2.1.ints; rw [List.length_drop, LM.out] at this; exact this) (by rw [List.length_append, List.length_take, LM.out, List.length_singleton]; omega) ?_)
                intro g3 c3 w4 R4 G4 D4
                have K4 : Hid (Row w4 g3 c3 (lnM ps ns p (n + 1)) ∧ w1.heap.size ≤ g3 ∧ Below w1.heap.size w1 w4) := line_done (t := t) HR.out (by rw [LM.out]; exact PT.out) K3.out.2.2.2 (by have := K3.out.2.1; have := RX.out.2.1; omega) (by simpa using R4) G4 D4
                clear R4 G4 D4
                go_wp2_with fail
                go_roundw
                case rel => exact ⟨n + 1, m + 1, g3, c3, by omega, by go_num, by rw [show t + 1 + (m - t) = m + 1 by omega], by show _ = _; rw [lnM, if_pos HR.out, insertBy_length, LM.out], K4⟩
                case measure => simp [intOf]; omega
            · have htl : t - 1 < (lnM ps ns p n).length := by rw [LM.out]; omega
              obtain ⟨y, hy⟩ : ∃ y, y = (lnM ps ns p n).getD (t - 1) 0 := ⟨_, rfl⟩
              obtain ⟨j, hj, hyj, hrj⟩ : ∃ j : Nat, j < n ∧ y = j ∧ tnR ps ns p j = true := by
                refine mem_lnM.1 ?_
                rw [hy, List.getD_eq_getElem?_getD, List.getElem?_eq_getElem htl]
                exact List.getElem_mem htl
              have r0 := RQ.out.1.cell (j := t - 1) htl
              rw [← hy, hyj] at r0
              have HY : Hid ((lnM ps ns p n).getD (t - 1) 0 = (j : Int)) := by show _ = _; rw [← hy, hyj]
              clear hy hyj htl
              have t0 := (HQ.out.all RQ.out.2.2).c0
              have t1 := (HQ.out.all RQ.out.2.2).c1
              obtain ⟨_, h0 | ⟨bs', os', he, hbs', hcs'⟩⟩ := HI.out.kept RQ.out.2.2
              · omega
              cases he
              obtain ⟨_, h0 | ⟨bn', on', he, hbn', hcn'⟩⟩ := HJ.out.kept RQ.out.2.2
              · omega
              cases he
              have hjl : j < len' := by omega
              have s0 := (hcs' n hlt).1
              have s1 := (hcs' n hlt).2
              have u0 := (hcs' j hjl).1
              have u1 := (hcs' j hjl).2
              have u2 := hcn' j hjl
              clear hcs' hcn'
              rw [← HV.out.2.1] at s0
              rw [← HV.out.2.2.1] at s1
              obtain ⟨c', hc'⟩ : ∃ c', c' = ns.getD j 0 := ⟨_, rfl⟩
              obtain ⟨N', hN'⟩ : ∃ N', N' = (ps.getD j (0, 0)).1 := ⟨_, rfl⟩
              obtain ⟨D', hD'⟩ : ∃ D', D' = (ps.getD j (0, 0)).2 := ⟨_, rfl⟩
              rw [← hN'] at u0
              rw [← hD'] at u1
              rw [← hc'] at u2
              have hsj : shareOk N' D' = true := by rw [hN', hD']; exact fits_share (many_parts HK.out.1).1 (i := j) (by rw [HK.out.2]; exact hjl)
              have hcj : 0 ≤ c' ∧ c' < 1000000 := by
                have h1 := cnts_get (many_parts HK.out.1).2.2.2 j
                rw [tnR, Bool.and_eq_true, decide_eq_true_eq] at hrj
                rw [hc']
                exact ⟨h1.1, hrj.1⟩
              have HF : Hid (lnF ps ns n j = decide (aheadIn N D (c + 1) N' D' (c' + 1) = 1)) := by
                show _ = _
                rw [HV.out.1, HV.out.2.1, HV.out.2.2.1, hN', hD', hc']
                rfl
              clear hN' hD' hc' hrj
              have SA : Hid (∀ w, Calls Tryz.prog 65 #[sh N D, .int .i64 (c + 1), sh N' D', .int .i64 (c' + 1)] w fun r w' => r = .returned (.int .i64 (aheadIn N D (c + 1) N' D' (c' + 1))) ∧ Below w.heap.size w w') := specAheadIn N D (c + 1) N' D' (c' + 1) (turn_mk HV.out.2.2.2 (by omega) (by omega)) (turn_mk hsj (by omega) (by omega))
              have hgr : g < wr.heap.size := RQ.out.1.lt
              have hbx : w.heap.size < wr.heap.size := (HQ.out.all RQ.out.2.2).lt
              have k0 : ∀ x : Kin wr, x.u.cell? ⟨w.heap.size, 0, none⟩ = some (.slice (some ⟨bs, os, none⟩) len' cap) := fun x => x.cell hbx t0
              have k1 : ∀ x : Kin wr, x.u.cell? ⟨w.heap.size, 1, none⟩ = some (.slice (some ⟨bn, on, none⟩) len' cap') := fun x => x.cell hbx t1
              have e0 : ∀ x : Kin wr, x.u.cell? ⟨bs, os + n * 2, none⟩ = some (.int .i64 N) := fun x => x.cell hbs' s0
              have e1 : ∀ x : Kin wr, x.u.cell? ⟨bs, os + n * 2 + 1, none⟩ = some (.int .i64 D) := fun x => x.cell hbs' s1
              have f0 : ∀ x : Kin wr, x.u.cell? ⟨bs, os + j * 2, none⟩ = some (.int .i64 N') := fun x => x.cell hbs' u0
              have f1 : ∀ x : Kin wr, x.u.cell? ⟨bs, os + j * 2 + 1, none⟩ = some (.int .i64 D') := fun x => x.cell hbs' u1
              have f2 : ∀ x : Kin wr, x.u.cell? ⟨bn, on + j, none⟩ = some (.int .i64 c') := fun x => x.cell hbn' u2
              have r1 : ∀ x : Kin wr, x.u.cell? ⟨g, t - 1, none⟩ = some (.int .i64 j) := fun x => x.cell hgr r0
              clear t0 t1 s0 s1 u0 u1 u2 r0 hsj
              obtain ⟨v, hv⟩ : ∃ v, v = aheadIn N D (c + 1) N' D' (c' + 1) := ⟨_, rfl⟩
              rw [← hv] at SA HF
              clear hv
              have hti : (0 : Int) < (t : Int) := by omega
              have htn : 0 < t := by omega
              have htj : (j : Int) < (len' : Int) := by omega
              by_cases hv1 : v = 1
              · subst hv1
                go_wp2_with fail
                refine wp_region_kin (by kernel_rfl) (by kernel_rfl) (fun hne => ?_)
                repeat (go_big_quiet_step ((first | (go_at_call 65; exact kin_calls (SA.out _)))))
                refine wpQuiet_nil ?_
                rintro _ ⟨x, rfl⟩
                have RX : Hid (Row x.u g cp (lnM ps ns p n) ∧ w1.heap.size ≤ g ∧ Below w1.heap.size w1 x.u) := ⟨RQ.out.1.all x.b, RQ.out.2.1, below_call RQ.out.2.2 RQ.out.2.2.size x.b⟩
                clear k0 k1 e0 e1 f0 f1 f2 r1 hne RQ SA
                generalize x.u = wx at RX ⊢
                go_wp2_with fail
                go_roundw
                case rel =>
                  refine ⟨t - 1, by omega, by go_num, RX, ?_⟩
                  show _ = _
                  rw [PQ.out]
                  exact posOf_down (by omega) (by rw [HY.out, HF.out]; rfl)
                case measure => simp [intOf]; omega
              · have hvd : decide (v = 1) = false := decide_eq_false hv1
                have hve : (v == 1) = false := by simpa using hv1
                have PT : Hid (posOf (lnF ps ns n) (lnM ps ns p n) m = t) := by show _ = _; rw [PQ.out]; exact posOf_stop (.inr (by rw [HY.out, HF.out]; exact hvd))
                go_wp2_with fail
                refine wp_region_kin (by kernel_rfl) (by kernel_rfl) (fun hne => ?_)
                repeat (go_big_quiet_step ((first | (go_at_call 65; exact kin_calls (SA.out _)))))
                refine wpQuiet_nil ?_
                rintro _ ⟨x, rfl⟩
                have RX : Hid (Row x.u g cp (lnM ps ns p n) ∧ w1.heap.size ≤ g ∧ Below w1.heap.size w1 x.u) := ⟨RQ.out.1.all x.b, RQ.out.2.1, below_call RQ.out.2.2 RQ.out.2.2.size x.b⟩
                clear k0 k1 e0 e1 f0 f1 f2 r1 hne RQ SA
                generalize x.u = wx at RX ⊢
                have hcp : t ≤ cp := by obtain ⟨_, _, hl, _⟩ := RX.out.1; rw [LM.out] at hl; omega
                have hgx : g < wx.heap.size := RX.out.1.lt
                go_wp2_with (at_builtin; refine wpList_append_ints rfl (.tmp 75) (.tmp 78) 25 rfl i0 Tryz.underlying25 hi hz0 hz1 hz2 _ _ _ [] rfl rfl (row_nil wx) _ _ _ ((lnM ps ns p n).drop t) rfl ((RX.out.1.alloc _).tail LM.out t ht _ (by intro h; first | rfl | simp [h])) (by simp; omega) ?_)
                all_goals
                  intro g1 c1 w2 R2 G2 D2
                  have K2 : Hid (Row w2 g1 c1 ((lnM ps ns p n).drop t) ∧ wx.heap.size ≤ g1 ∧ Row w2 g cp ((lnM ps ns p n).take t) ∧ Below w1.heap.size w1 w2) := rest_done RX.out.1 RX.out.2.2 (by simpa using R2) G2 D2
                  have hg1 : g1 < w2.heap.size := K2.out.1.lt
                  clear R2 G2 D2
                  go_wp2_with (at_builtin; refine wpList_append_ints rfl (.tmp 82) (.tmp 84) 25 rfl i0 Tryz.underlying25 hi hz0 hz1 hz2 _ _ _ ((lnM ps ns p n).take t) rfl (by rw [List.length_take, LM.out]; omega) (by first | exact K2.out.2.2.1.alloc _ | (have hct : cp = t := (by assumption); rw [hct] at K2; exact K2.out.2.2.1.alloc _)) _ _ _ [(n : Int)] rfl (ints_one _ _ _) (by rw [List.length_take, LM.out]; omega) ?_)
                  intro g2 c2 w3 R3 G3 D3
                  have K3 : Hid (Row w3 g2 c2 ((lnM ps ns p n).take t ++ [(n : Int)]) ∧ g ≤ g2 ∧ Row w3 g1 c1 ((lnM ps ns p n).drop t) ∧ Below w1.heap.size w1 w3) := one_done K2.out.1 K2.out.2.2.2 RX.out.2.1 (by have := K2.out.2.1; omega) R3 G3 D3
                  have hg2 : g2 < w3.heap.size := K3.out.1.lt
                  clear R3 G3 D3
                  go_wp2_with (at_builtin; refine wpList_append_ints rfl (.tmp 85) (.tmp 86) 25 rfl i0 Tryz.underlying25 hi hz0 hz1 hz2 _ _ _ ((lnM ps ns p n).take t ++ [(n : Int)]) rfl (by rw [List.length_append, List.length_take, LM.out, List.length_singleton]; omega) K3.out.1 _ _ _ ((lnM ps ns p n).drop t) rfl (by have := K3.out.2.2.1.ints; rw [List.length_drop, LM.out] at this; exact this) (by rw [List.length_append, List.length_take, LM.out, List.length_singleton]; omega) ?_)
                  intro g3 c3 w4 R4 G4 D4
                  have K4 : Hid (Row w4 g3 c3 (lnM ps ns p (n + 1)) ∧ w1.heap.size ≤ g3 ∧ Below w1.heap.size w1 w4) := line_done (t := t) HR.out (by rw [LM.out]; exact PT.out) K3.out.2.2.2 (by have := K3.out.2.1; have := RX.out.2.1; omega) (by simpa using R4) G4 D4
                  clear R4 G4 D4
                  go_wp2_with fail
                  go_roundw
                  case rel => exact ⟨n + 1, m + 1, g3, c3, by omega, by go_num, by rw [show t + 1 + (m - t) = m + 1 by omega], by show _ = _; rw [lnM, if_pos HR.out, insertBy_length, LM.out], K4⟩
                  case measure => simp [intOf]; omega
        · have hr : tnR ps ns p n = false := by
            rw [tnR, ← HV.out.1, ← HV.out.2.1, ← HV.out.2.2.1, ← HVV.out, decide_eq_false hvp, Bool.and_false]
          have HL1 : Hid (lnM ps ns p (n + 1) = lnM ps ns p n) := by
            show _ = _
            rw [lnM, hr]
            rfl
          have hvp' : p < v := by omega
          clear hr
          go_wp2_with fail
          go_roundw
          case rel => exact ⟨n + 1, m, g, cp, by omega, by go_num, rfl, by show _ = _; rw [HL1.out]; exact LM.out, by rw [HL1.out]; exact RX.out.1, RX.out.2⟩
          case measure => simp [intOf]; omega
      · have hc6' : (1000000 : Int) ≤ c := by omega
        have hd6 : decide ((1000000 : Int) ≤ c) = true := decide_eq_true hc6'
        have hr : tnR ps ns p n = false := by
          rw [tnR, ← HV.out.1, decide_eq_false hc6, Bool.false_and]
        have HL1 : Hid (lnM ps ns p (n + 1) = lnM ps ns p n) := by
          show _ = _
          rw [lnM, hr]
          rfl
        clear hr
        go_wp2_with fail
        refine wp_region_kin (by kernel_rfl) (by kernel_rfl) (fun hne => ?_)
        repeat (go_big_quiet_step (fail))
        refine wpQuiet_nil ?_
        rintro _ ⟨x, rfl⟩
        have RX : Hid (Row x.u g cp (lnM ps ns p n) ∧ w1.heap.size ≤ g ∧ Below w1.heap.size w1 x.u) := ⟨R.out.1.all x.b, R.out.2.1, below_call R.out.2.2 R.out.2.2.size x.b⟩
        clear k0 k1 k3 e0 e1 e2 hne t0 t1 t3 s0 s1 d0 R HS HN
        generalize x.u = wx at *
        go_wp2_with fail
        go_roundw
        case rel => exact ⟨n + 1, m, g, cp, by omega, by go_num, rfl, by show _ = _; rw [HL1.out]; exact LM.out, by rw [HL1.out]; exact RX.out.1, RX.out.2⟩
        case measure => simp [intOf]; omega
    · have hlt' : ¬ (n : Int) < (len' : Int) := by omega
      have e : n = len' := by omega
      subst e
      have hm := LM.out
      subst hm
      go_wp2_with fail
      go_ret
      exact ⟨g, cp, rfl, R.out.1, by have := HB.out.size; have := R.out.2.1; omega, HB.out.trans (R.out.2.2.mono HB.out.size)⟩

end Go.Proofs.YtjhenfdmbagaiaaGreat.Crew
