/-
  The law FnBusy: whatever the code, it answers true and nothing that was there is written: a crew longer than the processors, adjusted, keeps every processor busy.
-/
import Derived.Test.YtjhenfdmbagaiaaManyRunI
import Derived.Test.YtjhenfdmbagaiaaTopMany
import Derived.Test.YtjhenfdmbagaiaaAdjSpec
import Derived.Test.YtjhenfdmbagaiaaHands
namespace Go.Proofs.Ytjhenfdmbagaiaa.Crew
open Go.ChangeShapes Go.WideShapes Go.ChangeAt Go.RowKit Go.Proofs.Ytjhenfdmbagaiaa.Win
open Go.Proofs.Ytjhenfdmbagaiaa.Draw (Bytes big_any roll_any Cur cur_new new_below hands_any hands_crew dice_any left_below OwnD wts60 wts60_append)

theorem busy_run {ps : List Shr} {q : Int} (h : fitsOn ps q = true) : runOkM ps (List.replicate ps.length 0) q 0 60 = true := by
  have h0 : cnts (List.replicate ps.length (0 : Int)) = true := by
    rw [cnts, List.all_eq_true]
    intro x hx
    rw [List.eq_of_mem_replicate hx]
    rfl
  have h1 : manyOk ps (List.replicate ps.length 0) q 0 = true :=
    many_end h (by rw [List.length_replicate]) (by decide) h0
  rw [runOkM, h1]
  rfl

theorem busy_get (ps : List Shr) (q : Int) {i : Nat} (hi : i < 60) : (mLists ps (List.replicate ps.length 0) q 0 60).getD i [] = icast (mList ps (mAt ps (List.replicate ps.length 0) q 0 i) q (i : Int)) := by
  simp [mLists, mWho, List.getD_eq_getElem?_getD, hi]

theorem busy_len {ws : List Int} {q : Int} (hc : crewOk ws = true) (hp : procsOk q = true) (hl : q < (ws.length : Int)) {i : Nat} (hi : i < 60) : ((mLists (adjusted ws q) (List.replicate (adjusted ws q).length 0) q 0 60).getD i []).length = q.toNat := by
  obtain ⟨D, e, E, hw⟩ := Top.fair_even hc hp hl
  rw [busy_get _ _ hi, icast, List.length_map]
  exact Top.never_idle E hw hi (by omega)

theorem busy_asc (ps : List Shr) (q : Int) {i j : Nat} (hi : i < 60) (hj : j + 1 < ((mLists ps (List.replicate ps.length 0) q 0 60).getD i []).length) :
    ((mLists ps (List.replicate ps.length 0) q 0 60).getD i []).getD j 0 < ((mLists ps (List.replicate ps.length 0) q 0 60).getD i []).getD (j + 1) 0 := by
  rw [busy_get _ _ hi] at hj ⊢
  have hp : (icast (mList ps (mAt ps (List.replicate ps.length 0) q 0 i) q (i : Int))).Pairwise (· < ·) := by
    rw [icast, List.pairwise_map]
    exact List.Pairwise.imp (fun h => by omega) (Top.listB_asc (mTop ps (mAt ps (List.replicate ps.length 0) q 0 i) q (i : Int) ps.length) ps.length)
  have h := List.pairwise_iff_getElem.1 hp j (j + 1) (by omega) hj (by omega)
  rw [List.getD_eq_getElem?_getD, List.getD_eq_getElem?_getD, List.getElem?_eq_getElem hj, List.getElem?_eq_getElem (by omega)]
  exact h

theorem busy_row {w : World} {base : Nat} {a : Option Addr} {len cap : Nat} {xs : List Int} (h : Fit w base a len cap xs) (h0 : 0 < len) : ∃ g, a = some ⟨g, 0, none⟩ ∧ Row w g cap xs := by
  rcases h.2 with ⟨e, _⟩ | ⟨g, e, hb, R⟩
  · omega
  · exact ⟨g, e, R⟩

/-- What the law keeps while it looks at the lists. -/
structure Bz (w0 wr : World) (h c : Nat) (vs : List Value) (ex : Nat → Prop) (lo hi : Nat) (LL : List (List Int)) : Prop where
  tms : Tms wr h c vs
  lst : Lst wr ex lo hi vs LL
  bel : Below w0.heap.size w0 wr

theorem Bz.keep {w0 wr w' : World} {h c : Nat} {vs : List Value} {ex : Nat → Prop} {lo hi : Nat} {LL : List (List Int)} (H : Bz w0 wr h c vs ex lo hi LL) (k : Below wr.heap.size wr w') : Bz w0 w' h c vs ex lo hi LL :=
  ⟨H.tms.all k, H.lst.all k, below_call H.bel H.bel.size k⟩

set_option maxRecDepth 100000 in
set_option maxHeartbeats 8000000 in
/-- The law FnBusy. -/
theorem lawFnBusy (a : Option Addr) (len cap : Nat) (w : World) (B : Bytes w a len) :
    Calls Try.prog 4 #[.slice a len cap] w fun e w' => e = .returned (.bool true) ∧ Below w.heap.size w w' := by
  obtain ⟨i0, hi0, hz0, hz1, hz2⟩ := info_parts info_int
  have HB : Hid (Bytes w a len) := B
  clear B
  by_cases hbig : (4096 : Int) < (len : Int)
  · go_enter Try.func4, Try.ntmps4
    go_wp2_with fail
    refine (big_any a len cap _).mono ?_
    rw [decide_eq_true hbig]
    rintro e w1 ⟨rfl, rfl⟩
    go_wp2_with fail
    go_ret
    exact ⟨rfl, Below.refl _ _⟩
  · have ht : len ≤ 9223372036854775806 := by omega
    have HBG : Hid (decide ((4096 : Int) < (len : Int)) = false) := decide_eq_false hbig
    clear hbig
    go_enter Try.func4, Try.ntmps4
    go_wp2_with fail
    refine (big_any a len cap _).mono ?_
    rw [HBG.out]
    rintro e w1 ⟨rfl, rfl⟩
    go_wp2_with fail
    refine (roll_any a len cap 13 _ HB.out ht).mono ?_
    rintro e w2 ⟨rfl, h, L2⟩
    have C2 := L2.cur (cur_new HB.out ht h)
    have B2 := new_below L2
    have p2 := C2.lt
    have H2 : Hid (Cur .u64 61 w1.heap.size a len cap w2 ∧ Below w1.heap.size w1 w2) := ⟨C2, B2⟩
    clear L2 C2 B2
    go_wp2_with fail
    refine (dice_any _ _ a len cap 4 _ H2.out.1 (by omega)).mono ?_
    rintro e w3 ⟨y, rfl, y0, y1, _, L3⟩
    have H3 : Hid (Cur .u64 61 w1.heap.size a len cap w3 ∧ Below w1.heap.size w1 w3) := ⟨L3.cur H2.out.1, H2.out.2.trans (left_below L3 (Nat.le_refl _) p2)⟩
    have p3 := H3.out.1.lt
    clear L3 H2 p2
    go_wp2_with fail
    have hq1 : 1 ≤ 1 + y ∧ 1 + y ≤ 4 := by omega
    generalize 1 + y = q at *
    clear y0 y1
    refine (hands_any _ _ a len cap _ H3.out.1).mono ?_
    rintro e w4 ⟨g, cp, xs, rfl, O4, n1, n7, wt⟩
    have H4 : Hid (OwnD 61 w1.heap.size a len cap w3 w4 g cp xs ∧ wts60 xs = true) := ⟨O4, wt⟩
    clear O4 wt
    go_wp2_with fail
    go_loopw [5] (fun v wr => ∃ m g cp : Nat, ∃ xs : List Int, v = .slice (some ⟨g, 0, none⟩) m cp ∧ 1 ≤ m ∧ m ≤ 7 ∧ Hid (xs.length = m) ∧ Hid (OwnD 61 w1.heap.size a len cap w3 wr g cp xs ∧ wts60 xs = true)) (fun v _ => match v with | .slice _ m _ => 8 - m | _ => 0)
    case atStart => exact ⟨_, g, cp, xs, rfl, n1, n7, rfl, H4⟩
    case round =>
      clear n1 n7 H4
      obtain ⟨n, g, cp, xs, rfl, n1, n7, XL, H⟩ := hrel
      by_cases hlt : (n : Int) ≤ q
      · go_wp2_with fail
        refine (dice_any _ _ a len cap 9 _ (H.out.1.left.cur H3.out.1) (by omega)).mono ?_
        rintro e w5 ⟨x, rfl, x0, x1, _, L5⟩
        have H5 : Hid (OwnD 61 w1.heap.size a len cap w3 w5 g cp xs ∧ wts60 xs = true) := ⟨H.out.1.draw p3 L5, H.out.2⟩
        clear L5 H
        go_wp2_with (at_builtin; refine wpList_append_ints rfl (.tmp 25) (.tmp 29) 27 rfl i0 Try.underlying27 hi0 hz0 hz1 hz2 _ _ _ xs rfl XL.out.symm (H5.out.1.row.alloc _) _ _ _ [1 + x] rfl (ints_one _ _ _) (by rw [XL.out]; omega) ?_)
        intro g' cp' w6 R6 G6 D6
        have H6 : Hid (OwnD 61 w1.heap.size a len cap w3 w6 g' cp' (xs ++ [1 + x]) ∧ wts60 (xs ++ [1 + x]) = true) := ⟨H5.out.1.append p3 R6 G6 D6, wts60_append H5.out.2 (by omega) (by omega)⟩
        clear R6 G6 D6 H5
        go_wp2_with fail
        go_roundw
        case rel => exact ⟨n + 1, g', cp', xs ++ [1 + x], rfl, by omega, by omega, by show _ = _; rw [List.length_append, XL.out]; rfl, H6⟩
        case measure => simp; omega
      · have hlt' : ¬ (n : Int) ≤ q := hlt
        have HX : Hid (crewOk xs = true ∧ xs.length = n) := ⟨(hands_crew H.out.2 (by rw [XL.out]; exact n1) (by rw [XL.out]; exact n7)).1, XL.out⟩
        have hp : procsOk q = true := by simp [procsOk, within]; omega
        have H5 : Hid (Below w1.heap.size w1 wr ∧ Ints wr (some ⟨g, 0, none⟩) n xs) := ⟨H3.out.2.trans (left_below H.out.1.left (Nat.le_refl _) p3), by have := H.out.1.row.ints; rwa [XL.out] at this⟩
        clear H XL
        go_wp2_with fail
        refine (specAdj _ n cp xs q _ H5.out.2 (by omega)).mono ?_
        rintro e w6 ⟨gs, cs, rfl, R6, hgs, B6⟩
        obtain ⟨ps, hps⟩ : ∃ ps, ps = adjusted xs q := ⟨_, rfl⟩
        rw [← hps] at R6 ⊢
        have hpl : ps.length = n := by
          obtain ⟨c, P, W, F⟩ := fairly HX.out.1 hp
          rw [hps, F.len, HX.out.2]
        have hfit : fitsOn ps q = true := by
          obtain ⟨c, P, W, F⟩ := fairly HX.out.1 hp
          rw [hps]
          exact F.fits HX.out.1 hp
        have HP : Hid (fitsOn ps q = true ∧ ps.length = n) := ⟨hfit, hpl⟩
        have HLen : Hid (∀ i, i < 60 → ((mLists ps (List.replicate ps.length 0) q 0 60).getD i []).length = q.toNat) := by
          intro i hi
          rw [hps]
          exact busy_len HX.out.1 hp (by rw [HX.out.2]; omega) hi
        have H6 : Hid (Below w1.heap.size w1 w6 ∧ Shs w6 (some ⟨gs, 0, none⟩) n ps) := ⟨below_call H5.out.1 H5.out.1.size B6, by have := R6.shs; rwa [hpl] at this⟩
        rw [hpl]
        clear R6 B6 H5 hps hpl hfit hgs hp
        go_wp2_with fail
        refine (implNewM (some ⟨gs, 0, none⟩) n cs ps q _ H6.out.2 (by omega)).mono ?_
        rw [(nm_yes HP.out.1).1, (nm_yes HP.out.1).2.1, (nm_yes HP.out.1).2.2, HP.out.1]
        rintro e w7 ⟨b, lb, cb, d, ld, cd, rfl, Fb, Fd, Dd, B7⟩
        have H7 : Hid (Shs (w7.alloc (.cells #[.slice b lb cb, .slice d ld cd, .int .i64 q, .int .i64 0] 33)) b lb ps ∧ Ints (w7.alloc (.cells #[.slice b lb cb, .slice d ld cd, .int .i64 q, .int .i64 0] 33)) d ld (List.replicate ps.length 0) ∧ Mny (w7.alloc (.cells #[.slice b lb cb, .slice d ld cd, .int .i64 q, .int .i64 0] 33)) w7.heap.size (.slice b lb cb) (.slice d ld cd) q 0 ∧ Below w1.heap.size w1 (w7.alloc (.cells #[.slice b lb cb, .slice d ld cd, .int .i64 q, .int .i64 0] 33))) :=
          ⟨Fb.shs.alloc _, Fd.ints.alloc _, mny_new _ _ _ _ _, below_call (below_call H6.out.1 H6.out.1.size B7) (Nat.le_trans H6.out.1.size B7.size) (below_new _ _)⟩
        have hlb : (lb : Int) ≤ 1048576 := by have := Fb.1; have := HP.out.2; omega
        clear Fb Fd Dd B7 H6
        have t0 := H7.out.2.2.1.c0
        have t1 := H7.out.2.2.1.c1
        have t2 := H7.out.2.2.1.c2
        have t3 := H7.out.2.2.1.c3
        go_wp2_with fail
        refine (implRunM b lb cb ps d ld cd (List.replicate ps.length 0) q 0 60 _ H7.out.1 H7.out.2.1 hlb).mono ?_
        have hr := rm_yes (busy_run HP.out.1)
        rw [hr.1, hr.2.1, hr.2.2.1, hr.2.2.2.1, hr.2.2.2.2]
        clear t0 t1 t2 t3 hr
        rintro e w8 ⟨b', lb', cb', d', ld', cd', hh, c, vs, rfl, F, G, D, n3, n4, n5, T, L, B8⟩
        rw [show ((60 : Int).toNat) = 60 from rfl] at L ⊢
        obtain ⟨LL, hLL⟩ : ∃ LL, LL = mLists ps (List.replicate ps.length 0) q 0 60 := ⟨_, rfl⟩
        have e60 : LL.length = 60 := by rw [hLL]; exact mLists_len _ _ _ _ _
        have HLL : Hid ((∀ i, i < 60 → (LL.getD i []).length = q.toNat) ∧ (∀ i j, i < 60 → j + 1 < (LL.getD i []).length → (LL.getD i []).getD j 0 < (LL.getD i []).getD (j + 1) 0)) := by
          rw [hLL]
          exact ⟨HLen.out, fun i j hi hj => busy_asc ps q hi hj⟩
        rw [← hLL] at L ⊢
        rw [e60, show (0 : Int) + 60 = 60 from rfl]
        have HE : Hid (LL.length = 60) := e60
        generalize Taken b' d' hh = ex at L
        have hlo : w7.heap.size ≤ w7.heap.size := Nat.le_refl _
        have H8 : Hid (Bz w1 (w8.alloc (.cells #[.slice b' lb' cb', .slice d' ld' cd', .int .i64 q, .int .i64 60] 33)) hh c vs ex _ _ LL ∧ Mny (w8.alloc (.cells #[.slice b' lb' cb', .slice d' ld' cd', .int .i64 q, .int .i64 60] 33)) w8.heap.size (.slice b' lb' cb') (.slice d' ld' cd') q 60) :=
          ⟨⟨T.all (below_new _ _), L.all (below_new _ _), below_call (below_call H7.out.2.2.2 H7.out.2.2.2.size B8) (Nat.le_trans H7.out.2.2.2.size B8.size) (below_new _ _)⟩, mny_new _ _ _ _ _⟩
        clear F G D n3 n4 n5 T L B8 H7 hLL e60 HLen HP hlo
        obtain ⟨Q, rfl⟩ := Int.eq_ofNat_of_zero_le (show 0 ≤ q by omega)
        rw [Int.toNat_natCast] at HLL
        have t3 := H8.out.2.c3
        go_wp2_with fail
        clear t3
        go_loopw [10] (fun v wr => ∃ i : Nat, v = .int .i64 i ∧ i ≤ 60 ∧ Hid (Bz w1 wr hh c vs ex _ _ LL)) (fun v _ => 60 - (intOf v).toNat)
        case atStart => exact ⟨0, rfl, Nat.zero_le _, H8.out.1⟩
        case round =>
          obtain ⟨i, rfl, hi, G⟩ := hrel
          by_cases hlt2 : i < 60
          · have hlt2' : (i : Int) < 60 := by omega
            obtain ⟨a', n', c', l', m', e1, S, _, _, _, _⟩ := G.out.lst.get (i := i) (by rw [HE.out]; exact hlt2)
            have hn' : n' = Q := by
              have h1 := S.fit.1
              have h2 := HLL.out.1 i hlt2
              omega
            subst hn'
            obtain ⟨g', rfl, R⟩ := busy_row S.fit (by omega)
            have HRow : Hid (Row wr g' c' (LL.getD i [])) := R
            have HV : Hid (vs[i]? = some (.slice (some ⟨g', 0, none⟩) n' c')) := e1
            have hcl := G.out.tms.cell e1
            clear R e1 S
            go_wp2_with fail
            have hcl' := hcl
            clear hcl
            go_loopw [11] (fun v wq => ∃ j : Nat, v = .int .i64 ((j : Int) + 1) ∧ j + 1 ≤ n' ∧ Hid (Bz w1 wq hh c vs ex _ _ LL ∧ Row wq g' c' (LL.getD i []))) (fun v _ => n' - (intOf v).toNat)
            case atStart => exact ⟨0, by go_num, by omega, ⟨G.out, HRow.out⟩⟩
            case round =>
              obtain ⟨j, rfl, hj, GG⟩ := hrel
              clear hcl'
              have hcl := GG.out.1.tms.cell HV.out
              have hln := HLL.out.1 i hlt2
              by_cases hlt3 : j + 1 < n'
              · have hlt3' : (j : Int) + 1 < (n' : Int) := by omega
                have c0 := GG.out.2.cell (j := j) (by omega)
                have c1 := GG.out.2.cell (j := j + 1) (by omega)
                have has := HLL.out.2 i j hlt2 (by omega)
                generalize (LL.getD i []).getD j 0 = z0 at *
                generalize (LL.getD i []).getD (j + 1) 0 = z1 at *
                have hz : ¬ z1 ≤ z0 := by omega
                go_wp2_with fail
                go_quiet (fail)
                go_wp2_with fail
                go_roundw
                case rel => exact ⟨j + 1, by go_num, by omega, ⟨GG.out.1.keep (below_drewN (Below.refl _ _) _), row_drewN GG.out.2 _⟩⟩
                case measure => simp [intOf]; omega
              · have hlt3' : ¬ (j : Int) + 1 < (n' : Int) := by omega
                go_wp2_with fail
                go_roundw
                case rel => exact ⟨i + 1, by go_num, by omega, GG.out.1⟩
                case measure => simp [intOf]; omega
          · have hlt2' : ¬ (i : Int) < 60 := by omega
            go_wp2_with fail
            go_ret
            exact ⟨rfl, G.out.bel⟩

end Go.Proofs.Ytjhenfdmbagaiaa.Crew
