/-
  The law FnTop: whatever the code, it answers true and nothing that was there is written: on several processors nobody is ever a whole turn ahead or behind.
-/
import Derived.Test.YtjhenfdmbagaiaaManyRunI
import Derived.Test.YtjhenfdmbagaiaaTopMany
import Derived.Test.YtjhenfdmbagaiaaAdjSpec
import Derived.Test.YtjhenfdmbagaiaaHands
import Derived.Test.YtjhenfdmbagaiaaLikeShs
namespace Go.Proofs.Ytjhenfdmbagaiaa.Crew
open Go.ChangeShapes Go.WideShapes Go.ChangeAt Go.RowKit Go.Proofs.Ytjhenfdmbagaiaa.Win
open Go.Proofs.Ytjhenfdmbagaiaa.Draw (Bytes big_any roll_any Cur cur_new new_below hands_any hands_crew dice_any left_below OwnD)

/-- What the law keeps from one time to the next: a Many in block r, the Shares of the crew in block gs. -/
structure Ts (w0 wr : World) (r : Nat) (a : Option Addr) (la ca : Nat) (d : Option Addr) (ld cd gs cs : Nat) (ps : List Shr) (ns : List Int) (q p : Int) : Prop where
  box : Mny wr r (.slice a la ca) (.slice d ld cd) q p
  sh : SFit wr w0.heap.size a la ca ps
  cn : Fit wr w0.heap.size d ld cd ns
  all : SRow wr gs cs ps
  bel : Below w0.heap.size w0 wr
  r0 : w0.heap.size ≤ r
  n1 : ∀ x, a = some x → x.block ≠ r
  n2 : ∀ x, d = some x → x.block ≠ r
  n3 : gs ≠ r
  g0 : w0.heap.size ≤ gs

theorem Ts.keep {w0 wr w' : World} {r : Nat} {a : Option Addr} {la ca : Nat} {d : Option Addr} {ld cd gs cs : Nat} {ps : List Shr} {ns : List Int} {q p : Int} (h : Ts w0 wr r a la ca d ld cd gs cs ps ns q p) (k : Below wr.heap.size wr w') : Ts w0 w' r a la ca d ld cd gs cs ps ns q p :=
  ⟨h.box.all k, h.sh.all k, h.cn.all k, h.all.all k, below_call h.bel h.bel.size k, h.r0, h.n1, h.n2, h.n3, h.g0⟩

/-- The new one over the elder one. -/
theorem ts_over {w0 W : World} {r s : Nat} {a : Option Addr} {la ca : Nat} {d : Option Addr} {ld cd gs cs : Nat} {ps : List Shr} {ns : List Int} {q p : Int} {x y : Value} {i j : Int} (h : Ts w0 W s a la ca d ld cd gs cs ps ns q p) (R : Mny W r x y i j) (r0 : w0.heap.size ≤ r) (n1 : ∀ x, a = some x → x.block ≠ r) (n2 : ∀ x, d = some x → x.block ≠ r) (n3 : gs ≠ r) :
    Ts w0 ((((W.setCell ⟨r, 0, none⟩ (.slice a la ca)).setCell ⟨r, 1, none⟩ (.slice d ld cd)).setCell ⟨r, 2, none⟩ (.int .i64 q)).setCell ⟨r, 3, none⟩ (.int .i64 p)) r a la ca d ld cd gs cs ps ns q p := by
  refine ⟨(((R.set0 _).set1 _).set2 q).set3 p, ?_, ?_, ?_, ?_, r0, n1, n2, n3, h.g0⟩
  · exact h.sh.still fun x hx => four_still W r _ _ _ _ (h.sh.ge hx).2 (n1 x hx)
  · exact h.cn.still fun x hx => four_still W r _ _ _ _ (h.cn.ge hx).2 (n2 x hx)
  · exact (((h.all.past n3 _).past n3 _).past n3 _).past n3 _
  · exact below_set (below_set (below_set (below_set h.bel r0 _) r0 _) r0 _) r0 _

theorem top_ok {ps : List Shr} {q : Int} (h : fitsOn ps q = true) {k : Nat} (hk : k < 1000000) : runOkM ps (mAt ps (List.replicate ps.length 0) q 0 k) q (k : Int) 1 = true ∧ manyOk ps (mAt ps (List.replicate ps.length 0) q 0 k) q (k : Int) = true := by
  have h0 : cnts (List.replicate ps.length (0 : Int)) = true := by
    rw [cnts, List.all_eq_true]
    intro x hx
    rw [List.eq_of_mem_replicate hx]
    rfl
  have h1 : manyOk ps (mAt ps (List.replicate ps.length 0) q 0 k) q (k : Int) = true :=
    many_end h (by rw [mAt_len, List.length_replicate]) (by simp [within]; omega) (mAt_cnts h0 k)
  refine ⟨?_, h1⟩
  rw [runOkM, h1, decide_eq_true (show (k : Int) + 1 ≤ 1000000 by omega)]
  rfl

theorem top_next {ps : List Shr} {q : Int} {k : Nat} (h : runOkM ps (mAt ps (List.replicate ps.length 0) q 0 k) q (k : Int) 1 = true) :
    rmS ps (mAt ps (List.replicate ps.length 0) q 0 k) q (k : Int) 1 = ps ∧ rmC ps (mAt ps (List.replicate ps.length 0) q 0 k) q (k : Int) 1 = mAt ps (List.replicate ps.length 0) q 0 (k + 1) ∧ rmQ ps (mAt ps (List.replicate ps.length 0) q 0 k) q (k : Int) 1 = q ∧ rmT ps (mAt ps (List.replicate ps.length 0) q 0 k) q (k : Int) 1 = (k : Int) + 1 ∧ nxL ps (mAt ps (List.replicate ps.length 0) q 0 k) q (k : Int) = icast (mList ps (mAt ps (List.replicate ps.length 0) q 0 k) q (k : Int)) := by
  obtain ⟨h1, h2, h3, h4, _⟩ := rm_yes h
  refine ⟨h1, ?_, h3, h4, nxL_yes h⟩
  rw [h2]
  show mNext ps (mAt ps (List.replicate ps.length 0) q 0 k) q ((k : Int) + ((0 : Nat) : Int)) = mNext ps (mAt ps (List.replicate ps.length 0) q 0 k) q (0 + (k : Int))
  congr 1
  omega

theorem top_lag0 {ps : List Shr} {q : Int} (h : fitsOn ps q = true) {k i : Nat} (hk : k < 1000000) (hi : i < ps.length) : lagIn ps (mAt ps (List.replicate ps.length 0) q 0 k) q (k : Int) (i : Int) = true ∧ - (ps.getD i (0, 0)).2 < manyLag ps (mAt ps (List.replicate ps.length 0) q 0 k) q (k : Int) (i : Int) ∧ manyLag ps (mAt ps (List.replicate ps.length 0) q 0 k) q (k : Int) (i : Int) < (ps.getD i (0, 0)).2 := by
  obtain ⟨D, e, E, hs, _⟩ := Top.fits_even h
  have hl : lagIn ps (mAt ps (List.replicate ps.length 0) q 0 k) q (k : Int) (i : Int) = true := by
    rw [lagIn, (top_ok h hk).2]
    simp [within]
    omega
  have hw := Top.never_whole E hs hk hi
  refine ⟨hl, ?_⟩
  rw [lag_yes hl, Int.toNat_natCast]
  exact ⟨hw.2, hw.1⟩

theorem top_lag {ps : List Shr} {q : Int} (h : fitsOn ps q = true) {k i : Nat} (hk : k < 120) (hi : i < ps.length) : lagIn ps (mAt ps (List.replicate ps.length 0) q 0 (k + 1)) q ((k : Int) + 1) (i : Int) = true ∧ - (ps.getD i (0, 0)).2 < manyLag ps (mAt ps (List.replicate ps.length 0) q 0 (k + 1)) q ((k : Int) + 1) (i : Int) ∧ manyLag ps (mAt ps (List.replicate ps.length 0) q 0 (k + 1)) q ((k : Int) + 1) (i : Int) < (ps.getD i (0, 0)).2 ∧ 0 ≤ (ps.getD i (0, 0)).2 ∧ (ps.getD i (0, 0)).2 ≤ 100000000 := by
  have h1 := top_lag0 h (k := k + 1) (i := i) (by omega) hi
  have e : ((k + 1 : Nat) : Int) = (k : Int) + 1 := by omega
  rw [e] at h1
  have h2 := fits_share h hi
  simp only [shareOk, within, Bool.and_eq_true, decide_eq_true_eq] at h2
  exact ⟨h1.1, h1.2.1, h1.2.2, by omega, by omega⟩

set_option maxRecDepth 100000 in
set_option maxHeartbeats 8000000 in
/-- The law FnTop. -/
theorem lawFnTop (a : Option Addr) (len cap : Nat) (w : World) (B : Bytes w a len) :
    Calls Try.prog 3 #[.slice a len cap] w fun e w' => e = .returned (.bool true) ∧ Below w.heap.size w w' := by
  have HB : Hid (Bytes w a len) := B
  clear B
  by_cases hbig : (4096 : Int) < (len : Int)
  · go_enter Try.func3, Try.ntmps3
    go_wp2_with fail
    refine (big_any a len cap _).mono ?_
    rw [decide_eq_true hbig]
    rintro e w1 ⟨rfl, rfl⟩
    go_wp2_with fail
    go_ret
    exact ⟨rfl, Below.refl _ _⟩
  · have ht : len ≤ 9223372036854775806 := by omega
    have HBG : Hid (decide ((4096 : Int) < (len : Int)) = false) := decide_eq_false hbig
    clear hbig
    go_enter Try.func3, Try.ntmps3
    go_wp2_with fail
    refine (big_any a len cap _).mono ?_
    rw [HBG.out]
    rintro e w1 ⟨rfl, rfl⟩
    go_wp2_with fail
    refine (roll_any a len cap 1 _ HB.out ht).mono ?_
    rintro e w2 ⟨rfl, h, L2⟩
    have C2 := L2.cur (cur_new HB.out ht h)
    have B2 := new_below L2
    have p2 := C2.lt
    have H2 : Hid (Cur .u64 61 w1.heap.size a len cap w2 ∧ Below w1.heap.size w1 w2) := ⟨C2, B2⟩
    clear L2 C2 B2
    go_wp2_with fail
    refine (hands_any _ _ a len cap _ H2.out.1).mono ?_
    rintro e w3 ⟨g, cp, xs, rfl, O3, n1, n7, wt⟩
    obtain ⟨hcr, h420⟩ := hands_crew wt n1 n7
    obtain ⟨n, hn⟩ : ∃ n, n = xs.length := ⟨_, rfl⟩
    rw [← hn]
    have H3 : Hid (Below w1.heap.size w1 w3 ∧ OwnD 61 w1.heap.size a len cap w2 w3 g cp xs ∧ Cur .u64 61 w1.heap.size a len cap w3) := ⟨H2.out.2.trans (left_below O3.left (Nat.le_refl _) p2), O3, O3.left.cur H2.out.1⟩
    have HX : Hid (crewOk xs = true ∧ xs.length = n ∧ n ≤ 7) := ⟨hcr, hn.symm, by omega⟩
    have hn7 : (n : Int) ≤ 7 := by omega
    clear O3 H2 hcr h420 hn wt n1 n7
    go_wp2_with fail
    refine (dice_any _ _ a len cap 4 _ H3.out.2.2 (by omega)).mono ?_
    rintro e w4 ⟨y, rfl, y0, y1, _, L4⟩
    have H4 : Hid (Below w1.heap.size w1 w4 ∧ Ints w4 (some ⟨g, 0, none⟩) n xs) := ⟨H3.out.1.trans (left_below L4 (Nat.le_refl _) H3.out.2.2.lt), by have := (H3.out.2.1.draw p2 L4).row.ints; rwa [HX.out.2.1] at this⟩
    clear L4 H3 p2
    go_wp2_with fail
    have hq1 : 1 ≤ 1 + y ∧ 1 + y ≤ 4 := by omega
    generalize 1 + y = q at *
    clear y0 y1
    have hp : procsOk q = true := by simp [procsOk, within]; omega
    refine (implAdj _ n cp xs q _ H4.out.2).mono ?_
    rintro e w5 ⟨gs, cs, rfl, R5, hgs, B5⟩
    obtain ⟨ps, hps⟩ : ∃ ps, ps = adjusted xs q := ⟨_, rfl⟩
    rw [← hps] at R5 ⊢
    have hpl : ps.length = n := by
      obtain ⟨c, P, W, F⟩ := fairly HX.out.1 hp
      rw [hps, F.len, HX.out.2.1]
    have hfit : fitsOn ps q = true := by
      obtain ⟨c, P, W, F⟩ := fairly HX.out.1 hp
      rw [hps]
      exact F.fits HX.out.1 hp
    have HP : Hid (ps = adjusted xs q ∧ fitsOn ps q = true ∧ ps.length = n) := ⟨hps, hfit, hpl⟩
    have H5 : Hid (Below w1.heap.size w1 w5 ∧ Ints w5 (some ⟨g, 0, none⟩) n xs ∧ SRow w5 gs cs ps ∧ Shs w5 (some ⟨gs, 0, none⟩) n ps ∧ w1.heap.size ≤ gs) := ⟨below_call H4.out.1 H4.out.1.size B5, H4.out.2.kept B5, R5, by have := R5.shs; rwa [hpl] at this, Nat.le_trans H4.out.1.size hgs⟩
    rw [hpl]
    clear R5 B5 H4 hps hpl hfit hgs hp
    go_wp2_with fail
    refine (implNewM (some ⟨gs, 0, none⟩) n cs ps q _ H5.out.2.2.2.1 (by omega)).mono ?_
    rw [(nm_yes HP.out.2.1).1, (nm_yes HP.out.2.1).2.1, (nm_yes HP.out.2.1).2.2, HP.out.2.1]
    rintro e w6 ⟨b, lb, cb, d, ld, cd, rfl, Fb, Fd, Dd, B6⟩
    have hgl : gs < w5.heap.size := H5.out.2.2.1.lt
    have H6 : Hid (Ts w1 (w6.alloc (.cells #[.slice b lb cb, .slice d ld cd, .int .i64 q, .int .i64 0] 33)) w6.heap.size b lb cb d ld cd gs cs ps (mAt ps (List.replicate ps.length 0) q 0 0) q ((0 : Nat) : Int) ∧ Ints (w6.alloc (.cells #[.slice b lb cb, .slice d ld cd, .int .i64 q, .int .i64 0] 33)) (some ⟨g, 0, none⟩) n xs) := by
      have hb := H5.out.1.size
      have R6 := H5.out.2.2.1.all B6
      refine ⟨⟨mny_new _ _ _ _ _, (Fb.all (below_new _ _)).mono hb, (Fd.all (below_new _ _)).mono hb, R6.alloc _, ?_, ?_, fun x hx => Nat.ne_of_lt (Fb.ge hx).2, fun x hx => Nat.ne_of_lt (Fd.ge hx).2, Nat.ne_of_lt R6.lt, H5.out.2.2.2.2⟩, (H5.out.2.1.kept B6).alloc _⟩
      · exact below_call (below_call H5.out.1 H5.out.1.size B6) (Nat.le_trans H5.out.1.size B6.size) (below_new _ _)
      · exact Nat.le_trans H5.out.1.size B6.size
    have hs6 : w1.heap.size ≤ w6.heap.size := Nat.le_trans H5.out.1.size B6.size
    clear Fb Fd Dd B6 H5 hgl
    go_wp2_with fail
    refine (specAdj _ n cp xs q _ H6.out.2 (by omega)).mono ?_
    rw [← HP.out.1, HP.out.2.2]
    rintro e w7 ⟨gt, ct, rfl, R7, hgt, B7⟩
    have H7 : Hid (Ts w1 w7 w6.heap.size b lb cb d ld cd gs cs ps (mAt ps (List.replicate ps.length 0) q 0 0) q ((0 : Nat) : Int) ∧ Shs w7 (some ⟨gt, 0, none⟩) n ps ∧ Shs w7 (some ⟨gs, 0, none⟩) n ps) := by
      have hk := H6.out.1.keep B7
      exact ⟨hk, by have := R7.shs; rwa [HP.out.2.2] at this, by have := hk.all.shs; rwa [HP.out.2.2] at this⟩
    clear R7 B7 H6 hgt
    generalize w6.heap.size = r at *
    go_wp2_with fail
    refine (likeShares_same _ n cs ps _ n ct _ H7.out.2.2 H7.out.2.1 (by omega)).mono ?_
    rintro e w8 ⟨rfl, B8⟩
    have H8 : Hid (Ts w1 w8 r b lb cb d ld cd gs cs ps (mAt ps (List.replicate ps.length 0) q 0 0) q ((0 : Nat) : Int)) := H7.out.1.keep B8
    clear B8 H7
    have hlb : lb = n := by have := H8.out.sh.1; have := HP.out.2.2; omega
    have hld : ld = n := by have := H8.out.cn.1; rw [mAt_len, List.length_replicate] at this; have := HP.out.2.2; omega
    rw [hlb, hld] at H8 ⊢
    clear hlb hld lb ld
    go_wp2_with fail
    go_loopw [9] (fun v wr => ∃ (k : Nat) (b : Option Addr) (cb : Nat) (d : Option Addr) (cd : Nat), v = .int .i64 k ∧ k ≤ 120 ∧ Hid (Ts w1 wr r b n cb d n cd gs cs ps (mAt ps (List.replicate ps.length 0) q 0 k) q (k : Int))) (fun v _ => 120 - (intOf v).toNat)
    case atStart => exact ⟨0, b, cb, d, cd, rfl, Nat.zero_le _, H8⟩
    case round =>
      obtain ⟨k, b, cb, d, cd, rfl, hk, H⟩ := hrel
      by_cases hlt : k < 120
      · have hlt' : (k : Int) < 120 := by omega
        have hok := top_ok HP.out.2.1 (k := k) (by omega)
        have hnx := top_next hok.1
        clear hok
        have HNX : Hid _ := hnx
        clear hnx
        have t0 := H.out.box.c0
        have t1 := H.out.box.c1
        have t2 := H.out.box.c2
        have t3 := H.out.box.c3
        go_wp2_with fail
        refine (implNextM b n cb ps d n cd _ q (k : Int) _ H.out.sh.shs H.out.cn.ints (by omega)).mono ?_
        rw [HNX.out.1, HNX.out.2.1, HNX.out.2.2.1, HNX.out.2.2.2.1, HNX.out.2.2.2.2]
        rintro e w9 ⟨b', lb', cb', d', ld', cd', v, m, c, rfl, Fb, Fd, Fv, Db, Dv, Dw, B9⟩
        have hm : (m : Int) ≤ q := by
          have h1 := Fv.1
          have h2 := mList_procs (ps := ps) (ns := mAt ps (List.replicate ps.length 0) q 0 k) (q := q) (now := (k : Int))
          rw [icast, List.length_map] at h1
          omega
        have hlb : lb' = n := by have := Fb.1; have := HP.out.2.2; omega
        have hld : ld' = n := by have := Fd.1; rw [mAt_len, List.length_replicate] at this; have := HP.out.2.2; omega
        rw [hlb] at Fb ⊢
        rw [hld] at Fd ⊢
        clear hlb hld lb' ld' t0 t1 t2 t3
        have h9 := (H.out.keep B9).box.lt
        have HN : Hid (Ts w1 (w9.alloc (.cells #[.slice b' n cb', .slice d' n cd', .int .i64 q, .int .i64 ((k : Int) + 1)] 33)) w9.heap.size b' n cb' d' n cd' gs cs ps (mAt ps (List.replicate ps.length 0) q 0 (k + 1)) q ((k : Int) + 1) ∧ Mny (w9.alloc (.cells #[.slice b' n cb', .slice d' n cd', .int .i64 q, .int .i64 ((k : Int) + 1)] 33)) r (.slice b n cb) (.slice d n cd) q k ∧ r < wr.heap.size ∧ (∀ x, b' = some x → wr.heap.size ≤ x.block) ∧ (∀ x, d' = some x → wr.heap.size ≤ x.block) ∧ r < w9.heap.size) := by
          have K := H.out.keep B9
          have hb := H.out.bel.size
          refine ⟨⟨mny_new _ _ _ _ _, (Fb.all (below_new _ _)).mono hb, (Fd.all (below_new _ _)).mono hb, K.all.alloc _, ?_, ?_, fun x hx => Nat.ne_of_lt (Fb.ge hx).2, fun x hx => Nat.ne_of_lt (Fd.ge hx).2, Nat.ne_of_lt K.all.lt, H.out.g0⟩, K.box.alloc _, H.out.box.lt, fun x hx => (Fb.ge hx).1, fun x hx => (Fd.ge hx).1, h9⟩
          · exact below_call K.bel K.bel.size (below_new _ _)
          · exact K.bel.size
        have HR : Hid (w1.heap.size ≤ r ∧ (∀ x, b' = some x → x.block ≠ r) ∧ (∀ x, d' = some x → x.block ≠ r) ∧ gs ≠ r) := ⟨H.out.r0, fun x hx => by have := (Fb.ge hx).1; have := H.out.box.lt; omega, fun x hx => by have := (Fd.ge hx).1; have := H.out.box.lt; omega, H.out.n3⟩
        have HL : Hid (Fit w9 wr.heap.size v m c (icast (mList ps (mAt ps (List.replicate ps.length 0) q 0 k) q (k : Int)))) := Fv
        have hne : r ≠ w9.heap.size := Nat.ne_of_lt h9
        have hmm : (m : Int) ≤ 9223372036854775807 := by omega
        clear Fb Fd Fv Db Dv Dw B9 h9
        have t3 := HN.out.2.1.c3
        have s1 := HN.out.1.box.c1
        have s3 := HN.out.1.box.c3
        go_wp2_with fail
        clear t3 s1 s3
        have HN2 : Hid (Ts w1 (w9.alloc (.cells #[.slice b' n cb', .slice d' n cd', .int .i64 q, .int .i64 ((k : Int) + 1)] 33)) w9.heap.size b' n cb' d' n cd' gs cs ps (mAt ps (List.replicate ps.length 0) q 0 (k + 1)) q ((k : Int) + 1) ∧ Mny (w9.alloc (.cells #[.slice b' n cb', .slice d' n cd', .int .i64 q, .int .i64 ((k : Int) + 1)] 33)) r (.slice b n cb) (.slice d n cd) q k) := ⟨HN.out.1, HN.out.2.1⟩
        go_loopw [12] (fun v wq => ∃ j : Nat, v = .int .i64 j ∧ j ≤ n ∧ Hid (Ts w1 wq w9.heap.size b' n cb' d' n cd' gs cs ps (mAt ps (List.replicate ps.length 0) q 0 (k + 1)) q ((k : Int) + 1) ∧ Mny wq r (.slice b n cb) (.slice d n cd) q k)) (fun v _ => n - (intOf v).toNat)
        case atStart => exact ⟨0, rfl, Nat.zero_le _, HN2⟩
        case round =>
          obtain ⟨j, rfl, hj, G⟩ := hrel
          by_cases hlt2 : j < n
          · have hlt2' : (j : Int) < (n : Int) := by omega
            have hlag := top_lag HP.out.2.1 (k := k) (i := j) hlt (by rw [HP.out.2.2]; exact hlt2)
            have HLG : Hid (lagIn ps (mAt ps (List.replicate ps.length 0) q 0 (k + 1)) q ((k : Int) + 1) (j : Int) = true) := hlag.1
            obtain ⟨-, g1, g2, g3, g4⟩ := hlag
            have t0 := G.out.1.box.c0
            have t1 := G.out.1.box.c1
            have t2 := G.out.1.box.c2
            have t3 := G.out.1.box.c3
            go_wp2_with fail
            refine (implManyLag b' n cb' ps d' n cd' _ q ((k : Int) + 1) (j : Int) _ G.out.1.sh.shs G.out.1.cn.ints (by omega)).mono ?_
            rw [HLG.out]
            clear t0 t1 t2 t3
            rintro e w10 ⟨rfl, B10⟩
            have G2 : Hid (Ts w1 w10 w9.heap.size b' n cb' d' n cd' gs cs ps (mAt ps (List.replicate ps.length 0) q 0 (k + 1)) q ((k : Int) + 1) ∧ Mny w10 r (.slice b n cb) (.slice d n cd) q k) := ⟨G.out.1.keep B10, G.out.2.all B10⟩
            clear B10
            have s1 := G2.out.1.all.c1 (j := j) (by rw [HP.out.2.2]; exact hlt2)
            generalize manyLag ps (mAt ps (List.replicate ps.length 0) q 0 (k + 1)) q ((k : Int) + 1) (j : Int) = z at *
            generalize (ps.getD j (0, 0)).2 = D at *
            go_wp2_with fail
            go_roundw
            case rel => exact ⟨j + 1, by go_num, by omega, G2⟩
            case measure => simp [intOf]; omega
          · have hlt2' : ¬ (j : Int) < (n : Int) := by omega
            have t0 := G.out.1.box.c0
            have t1 := G.out.1.box.c1
            have t2 := G.out.1.box.c2
            have t3 := G.out.1.box.c3
            have x0 := G.out.2.c0
            have x1 := G.out.2.c1
            have x2 := G.out.2.c2
            have x3 := G.out.2.c3
            have f0 := G.out.2.fr 0
            have f1 := G.out.2.fr 1
            have f2 := G.out.2.fr 2
            have f3 := G.out.2.fr 3
            go_wp2_with fail
            go_roundw
            case rel =>
              refine ⟨k + 1, b', cb', d', cd', by go_num, by omega, ?_⟩
              have e : ((k + 1 : Nat) : Int) = (k : Int) + 1 := by omega
              rw [e]
              exact ts_over G.out.1 G.out.2 HR.out.1 HR.out.2.1 HR.out.2.2.1 HR.out.2.2.2
            case measure => simp [intOf]; omega
      · have hlt' : ¬ (k : Int) < 120 := by omega
        have hok := top_ok HP.out.2.1 (k := k) (by omega)
        have HO : Hid (manyOk ps (mAt ps (List.replicate ps.length 0) q 0 k) q (k : Int) = true) := hok.2
        have t0 := H.out.box.c0
        have t1 := H.out.box.c1
        have t2 := H.out.box.c2
        have t3 := H.out.box.c3
        clear hok
        go_wp2_with fail
        refine (implManyX b n cb ps d n cd _ q (k : Int) _ H.out.sh.shs H.out.cn.ints (by omega)).mono ?_
        rw [HO.out]
        rintro e w9 ⟨rfl, B9⟩
        have H9 : Hid (Below w1.heap.size w1 w9) := (H.out.keep B9).bel
        clear B9
        go_wp2_with fail
        go_ret
        exact ⟨rfl, H9.out⟩

end Go.Proofs.Ytjhenfdmbagaiaa.Crew
