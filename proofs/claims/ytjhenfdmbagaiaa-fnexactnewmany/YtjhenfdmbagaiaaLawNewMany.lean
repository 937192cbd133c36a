/-
  A Many that was answered and lies in a variable: its block, its two slices in blocks of the call's own, between two bounds; and what a store between other bounds leaves of it. The law FnExactNewMany.
-/
import Derived.Test.YtjhenfdmbagaiaaManyNewS
import Derived.Test.YtjhenfdmbagaiaaManyLaws
import Derived.Test.YtjhenfdmbagaiaaShsCopy
namespace Go.Proofs.Ytjhenfdmbagaiaa.Crew
open Go.ChangeShapes Go.WideShapes Go.ChangeAt Go.RowKit

/-- A slice of Shares of the call's own, between two bounds. -/
structure SSl (w : World) (lo hi : Nat) (a : Option Addr) (len cap : Nat) (xs : List Shr) : Prop where
  fit : SFit w lo a len cap xs
  under : Under hi a
  top : hi ≤ w.heap.size

theorem SSl.all {w w' : World} {lo hi : Nat} {a : Option Addr} {len cap : Nat} {xs : List Shr} (h : SSl w lo hi a len cap xs) (k : Below w.heap.size w w') : SSl w' lo hi a len cap xs :=
  ⟨h.fit.all k, h.under, Nat.le_trans h.top k.size⟩

theorem SSl.wr {w w' : World} {lo hi l2 h2 : Nat} {a : Option Addr} {len cap : Nat} {xs : List Shr} (h : SSl w lo hi a len cap xs) (k : Wr l2 h2 w w') (hd : hi ≤ l2 ∨ h2 ≤ lo) : SSl w' lo hi a len cap xs :=
  ⟨h.fit.still (fun x hx => k.block _ (h.fit.ge hx).2 (by have := (h.fit.ge hx).1; have := h.under x hx; omega)), h.under, Nat.le_trans h.top k.size⟩

theorem SSl.range {w : World} {lo hi : Nat} {a : Option Addr} {len cap : Nat} {xs : List Shr} (h : SSl w lo hi a len cap xs) : ∀ x, a = some x → lo ≤ x.block ∧ x.block < hi := fun x hx => ⟨(h.fit.ge hx).1, h.under x hx⟩

theorem SFit.ssl {w : World} {lo : Nat} {a : Option Addr} {len cap : Nat} {xs : List Shr} (h : SFit w lo a len cap xs) : SSl w lo w.heap.size a len cap xs := ⟨h, h.under, Nat.le_refl _⟩

/-- A Many that was answered, in the variable at block hi. -/
structure AnsM (w : World) (lo hi : Nat) (a : Option Addr) (la ca : Nat) (xs : List Shr) (b : Option Addr) (lb cb : Nat) (ys : List Int) (t p : Int) : Prop where
  box : Mny w hi (.slice a la ca) (.slice b lb cb) t p
  one : SSl w lo hi a la ca xs
  two : Sl w lo hi b lb cb ys
  apart : Apart a b

theorem AnsM.all {w w' : World} {lo hi : Nat} {a : Option Addr} {la ca : Nat} {xs : List Shr} {b : Option Addr} {lb cb : Nat} {ys : List Int} {t p : Int} (h : AnsM w lo hi a la ca xs b lb cb ys t p) (k : Below w.heap.size w w') : AnsM w' lo hi a la ca xs b lb cb ys t p :=
  ⟨h.box.all k, h.one.all k, h.two.all k, h.apart⟩

theorem AnsM.wr {w w' : World} {lo hi l2 h2 : Nat} {a : Option Addr} {la ca : Nat} {xs : List Shr} {b : Option Addr} {lb cb : Nat} {ys : List Int} {t p : Int} (h : AnsM w lo hi a la ca xs b lb cb ys t p) (k : Wr l2 h2 w w') (hd : hi < l2 ∨ h2 ≤ lo) (hl : lo ≤ hi) : AnsM w' lo hi a la ca xs b lb cb ys t p :=
  ⟨h.box.wr k (by omega), h.one.wr k (by omega), h.two.wr k (by omega), h.apart⟩

theorem AnsM.lt {w : World} {lo hi : Nat} {a : Option Addr} {la ca : Nat} {xs : List Shr} {b : Option Addr} {lb cb : Nat} {ys : List Int} {t p : Int} (h : AnsM w lo hi a la ca xs b lb cb ys t p) : hi < w.heap.size := h.box.lt

theorem ansM_new {w : World} {lo : Nat} {a : Option Addr} {la ca : Nat} {xs : List Shr} {b : Option Addr} {lb cb : Nat} {ys : List Int} {t p : Int} (F : SFit w lo a la ca xs) (G : Fit w lo b lb cb ys) (D : Apart a b) : AnsM (w.alloc (.cells #[.slice a la ca, .slice b lb cb, .int .i64 t, .int .i64 p] 33)) lo w.heap.size a la ca xs b lb cb ys t p :=
  ⟨mny_new _ _ _ _ _, F.ssl.all (below_new _ _), G.sl.all (below_new _ _), D⟩

theorem ansM_marked {w w' : World} {lo hi : Nat} {a : Option Addr} {la ca : Nat} {xs : List Shr} {b : Option Addr} {lb cb : Nat} {ys : List Int} {xs' : List Shr} {ys' : List Int} {t p : Int} (h : AnsM w lo hi a la ca xs b lb cb ys t p) (F : SFit w' lo a la ca xs') (G : Fit w' lo b lb cb ys') (M : ∃ wm, w.grownBy wm (blk a) ∧ wm.grownBy w' (blk b)) :
    AnsM w' lo hi a la ca xs' b lb cb ys' t p ∧ Wr lo hi w w' := by
  obtain ⟨wm, g1, g2⟩ := M
  have k := (wr_blk g1 h.one.range).trans (wr_blk g2 h.two.range)
  exact ⟨⟨h.box.wr k (.inr (Nat.le_refl _)), ⟨F, h.one.under, Nat.le_trans h.one.top k.size⟩, ⟨G, h.two.under, Nat.le_trans h.two.top k.size⟩, h.apart⟩, k⟩

set_option maxRecDepth 100000 in
set_option maxHeartbeats 8000000 in
/-- The law FnExactNewMany. -/
theorem lawNewMany (a : Option Addr) (len cap : Nat) (cs : List Shr) (q : Int) (w : World) (I : Shs w a len cs) (hm : (len : Int) ≤ 9223372036854775807) :
    Calls Try.prog 6 #[.slice a len cap, .int .i64 q] w fun e w' => e = .returned (.bool true) ∧ Below w.heap.size w w' := by
  have HI : Hid (Shs w a len cs) := I
  have hl := I.1
  clear I
  by_cases hs : (1048576 : Int) < (len : Int)
  · go_enter Try.func6, Try.ntmps6
    go_wp2_with fail
    refine (szShares_no a len cap _ hm (by omega)).mono ?_
    rintro e wq ⟨rfl, rfl⟩
    go_wp2_with fail
    go_ret
    exact ⟨rfl, Below.refl _ _⟩
  · have hs' : (len : Int) ≤ 1048576 := by omega
    obtain ⟨C, hC⟩ : ∃ C, C = nmS cs q := ⟨_, rfl⟩
    obtain ⟨Z, hZ⟩ : ∃ Z, Z = nmN cs q := ⟨_, rfl⟩
    have hc24 := (nm_len cs q).1
    have hz24 := (nm_len cs q).2
    obtain ⟨T, hT⟩ : ∃ T, T = nmQ cs q := ⟨_, rfl⟩
    have hneg : ¬ (1048576 : Int) - (len : Int) < 0 := by omega
    rw [← hC] at hc24
    rw [← hZ] at hz24
    obtain ⟨t, ht⟩ : ∃ t, t = fitsOn cs q := ⟨_, rfl⟩
    have HC : Hid (C = nmS cs q ∧ Z = nmN cs q ∧ t = fitsOn cs q ∧ cs.length = len ∧ T = nmQ cs q) := ⟨hC, hZ, ht, hl, hT⟩
    clear hC hZ ht hl hT
    have hne : (t != t) = false := by simp
    go_enter Try.func6, Try.ntmps6
    go_wp2_with fail
    refine (szShares_yes a len cap _ hs').mono ?_
    rintro e wq ⟨rfl, hwq⟩
    rw [hwq]
    clear hwq wq
    go_wp2_with fail
    refine (toShares_any a len cap cs _ HI.out hs').mono ?_
    rintro e w1 ⟨rfl, R1, B1⟩
    go_wp2_with fail
    refine (specNewM _ len len cs q _ (by have := R1.shs; rwa [HC.out.2.2.2.1] at this) hs').mono ?_
    rw [← HC.out.1, ← HC.out.2.1, ← HC.out.2.2.1, ← HC.out.2.2.2.2]
    rintro e w2 ⟨wb, lb, cb, wd, ld, cd, rfl, Fb, Fd, D, B2⟩
    have lb24 : (lb : Int) ≤ 24 := by have := Fb.1; omega
    have ld24 : (ld : Int) ≤ 24 := by have := Fd.1; omega
    have H2 : Hid (Below w.heap.size w w2 ∧ SFit w2 w.heap.size wb lb cb C ∧ Fit w2 w.heap.size wd ld cd Z ∧ Apart wb wd) := ⟨below_call B1 B1.size B2, Fb.mono B1.size, Fd.mono B1.size, D⟩
    clear R1 B1 Fb Fd D B2
    go_wp2_with fail
    obtain ⟨W2, hW2⟩ : ∃ W2, W2 = w2.alloc (.cells #[.slice wb lb cb, .slice wd ld cd, .int .i64 T, .int .i64 0] 33) := ⟨_, rfl⟩
    rw [← hW2]
    have s2 : w2.heap.size < W2.heap.size := by rw [hW2]; simp
    have s0 : w.heap.size ≤ w2.heap.size := H2.out.1.size
    have H3 : Hid (Below w.heap.size w W2 ∧ AnsM W2 w.heap.size w2.heap.size wb lb cb C wd ld cd Z T 0) := by
      rw [hW2]
      exact ⟨below_call H2.out.1 H2.out.1.size (below_new _ _), ansM_new H2.out.2.1 H2.out.2.2.1 H2.out.2.2.2⟩
    clear hW2 H2
    generalize w2.heap.size = bw at *
    refine (toShares_any a len cap cs _ (HI.out.kept H3.out.1) hs').mono ?_
    rintro e w4 ⟨rfl, Rx, B4⟩
    have sx := Rx.lt
    have H4 : Hid (Below w.heap.size w w4 ∧ AnsM w4 w.heap.size bw wb lb cb C wd ld cd Z T 0 ∧ SRow w4 W2.heap.size len cs) := ⟨below_call H3.out.1 H3.out.1.size B4, H3.out.2.all B4, Rx⟩
    clear H3 B4 Rx
    generalize W2.heap.size = gx at *
    go_wp2_with fail
    refine (implNewM _ len len cs q _ (by have := H4.out.2.2.shs; rwa [HC.out.2.2.2.1] at this) hs').mono ?_
    rw [← HC.out.1, ← HC.out.2.1, ← HC.out.2.2.1, ← HC.out.2.2.2.2]
    rintro e w5 ⟨xb, mb, kb, xd, md, kd, rfl, Fb, Fd, D, B5⟩
    have mb24 : (mb : Int) ≤ 24 := by have := Fb.1; omega
    have md24 : (md : Int) ≤ 24 := by have := Fd.1; omega
    have H5 : Hid (Below w.heap.size w w5 ∧ AnsM w5 w.heap.size bw wb lb cb C wd ld cd Z T 0 ∧ SRow w5 gx len cs ∧ SFit w5 w4.heap.size xb mb kb C ∧ Fit w5 w4.heap.size xd md kd Z ∧ Apart xb xd) := ⟨below_call H4.out.1 H4.out.1.size B5, H4.out.2.1.all B5, H4.out.2.2.all B5, Fb, Fd, D⟩
    have s5 := B5.size
    clear H4 Fb Fd D B5
    generalize w4.heap.size = lg at *
    have H6 : Hid (Below w.heap.size w (w5.alloc (.cells #[.slice xb mb kb, .slice xd md kd, .int .i64 T, .int .i64 0] 33)) ∧ AnsM (w5.alloc (.cells #[.slice xb mb kb, .slice xd md kd, .int .i64 T, .int .i64 0] 33)) w.heap.size bw wb lb cb C wd ld cd Z T 0 ∧ SRow (w5.alloc (.cells #[.slice xb mb kb, .slice xd md kd, .int .i64 T, .int .i64 0] 33)) gx len cs ∧ AnsM (w5.alloc (.cells #[.slice xb mb kb, .slice xd md kd, .int .i64 T, .int .i64 0] 33)) lg w5.heap.size xb mb kb C xd md kd Z T 0) :=
      ⟨below_call H5.out.1 H5.out.1.size (below_new _ _), H5.out.2.1.all (below_new _ _), H5.out.2.2.1.all (below_new _ _), ansM_new H5.out.2.2.2.1 H5.out.2.2.2.2.1 H5.out.2.2.2.2.2⟩
    clear H5
    have q0 := H6.out.2.1.box.c0
    have q1 := H6.out.2.1.box.c1
    have qa := H6.out.2.1.box.c2
    have qb := H6.out.2.1.box.c3
    go_wp2_with fail
    clear q0 q1 qa qb
    generalize w5.alloc (.cells #[.slice xb mb kb, .slice xd md kd, .int .i64 T, .int .i64 0] 33) = W5 at *
    generalize w5.heap.size = bg at *
    refine (eqMany_same xb mb kb xd md kd wb lb cb wd ld cd C Z T 0 _ H6.out.2.2.2.one.fit.shs H6.out.2.2.2.two.fit.ints H6.out.2.1.one.fit.shs H6.out.2.1.two.fit.ints (by omega) (by omega)).mono ?_
    rintro e w6 ⟨rfl, B6⟩
    have H7 : Hid (Below w.heap.size w w6 ∧ AnsM w6 w.heap.size bw wb lb cb C wd ld cd Z T 0 ∧ SRow w6 gx len cs ∧ AnsM w6 lg bg xb mb kb C xd md kd Z T 0) := ⟨below_call H6.out.1 H6.out.1.size B6, H6.out.2.1.all B6, H6.out.2.2.1.all B6, H6.out.2.2.2.all B6⟩
    clear H6 B6
    go_wp2_with fail
    refine (toShares_any a len cap cs _ (HI.out.kept H7.out.1) hs').mono ?_
    rintro e w7 ⟨rfl, Ry, B7⟩
    have H8 : Hid (Below w.heap.size w w7 ∧ AnsM w7 w.heap.size bw wb lb cb C wd ld cd Z T 0 ∧ SRow w7 gx len cs ∧ AnsM w7 lg bg xb mb kb C xd md kd Z T 0 ∧ SRow w7 w6.heap.size len cs) := ⟨below_call H7.out.1 H7.out.1.size B7, H7.out.2.1.all B7, H7.out.2.2.1.all B7, H7.out.2.2.2.all B7, Ry⟩
    clear H7 B7 Ry
    go_wp2_with fail
    refine (eqShares_same _ len len cs _ len len _ (by have := H8.out.2.2.1.shs; rwa [HC.out.2.2.2.1] at this) (by have := H8.out.2.2.2.2.shs; rwa [HC.out.2.2.2.1] at this) hs').mono ?_
    rintro e w8 ⟨rfl, B8⟩
    have H9 : Hid (Below w.heap.size w w8 ∧ AnsM w8 w.heap.size bw wb lb cb C wd ld cd Z T 0 ∧ SFit w8 w.heap.size (some ⟨gx, 0, none⟩) len len cs ∧ AnsM w8 lg bg xb mb kb C xd md kd Z T 0) := ⟨below_call H8.out.1 H8.out.1.size B8, H8.out.2.1.all B8, (H8.out.2.2.1.all B8).fit (by omega) HC.out.2.2.2.1, H8.out.2.2.2.1.all B8⟩
    clear H8 B8
    go_wp2_with fail
    refine (markSFit w.heap.size _ len len cs 1 _ H9.out.2.2.1 hs' (by omega) (by omega)).mono ?_
    rintro e w9 ⟨rfl, _, G9⟩
    have K9 : Wr gx (gx + 1) w8 w9 := wr_row G9
    have H10 : Hid (Below w.heap.size w w9 ∧ AnsM w9 w.heap.size bw wb lb cb C wd ld cd Z T 0 ∧ AnsM w9 lg bg xb mb kb C xd md kd Z T 0) := ⟨K9.below _ _ H9.out.1 (by omega) H9.out.1.size, H9.out.2.1.wr K9 (by omega) (by omega), H9.out.2.2.2.wr K9 (by omega) (by omega)⟩
    clear H9 G9 K9
    have q0 := H10.out.2.1.box.c0
    have q1 := H10.out.2.1.box.c1
    have qa := H10.out.2.1.box.c2
    have qb := H10.out.2.1.box.c3
    have q2 := H10.out.2.2.box.c0
    have q3 := H10.out.2.2.box.c1
    have qc := H10.out.2.2.box.c2
    have qd := H10.out.2.2.box.c3
    have hk : ¬ (1 + 2 * (len : Int)) < 0 := by omega
    go_wp2_with fail
    clear q0 q1 qa qb q2 q3 qc qd
    refine (eqMany_same xb mb kb xd md kd wb lb cb wd ld cd C Z T 0 _ H10.out.2.2.one.fit.shs H10.out.2.2.two.fit.ints H10.out.2.1.one.fit.shs H10.out.2.1.two.fit.ints (by omega) (by omega)).mono ?_
    rintro e w10 ⟨rfl, B10⟩
    have H11 : Hid (Below w.heap.size w w10 ∧ AnsM w10 w.heap.size bw wb lb cb C wd ld cd Z T 0 ∧ AnsM w10 lg bg xb mb kb C xd md kd Z T 0) := ⟨below_call H10.out.1 H10.out.1.size B10, H10.out.2.1.all B10, H10.out.2.2.all B10⟩
    clear H10 B10
    have q2 := H11.out.2.2.box.c0
    have q3 := H11.out.2.2.box.c1
    have qc := H11.out.2.2.box.c2
    have qd := H11.out.2.2.box.c3
    go_wp2_with fail
    clear q2 q3 qc qd
    refine (markMany_any lg xb mb kb C xd md kd Z T 0 1 _ H11.out.2.2.one.fit H11.out.2.2.two.fit H11.out.2.2.apart (by omega) (by omega) (by omega) (by omega)).mono ?_
    rintro e w11 ⟨rfl, F11, G11, M11⟩
    obtain ⟨A11, K11⟩ := ansM_marked H11.out.2.2 F11 G11 M11
    have H12 : Hid (Below w.heap.size w w11 ∧ AnsM w11 w.heap.size bw wb lb cb C wd ld cd Z T 0 ∧ AnsM w11 lg bg xb mb kb (smarks 1 mb) xd md kd (marks (1 + 2 * mb) md) T 0) := ⟨K11.below _ _ H11.out.1 (by omega) H11.out.1.size, H11.out.2.1.wr K11 (by omega) (by omega), A11⟩
    clear H11 F11 G11 M11 A11 K11
    have q2 := H12.out.2.2.box.c0
    have q3 := H12.out.2.2.box.c1
    have qc := H12.out.2.2.box.c2
    have qd := H12.out.2.2.box.c3
    go_wp2_with fail
    clear q2 q3 qc qd
    refine (heldMany_any xb mb kb xd md kd T 0 1 _ H12.out.2.2.one.fit.shs H12.out.2.2.two.fit.ints (by omega) (by omega) (by omega) (by omega)).mono ?_
    rintro e w12 ⟨rfl, B12⟩
    have H13 : Hid (Below w.heap.size w w12 ∧ AnsM w12 w.heap.size bw wb lb cb C wd ld cd Z T 0 ∧ AnsM w12 lg bg xb mb kb (smarks 1 mb) xd md kd (marks (1 + 2 * mb) md) T 0) := ⟨below_call H12.out.1 H12.out.1.size B12, H12.out.2.1.all B12, H12.out.2.2.all B12⟩
    clear H12 B12
    have hq : ¬ (1 + 2 * (mb : Int) + (md : Int)) < 0 := by omega
    go_wp2_with fail
    refine (toShares_any a len cap cs _ (HI.out.kept H13.out.1) hs').mono ?_
    rintro e w13 ⟨rfl, R13, B13⟩
    have H14 : Hid (Below w.heap.size w w13 ∧ AnsM w13 w.heap.size bw wb lb cb C wd ld cd Z T 0 ∧ AnsM w13 lg bg xb mb kb (smarks 1 mb) xd md kd (marks (1 + 2 * mb) md) T 0 ∧ SRow w13 w12.heap.size len cs) := ⟨below_call H13.out.1 H13.out.1.size B13, H13.out.2.1.all B13, H13.out.2.2.all B13, R13⟩
    clear H13 B13 R13
    go_wp2_with fail
    refine (implNewM _ len len cs q _ (by have := H14.out.2.2.2.shs; rwa [HC.out.2.2.2.1] at this) hs').mono ?_
    rw [← HC.out.1, ← HC.out.2.1, ← HC.out.2.2.1, ← HC.out.2.2.2.2]
    rintro e w14 ⟨yb, nb, ob, yd, nd, od, rfl, Fb, Fd, D, B14⟩
    have nb24 : (nb : Int) ≤ 24 := by have := Fb.1; omega
    have nd24 : (nd : Int) ≤ 24 := by have := Fd.1; omega
    have H15 : Hid (Below w.heap.size w w14 ∧ AnsM w14 w.heap.size bw wb lb cb C wd ld cd Z T 0 ∧ AnsM w14 lg bg xb mb kb (smarks 1 mb) xd md kd (marks (1 + 2 * mb) md) T 0 ∧ SFit w14 w13.heap.size yb nb ob C ∧ Fit w14 w13.heap.size yd nd od Z ∧ Apart yb yd) := ⟨below_call H14.out.1 H14.out.1.size B14, H14.out.2.1.all B14, H14.out.2.2.1.all B14, Fb, Fd, D⟩
    clear H14 Fb Fd D B14
    have l14 := H15.out.2.1.lt
    have l15 := H15.out.2.2.1.lt
    have H16 : Hid (Below w.heap.size w (w14.alloc (.cells #[.slice yb nb ob, .slice yd nd od, .int .i64 T, .int .i64 0] 33)) ∧ AnsM (w14.alloc (.cells #[.slice yb nb ob, .slice yd nd od, .int .i64 T, .int .i64 0] 33)) w.heap.size bw wb lb cb C wd ld cd Z T 0 ∧ AnsM (w14.alloc (.cells #[.slice yb nb ob, .slice yd nd od, .int .i64 T, .int .i64 0] 33)) lg bg xb mb kb (smarks 1 mb) xd md kd (marks (1 + 2 * mb) md) T 0 ∧ AnsM (w14.alloc (.cells #[.slice yb nb ob, .slice yd nd od, .int .i64 T, .int .i64 0] 33)) w13.heap.size w14.heap.size yb nb ob C yd nd od Z T 0) :=
      ⟨below_call H15.out.1 H15.out.1.size (below_new _ _), H15.out.2.1.all (below_new _ _), H15.out.2.2.1.all (below_new _ _), ansM_new H15.out.2.2.2.1 H15.out.2.2.2.2.1 H15.out.2.2.2.2.2⟩
    clear H15
    have q0 := H16.out.2.1.box.c0
    have q1 := H16.out.2.1.box.c1
    have qa := H16.out.2.1.box.c2
    have qb := H16.out.2.1.box.c3
    go_wp2_with fail
    clear q0 q1 qa qb
    generalize w14.alloc (.cells #[.slice yb nb ob, .slice yd nd od, .int .i64 T, .int .i64 0] 33) = W14 at *
    generalize w14.heap.size = bh at *
    refine (eqMany_same yb nb ob yd nd od wb lb cb wd ld cd C Z T 0 _ H16.out.2.2.2.one.fit.shs H16.out.2.2.2.two.fit.ints H16.out.2.1.one.fit.shs H16.out.2.1.two.fit.ints (by omega) (by omega)).mono ?_
    rintro e w15 ⟨rfl, B15⟩
    have H17 : Hid (Below w.heap.size w w15 ∧ AnsM w15 lg bg xb mb kb (smarks 1 mb) xd md kd (marks (1 + 2 * mb) md) T 0) := ⟨below_call H16.out.1 H16.out.1.size B15, H16.out.2.2.1.all B15⟩
    clear H16 B15
    have q2 := H17.out.2.box.c0
    have q3 := H17.out.2.box.c1
    have qc := H17.out.2.box.c2
    have qd := H17.out.2.box.c3
    go_wp2_with fail
    clear q2 q3 qc qd
    refine (heldMany_any xb mb kb xd md kd T 0 1 _ H17.out.2.one.fit.shs H17.out.2.two.fit.ints (by omega) (by omega) (by omega) (by omega)).mono ?_
    rintro e w16 ⟨rfl, B16⟩
    have H18 : Hid (Below w.heap.size w w16) := below_call H17.out.1 H17.out.1.size B16
    clear H17 B16
    go_wp2_with fail
    go_ret
    exact ⟨rfl, H18.out⟩

end Go.Proofs.Ytjhenfdmbagaiaa.Crew
