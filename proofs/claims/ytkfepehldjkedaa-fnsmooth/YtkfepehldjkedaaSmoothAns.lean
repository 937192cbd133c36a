/-
  A Smooth that was answered and lies in a variable: its block, its two slices in blocks of the call's own, between two bounds; and what a store between other bounds leaves of it.
-/
import Derived.Test.YtkfepehldjkedaaLawSmoothOk
import Derived.Test.YtkfepehldjkedaaSmoothCopy
namespace Go.Proofs.Ytkfepehldjkedaa.Crew
open Go.ChangeShapes Go.WideShapes Go.ChangeAt Go.RowKit

/-- The slice lies below s. -/
def Under (s : Nat) (a : Option Addr) : Prop := ∀ x, a = some x → x.block < s

theorem Fit.under {w : World} {base : Nat} {a : Option Addr} {len cap : Nat} {xs : List Int} (h : Fit w base a len cap xs) : Under w.heap.size a := fun _ hx => (h.ge hx).2

theorem Fit.still {w w' : World} {base : Nat} {a : Option Addr} {len cap : Nat} {xs : List Int} (h : Fit w base a len cap xs) (hs : ∀ x, a = some x → w'.heap[x.block]? = w.heap[x.block]?) : Fit w' base a len cap xs := by
  obtain ⟨hl, ⟨h0, h1⟩ | ⟨b, rfl, hb', R⟩⟩ := h
  · exact ⟨hl, .inl ⟨h0, h1⟩⟩
  · obtain ⟨cur, hh, r⟩ := R
    exact ⟨hl, .inr ⟨b, rfl, hb', cur, by rw [hs _ rfl]; exact hh, r⟩⟩

/-- From w to w' nothing was written but between lo and hi, and new blocks. -/
structure Wr (lo hi : Nat) (w w' : World) : Prop where
  size : w.heap.size ≤ w'.heap.size
  block : ∀ i, i < w.heap.size → i < lo ∨ hi ≤ i → w'.heap[i]? = w.heap[i]?
  below : ∀ B v, Below B v w → B ≤ lo → B ≤ w.heap.size → Below B v w'

theorem wr_row {w w' : World} {g : Nat} (h : w.grownBy w' (some g)) : Wr g (g + 1) w w' :=
  ⟨h.size, fun i hi hd => h.block i hi (by simp; omega), fun B v hb hl hs => hb.grown h hs (fun k hk => by cases hk; exact hl)⟩

theorem wr_blk {w w' : World} {lo hi : Nat} {a : Option Addr} (h : w.grownBy w' (blk a)) (ha : ∀ x, a = some x → lo ≤ x.block ∧ x.block < hi) : Wr lo hi w w' :=
  ⟨h.size, fun i hi' hd => h.block i hi' (by
    cases a with
    | none => simp [blk]
    | some x => have := ha x rfl; simp [blk]; omega), fun B v hb hl hs => hb.grown h hs (fun k hk => by
    cases a with
    | none => cases hk
    | some x => have h1 := ha x rfl; have h2 : x.block = k := Option.some.inj hk; omega)⟩

theorem Wr.trans {w w1 w2 : World} {lo hi : Nat} (h : Wr lo hi w w1) (k : Wr lo hi w1 w2) : Wr lo hi w w2 :=
  ⟨Nat.le_trans h.size k.size, fun i hi' hd => (k.block i (Nat.lt_of_lt_of_le hi' h.size) hd).trans (h.block i hi' hd), fun B v hb hl hs => k.below B v (h.below B v hb hl hs) hl (Nat.le_trans hs h.size)⟩

theorem Row.wr {w w' : World} {g cap lo hi : Nat} {xs : List Int} (h : Row w g cap xs) (k : Wr lo hi w w') (hd : g < lo ∨ hi ≤ g) : Row w' g cap xs := by
  have hl := h.lt
  obtain ⟨cur, hh, r⟩ := h
  exact ⟨cur, by rw [k.block g hl hd]; exact hh, r⟩

theorem Pair.wr {w w' : World} {b lo hi : Nat} {x y : Value} (h : Pair w b x y) (k : Wr lo hi w w') (hd : b < lo ∨ hi ≤ b) : Pair w' b x y := by
  unfold Pair
  rw [k.block b h.lt hd]
  exact h

theorem Two.wr {w w' : World} {b lo hi : Nat} {x y : Value} (h : Two w b x y) (k : Wr lo hi w w') (hd : b < lo ∨ hi ≤ b) : Two w' b x y :=
  ⟨Nat.lt_of_lt_of_le h.1 k.size, (World.cell?_of_block (k.block b h.1 hd)).trans h.2.1, (World.cell?_of_block (k.block b h.1 hd)).trans h.2.2⟩

/-- A slice that was answered, between two bounds. -/
structure Sl (w : World) (lo hi : Nat) (a : Option Addr) (len cap : Nat) (xs : List Int) : Prop where
  fit : Fit w lo a len cap xs
  under : Under hi a
  top : hi ≤ w.heap.size

theorem Sl.all {w w' : World} {lo hi : Nat} {a : Option Addr} {len cap : Nat} {xs : List Int} (h : Sl w lo hi a len cap xs) (k : Below w.heap.size w w') : Sl w' lo hi a len cap xs :=
  ⟨h.fit.all k, h.under, Nat.le_trans h.top k.size⟩

theorem Sl.wr {w w' : World} {lo hi l2 h2 : Nat} {a : Option Addr} {len cap : Nat} {xs : List Int} (h : Sl w lo hi a len cap xs) (k : Wr l2 h2 w w') (hd : hi ≤ l2 ∨ h2 ≤ lo) : Sl w' lo hi a len cap xs :=
  ⟨h.fit.still (fun x hx => k.block _ (h.fit.ge hx).2 (by have := (h.fit.ge hx).1; have := h.under x hx; omega)), h.under, Nat.le_trans h.top k.size⟩

theorem Sl.range {w : World} {lo hi : Nat} {a : Option Addr} {len cap : Nat} {xs : List Int} (h : Sl w lo hi a len cap xs) : ∀ x, a = some x → lo ≤ x.block ∧ x.block < hi := fun x hx => ⟨(h.fit.ge hx).1, h.under x hx⟩

theorem Fit.sl {w : World} {lo : Nat} {a : Option Addr} {len cap : Nat} {xs : List Int} (h : Fit w lo a len cap xs) : Sl w lo w.heap.size a len cap xs := ⟨h, h.under, Nat.le_refl _⟩

/-- A Smooth that was answered, in the variable at block hi. -/
structure Ans (w : World) (lo hi : Nat) (a : Option Addr) (la ca : Nat) (xs : List Int) (b : Option Addr) (lb cb : Nat) (ys : List Int) : Prop where
  pair : Pair w hi (.slice a la ca) (.slice b lb cb)
  one : Sl w lo hi a la ca xs
  two : Sl w lo hi b lb cb ys
  apart : Apart a b

theorem Ans.all {w w' : World} {lo hi : Nat} {a : Option Addr} {la ca : Nat} {xs : List Int} {b : Option Addr} {lb cb : Nat} {ys : List Int} (h : Ans w lo hi a la ca xs b lb cb ys) (k : Below w.heap.size w w') : Ans w' lo hi a la ca xs b lb cb ys :=
  ⟨h.pair.all k, h.one.all k, h.two.all k, h.apart⟩

theorem Ans.wr {w w' : World} {lo hi l2 h2 : Nat} {a : Option Addr} {la ca : Nat} {xs : List Int} {b : Option Addr} {lb cb : Nat} {ys : List Int} (h : Ans w lo hi a la ca xs b lb cb ys) (k : Wr l2 h2 w w') (hd : hi < l2 ∨ h2 ≤ lo) (hl : lo ≤ hi) : Ans w' lo hi a la ca xs b lb cb ys :=
  ⟨h.pair.wr k (by omega), h.one.wr k (by omega), h.two.wr k (by omega), h.apart⟩

theorem Ans.lt {w : World} {lo hi : Nat} {a : Option Addr} {la ca : Nat} {xs : List Int} {b : Option Addr} {lb cb : Nat} {ys : List Int} (h : Ans w lo hi a la ca xs b lb cb ys) : hi < w.heap.size := h.pair.lt

/-- An answer laid into a new variable. -/
theorem ans_new {w : World} {lo : Nat} {a : Option Addr} {la ca : Nat} {xs : List Int} {b : Option Addr} {lb cb : Nat} {ys : List Int} (F : Fit w lo a la ca xs) (G : Fit w lo b lb cb ys) (D : Apart a b) : Ans (w.alloc (.cells #[.slice a la ca, .slice b lb cb] 31)) lo w.heap.size a la ca xs b lb cb ys :=
  ⟨pair_new _ _ _, F.sl.all (below_new _ _), G.sl.all (below_new _ _), D⟩

/-- Marked. -/
theorem ans_marked {w w' : World} {lo hi : Nat} {a : Option Addr} {la ca : Nat} {xs : List Int} {b : Option Addr} {lb cb : Nat} {ys xs' ys' : List Int} (h : Ans w lo hi a la ca xs b lb cb ys) (F : Fit w' lo a la ca xs') (G : Fit w' lo b lb cb ys') (M : ∃ wm, w.grownBy wm (blk a) ∧ wm.grownBy w' (blk b)) :
    Ans w' lo hi a la ca xs' b lb cb ys' ∧ Wr lo hi w w' := by
  obtain ⟨wm, g1, g2⟩ := M
  have k := (wr_blk g1 h.one.range).trans (wr_blk g2 h.two.range)
  exact ⟨⟨h.pair.wr k (.inr (Nat.le_refl _)), ⟨F, h.one.under, Nat.le_trans h.one.top k.size⟩, ⟨G, h.two.under, Nat.le_trans h.two.top k.size⟩, h.apart⟩, k⟩

theorem newC_len (cs : List Int) : (newC cs).length ≤ 24 := by
  cases h : crewOk cs
  · rw [newC_no h]; simp
  · rw [newC_yes h]; exact (crew_len h).2

theorem newR_len (cs : List Int) : (newR cs).length ≤ 24 := by
  cases h : crewOk cs
  · rw [newR_no h]; simp
  · rw [newR_yes h]; simp; exact (crew_len h).2

/-- The law FnExactNewSmooth. -/
theorem lawNewSmooth (a : Option Addr) (len cap : Nat) (cs : List Int) (w : World) (I : Ints w a len cs) :
    Calls Try.prog 6 #[.slice a len cap] w fun e w' => e = .returned (.bool true) ∧ Below w.heap.size w w' := by
  have HI : Hid (Ints w a len cs) := I
  have hl := I.1
  clear I
  by_cases hs : (1048576 : Int) < (len : Int)
  · go_enter Try.func6, Try.ntmps6
    go_wp2_with fail
    go_ret
    exact ⟨rfl, Below.refl _ _⟩
  · have hs' : (len : Int) ≤ 1048576 := by omega
    obtain ⟨C, hC⟩ : ∃ C, C = newC cs := ⟨_, rfl⟩
    obtain ⟨Z, hZ⟩ : ∃ Z, Z = newR cs := ⟨_, rfl⟩
    have hc24 := newC_len cs
    have hz24 := newR_len cs
    rw [← hC] at hc24
    rw [← hZ] at hz24
    obtain ⟨t, ht⟩ : ∃ t, t = crewOk cs := ⟨_, rfl⟩
    have HC : Hid (C = newC cs ∧ Z = newR cs ∧ t = crewOk cs ∧ cs.length = len) := ⟨hC, hZ, ht, hl⟩
    clear hC hZ ht hl
    have hne : (t != t) = false := by simp
    go_enter Try.func6, Try.ntmps6
    go_wp2_with fail
    refine (toInts_any a len cap cs _ HI.out hs').mono ?_
    rintro e w1 ⟨rfl, R1, B1⟩
    go_wp2_with fail
    refine (specNew _ len len cs _ (by have := R1.ints; rwa [HC.out.2.2.2] at this) hs').mono ?_
    rw [← HC.out.1, ← HC.out.2.1, ← HC.out.2.2.1]
    rintro e w2 ⟨wb, lb, cb, wd, ld, cd, rfl, Fb, Fd, D, B2⟩
    have lb24 : (lb : Int) ≤ 24 := by have := Fb.1; omega
    have ld24 : (ld : Int) ≤ 24 := by have := Fd.1; omega
    have H2 : Hid (Below w.heap.size w w2 ∧ Fit w2 w.heap.size wb lb cb C ∧ Fit w2 w.heap.size wd ld cd Z ∧ Apart wb wd) := ⟨below_call B1 B1.size B2, Fb.mono B1.size, Fd.mono B1.size, D⟩
    clear R1 B1 Fb Fd D B2
    go_wp2_with fail
    obtain ⟨W2, hW2⟩ : ∃ W2, W2 = w2.alloc (.cells #[.slice wb lb cb, .slice wd ld cd] 31) := ⟨_, rfl⟩
    rw [← hW2]
    have s2 : w2.heap.size < W2.heap.size := by rw [hW2]; simp
    have s0 : w.heap.size ≤ w2.heap.size := H2.out.1.size
    have H3 : Hid (Below w.heap.size w W2 ∧ Ans W2 w.heap.size w2.heap.size wb lb cb C wd ld cd Z) := by
      rw [hW2]
      exact ⟨below_call H2.out.1 H2.out.1.size (below_new _ _), ans_new H2.out.2.1 H2.out.2.2.1 H2.out.2.2.2⟩
    clear hW2 H2
    generalize w2.heap.size = bw at *
    refine (toInts_any a len cap cs _ (HI.out.kept H3.out.1) hs').mono ?_
    rintro e w4 ⟨rfl, Rx, B4⟩
    have sx := Rx.lt
    have H4 : Hid (Below w.heap.size w w4 ∧ Ans w4 w.heap.size bw wb lb cb C wd ld cd Z ∧ Row w4 W2.heap.size len cs) := ⟨below_call H3.out.1 H3.out.1.size B4, H3.out.2.all B4, Rx⟩
    clear H3 B4 Rx
    generalize W2.heap.size = gx at *
    go_wp2_with fail
    refine (implNew _ len len cs _ (by have := H4.out.2.2.ints; rwa [HC.out.2.2.2] at this)).mono ?_
    rw [← HC.out.1, ← HC.out.2.1, ← HC.out.2.2.1]
    rintro e w5 ⟨xb, mb, kb, xd, md, kd, rfl, Fb, Fd, D, B5⟩
    have mb24 : (mb : Int) ≤ 24 := by have := Fb.1; omega
    have md24 : (md : Int) ≤ 24 := by have := Fd.1; omega
    have H5 : Hid (Below w.heap.size w w5 ∧ Ans w5 w.heap.size bw wb lb cb C wd ld cd Z ∧ Row w5 gx len cs ∧ Fit w5 w4.heap.size xb mb kb C ∧ Fit w5 w4.heap.size xd md kd Z ∧ Apart xb xd) := ⟨below_call H4.out.1 H4.out.1.size B5, H4.out.2.1.all B5, H4.out.2.2.all B5, Fb, Fd, D⟩
    have s5 := B5.size
    clear H4 Fb Fd D B5
    generalize w4.heap.size = lg at *
    have H6 : Hid (Below w.heap.size w (w5.alloc (.cells #[.slice xb mb kb, .slice xd md kd] 31)) ∧ Ans (w5.alloc (.cells #[.slice xb mb kb, .slice xd md kd] 31)) w.heap.size bw wb lb cb C wd ld cd Z ∧ Row (w5.alloc (.cells #[.slice xb mb kb, .slice xd md kd] 31)) gx len cs ∧ Ans (w5.alloc (.cells #[.slice xb mb kb, .slice xd md kd] 31)) lg w5.heap.size xb mb kb C xd md kd Z) :=
      ⟨below_call H5.out.1 H5.out.1.size (below_new _ _), H5.out.2.1.all (below_new _ _), H5.out.2.2.1.all (below_new _ _), ans_new H5.out.2.2.2.1 H5.out.2.2.2.2.1 H5.out.2.2.2.2.2⟩
    clear H5
    have q0 := H6.out.2.1.pair.c0
    have q1 := H6.out.2.1.pair.c1
    go_wp2_with fail
    clear q0 q1
    generalize w5.alloc (.cells #[.slice xb mb kb, .slice xd md kd] 31) = W5 at *
    generalize w5.heap.size = bg at *
    refine (eqSmooth_same xb mb kb xd md kd wb lb cb wd ld cd C Z _ H6.out.2.2.2.one.fit.ints H6.out.2.2.2.two.fit.ints H6.out.2.1.one.fit.ints H6.out.2.1.two.fit.ints (by omega) (by omega)).mono ?_
    rintro e w6 ⟨rfl, B6⟩
    have H7 : Hid (Below w.heap.size w w6 ∧ Ans w6 w.heap.size bw wb lb cb C wd ld cd Z ∧ Row w6 gx len cs ∧ Ans w6 lg bg xb mb kb C xd md kd Z) := ⟨below_call H6.out.1 H6.out.1.size B6, H6.out.2.1.all B6, H6.out.2.2.1.all B6, H6.out.2.2.2.all B6⟩
    clear H6 B6
    go_wp2_with fail
    refine (toInts_any a len cap cs _ (HI.out.kept H7.out.1) hs').mono ?_
    rintro e w7 ⟨rfl, Ry, B7⟩
    have H8 : Hid (Below w.heap.size w w7 ∧ Ans w7 w.heap.size bw wb lb cb C wd ld cd Z ∧ Row w7 gx len cs ∧ Ans w7 lg bg xb mb kb C xd md kd Z ∧ Row w7 w6.heap.size len cs) := ⟨below_call H7.out.1 H7.out.1.size B7, H7.out.2.1.all B7, H7.out.2.2.1.all B7, H7.out.2.2.2.all B7, Ry⟩
    clear H7 B7 Ry
    go_wp2_with fail
    refine (eqInts_same _ len len cs _ len len _ (by have := H8.out.2.2.1.ints; rwa [HC.out.2.2.2] at this) (by have := H8.out.2.2.2.2.ints; rwa [HC.out.2.2.2] at this) hs').mono ?_
    rintro e w8 ⟨rfl, B8⟩
    have H9 : Hid (Below w.heap.size w w8 ∧ Ans w8 w.heap.size bw wb lb cb C wd ld cd Z ∧ Fit w8 w.heap.size (some ⟨gx, 0, none⟩) len len cs ∧ Ans w8 lg bg xb mb kb C xd md kd Z) := ⟨below_call H8.out.1 H8.out.1.size B8, H8.out.2.1.all B8, (H8.out.2.2.1.all B8).fit (by omega) HC.out.2.2.2, H8.out.2.2.2.1.all B8⟩
    clear H8 B8
    go_wp2_with fail
    refine (markFit w.heap.size _ len len cs 1 _ H9.out.2.2.1 hs' (by omega) (by omega)).mono ?_
    rintro e w9 ⟨rfl, _, G9⟩
    have K9 : Wr gx (gx + 1) w8 w9 := wr_row G9
    have H10 : Hid (Below w.heap.size w w9 ∧ Ans w9 w.heap.size bw wb lb cb C wd ld cd Z ∧ Ans w9 lg bg xb mb kb C xd md kd Z) := ⟨K9.below _ _ H9.out.1 (by omega) H9.out.1.size, H9.out.2.1.wr K9 (by omega) (by omega), H9.out.2.2.2.wr K9 (by omega) (by omega)⟩
    clear H9 G9 K9
    have q0 := H10.out.2.1.pair.c0
    have q1 := H10.out.2.1.pair.c1
    have q2 := H10.out.2.2.pair.c0
    have q3 := H10.out.2.2.pair.c1
    have hk : ¬ (1 + (len : Int)) < 0 := by omega
    go_wp2_with fail
    clear q0 q1 q2 q3
    refine (eqSmooth_same xb mb kb xd md kd wb lb cb wd ld cd C Z _ H10.out.2.2.one.fit.ints H10.out.2.2.two.fit.ints H10.out.2.1.one.fit.ints H10.out.2.1.two.fit.ints (by omega) (by omega)).mono ?_
    rintro e w10 ⟨rfl, B10⟩
    have H11 : Hid (Below w.heap.size w w10 ∧ Ans w10 w.heap.size bw wb lb cb C wd ld cd Z ∧ Ans w10 lg bg xb mb kb C xd md kd Z) := ⟨below_call H10.out.1 H10.out.1.size B10, H10.out.2.1.all B10, H10.out.2.2.all B10⟩
    clear H10 B10
    have q2 := H11.out.2.2.pair.c0
    have q3 := H11.out.2.2.pair.c1
    go_wp2_with fail
    clear q2 q3
    refine (markSmooth_any lg xb mb kb C xd md kd Z 1 _ H11.out.2.2.one.fit H11.out.2.2.two.fit H11.out.2.2.apart (by omega) (by omega) (by omega) (by omega)).mono ?_
    rintro e w11 ⟨rfl, F11, G11, M11⟩
    obtain ⟨A11, K11⟩ := ans_marked H11.out.2.2 F11 G11 M11
    have H12 : Hid (Below w.heap.size w w11 ∧ Ans w11 w.heap.size bw wb lb cb C wd ld cd Z ∧ Ans w11 lg bg xb mb kb (marks 1 mb) xd md kd (marks (1 + mb) md)) := ⟨K11.below _ _ H11.out.1 (by omega) H11.out.1.size, H11.out.2.1.wr K11 (by omega) (by omega), A11⟩
    clear H11 F11 G11 M11 A11 K11
    have q2 := H12.out.2.2.pair.c0
    have q3 := H12.out.2.2.pair.c1
    go_wp2_with fail
    clear q2 q3
    refine (heldSmooth_any xb mb kb xd md kd 1 _ H12.out.2.2.one.fit.ints H12.out.2.2.two.fit.ints (by omega) (by omega) (by omega) (by omega)).mono ?_
    rintro e w12 ⟨rfl, B12⟩
    have H13 : Hid (Below w.heap.size w w12 ∧ Ans w12 w.heap.size bw wb lb cb C wd ld cd Z ∧ Ans w12 lg bg xb mb kb (marks 1 mb) xd md kd (marks (1 + mb) md)) := ⟨below_call H12.out.1 H12.out.1.size B12, H12.out.2.1.all B12, H12.out.2.2.all B12⟩
    clear H12 B12
    have hq : ¬ (1 + (mb : Int) + (md : Int)) < 0 := by omega
    go_wp2_with fail
    refine (toInts_any a len cap cs _ (HI.out.kept H13.out.1) hs').mono ?_
    rintro e w13 ⟨rfl, R13, B13⟩
    have H14 : Hid (Below w.heap.size w w13 ∧ Ans w13 w.heap.size bw wb lb cb C wd ld cd Z ∧ Ans w13 lg bg xb mb kb (marks 1 mb) xd md kd (marks (1 + mb) md) ∧ Row w13 w12.heap.size len cs) := ⟨below_call H13.out.1 H13.out.1.size B13, H13.out.2.1.all B13, H13.out.2.2.all B13, R13⟩
    clear H13 B13 R13
    go_wp2_with fail
    refine (implNew _ len len cs _ (by have := H14.out.2.2.2.ints; rwa [HC.out.2.2.2] at this)).mono ?_
    rw [← HC.out.1, ← HC.out.2.1, ← HC.out.2.2.1]
    rintro e w14 ⟨yb, nb, ob, yd, nd, od, rfl, Fb, Fd, D, B14⟩
    have nb24 : (nb : Int) ≤ 24 := by have := Fb.1; omega
    have nd24 : (nd : Int) ≤ 24 := by have := Fd.1; omega
    have H15 : Hid (Below w.heap.size w w14 ∧ Ans w14 w.heap.size bw wb lb cb C wd ld cd Z ∧ Ans w14 lg bg xb mb kb (marks 1 mb) xd md kd (marks (1 + mb) md) ∧ Fit w14 w13.heap.size yb nb ob C ∧ Fit w14 w13.heap.size yd nd od Z ∧ Apart yb yd) := ⟨below_call H14.out.1 H14.out.1.size B14, H14.out.2.1.all B14, H14.out.2.2.1.all B14, Fb, Fd, D⟩
    clear H14 Fb Fd D B14
    have l14 := H15.out.2.1.lt
    have l15 := H15.out.2.2.1.lt
    have H16 : Hid (Below w.heap.size w (w14.alloc (.cells #[.slice yb nb ob, .slice yd nd od] 31)) ∧ Ans (w14.alloc (.cells #[.slice yb nb ob, .slice yd nd od] 31)) w.heap.size bw wb lb cb C wd ld cd Z ∧ Ans (w14.alloc (.cells #[.slice yb nb ob, .slice yd nd od] 31)) lg bg xb mb kb (marks 1 mb) xd md kd (marks (1 + mb) md) ∧ Ans (w14.alloc (.cells #[.slice yb nb ob, .slice yd nd od] 31)) w13.heap.size w14.heap.size yb nb ob C yd nd od Z) :=
      ⟨below_call H15.out.1 H15.out.1.size (below_new _ _), H15.out.2.1.all (below_new _ _), H15.out.2.2.1.all (below_new _ _), ans_new H15.out.2.2.2.1 H15.out.2.2.2.2.1 H15.out.2.2.2.2.2⟩
    clear H15
    have q0 := H16.out.2.1.pair.c0
    have q1 := H16.out.2.1.pair.c1
    go_wp2_with fail
    clear q0 q1
    generalize w14.alloc (.cells #[.slice yb nb ob, .slice yd nd od] 31) = W14 at *
    generalize w14.heap.size = bh at *
    refine (eqSmooth_same yb nb ob yd nd od wb lb cb wd ld cd C Z _ H16.out.2.2.2.one.fit.ints H16.out.2.2.2.two.fit.ints H16.out.2.1.one.fit.ints H16.out.2.1.two.fit.ints (by omega) (by omega)).mono ?_
    rintro e w15 ⟨rfl, B15⟩
    have H17 : Hid (Below w.heap.size w w15 ∧ Ans w15 lg bg xb mb kb (marks 1 mb) xd md kd (marks (1 + mb) md)) := ⟨below_call H16.out.1 H16.out.1.size B15, H16.out.2.2.1.all B15⟩
    clear H16 B15
    have q2 := H17.out.2.pair.c0
    have q3 := H17.out.2.pair.c1
    go_wp2_with fail
    clear q2 q3
    refine (heldSmooth_any xb mb kb xd md kd 1 _ H17.out.2.one.fit.ints H17.out.2.two.fit.ints (by omega) (by omega) (by omega) (by omega)).mono ?_
    rintro e w16 ⟨rfl, B16⟩
    have H18 : Hid (Below w.heap.size w w16) := below_call H17.out.1 H17.out.1.size B16
    clear H17 B16
    go_wp2_with fail
    go_ret
    exact ⟨rfl, H18.out⟩

end Go.Proofs.Ytkfepehldjkedaa.Crew
