/-
  The law FnRanks: whatever the code, it answers true and nothing that was there is written.
-/
import Derived.Test.YtodggdgcbhmjoaaRankAhead
import Derived.Test.YtodggdgcbhmjoaaDrawRank
import Derived.Test.YtodggdgcbhmjoaaDice
namespace Go.Proofs.Ytodggdgcbhmjoaa.Win
open Go.ChangeShapes Go.WideShapes Go.ChangeAt Go.RowKit Go.Proofs.Ytodggdgcbhmjoaa.Crew
open Go.Proofs.Ytodggdgcbhmjoaa.Draw (Bytes big_any drawAhead_any Sh sh_new roll_any dice_any Cur cur_new new_below left_own left_below grown_below)

theorem ahead_two (n d i m e j : Int) : (aheadV n d i m e j = 2 ∧ aheadV m e j n d i = 2) ∨ (-1 ≤ aheadV n d i m e j ∧ aheadV n d i m e j ≤ 1 ∧ aheadV m e j n d i = - aheadV n d i m e j) := by
  cases h : turnOk n d i
  · exact .inl ⟨aheadV_no1 h, aheadV_no2 h⟩
  · cases h' : turnOk m e j
    · exact .inl ⟨aheadV_no2 h', aheadV_no1 h'⟩
    · rw [aheadV_yes h h', aheadV_yes h' h]
      exact .inr ⟨(cmp_bd _ _ _ _ _ _).1, (cmp_bd _ _ _ _ _ _).2, cmp_neg _ _ _ _ _ _⟩

theorem ahead_three {n d i m e j k l p : Int} (h1 : turnOk n d i = true) (h2 : turnOk m e j = true) (h3 : turnOk k l p = true) :
    -1 ≤ aheadV n d i m e j ∧ aheadV n d i m e j ≤ 1 ∧ -1 ≤ aheadV m e j k l p ∧ aheadV m e j k l p ≤ 1 ∧ (0 ≤ aheadV n d i m e j → 0 ≤ aheadV m e j k l p → 0 ≤ aheadV n d i k l p) ∧ (aheadV n d i m e j = 0 → aheadV m e j k l p = 0 → aheadV n d i k l p = 0) := by
  rw [aheadV_yes h1 h2, aheadV_yes h2 h3, aheadV_yes h1 h3]
  exact ⟨(cmp_bd _ _ _ _ _ _).1, (cmp_bd _ _ _ _ _ _).2, (cmp_bd _ _ _ _ _ _).1, (cmp_bd _ _ _ _ _ _).2, cmp_trans _ _ _ _ _ _ _ _ _, cmp_zero _ _ _ _ _ _ _ _ _⟩

theorem ahead_self {n d i : Int} (h : turnOk n d i = true) : aheadV n d i n d i = 0 := by
  rw [aheadV_yes h h]
  exact cmp_self _ _ _

theorem turn_small {n d i : Int} (n1 : 1 ≤ n) (n2 : n ≤ 9) (d1 : 10 ≤ d) (d2 : d ≤ 18) (i1 : 1 ≤ i) (i2 : i ≤ 10) : turnOk n d i = true := by
  simp only [turnOk, shareOk, within, Bool.and_eq_true, decide_eq_true_eq]
  omega

theorem implSelf {n d i : Int} (h : turnOk n d i = true) (w : World) :
    Calls Try.prog 16 #[sh n d, .int .i64 i, sh n d, .int .i64 i] w fun r w' => r = .returned (.int .i64 0) ∧ Below w.heap.size w w' := by
  have C := implAhead n d i n d i w
  rw [ahead_self h] at C
  exact C

theorem implNextT {n d i : Int} (h : turnOk n d i = true) (hi : i < 1000000) (w : World) :
    Calls Try.prog 16 #[sh n d, .int .i64 i, sh n d, .int .i64 (i + 1)] w fun r w' => r = .returned (.int .i64 1) ∧ Below w.heap.size w w' := by
  have C := implAhead n d i n d (i + 1) w
  rw [ahead_next n d i h hi] at C
  exact C

theorem ranks_long (a : Option Addr) (len cap : Nat) (w : World) (hb : (4096 : Int) < (len : Int)) :
    Calls Try.prog 4 #[.slice a len cap] w fun e w' => e = .returned (.bool true) ∧ Below w.heap.size w w' := by
  have hd : decide (4096 < (len : Int)) = true := by simp; omega
  go_enter Try.func4, Try.ntmps4
  go_wp2_with fail
  refine (big_any a len cap _).mono ?_
  rintro e w1 ⟨rfl, rfl⟩
  rw [hd]
  clear hd
  go_wp2_with fail
  go_ret
  exact ⟨rfl, Below.refl _ _⟩

/-- The dice and what they have thrown: up to three shares. -/
structure Di (w0 v : World) (p : Nat) (a : Option Addr) (len cap : Nat) (wr : World) : Prop where
  left : Draw.Left .u64 58 p a len cap v wr
  cur : Cur .u64 58 p a len cap wr
  bel : Below w0.heap.size w0 v
  lt : p < v.heap.size
  hp : w0.heap.size ≤ p

theorem Di.all {w0 v wr w' : World} {p : Nat} {a : Option Addr} {len cap : Nat} (h : Di w0 v p a len cap wr) (k : Below wr.heap.size wr w') : Di w0 v p a len cap w' :=
  ⟨left_own h.left (grown_below k) (by simp) h.lt, h.cur.other (grown_below k) (by simp) (by simp), h.bel, h.lt, h.hp⟩

theorem Di.draw {w0 v wr w' : World} {p : Nat} {a : Option Addr} {len cap : Nat} (h : Di w0 v p a len cap wr) (L : Draw.Left .u64 58 p a len cap wr w') : Di w0 v p a len cap w' :=
  ⟨h.left.trans L, L.cur h.cur, h.bel, h.lt, h.hp⟩

theorem Di.below {w0 v wr : World} {p : Nat} {a : Option Addr} {len cap : Nat} (h : Di w0 v p a len cap wr) : Below w0.heap.size w0 wr := h.bel.trans (left_below h.left h.hp h.lt)

theorem Di.new {w0 v wr : World} {p : Nat} {a : Option Addr} {len cap : Nat} (h : Di w0 v p a len cap wr) : p < wr.heap.size := Nat.lt_of_lt_of_le h.lt h.left.1.size

set_option maxHeartbeats 4000000 in
set_option maxRecDepth 100000 in
theorem ranks_short (a : Option Addr) (len cap : Nat) (w : World) (B : Bytes w a len) (hb : ¬ (4096 : Int) < (len : Int)) :
    Calls Try.prog 4 #[.slice a len cap] w fun e w' => e = .returned (.bool true) ∧ Below w.heap.size w w' := by
  have ht : len ≤ 9223372036854775806 := by omega
  have hd : decide (4096 < (len : Int)) = false := by simp; omega
  have HB := hide B
  have HT := hide ht
  go_enter Try.func4, Try.ntmps4
  go_wp2_with fail
  refine (big_any a len cap _).mono ?_
  rintro e w ⟨rfl, rfl⟩
  rw [hd]
  clear hd
  go_wp2_with fail
  refine (drawAhead_any a len cap _ B ht).mono ?_
  clear B ht hb
  rintro r w2 ⟨n, d, i, m, e, j, rfl, B2⟩
  obtain ⟨N, hN⟩ : ∃ N, N = aheadV n d i m e j := ⟨_, rfl⟩
  obtain ⟨M, hM⟩ : ∃ M, M = aheadV m e j n d i := ⟨_, rfl⟩
  have I1 : Hid (∀ w, Calls Try.prog 16 #[sh n d, .int .i64 i, sh m e, .int .i64 j] w fun r w' => r = .returned (.int .i64 N) ∧ Below w.heap.size w w') := by rw [hN]; exact implAhead n d i m e j
  have I2 : Hid (∀ w, Calls Try.prog 16 #[sh m e, .int .i64 j, sh n d, .int .i64 i] w fun r w' => r = .returned (.int .i64 M) ∧ Below w.heap.size w w') := by rw [hM]; exact implAhead m e j n d i
  have S1 : Hid (∀ w, Calls Try.prog 17 #[sh n d, .int .i64 i, sh m e, .int .i64 j] w fun r w' => r = .returned (.int .i64 N) ∧ Below w.heap.size w w') := by rw [hN]; exact specAhead n d i m e j
  have V : Hid ((N = 2 ∧ M = 2) ∨ (-1 ≤ N ∧ N ≤ 1 ∧ M = - N)) := by rw [hN, hM]; exact ahead_two n d i m e j
  clear hN hM
  have T2 : Hid (Tw w2 ((w2.alloc (.cells #[.int .i64 n, .int .i64 d] 25)).alloc (.cells #[.int .i64 m, .int .i64 e] 25)) n d m e) := tw_new w2 n d m e _
  have HB2 := hide B2
  clear B2
  go_wp2_with fail
  refine (I1.out _).mono ?_
  rintro r w3 ⟨rfl, b3⟩
  have T3 := hide (T2.out.all b3)
  clear b3 T2
  obtain ⟨_, c0, c1⟩ := T3.out.one
  obtain ⟨_, c2, c3⟩ := T3.out.two
  go_wp2_with fail
  refine (I2.out _).mono ?_
  rintro r w4 ⟨rfl, b4⟩
  have T4 := hide (T3.out.all b4)
  clear b4 T3 c0 c1 c2 c3
  obtain ⟨_, c0, c1⟩ := T4.out.one
  obtain ⟨_, c2, c3⟩ := T4.out.two
  go_wp2_with fail
  refine (S1.out _).mono ?_
  rintro r w5 ⟨rfl, b5⟩
  have B5 := hide (HB2.out.trans ((T4.out.all b5).bel.mono HB2.out.size))
  clear b5 T4 c0 c1 c2 c3 HB2 I1 I2 S1
  have V2 : (N = 2 ∧ M = 2) ∨ ((N == 2) = false ∧ (-N == 2) = false ∧ (N != 2) = true ∧ ¬ N = 2 ∧ -1 ≤ N ∧ N ≤ 1 ∧ M = - N) := by
    rcases V.out with h | ⟨v1, v2, v3⟩
    · exact .inl h
    · exact .inr ⟨by simp; omega, by simp; omega, by simp; omega, by omega, v1, v2, v3⟩
  clear V
  rcases V2 with ⟨rfl, rfl⟩ | ⟨hn1, hn2, hn3, hn4, v1, v2, rfl⟩
  all_goals
    go_wp2_with fail
    refine (roll_any a len cap 9 _ (HB.out.grown B5.out) HT.out).mono ?_
    rintro r w6 ⟨rfl, h, L6⟩
    have D6 : Hid (Di w (w5.alloc (.cells #[.slice a len cap, .int .i64 0, .int .u64 h] 58)) w5.heap.size a len cap w6) := ⟨L6, L6.cur (cur_new (HB.out.grown B5.out) HT.out h), B5.out.alloc B5.out.size _, by simp, B5.out.size⟩
    clear L6 B5
    generalize w5.alloc (.cells #[.slice a len cap, .int .i64 0, .int .u64 h] 58) = v at *
    generalize w5.heap.size = p at *
    go_wp2_with fail
    refine (dice_any _ _ a len cap _ _ (D6.out).cur (by omega)).mono ?_
    rintro r w7 ⟨x7, rfl, p7, q7, _, L7⟩
    have D7 : Hid (Di w v p a len cap w7) := (D6.out).draw L7
    clear L7 D6
    go_wp2_with fail
    refine (dice_any _ _ a len cap _ _ (D7.out).cur (by omega)).mono ?_
    rintro r w8 ⟨x8, rfl, p8, q8, _, L8⟩
    have D8 : Hid (Di w v p a len cap w8) := (D7.out).draw L8
    clear L8 D7
    go_wp2_with fail
    have E7 : Hid (Di w v p a len cap (w8.alloc (.cells #[.int .i64 (1 + x7), .int .i64 (10 + x8)] 25)) ∧ Sh (w8.alloc (.cells #[.int .i64 (1 + x7), .int .i64 (10 + x8)] 25)) w8.heap.size (1 + x7) (10 + x8) ∧ p < w8.heap.size) := ⟨(D8.out).all ((Below.refl _ _).alloc (Nat.le_refl _) _), sh_new w8 _ _, (D8.out).new⟩
    clear D8
    have on1 : 1 ≤ 1 + x7 ∧ 1 + x7 ≤ 9 := by omega
    have od1 : 10 ≤ 10 + x8 ∧ 10 + x8 ≤ 18 := by omega
    generalize w8.alloc (.cells #[.int .i64 (1 + x7), .int .i64 (10 + x8)] 25) = W7 at *
    generalize w8.heap.size = bx at *
    generalize 1 + x7 = n1 at *
    generalize 10 + x8 = d1 at *
    clear p7 q7 p8 q8
    refine (dice_any _ _ a len cap _ _ (E7.out.1).cur (by omega)).mono ?_
    rintro r w9 ⟨x9, rfl, p9, q9, _, L9⟩
    have D9 : Hid (Di w v p a len cap w9 ∧ Sh w9 bx n1 d1 ∧ p < bx) := ⟨(E7.out.1).draw L9, (E7.out.2.1).left L9 (by have := E7.out.2.2; omega), E7.out.2.2⟩
    clear L9 E7
    go_wp2_with fail
    refine (dice_any _ _ a len cap _ _ (D9.out.1).cur (by omega)).mono ?_
    rintro r w10 ⟨x10, rfl, p10, q10, _, L10⟩
    have D10 : Hid (Di w v p a len cap w10 ∧ Sh w10 bx n1 d1 ∧ p < bx) := ⟨(D9.out.1).draw L10, (D9.out.2.1).left L10 (by have := D9.out.2.2; omega), D9.out.2.2⟩
    clear L10 D9
    go_wp2_with fail
    have E9 : Hid (Di w v p a len cap (w10.alloc (.cells #[.int .i64 (1 + x9), .int .i64 (10 + x10)] 25)) ∧ Sh (w10.alloc (.cells #[.int .i64 (1 + x9), .int .i64 (10 + x10)] 25)) bx n1 d1 ∧ p < bx ∧ Sh (w10.alloc (.cells #[.int .i64 (1 + x9), .int .i64 (10 + x10)] 25)) w10.heap.size (1 + x9) (10 + x10) ∧ p < w10.heap.size) := ⟨(D10.out.1).all ((Below.refl _ _).alloc (Nat.le_refl _) _), (D10.out.2.1).kept ((Below.refl _ _).alloc (Nat.le_refl _) _), D10.out.2.2, sh_new w10 _ _, (D10.out.1).new⟩
    clear D10
    have on2 : 1 ≤ 1 + x9 ∧ 1 + x9 ≤ 9 := by omega
    have od2 : 10 ≤ 10 + x10 ∧ 10 + x10 ≤ 18 := by omega
    generalize w10.alloc (.cells #[.int .i64 (1 + x9), .int .i64 (10 + x10)] 25) = W9 at *
    generalize w10.heap.size = by' at *
    generalize 1 + x9 = n2 at *
    generalize 10 + x10 = d2 at *
    clear p9 q9 p10 q10
    refine (dice_any _ _ a len cap _ _ (E9.out.1).cur (by omega)).mono ?_
    rintro r w11 ⟨x11, rfl, p11, q11, _, L11⟩
    have D11 : Hid (Di w v p a len cap w11 ∧ Sh w11 bx n1 d1 ∧ p < bx ∧ Sh w11 by' n2 d2 ∧ p < by') := ⟨(E9.out.1).draw L11, (E9.out.2.1).left L11 (by have := E9.out.2.2.1; omega), E9.out.2.2.1, (E9.out.2.2.2.1).left L11 (by have := E9.out.2.2.2.2; omega), E9.out.2.2.2.2⟩
    clear L11 E9
    go_wp2_with fail
    refine (dice_any _ _ a len cap _ _ (D11.out.1).cur (by omega)).mono ?_
    rintro r w12 ⟨x12, rfl, p12, q12, _, L12⟩
    have D12 : Hid (Di w v p a len cap w12 ∧ Sh w12 bx n1 d1 ∧ p < bx ∧ Sh w12 by' n2 d2 ∧ p < by') := ⟨(D11.out.1).draw L12, (D11.out.2.1).left L12 (by have := D11.out.2.2.1; omega), D11.out.2.2.1, (D11.out.2.2.2.1).left L12 (by have := D11.out.2.2.2.2; omega), D11.out.2.2.2.2⟩
    clear L12 D11
    go_wp2_with fail
    have E11 : Hid (Di w v p a len cap (w12.alloc (.cells #[.int .i64 (1 + x11), .int .i64 (10 + x12)] 25)) ∧ Sh (w12.alloc (.cells #[.int .i64 (1 + x11), .int .i64 (10 + x12)] 25)) bx n1 d1 ∧ p < bx ∧ Sh (w12.alloc (.cells #[.int .i64 (1 + x11), .int .i64 (10 + x12)] 25)) by' n2 d2 ∧ p < by' ∧ Sh (w12.alloc (.cells #[.int .i64 (1 + x11), .int .i64 (10 + x12)] 25)) w12.heap.size (1 + x11) (10 + x12) ∧ p < w12.heap.size) := ⟨(D12.out.1).all ((Below.refl _ _).alloc (Nat.le_refl _) _), (D12.out.2.1).kept ((Below.refl _ _).alloc (Nat.le_refl _) _), D12.out.2.2.1, (D12.out.2.2.2.1).kept ((Below.refl _ _).alloc (Nat.le_refl _) _), D12.out.2.2.2.2, sh_new w12 _ _, (D12.out.1).new⟩
    clear D12
    have on3 : 1 ≤ 1 + x11 ∧ 1 + x11 ≤ 9 := by omega
    have od3 : 10 ≤ 10 + x12 ∧ 10 + x12 ≤ 18 := by omega
    generalize w12.alloc (.cells #[.int .i64 (1 + x11), .int .i64 (10 + x12)] 25) = W11 at *
    generalize w12.heap.size = bz at *
    generalize 1 + x11 = n3 at *
    generalize 10 + x12 = d3 at *
    clear p11 q11 p12 q12
    refine (dice_any _ _ a len cap _ _ (E11.out.1).cur (by omega)).mono ?_
    rintro r w13 ⟨x13, rfl, p13, q13, _, L13⟩
    have D13 : Hid (Di w v p a len cap w13 ∧ Sh w13 bx n1 d1 ∧ p < bx ∧ Sh w13 by' n2 d2 ∧ p < by' ∧ Sh w13 bz n3 d3 ∧ p < bz) := ⟨(E11.out.1).draw L13, (E11.out.2.1).left L13 (by have := E11.out.2.2.1; omega), E11.out.2.2.1, (E11.out.2.2.2.1).left L13 (by have := E11.out.2.2.2.2.1; omega), E11.out.2.2.2.2.1, (E11.out.2.2.2.2.2.1).left L13 (by have := E11.out.2.2.2.2.2.2; omega), E11.out.2.2.2.2.2.2⟩
    clear L13 E11
    go_wp2_with fail
    have oi1 : 1 ≤ 1 + x13 ∧ 1 + x13 ≤ 9 := by omega
    generalize 1 + x13 = i1 at *
    clear p13 q13
    refine (dice_any _ _ a len cap _ _ (D13.out.1).cur (by omega)).mono ?_
    rintro r w14 ⟨x14, rfl, p14, q14, _, L14⟩
    have D14 : Hid (Di w v p a len cap w14 ∧ Sh w14 bx n1 d1 ∧ p < bx ∧ Sh w14 by' n2 d2 ∧ p < by' ∧ Sh w14 bz n3 d3 ∧ p < bz) := ⟨(D13.out.1).draw L14, (D13.out.2.1).left L14 (by have := D13.out.2.2.1; omega), D13.out.2.2.1, (D13.out.2.2.2.1).left L14 (by have := D13.out.2.2.2.2.1; omega), D13.out.2.2.2.2.1, (D13.out.2.2.2.2.2.1).left L14 (by have := D13.out.2.2.2.2.2.2; omega), D13.out.2.2.2.2.2.2⟩
    clear L14 D13
    go_wp2_with fail
    have oi2 : 1 ≤ 1 + x14 ∧ 1 + x14 ≤ 9 := by omega
    generalize 1 + x14 = i2 at *
    clear p14 q14
    refine (dice_any _ _ a len cap _ _ (D14.out.1).cur (by omega)).mono ?_
    rintro r w15 ⟨x15, rfl, p15, q15, _, L15⟩
    have D15 : Hid (Di w v p a len cap w15 ∧ Sh w15 bx n1 d1 ∧ p < bx ∧ Sh w15 by' n2 d2 ∧ p < by' ∧ Sh w15 bz n3 d3 ∧ p < bz) := ⟨(D14.out.1).draw L15, (D14.out.2.1).left L15 (by have := D14.out.2.2.1; omega), D14.out.2.2.1, (D14.out.2.2.2.1).left L15 (by have := D14.out.2.2.2.2.1; omega), D14.out.2.2.2.2.1, (D14.out.2.2.2.2.2.1).left L15 (by have := D14.out.2.2.2.2.2.2; omega), D14.out.2.2.2.2.2.2⟩
    clear L15 D14
    have c0 := (D15.out.2.1).c0
    have c1 := (D15.out.2.1).c1
    have c2 := (D15.out.2.2.2.1).c0
    have c3 := (D15.out.2.2.2.1).c1
    have c4 := (D15.out.2.2.2.2.2.1).c0
    have c5 := (D15.out.2.2.2.2.2.1).c1
    go_wp2_with fail
    have oi3 : 1 ≤ 1 + x15 ∧ 1 + x15 ≤ 9 := by omega
    generalize 1 + x15 = i3 at *
    clear p15 q15
    have U1 := hide (turn_small on1.1 on1.2 od1.1 od1.2 oi1.1 (by omega))
    have U2 := hide (turn_small on2.1 on2.2 od2.1 od2.2 oi2.1 (by omega))
    have U3 := hide (turn_small on3.1 on3.2 od3.1 od3.2 oi3.1 (by omega))
    obtain ⟨r1, hr1⟩ : ∃ r1, r1 = aheadV n1 d1 i1 n2 d2 i2 := ⟨_, rfl⟩
    obtain ⟨r2, hr2⟩ : ∃ r2, r2 = aheadV n2 d2 i2 n3 d3 i3 := ⟨_, rfl⟩
    obtain ⟨r3, hr3⟩ : ∃ r3, r3 = aheadV n1 d1 i1 n3 d3 i3 := ⟨_, rfl⟩
    have F1 : Hid (∀ w, Calls Try.prog 16 #[sh n1 d1, .int .i64 i1, sh n2 d2, .int .i64 i2] w fun r w' => r = .returned (.int .i64 r1) ∧ Below w.heap.size w w') := by rw [hr1]; exact implAhead n1 d1 i1 n2 d2 i2
    have F2 : Hid (∀ w, Calls Try.prog 16 #[sh n2 d2, .int .i64 i2, sh n3 d3, .int .i64 i3] w fun r w' => r = .returned (.int .i64 r2) ∧ Below w.heap.size w w') := by rw [hr2]; exact implAhead n2 d2 i2 n3 d3 i3
    have F3 : Hid (∀ w, Calls Try.prog 16 #[sh n1 d1, .int .i64 i1, sh n3 d3, .int .i64 i3] w fun r w' => r = .returned (.int .i64 r3) ∧ Below w.heap.size w w') := by rw [hr3]; exact implAhead n1 d1 i1 n3 d3 i3
    have F4 : Hid (∀ w, Calls Try.prog 16 #[sh n1 d1, .int .i64 i1, sh n1 d1, .int .i64 i1] w fun r w' => r = .returned (.int .i64 0) ∧ Below w.heap.size w w') := implSelf U1.out
    have F5 : Hid (∀ w, Calls Try.prog 16 #[sh n1 d1, .int .i64 i1, sh n1 d1, .int .i64 (i1 + 1)] w fun r w' => r = .returned (.int .i64 1) ∧ Below w.heap.size w w') := implNextT U1.out (by omega)
    have F6 : Hid (∀ w, Calls Try.prog 17 #[sh n1 d1, .int .i64 i1, sh n2 d2, .int .i64 i2] w fun r w' => r = .returned (.int .i64 r1) ∧ Below w.heap.size w w') := by rw [hr1]; exact specAhead n1 d1 i1 n2 d2 i2
    have G := ahead_three U1.out U2.out U3.out
    rw [← hr1, ← hr2, ← hr3] at G
    have G6 : (r1 = -1) ∨ (r1 = 0 ∧ r2 = -1) ∨ (r1 = 1 ∧ r2 = -1) ∨ (r1 = 1 ∧ 0 ≤ r2 ∧ 0 ≤ r3) ∨ (r1 = 0 ∧ r2 = 1 ∧ 0 ≤ r3) ∨ (r1 = 0 ∧ r2 = 0 ∧ r3 = 0) := by
      obtain ⟨g1, g2, g3, g4, g5, g6⟩ := G
      omega
    clear hr1 hr2 hr3 G on1 od1 on2 od2 on3 od3 oi2 oi3 U1 U2 U3
    refine (F1.out _).mono ?_
    rintro r w16 ⟨rfl, b16⟩
    have D16 : Hid (Di w v p a len cap w16 ∧ Sh w16 bx n1 d1 ∧ p < bx ∧ Sh w16 by' n2 d2 ∧ p < by' ∧ Sh w16 bz n3 d3 ∧ p < bz) := ⟨(D15.out.1).all b16, (D15.out.2.1).kept b16, D15.out.2.2.1, (D15.out.2.2.2.1).kept b16, D15.out.2.2.2.2.1, (D15.out.2.2.2.2.2.1).kept b16, D15.out.2.2.2.2.2.2⟩
    clear b16 D15 c0 c1 c2 c3 c4 c5
    have c0 := (D16.out.2.1).c0
    have c1 := (D16.out.2.1).c1
    have c2 := (D16.out.2.2.2.1).c0
    have c3 := (D16.out.2.2.2.1).c1
    have c4 := (D16.out.2.2.2.2.2.1).c0
    have c5 := (D16.out.2.2.2.2.2.1).c1
    go_wp2_with fail
    refine (F2.out _).mono ?_
    rintro r w17 ⟨rfl, b17⟩
    have D17 : Hid (Di w v p a len cap w17 ∧ Sh w17 bx n1 d1 ∧ p < bx ∧ Sh w17 by' n2 d2 ∧ p < by' ∧ Sh w17 bz n3 d3 ∧ p < bz) := ⟨(D16.out.1).all b17, (D16.out.2.1).kept b17, D16.out.2.2.1, (D16.out.2.2.2.1).kept b17, D16.out.2.2.2.2.1, (D16.out.2.2.2.2.2.1).kept b17, D16.out.2.2.2.2.2.2⟩
    clear b17 D16 c0 c1 c2 c3 c4 c5
    have c0 := (D17.out.2.1).c0
    have c1 := (D17.out.2.1).c1
    have c2 := (D17.out.2.2.2.1).c0
    have c3 := (D17.out.2.2.2.1).c1
    have c4 := (D17.out.2.2.2.2.2.1).c0
    have c5 := (D17.out.2.2.2.2.2.1).c1
    go_wp2_with fail
    refine (F3.out _).mono ?_
    rintro r w18 ⟨rfl, b18⟩
    have D18 : Hid (Di w v p a len cap w18 ∧ Sh w18 bx n1 d1 ∧ p < bx ∧ Sh w18 by' n2 d2 ∧ p < by' ∧ Sh w18 bz n3 d3 ∧ p < bz) := ⟨(D17.out.1).all b18, (D17.out.2.1).kept b18, D17.out.2.2.1, (D17.out.2.2.2.1).kept b18, D17.out.2.2.2.2.1, (D17.out.2.2.2.2.2.1).kept b18, D17.out.2.2.2.2.2.2⟩
    clear b18 D17 c0 c1 c2 c3 c4 c5
    have c0 := (D18.out.2.1).c0
    have c1 := (D18.out.2.1).c1
    have c2 := (D18.out.2.2.2.1).c0
    have c3 := (D18.out.2.2.2.1).c1
    have c4 := (D18.out.2.2.2.2.2.1).c0
    have c5 := (D18.out.2.2.2.2.2.1).c1
    have G7 : (r1 = -1) ∨ (r1 = 0 ∧ r2 = -1) ∨ (r1 = 1 ∧ r2 = -1) ∨ (r1 = 1 ∧ 0 ≤ r2 ∧ decide (r3 < 0) = false) ∨ (r1 = 0 ∧ r2 = 1 ∧ decide (r3 < 0) = false) ∨ (r1 = 0 ∧ r2 = 0 ∧ r3 = 0) := by
      rcases G6 with h | h | h | ⟨h, h', h''⟩ | ⟨h, h', h''⟩ | h
      · exact .inl h
      · exact .inr (.inl h)
      · exact .inr (.inr (.inl h))
      · exact .inr (.inr (.inr (.inl ⟨h, h', by simp; omega⟩)))
      · exact .inr (.inr (.inr (.inr (.inl ⟨h, h', by simp; omega⟩))))
      · exact .inr (.inr (.inr (.inr (.inr h))))
    clear G6
    rcases G7 with rfl | ⟨rfl, rfl⟩ | ⟨rfl, rfl⟩ | ⟨rfl, g2, g3⟩ | ⟨rfl, rfl, g3⟩ | ⟨rfl, rfl, rfl⟩
    all_goals
      go_wp2_with fail
      refine (F4.out _).mono ?_
      rintro r w19 ⟨rfl, b19⟩
      have D19 : Hid (Di w v p a len cap w19 ∧ Sh w19 bx n1 d1 ∧ p < bx ∧ Sh w19 by' n2 d2 ∧ p < by' ∧ Sh w19 bz n3 d3 ∧ p < bz) := ⟨(D18.out.1).all b19, (D18.out.2.1).kept b19, D18.out.2.2.1, (D18.out.2.2.2.1).kept b19, D18.out.2.2.2.2.1, (D18.out.2.2.2.2.2.1).kept b19, D18.out.2.2.2.2.2.2⟩
      clear b19 D18 c0 c1 c2 c3 c4 c5
      have c0 := (D19.out.2.1).c0
      have c1 := (D19.out.2.1).c1
      have c2 := (D19.out.2.2.2.1).c0
      have c3 := (D19.out.2.2.2.1).c1
      have c4 := (D19.out.2.2.2.2.2.1).c0
      have c5 := (D19.out.2.2.2.2.2.1).c1
      go_wp2_with fail
      refine (F5.out _).mono ?_
      rintro r w20 ⟨rfl, b20⟩
      have D20 : Hid (Di w v p a len cap w20 ∧ Sh w20 bx n1 d1 ∧ p < bx ∧ Sh w20 by' n2 d2 ∧ p < by' ∧ Sh w20 bz n3 d3 ∧ p < bz) := ⟨(D19.out.1).all b20, (D19.out.2.1).kept b20, D19.out.2.2.1, (D19.out.2.2.2.1).kept b20, D19.out.2.2.2.2.1, (D19.out.2.2.2.2.2.1).kept b20, D19.out.2.2.2.2.2.2⟩
      clear b20 D19 c0 c1 c2 c3 c4 c5
      have c0 := (D20.out.2.1).c0
      have c1 := (D20.out.2.1).c1
      have c2 := (D20.out.2.2.2.1).c0
      have c3 := (D20.out.2.2.2.1).c1
      have c4 := (D20.out.2.2.2.2.2.1).c0
      have c5 := (D20.out.2.2.2.2.2.1).c1
      go_wp2_with fail
      refine (F6.out _).mono ?_
      rintro r w21 ⟨rfl, b21⟩
      have D21 : Hid (Di w v p a len cap w21 ∧ Sh w21 bx n1 d1 ∧ p < bx ∧ Sh w21 by' n2 d2 ∧ p < by' ∧ Sh w21 bz n3 d3 ∧ p < bz) := ⟨(D20.out.1).all b21, (D20.out.2.1).kept b21, D20.out.2.2.1, (D20.out.2.2.2.1).kept b21, D20.out.2.2.2.2.1, (D20.out.2.2.2.2.2.1).kept b21, D20.out.2.2.2.2.2.2⟩
      clear b21 D20 c0 c1 c2 c3 c4 c5
      go_wp2_with fail
      go_ret
      exact ⟨rfl, D21.out.1.below⟩

/-- The law FnRanks. -/
theorem lawRanks (a : Option Addr) (len cap : Nat) (w : World) (B : Bytes w a len) :
    Calls Try.prog 4 #[.slice a len cap] w fun e w' => e = .returned (.bool true) ∧ Below w.heap.size w w' := by
  by_cases hb : (4096 : Int) < (len : Int)
  · exact ranks_long a len cap w hb
  · exact ranks_short a len cap w B hb

end Go.Proofs.Ytodggdgcbhmjoaa.Win
