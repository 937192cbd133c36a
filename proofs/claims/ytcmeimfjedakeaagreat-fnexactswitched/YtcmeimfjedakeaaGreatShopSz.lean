/-
  laws.szShop: how many values a Shop holds. (Written by wip/tools/gen_shoplaws.py.)
-/
import Derived.Test.YtcmeimfjedakeaaGreatShopInner
import Derived.Test.YtcmeimfjedakeaaGreatListLaws
namespace Go.Proofs.YtcmeimfjedakeaaGreat.Crew
open Go.ChangeShapes Go.WideShapes Go.ChangeAt Go.RowKit

theorem szShares_at_yes (a : Option Addr) (len cap : Nat) (left : Int) (w : World) (h0 : 0 ≤ left) (h1 : left ≤ 1048576) (hs : (len : Int) ≤ left) :
    Calls Tryz.prog 116 #[.slice a len cap, .int .i64 left] w fun e w' => e = .returned (.int .i64 (left - len)) ∧ w' = w := by
  have hn : ¬ left - (len : Int) < 0 := by omega
  go_enter Tryz.func116, Tryz.ntmps116
  go_wp2_with fail
  go_ret
  exact ⟨rfl, rfl⟩

theorem szShares_at_no (a : Option Addr) (len cap : Nat) (left : Int) (w : World) (h0 : 0 ≤ left) (h1 : left ≤ 1048576) (hm : (len : Int) ≤ 9223372036854775807) (hs : ¬ (len : Int) ≤ left) :
    Calls Tryz.prog 116 #[.slice a len cap, .int .i64 left] w fun e w' => e = .returned (.int .i64 (-1)) ∧ w' = w := by
  have hn : left - (len : Int) < 0 := by omega
  go_enter Tryz.func116, Tryz.ntmps116
  go_wp2_with fail
  go_ret
  exact ⟨rfl, rfl⟩

theorem szInts_at_yes (a : Option Addr) (len cap : Nat) (left : Int) (w : World) (h0 : 0 ≤ left) (h1 : left ≤ 1048576) (hs : (len : Int) ≤ left) :
    Calls Tryz.prog 56 #[.slice a len cap, .int .i64 left] w fun e w' => e = .returned (.int .i64 (left - len)) ∧ w' = w := by
  have h := szInts_any a len cap left w h0 h1 (by omega)
  rw [if_neg (show ¬ left - (len : Int) < 0 by omega)] at h
  exact h

theorem szInts_at_no (a : Option Addr) (len cap : Nat) (left : Int) (w : World) (h0 : 0 ≤ left) (h1 : left ≤ 1048576) (hm : (len : Int) ≤ 9223372036854775807) (hs : ¬ (len : Int) ≤ left) :
    Calls Tryz.prog 56 #[.slice a len cap, .int .i64 left] w fun e w' => e = .returned (.int .i64 (-1)) ∧ w' = w := by
  have h := szInts_any a len cap left w h0 h1 hm
  rw [if_pos (show left - (len : Int) < 0 by omega)] at h
  exact h

theorem szSmooth_at_yes (a : Option Addr) (len cap : Nat) (a' : Option Addr) (len' cap' : Nat) (left : Int) (w : World) (h0 : 0 ≤ left) (h1 : left ≤ 1048576) (h : (len : Int) + (len' : Int) ≤ left) :
    Calls Tryz.prog 57 #[sm (.slice a len cap) (.slice a' len' cap'), .int .i64 left] w fun e w' => e = .returned (.int .i64 (left - ((len : Int) + (len' : Int)))) ∧ Below w.heap.size w w' := by
  have g1 : ¬ left - (len : Int) < 0 := by omega
  have g2 : ¬ left - (len : Int) - (len' : Int) < 0 := by omega
  rw [← Int.sub_sub]
  go_enter Tryz.func57, Tryz.ntmps57
  go_wp2_with fail
  refine (szInts_at_yes a len cap left _ h0 h1 (by omega)).mono ?_
  rintro e w1 ⟨rfl, rfl⟩
  go_wp2_with fail
  refine (szInts_at_yes a' len' cap' (left - (len : Int)) _ (by omega) (by omega) (by omega)).mono ?_
  rintro e w1 ⟨rfl, rfl⟩
  go_wp2_with fail
  go_ret
  exact ⟨rfl, (Below.refl _ _).alloc (Nat.le_refl _) _⟩

theorem szSmooth_at_no (a : Option Addr) (len cap : Nat) (a' : Option Addr) (len' cap' : Nat) (left : Int) (w : World) (h0 : 0 ≤ left) (h1 : left ≤ 1048576) (hm : (len : Int) ≤ 9223372036854775807) (hm' : (len' : Int) ≤ 9223372036854775807) (h : ¬ (len : Int) + (len' : Int) ≤ left) :
    Calls Tryz.prog 57 #[sm (.slice a len cap) (.slice a' len' cap'), .int .i64 left] w fun e w' => e = .returned (.int .i64 (-1)) ∧ Below w.heap.size w w' := by
  by_cases g1 : (len : Int) ≤ left
  · have g2 : ¬ left - (len : Int) < 0 := by omega
    go_enter Tryz.func57, Tryz.ntmps57
    go_wp2_with fail
    refine (szInts_at_yes a len cap left _ h0 h1 g1).mono ?_
    rintro e w1 ⟨rfl, rfl⟩
    go_wp2_with fail
    refine (szInts_at_no a' len' cap' (left - (len : Int)) _ (by omega) (by omega) hm' (by omega)).mono ?_
    rintro e w1 ⟨rfl, rfl⟩
    go_wp2_with fail
    go_ret
    exact ⟨rfl, (Below.refl _ _).alloc (Nat.le_refl _) _⟩
  · go_enter Tryz.func57, Tryz.ntmps57
    go_wp2_with fail
    refine (szInts_at_no a len cap left _ h0 h1 hm (Int.not_le.2 g1)).mono ?_
    rintro e w1 ⟨rfl, rfl⟩
    go_wp2_with fail
    go_ret
    exact ⟨rfl, (Below.refl _ _).alloc (Nat.le_refl _) _⟩

theorem szList_at_yes (a : Option Addr) (len cap : Nat) (a' : Option Addr) (len' cap' : Nat) (t p : Int) (left : Int) (w : World) (h0 : 0 ≤ left) (h1 : left ≤ 1048576) (h : (len : Int) + (len' : Int) ≤ left) :
    Calls Tryz.prog 58 #[lv (.slice a len cap) (.slice a' len' cap') t p, .int .i64 left] w fun e w' => e = .returned (.int .i64 (left - ((len : Int) + (len' : Int)))) ∧ Below w.heap.size w w' := by
  have g1 : ¬ left - (len : Int) < 0 := by omega
  have g2 : ¬ left - (len : Int) - (len' : Int) < 0 := by omega
  rw [← Int.sub_sub]
  go_enter Tryz.func58, Tryz.ntmps58
  go_wp2_with fail
  refine (szInts_at_yes a len cap left _ h0 h1 (by omega)).mono ?_
  rintro e w1 ⟨rfl, rfl⟩
  go_wp2_with fail
  refine (szInts_at_yes a' len' cap' (left - (len : Int)) _ (by omega) (by omega) (by omega)).mono ?_
  rintro e w1 ⟨rfl, rfl⟩
  go_wp2_with fail
  go_ret
  exact ⟨rfl, (Below.refl _ _).alloc (Nat.le_refl _) _⟩

theorem szList_at_no (a : Option Addr) (len cap : Nat) (a' : Option Addr) (len' cap' : Nat) (t p : Int) (left : Int) (w : World) (h0 : 0 ≤ left) (h1 : left ≤ 1048576) (hm : (len : Int) ≤ 9223372036854775807) (hm' : (len' : Int) ≤ 9223372036854775807) (h : ¬ (len : Int) + (len' : Int) ≤ left) :
    Calls Tryz.prog 58 #[lv (.slice a len cap) (.slice a' len' cap') t p, .int .i64 left] w fun e w' => e = .returned (.int .i64 (-1)) ∧ Below w.heap.size w w' := by
  by_cases g1 : (len : Int) ≤ left
  · have g2 : ¬ left - (len : Int) < 0 := by omega
    go_enter Tryz.func58, Tryz.ntmps58
    go_wp2_with fail
    refine (szInts_at_yes a len cap left _ h0 h1 g1).mono ?_
    rintro e w1 ⟨rfl, rfl⟩
    go_wp2_with fail
    refine (szInts_at_no a' len' cap' (left - (len : Int)) _ (by omega) (by omega) hm' (by omega)).mono ?_
    rintro e w1 ⟨rfl, rfl⟩
    go_wp2_with fail
    go_ret
    exact ⟨rfl, (Below.refl _ _).alloc (Nat.le_refl _) _⟩
  · go_enter Tryz.func58, Tryz.ntmps58
    go_wp2_with fail
    refine (szInts_at_no a len cap left _ h0 h1 hm (Int.not_le.2 g1)).mono ?_
    rintro e w1 ⟨rfl, rfl⟩
    go_wp2_with fail
    go_ret
    exact ⟨rfl, (Below.refl _ _).alloc (Nat.le_refl _) _⟩

theorem szMany_at_yes (a : Option Addr) (len cap : Nat) (a' : Option Addr) (len' cap' : Nat) (t p : Int) (left : Int) (w : World) (h0 : 0 ≤ left) (h1 : left ≤ 1048576) (h : (len : Int) + (len' : Int) ≤ left) :
    Calls Tryz.prog 59 #[mv (.slice a len cap) (.slice a' len' cap') t p, .int .i64 left] w fun e w' => e = .returned (.int .i64 (left - ((len : Int) + (len' : Int)))) ∧ Below w.heap.size w w' := by
  have g1 : ¬ left - (len : Int) < 0 := by omega
  have g2 : ¬ left - (len : Int) - (len' : Int) < 0 := by omega
  rw [← Int.sub_sub]
  go_enter Tryz.func59, Tryz.ntmps59
  go_wp2_with fail
  refine (szShares_at_yes a len cap left _ h0 h1 (by omega)).mono ?_
  rintro e w1 ⟨rfl, rfl⟩
  go_wp2_with fail
  refine (szInts_at_yes a' len' cap' (left - (len : Int)) _ (by omega) (by omega) (by omega)).mono ?_
  rintro e w1 ⟨rfl, rfl⟩
  go_wp2_with fail
  go_ret
  exact ⟨rfl, (Below.refl _ _).alloc (Nat.le_refl _) _⟩

theorem szMany_at_no (a : Option Addr) (len cap : Nat) (a' : Option Addr) (len' cap' : Nat) (t p : Int) (left : Int) (w : World) (h0 : 0 ≤ left) (h1 : left ≤ 1048576) (hm : (len : Int) ≤ 9223372036854775807) (hm' : (len' : Int) ≤ 9223372036854775807) (h : ¬ (len : Int) + (len' : Int) ≤ left) :
    Calls Tryz.prog 59 #[mv (.slice a len cap) (.slice a' len' cap') t p, .int .i64 left] w fun e w' => e = .returned (.int .i64 (-1)) ∧ Below w.heap.size w w' := by
  by_cases g1 : (len : Int) ≤ left
  · have g2 : ¬ left - (len : Int) < 0 := by omega
    go_enter Tryz.func59, Tryz.ntmps59
    go_wp2_with fail
    refine (szShares_at_yes a len cap left _ h0 h1 g1).mono ?_
    rintro e w1 ⟨rfl, rfl⟩
    go_wp2_with fail
    refine (szInts_at_no a' len' cap' (left - (len : Int)) _ (by omega) (by omega) hm' (by omega)).mono ?_
    rintro e w1 ⟨rfl, rfl⟩
    go_wp2_with fail
    go_ret
    exact ⟨rfl, (Below.refl _ _).alloc (Nat.le_refl _) _⟩
  · go_enter Tryz.func59, Tryz.ntmps59
    go_wp2_with fail
    refine (szShares_at_no a len cap left _ h0 h1 hm (Int.not_le.2 g1)).mono ?_
    rintro e w1 ⟨rfl, rfl⟩
    go_wp2_with fail
    go_ret
    exact ⟨rfl, (Below.refl _ _).alloc (Nat.le_refl _) _⟩

/-- How many values the slices hold together. -/
def LT.sum (L : LT) : Int := (L.t.n : Int) + (L.m.n : Int) + (L.c.n : Int) + (L.n.n : Int) + ((L.s.n : Int) + (L.r.n : Int)) + ((L.l.n : Int) + (L.h.n : Int)) + ((L.y.n : Int) + (L.z.n : Int))

/-- No slice is longer than one can be. -/
def Lens (L : LT) : Prop := ∀ x ∈ [L.t, L.m, L.c, L.n, L.s, L.r, L.l, L.h, L.y, L.z], ((x.n : Nat) : Int) ≤ 9223372036854775807

theorem swl_new (w : World) (L : LT) (d : SD) : Sw w (w.alloc (.cells (sc L d) 50)) L d := ⟨below_new _ _, bx_new _ _ _⟩

theorem short_of_sum {L : LT} (h : L.sum ≤ 1048576) : Short L := by
  unfold LT.sum at h
  intro x hx
  simp only [List.mem_cons, List.not_mem_nil, or_false] at hx
  rcases hx with rfl | rfl | rfl | rfl | rfl | rfl | rfl | rfl | rfl | rfl <;> omega

set_option maxRecDepth 100000 in
set_option maxHeartbeats 4000000 in
/-- laws.szShop of a Shop that is not too great. -/
theorem szShop_yes (L : LT) (d : SD) (w : World) (h : L.sum ≤ 1048576) :
    Calls Tryz.prog 18 #[sv L d, .int .i64 1048576] w fun e w' => e = .returned (.int .i64 (1048576 - L.sum)) ∧ Below w.heap.size w w' := by
  unfold LT.sum at h ⊢
  obtain ⟨k0, hk0⟩ : ∃ k0 : Int, k0 = 1048576 := ⟨_, rfl⟩
  obtain ⟨k1, hk1⟩ : ∃ k1 : Int, k1 = k0 - (L.t.n : Int) := ⟨_, rfl⟩
  obtain ⟨k2, hk2⟩ : ∃ k2 : Int, k2 = k1 - (L.m.n : Int) := ⟨_, rfl⟩
  obtain ⟨k3, hk3⟩ : ∃ k3 : Int, k3 = k2 - (L.c.n : Int) := ⟨_, rfl⟩
  obtain ⟨k4, hk4⟩ : ∃ k4 : Int, k4 = k3 - (L.n.n : Int) := ⟨_, rfl⟩
  obtain ⟨k5, hk5⟩ : ∃ k5 : Int, k5 = k4 - ((L.s.n : Int) + (L.r.n : Int)) := ⟨_, rfl⟩
  obtain ⟨k6, hk6⟩ : ∃ k6 : Int, k6 = k5 - ((L.l.n : Int) + (L.h.n : Int)) := ⟨_, rfl⟩
  obtain ⟨k7, hk7⟩ : ∃ k7 : Int, k7 = k6 - ((L.y.n : Int) + (L.z.n : Int)) := ⟨_, rfl⟩
  have G0 : Hid (0 ≤ k0 ∧ k0 ≤ 1048576 ∧ (L.t.n : Int) ≤ k0 ∧ k1 = k0 - (L.t.n : Int)) := ⟨by omega, by omega, by omega, hk1⟩
  have G1 : Hid (0 ≤ k1 ∧ k1 ≤ 1048576 ∧ (L.m.n : Int) ≤ k1 ∧ k2 = k1 - (L.m.n : Int)) := ⟨by omega, by omega, by omega, hk2⟩
  have G2 : Hid (0 ≤ k2 ∧ k2 ≤ 1048576 ∧ (L.c.n : Int) ≤ k2 ∧ k3 = k2 - (L.c.n : Int)) := ⟨by omega, by omega, by omega, hk3⟩
  have G3 : Hid (0 ≤ k3 ∧ k3 ≤ 1048576 ∧ (L.n.n : Int) ≤ k3 ∧ k4 = k3 - (L.n.n : Int)) := ⟨by omega, by omega, by omega, hk4⟩
  have G4 : Hid (0 ≤ k4 ∧ k4 ≤ 1048576 ∧ (L.s.n : Int) + (L.r.n : Int) ≤ k4 ∧ k5 = k4 - ((L.s.n : Int) + (L.r.n : Int))) := ⟨by omega, by omega, by omega, hk5⟩
  have G5 : Hid (0 ≤ k5 ∧ k5 ≤ 1048576 ∧ (L.l.n : Int) + (L.h.n : Int) ≤ k5 ∧ k6 = k5 - ((L.l.n : Int) + (L.h.n : Int))) := ⟨by omega, by omega, by omega, hk6⟩
  have G6 : Hid (0 ≤ k6 ∧ k6 ≤ 1048576 ∧ (L.y.n : Int) + (L.z.n : Int) ≤ k6 ∧ k7 = k6 - ((L.y.n : Int) + (L.z.n : Int))) := ⟨by omega, by omega, by omega, hk7⟩
  have G7 : Hid (0 ≤ k7 ∧ k7 = 1048576 - ((L.t.n : Int) + (L.m.n : Int) + (L.c.n : Int) + (L.n.n : Int) + ((L.s.n : Int) + (L.r.n : Int)) + ((L.l.n : Int) + (L.h.n : Int)) + ((L.y.n : Int) + (L.z.n : Int)))) := ⟨by omega, by omega⟩
  rw [← G7.out.2, ← hk0]
  have H0 := G0.out.1
  clear hk0 hk1 hk2 hk3 hk4 hk5 hk6 hk7 h
  obtain ⟨W0, hW0⟩ : ∃ W0, W0 = w.alloc (.cells (sc L d) 50) := ⟨_, rfl⟩
  have SW : Sw w W0 L d := by rw [hW0]; exact swl_new _ _ _
  go_enter Tryz.func18, Tryz.ntmps18
  obtain ⟨c0, c1, c2, c3, c4, c5, c6, c7, c8, c9, c10, c11, c12, c13, c14, c15, c16⟩ := SW.bx.shop
  rw [hW0] at c0 c1 c2 c3 c4 c5 c6 c7 c8 c9 c10 c11 c12 c13 c14 c15 c16
  go_wp2_with fail
  rw [← hW0] at c0 c1 c2 c3 c4 c5 c6 c7 c8 c9 c10 c11 c12 c13 c14 c15 c16 ⊢
  clear hW0
  have S0 : Hid (Sw w W0 L d) := SW
  clear SW
  refine (szTasks_yes L.t.a L.t.n L.t.c k0 _ G0.out.1 G0.out.2.1 G0.out.2.2.1).mono ?_
  rintro e w0 ⟨rfl, rfl⟩
  have S1 : Hid (Sw w w0 L d) := S0.out
  obtain ⟨c0, c1, c2, c3, c4, c5, c6, c7, c8, c9, c10, c11, c12, c13, c14, c15, c16⟩ := S1.out.bx.shop
  rw [← G0.out.2.2.2]
  have gz0 := G1.out.1
  go_wp2_with fail
  refine (szInts_at_yes L.m.a L.m.n L.m.c k1 _ G1.out.1 G1.out.2.1 G1.out.2.2.1).mono ?_
  rintro e w1 ⟨rfl, rfl⟩
  have S2 : Hid (Sw w w1 L d) := S1.out
  obtain ⟨c0, c1, c2, c3, c4, c5, c6, c7, c8, c9, c10, c11, c12, c13, c14, c15, c16⟩ := S2.out.bx.shop
  rw [← G1.out.2.2.2]
  have gz1 := G2.out.1
  go_wp2_with fail
  refine (szInts_at_yes L.c.a L.c.n L.c.c k2 _ G2.out.1 G2.out.2.1 G2.out.2.2.1).mono ?_
  rintro e w2 ⟨rfl, rfl⟩
  have S3 : Hid (Sw w w2 L d) := S2.out
  obtain ⟨c0, c1, c2, c3, c4, c5, c6, c7, c8, c9, c10, c11, c12, c13, c14, c15, c16⟩ := S3.out.bx.shop
  rw [← G2.out.2.2.2]
  have gz2 := G3.out.1
  go_wp2_with fail
  refine (szInts_at_yes L.n.a L.n.n L.n.c k3 _ G3.out.1 G3.out.2.1 G3.out.2.2.1).mono ?_
  rintro e w3 ⟨rfl, rfl⟩
  have S4 : Hid (Sw w w3 L d) := S3.out
  obtain ⟨c0, c1, c2, c3, c4, c5, c6, c7, c8, c9, c10, c11, c12, c13, c14, c15, c16⟩ := S4.out.bx.shop
  rw [← G3.out.2.2.2]
  have gz3 := G4.out.1
  go_wp2_with fail
  refine (szSmooth_at_yes L.s.a L.s.n L.s.c L.r.a L.r.n L.r.c k4 _ G4.out.1 G4.out.2.1 G4.out.2.2.1).mono ?_
  rintro e w4 ⟨rfl, B4⟩
  have S5 : Hid (Sw w w4 L d) := S4.out.all B4
  clear B4
  obtain ⟨c0, c1, c2, c3, c4, c5, c6, c7, c8, c9, c10, c11, c12, c13, c14, c15, c16⟩ := S5.out.bx.shop
  rw [← G4.out.2.2.2]
  have gz4 := G5.out.1
  go_wp2_with fail
  refine (szList_at_yes L.l.a L.l.n L.l.c L.h.a L.h.n L.h.c d.lt d.la k5 _ G5.out.1 G5.out.2.1 G5.out.2.2.1).mono ?_
  rintro e w5 ⟨rfl, B5⟩
  have S6 : Hid (Sw w w5 L d) := S5.out.all B5
  clear B5
  obtain ⟨c0, c1, c2, c3, c4, c5, c6, c7, c8, c9, c10, c11, c12, c13, c14, c15, c16⟩ := S6.out.bx.shop
  rw [← G5.out.2.2.2]
  have gz5 := G6.out.1
  go_wp2_with fail
  refine (szMany_at_yes L.y.a L.y.n L.y.c L.z.a L.z.n L.z.c d.yq d.yt k6 _ G6.out.1 G6.out.2.1 G6.out.2.2.1).mono ?_
  rintro e w6 ⟨rfl, B6⟩
  have S7 : Hid (Sw w w6 L d) := S6.out.all B6
  clear B6
  obtain ⟨c0, c1, c2, c3, c4, c5, c6, c7, c8, c9, c10, c11, c12, c13, c14, c15, c16⟩ := S7.out.bx.shop
  rw [← G6.out.2.2.2]
  have gz6 := G7.out.1
  go_wp2_with fail
  go_ret
  exact ⟨rfl, S7.out.bel⟩

set_option maxRecDepth 100000 in
set_option maxHeartbeats 8000000 in
/-- laws.szShop of a Shop that is too great. -/
theorem szShop_no (L : LT) (d : SD) (w : World) (hl : Lens L) (h : ¬ L.sum ≤ 1048576) :
    Calls Tryz.prog 18 #[sv L d, .int .i64 1048576] w fun e w' => e = .returned (.int .i64 (-1)) ∧ Below w.heap.size w w' := by
  unfold LT.sum at h
  have mt := hl L.t (by simp)
  have mm := hl L.m (by simp)
  have mc := hl L.c (by simp)
  have mn := hl L.n (by simp)
  have ms := hl L.s (by simp)
  have mr := hl L.r (by simp)
  have ml := hl L.l (by simp)
  have mh := hl L.h (by simp)
  have my := hl L.y (by simp)
  have mz := hl L.z (by simp)
  clear hl
  obtain ⟨k0, hk0⟩ : ∃ k0 : Int, k0 = 1048576 := ⟨_, rfl⟩
  rw [← hk0]
  have H0 : 0 ≤ k0 := by omega
  by_cases g0 : (L.t.n : Int) ≤ k0
  rotate_left
  · have N0 : Hid (0 ≤ k0 ∧ k0 ≤ 1048576 ∧ ¬ (L.t.n : Int) ≤ k0) := ⟨by omega, by omega, g0⟩
    clear h hk0 g0 
    obtain ⟨W0, hW0⟩ : ∃ W0, W0 = w.alloc (.cells (sc L d) 50) := ⟨_, rfl⟩
    have SW : Sw w W0 L d := by rw [hW0]; exact swl_new _ _ _
    go_enter Tryz.func18, Tryz.ntmps18
    obtain ⟨c0, c1, c2, c3, c4, c5, c6, c7, c8, c9, c10, c11, c12, c13, c14, c15, c16⟩ := SW.bx.shop
    rw [hW0] at c0 c1 c2 c3 c4 c5 c6 c7 c8 c9 c10 c11 c12 c13 c14 c15 c16
    go_wp2_with fail
    rw [← hW0] at c0 c1 c2 c3 c4 c5 c6 c7 c8 c9 c10 c11 c12 c13 c14 c15 c16 ⊢
    clear hW0
    have S0 : Hid (Sw w W0 L d) := SW
    clear SW
    refine (szTasks_no L.t.a L.t.n L.t.c k0 _ N0.out.1 N0.out.2.1 mt (Int.not_le.2 N0.out.2.2)).mono ?_
    rintro e w0 ⟨rfl, rfl⟩
    have SZ : Hid (Below w.heap.size w w0) := S0.out.bel
    go_wp2_with fail
    go_ret
    exact ⟨rfl, SZ.out⟩
  obtain ⟨k1, hk1⟩ : ∃ k1 : Int, k1 = k0 - (L.t.n : Int) := ⟨_, rfl⟩
  have G0 : Hid (0 ≤ k0 ∧ k0 ≤ 1048576 ∧ (L.t.n : Int) ≤ k0 ∧ k1 = k0 - (L.t.n : Int)) := ⟨by omega, by omega, g0, hk1⟩
  by_cases g1 : (L.m.n : Int) ≤ k1
  rotate_left
  · have N1 : Hid (0 ≤ k1 ∧ k1 ≤ 1048576 ∧ ¬ (L.m.n : Int) ≤ k1) := ⟨by omega, by omega, g1⟩
    clear h hk0 g1 hk1 g0
    obtain ⟨W0, hW0⟩ : ∃ W0, W0 = w.alloc (.cells (sc L d) 50) := ⟨_, rfl⟩
    have SW : Sw w W0 L d := by rw [hW0]; exact swl_new _ _ _
    go_enter Tryz.func18, Tryz.ntmps18
    obtain ⟨c0, c1, c2, c3, c4, c5, c6, c7, c8, c9, c10, c11, c12, c13, c14, c15, c16⟩ := SW.bx.shop
    rw [hW0] at c0 c1 c2 c3 c4 c5 c6 c7 c8 c9 c10 c11 c12 c13 c14 c15 c16
    go_wp2_with fail
    rw [← hW0] at c0 c1 c2 c3 c4 c5 c6 c7 c8 c9 c10 c11 c12 c13 c14 c15 c16 ⊢
    clear hW0
    have S0 : Hid (Sw w W0 L d) := SW
    clear SW
    refine (szTasks_yes L.t.a L.t.n L.t.c k0 _ G0.out.1 G0.out.2.1 G0.out.2.2.1).mono ?_
    rintro e w0 ⟨rfl, rfl⟩
    have S1 : Hid (Sw w w0 L d) := S0.out
    obtain ⟨c0, c1, c2, c3, c4, c5, c6, c7, c8, c9, c10, c11, c12, c13, c14, c15, c16⟩ := S1.out.bx.shop
    rw [← G0.out.2.2.2]
    have gz0 : 0 ≤ k1 := by have := G0.out; omega
    go_wp2_with fail
    refine (szInts_at_no L.m.a L.m.n L.m.c k1 _ N1.out.1 N1.out.2.1 mm (Int.not_le.2 N1.out.2.2)).mono ?_
    rintro e w1 ⟨rfl, rfl⟩
    have SZ : Hid (Below w.heap.size w w1) := S1.out.bel
    go_wp2_with fail
    go_ret
    exact ⟨rfl, SZ.out⟩
  obtain ⟨k2, hk2⟩ : ∃ k2 : Int, k2 = k1 - (L.m.n : Int) := ⟨_, rfl⟩
  have G1 : Hid (0 ≤ k1 ∧ k1 ≤ 1048576 ∧ (L.m.n : Int) ≤ k1 ∧ k2 = k1 - (L.m.n : Int)) := ⟨by omega, by omega, g1, hk2⟩
  by_cases g2 : (L.c.n : Int) ≤ k2
  rotate_left
  · have N2 : Hid (0 ≤ k2 ∧ k2 ≤ 1048576 ∧ ¬ (L.c.n : Int) ≤ k2) := ⟨by omega, by omega, g2⟩
    clear h hk0 g2 hk1 g0 hk2 g1
    obtain ⟨W0, hW0⟩ : ∃ W0, W0 = w.alloc (.cells (sc L d) 50) := ⟨_, rfl⟩
    have SW : Sw w W0 L d := by rw [hW0]; exact swl_new _ _ _
    go_enter Tryz.func18, Tryz.ntmps18
    obtain ⟨c0, c1, c2, c3, c4, c5, c6, c7, c8, c9, c10, c11, c12, c13, c14, c15, c16⟩ := SW.bx.shop
    rw [hW0] at c0 c1 c2 c3 c4 c5 c6 c7 c8 c9 c10 c11 c12 c13 c14 c15 c16
    go_wp2_with fail
    rw [← hW0] at c0 c1 c2 c3 c4 c5 c6 c7 c8 c9 c10 c11 c12 c13 c14 c15 c16 ⊢
    clear hW0
    have S0 : Hid (Sw w W0 L d) := SW
    clear SW
    refine (szTasks_yes L.t.a L.t.n L.t.c k0 _ G0.out.1 G0.out.2.1 G0.out.2.2.1).mono ?_
    rintro e w0 ⟨rfl, rfl⟩
    have S1 : Hid (Sw w w0 L d) := S0.out
    obtain ⟨c0, c1, c2, c3, c4, c5, c6, c7, c8, c9, c10, c11, c12, c13, c14, c15, c16⟩ := S1.out.bx.shop
    rw [← G0.out.2.2.2]
    have gz0 : 0 ≤ k1 := by have := G0.out; omega
    go_wp2_with fail
    refine (szInts_at_yes L.m.a L.m.n L.m.c k1 _ G1.out.1 G1.out.2.1 G1.out.2.2.1).mono ?_
    rintro e w1 ⟨rfl, rfl⟩
    have S2 : Hid (Sw w w1 L d) := S1.out
    obtain ⟨c0, c1, c2, c3, c4, c5, c6, c7, c8, c9, c10, c11, c12, c13, c14, c15, c16⟩ := S2.out.bx.shop
    rw [← G1.out.2.2.2]
    have gz1 : 0 ≤ k2 := by have := G1.out; omega
    go_wp2_with fail
    refine (szInts_at_no L.c.a L.c.n L.c.c k2 _ N2.out.1 N2.out.2.1 mc (Int.not_le.2 N2.out.2.2)).mono ?_
    rintro e w2 ⟨rfl, rfl⟩
    have SZ : Hid (Below w.heap.size w w2) := S2.out.bel
    go_wp2_with fail
    go_ret
    exact ⟨rfl, SZ.out⟩
  obtain ⟨k3, hk3⟩ : ∃ k3 : Int, k3 = k2 - (L.c.n : Int) := ⟨_, rfl⟩
  have G2 : Hid (0 ≤ k2 ∧ k2 ≤ 1048576 ∧ (L.c.n : Int) ≤ k2 ∧ k3 = k2 - (L.c.n : Int)) := ⟨by omega, by omega, g2, hk3⟩
  by_cases g3 : (L.n.n : Int) ≤ k3
  rotate_left
  · have N3 : Hid (0 ≤ k3 ∧ k3 ≤ 1048576 ∧ ¬ (L.n.n : Int) ≤ k3) := ⟨by omega, by omega, g3⟩
    clear h hk0 g3 hk1 g0 hk2 g1 hk3 g2
    obtain ⟨W0, hW0⟩ : ∃ W0, W0 = w.alloc (.cells (sc L d) 50) := ⟨_, rfl⟩
    have SW : Sw w W0 L d := by rw [hW0]; exact swl_new _ _ _
    go_enter Tryz.func18, Tryz.ntmps18
    obtain ⟨c0, c1, c2, c3, c4, c5, c6, c7, c8, c9, c10, c11, c12, c13, c14, c15, c16⟩ := SW.bx.shop
    rw [hW0] at c0 c1 c2 c3 c4 c5 c6 c7 c8 c9 c10 c11 c12 c13 c14 c15 c16
    go_wp2_with fail
    rw [← hW0] at c0 c1 c2 c3 c4 c5 c6 c7 c8 c9 c10 c11 c12 c13 c14 c15 c16 ⊢
    clear hW0
    have S0 : Hid (Sw w W0 L d) := SW
    clear SW
    refine (szTasks_yes L.t.a L.t.n L.t.c k0 _ G0.out.1 G0.out.2.1 G0.out.2.2.1).mono ?_
    rintro e w0 ⟨rfl, rfl⟩
    have S1 : Hid (Sw w w0 L d) := S0.out
    obtain ⟨c0, c1, c2, c3, c4, c5, c6, c7, c8, c9, c10, c11, c12, c13, c14, c15, c16⟩ := S1.out.bx.shop
    rw [← G0.out.2.2.2]
    have gz0 : 0 ≤ k1 := by have := G0.out; omega
    go_wp2_with fail
    refine (szInts_at_yes L.m.a L.m.n L.m.c k1 _ G1.out.1 G1.out.2.1 G1.out.2.2.1).mono ?_
    rintro e w1 ⟨rfl, rfl⟩
    have S2 : Hid (Sw w w1 L d) := S1.out
    obtain ⟨c0, c1, c2, c3, c4, c5, c6, c7, c8, c9, c10, c11, c12, c13, c14, c15, c16⟩ := S2.out.bx.shop
    rw [← G1.out.2.2.2]
    have gz1 : 0 ≤ k2 := by have := G1.out; omega
    go_wp2_with fail
    refine (szInts_at_yes L.c.a L.c.n L.c.c k2 _ G2.out.1 G2.out.2.1 G2.out.2.2.1).mono ?_
    rintro e w2 ⟨rfl, rfl⟩
    have S3 : Hid (Sw w w2 L d) := S2.out
    obtain ⟨c0, c1, c2, c3, c4, c5, c6, c7, c8, c9, c10, c11, c12, c13, c14, c15, c16⟩ := S3.out.bx.shop
    rw [← G2.out.2.2.2]
    have gz2 : 0 ≤ k3 := by have := G2.out; omega
    go_wp2_with fail
    refine (szInts_at_no L.n.a L.n.n L.n.c k3 _ N3.out.1 N3.out.2.1 mn (Int.not_le.2 N3.out.2.2)).mono ?_
    rintro e w3 ⟨rfl, rfl⟩
    have SZ : Hid (Below w.heap.size w w3) := S3.out.bel
    go_wp2_with fail
    go_ret
    exact ⟨rfl, SZ.out⟩
  obtain ⟨k4, hk4⟩ : ∃ k4 : Int, k4 = k3 - (L.n.n : Int) := ⟨_, rfl⟩
  have G3 : Hid (0 ≤ k3 ∧ k3 ≤ 1048576 ∧ (L.n.n : Int) ≤ k3 ∧ k4 = k3 - (L.n.n : Int)) := ⟨by omega, by omega, g3, hk4⟩
  by_cases g4 : (L.s.n : Int) + (L.r.n : Int) ≤ k4
  rotate_left
  · have N4 : Hid (0 ≤ k4 ∧ k4 ≤ 1048576 ∧ ¬ (L.s.n : Int) + (L.r.n : Int) ≤ k4) := ⟨by omega, by omega, g4⟩
    clear h hk0 g4 hk1 g0 hk2 g1 hk3 g2 hk4 g3
    obtain ⟨W0, hW0⟩ : ∃ W0, W0 = w.alloc (.cells (sc L d) 50) := ⟨_, rfl⟩
    have SW : Sw w W0 L d := by rw [hW0]; exact swl_new _ _ _
    go_enter Tryz.func18, Tryz.ntmps18
    obtain ⟨c0, c1, c2, c3, c4, c5, c6, c7, c8, c9, c10, c11, c12, c13, c14, c15, c16⟩ := SW.bx.shop
    rw [hW0] at c0 c1 c2 c3 c4 c5 c6 c7 c8 c9 c10 c11 c12 c13 c14 c15 c16
    go_wp2_with fail
    rw [← hW0] at c0 c1 c2 c3 c4 c5 c6 c7 c8 c9 c10 c11 c12 c13 c14 c15 c16 ⊢
    clear hW0
    have S0 : Hid (Sw w W0 L d) := SW
    clear SW
    refine (szTasks_yes L.t.a L.t.n L.t.c k0 _ G0.out.1 G0.out.2.1 G0.out.2.2.1).mono ?_
    rintro e w0 ⟨rfl, rfl⟩
    have S1 : Hid (Sw w w0 L d) := S0.out
    obtain ⟨c0, c1, c2, c3, c4, c5, c6, c7, c8, c9, c10, c11, c12, c13, c14, c15, c16⟩ := S1.out.bx.shop
    rw [← G0.out.2.2.2]
    have gz0 : 0 ≤ k1 := by have := G0.out; omega
    go_wp2_with fail
    refine (szInts_at_yes L.m.a L.m.n L.m.c k1 _ G1.out.1 G1.out.2.1 G1.out.2.2.1).mono ?_
    rintro e w1 ⟨rfl, rfl⟩
    have S2 : Hid (Sw w w1 L d) := S1.out
    obtain ⟨c0, c1, c2, c3, c4, c5, c6, c7, c8, c9, c10, c11, c12, c13, c14, c15, c16⟩ := S2.out.bx.shop
    rw [← G1.out.2.2.2]
    have gz1 : 0 ≤ k2 := by have := G1.out; omega
    go_wp2_with fail
    refine (szInts_at_yes L.c.a L.c.n L.c.c k2 _ G2.out.1 G2.out.2.1 G2.out.2.2.1).mono ?_
    rintro e w2 ⟨rfl, rfl⟩
    have S3 : Hid (Sw w w2 L d) := S2.out
    obtain ⟨c0, c1, c2, c3, c4, c5, c6, c7, c8, c9, c10, c11, c12, c13, c14, c15, c16⟩ := S3.out.bx.shop
    rw [← G2.out.2.2.2]
    have gz2 : 0 ≤ k3 := by have := G2.out; omega
    go_wp2_with fail
    refine (szInts_at_yes L.n.a L.n.n L.n.c k3 _ G3.out.1 G3.out.2.1 G3.out.2.2.1).mono ?_
    rintro e w3 ⟨rfl, rfl⟩
    have S4 : Hid (Sw w w3 L d) := S3.out
    obtain ⟨c0, c1, c2, c3, c4, c5, c6, c7, c8, c9, c10, c11, c12, c13, c14, c15, c16⟩ := S4.out.bx.shop
    rw [← G3.out.2.2.2]
    have gz3 : 0 ≤ k4 := by have := G3.out; omega
    go_wp2_with fail
    refine (szSmooth_at_no L.s.a L.s.n L.s.c L.r.a L.r.n L.r.c k4 _ N4.out.1 N4.out.2.1 ms mr (Int.not_le.2 N4.out.2.2)).mono ?_
    rintro e w4 ⟨rfl, B4⟩
    have SZ : Hid (Below w.heap.size w w4) := (S4.out.all B4).bel
    clear B4
    go_wp2_with fail
    go_ret
    exact ⟨rfl, SZ.out⟩
  obtain ⟨k5, hk5⟩ : ∃ k5 : Int, k5 = k4 - ((L.s.n : Int) + (L.r.n : Int)) := ⟨_, rfl⟩
  have G4 : Hid (0 ≤ k4 ∧ k4 ≤ 1048576 ∧ (L.s.n : Int) + (L.r.n : Int) ≤ k4 ∧ k5 = k4 - ((L.s.n : Int) + (L.r.n : Int))) := ⟨by omega, by omega, g4, hk5⟩
  by_cases g5 : (L.l.n : Int) + (L.h.n : Int) ≤ k5
  rotate_left
  · have N5 : Hid (0 ≤ k5 ∧ k5 ≤ 1048576 ∧ ¬ (L.l.n : Int) + (L.h.n : Int) ≤ k5) := ⟨by omega, by omega, g5⟩
    clear h hk0 g5 hk1 g0 hk2 g1 hk3 g2 hk4 g3 hk5 g4
    obtain ⟨W0, hW0⟩ : ∃ W0, W0 = w.alloc (.cells (sc L d) 50) := ⟨_, rfl⟩
    have SW : Sw w W0 L d := by rw [hW0]; exact swl_new _ _ _
    go_enter Tryz.func18, Tryz.ntmps18
    obtain ⟨c0, c1, c2, c3, c4, c5, c6, c7, c8, c9, c10, c11, c12, c13, c14, c15, c16⟩ := SW.bx.shop
    rw [hW0] at c0 c1 c2 c3 c4 c5 c6 c7 c8 c9 c10 c11 c12 c13 c14 c15 c16
    go_wp2_with fail
    rw [← hW0] at c0 c1 c2 c3 c4 c5 c6 c7 c8 c9 c10 c11 c12 c13 c14 c15 c16 ⊢
    clear hW0
    have S0 : Hid (Sw w W0 L d) := SW
    clear SW
    refine (szTasks_yes L.t.a L.t.n L.t.c k0 _ G0.out.1 G0.out.2.1 G0.out.2.2.1).mono ?_
    rintro e w0 ⟨rfl, rfl⟩
    have S1 : Hid (Sw w w0 L d) := S0.out
    obtain ⟨c0, c1, c2, c3, c4, c5, c6, c7, c8, c9, c10, c11, c12, c13, c14, c15, c16⟩ := S1.out.bx.shop
    rw [← G0.out.2.2.2]
    have gz0 : 0 ≤ k1 := by have := G0.out; omega
    go_wp2_with fail
    refine (szInts_at_yes L.m.a L.m.n L.m.c k1 _ G1.out.1 G1.out.2.1 G1.out.2.2.1).mono ?_
    rintro e w1 ⟨rfl, rfl⟩
    have S2 : Hid (Sw w w1 L d) := S1.out
    obtain ⟨c0, c1, c2, c3, c4, c5, c6, c7, c8, c9, c10, c11, c12, c13, c14, c15, c16⟩ := S2.out.bx.shop
    rw [← G1.out.2.2.2]
    have gz1 : 0 ≤ k2 := by have := G1.out; omega
    go_wp2_with fail
    refine (szInts_at_yes L.c.a L.c.n L.c.c k2 _ G2.out.1 G2.out.2.1 G2.out.2.2.1).mono ?_
    rintro e w2 ⟨rfl, rfl⟩
    have S3 : Hid (Sw w w2 L d) := S2.out
    obtain ⟨c0, c1, c2, c3, c4, c5, c6, c7, c8, c9, c10, c11, c12, c13, c14, c15, c16⟩ := S3.out.bx.shop
    rw [← G2.out.2.2.2]
    have gz2 : 0 ≤ k3 := by have := G2.out; omega
    go_wp2_with fail
    refine (szInts_at_yes L.n.a L.n.n L.n.c k3 _ G3.out.1 G3.out.2.1 G3.out.2.2.1).mono ?_
    rintro e w3 ⟨rfl, rfl⟩
    have S4 : Hid (Sw w w3 L d) := S3.out
    obtain ⟨c0, c1, c2, c3, c4, c5, c6, c7, c8, c9, c10, c11, c12, c13, c14, c15, c16⟩ := S4.out.bx.shop
    rw [← G3.out.2.2.2]
    have gz3 : 0 ≤ k4 := by have := G3.out; omega
    go_wp2_with fail
    refine (szSmooth_at_yes L.s.a L.s.n L.s.c L.r.a L.r.n L.r.c k4 _ G4.out.1 G4.out.2.1 G4.out.2.2.1).mono ?_
    rintro e w4 ⟨rfl, B4⟩
    have S5 : Hid (Sw w w4 L d) := S4.out.all B4
    clear B4
    obtain ⟨c0, c1, c2, c3, c4, c5, c6, c7, c8, c9, c10, c11, c12, c13, c14, c15, c16⟩ := S5.out.bx.shop
    rw [← G4.out.2.2.2]
    have gz4 : 0 ≤ k5 := by have := G4.out; omega
    go_wp2_with fail
    refine (szList_at_no L.l.a L.l.n L.l.c L.h.a L.h.n L.h.c d.lt d.la k5 _ N5.out.1 N5.out.2.1 ml mh (Int.not_le.2 N5.out.2.2)).mono ?_
    rintro e w5 ⟨rfl, B5⟩
    have SZ : Hid (Below w.heap.size w w5) := (S5.out.all B5).bel
    clear B5
    go_wp2_with fail
    go_ret
    exact ⟨rfl, SZ.out⟩
  obtain ⟨k6, hk6⟩ : ∃ k6 : Int, k6 = k5 - ((L.l.n : Int) + (L.h.n : Int)) := ⟨_, rfl⟩
  have G5 : Hid (0 ≤ k5 ∧ k5 ≤ 1048576 ∧ (L.l.n : Int) + (L.h.n : Int) ≤ k5 ∧ k6 = k5 - ((L.l.n : Int) + (L.h.n : Int))) := ⟨by omega, by omega, g5, hk6⟩
  by_cases g6 : (L.y.n : Int) + (L.z.n : Int) ≤ k6
  rotate_left
  · have N6 : Hid (0 ≤ k6 ∧ k6 ≤ 1048576 ∧ ¬ (L.y.n : Int) + (L.z.n : Int) ≤ k6) := ⟨by omega, by omega, g6⟩
    clear h hk0 g6 hk1 g0 hk2 g1 hk3 g2 hk4 g3 hk5 g4 hk6 g5
    obtain ⟨W0, hW0⟩ : ∃ W0, W0 = w.alloc (.cells (sc L d) 50) := ⟨_, rfl⟩
    have SW : Sw w W0 L d := by rw [hW0]; exact swl_new _ _ _
    go_enter Tryz.func18, Tryz.ntmps18
    obtain ⟨c0, c1, c2, c3, c4, c5, c6, c7, c8, c9, c10, c11, c12, c13, c14, c15, c16⟩ := SW.bx.shop
    rw [hW0] at c0 c1 c2 c3 c4 c5 c6 c7 c8 c9 c10 c11 c12 c13 c14 c15 c16
    go_wp2_with fail
    rw [← hW0] at c0 c1 c2 c3 c4 c5 c6 c7 c8 c9 c10 c11 c12 c13 c14 c15 c16 ⊢
    clear hW0
    have S0 : Hid (Sw w W0 L d) := SW
    clear SW
    refine (szTasks_yes L.t.a L.t.n L.t.c k0 _ G0.out.1 G0.out.2.1 G0.out.2.2.1).mono ?_
    rintro e w0 ⟨rfl, rfl⟩
    have S1 : Hid (Sw w w0 L d) := S0.out
    obtain ⟨c0, c1, c2, c3, c4, c5, c6, c7, c8, c9, c10, c11, c12, c13, c14, c15, c16⟩ := S1.out.bx.shop
    rw [← G0.out.2.2.2]
    have gz0 : 0 ≤ k1 := by have := G0.out; omega
    go_wp2_with fail
    refine (szInts_at_yes L.m.a L.m.n L.m.c k1 _ G1.out.1 G1.out.2.1 G1.out.2.2.1).mono ?_
    rintro e w1 ⟨rfl, rfl⟩
    have S2 : Hid (Sw w w1 L d) := S1.out
    obtain ⟨c0, c1, c2, c3, c4, c5, c6, c7, c8, c9, c10, c11, c12, c13, c14, c15, c16⟩ := S2.out.bx.shop
    rw [← G1.out.2.2.2]
    have gz1 : 0 ≤ k2 := by have := G1.out; omega
    go_wp2_with fail
    refine (szInts_at_yes L.c.a L.c.n L.c.c k2 _ G2.out.1 G2.out.2.1 G2.out.2.2.1).mono ?_
    rintro e w2 ⟨rfl, rfl⟩
    have S3 : Hid (Sw w w2 L d) := S2.out
    obtain ⟨c0, c1, c2, c3, c4, c5, c6, c7, c8, c9, c10, c11, c12, c13, c14, c15, c16⟩ := S3.out.bx.shop
    rw [← G2.out.2.2.2]
    have gz2 : 0 ≤ k3 := by have := G2.out; omega
    go_wp2_with fail
    refine (szInts_at_yes L.n.a L.n.n L.n.c k3 _ G3.out.1 G3.out.2.1 G3.out.2.2.1).mono ?_
    rintro e w3 ⟨rfl, rfl⟩
    have S4 : Hid (Sw w w3 L d) := S3.out
    obtain ⟨c0, c1, c2, c3, c4, c5, c6, c7, c8, c9, c10, c11, c12, c13, c14, c15, c16⟩ := S4.out.bx.shop
    rw [← G3.out.2.2.2]
    have gz3 : 0 ≤ k4 := by have := G3.out; omega
    go_wp2_with fail
    refine (szSmooth_at_yes L.s.a L.s.n L.s.c L.r.a L.r.n L.r.c k4 _ G4.out.1 G4.out.2.1 G4.out.2.2.1).mono ?_
    rintro e w4 ⟨rfl, B4⟩
    have S5 : Hid (Sw w w4 L d) := S4.out.all B4
    clear B4
    obtain ⟨c0, c1, c2, c3, c4, c5, c6, c7, c8, c9, c10, c11, c12, c13, c14, c15, c16⟩ := S5.out.bx.shop
    rw [← G4.out.2.2.2]
    have gz4 : 0 ≤ k5 := by have := G4.out; omega
    go_wp2_with fail
    refine (szList_at_yes L.l.a L.l.n L.l.c L.h.a L.h.n L.h.c d.lt d.la k5 _ G5.out.1 G5.out.2.1 G5.out.2.2.1).mono ?_
    rintro e w5 ⟨rfl, B5⟩
    have S6 : Hid (Sw w w5 L d) := S5.out.all B5
    clear B5
    obtain ⟨c0, c1, c2, c3, c4, c5, c6, c7, c8, c9, c10, c11, c12, c13, c14, c15, c16⟩ := S6.out.bx.shop
    rw [← G5.out.2.2.2]
    have gz5 : 0 ≤ k6 := by have := G5.out; omega
    go_wp2_with fail
    refine (szMany_at_no L.y.a L.y.n L.y.c L.z.a L.z.n L.z.c d.yq d.yt k6 _ N6.out.1 N6.out.2.1 my mz (Int.not_le.2 N6.out.2.2)).mono ?_
    rintro e w6 ⟨rfl, B6⟩
    have SZ : Hid (Below w.heap.size w w6) := (S6.out.all B6).bel
    clear B6
    go_wp2_with fail
    go_ret
    exact ⟨rfl, SZ.out⟩
  omega

end Go.Proofs.YtcmeimfjedakeaaGreat.Crew
