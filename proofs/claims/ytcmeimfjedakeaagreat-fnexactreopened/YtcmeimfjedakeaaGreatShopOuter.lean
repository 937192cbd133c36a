/-
  spec's parts of a right Shop: no List, no Many, what does not hang on the epoch. (Written by wip/tools/gen_shopouter.py.)
-/
import Derived.Test.YtcmeimfjedakeaaGreatShopParts
namespace Go.Proofs.YtcmeimfjedakeaaGreat.Crew
open Go.ChangeShapes Go.WideShapes Go.ChangeAt Go.RowKit

theorem specNoL (a : Option Addr) (len cap : Nat) (a' : Option Addr) (len' cap' : Nat) (l h : List Int) (t p : Int) (w : World) (hl : l.length = len) (hl' : h.length = len') :
    Calls Tryz.prog 93 #[lv (.slice a len cap) (.slice a' len' cap') t p] w fun e w' => e = .returned (.bool (noL l h t p)) ∧ Below w.heap.size w w' := by
  rw [noL, hl, hl']
  by_cases h0 : len = 0
  · subst h0
    by_cases h1 : len' = 0
    · subst h1
      by_cases h2 : t = 0
      · subst h2
        by_cases h3 : p = 0
        · subst h3
          go_enter Tryz.func93, Tryz.ntmps93
          go_wp2_with fail
          go_ret
          refine ⟨by simp, ?_⟩
          go_grown
        · have hd : decide (p = 0) = false := decide_eq_false h3
          rw [hd]
          have hb : (p == (0 : Int)) = false := by simpa using h3
          go_enter Tryz.func93, Tryz.ntmps93
          go_wp2_with fail
          go_ret
          refine ⟨by simp, ?_⟩
          go_grown
      · have hd : decide (t = 0) = false := decide_eq_false h2
        rw [hd]
        have hb : (t == (0 : Int)) = false := by simpa using h2
        go_enter Tryz.func93, Tryz.ntmps93
        go_wp2_with fail
        go_ret
        refine ⟨by simp, ?_⟩
        go_grown
    · have hd : decide (len' = 0) = false := decide_eq_false h1
      rw [hd]
      have hb : ((len' : Int) == (0 : Int)) = false := by simp; omega
      go_enter Tryz.func93, Tryz.ntmps93
      go_wp2_with fail
      go_ret
      refine ⟨by simp, ?_⟩
      go_grown
  · have hd : decide (len = 0) = false := decide_eq_false h0
    rw [hd]
    have hb : ((len : Int) == (0 : Int)) = false := by simp; omega
    go_enter Tryz.func93, Tryz.ntmps93
    go_wp2_with fail
    go_ret
    refine ⟨by simp, ?_⟩
    go_grown

theorem specNoM (a : Option Addr) (len cap : Nat) (a' : Option Addr) (len' cap' : Nat) (y : List Shr) (z : List Int) (q t : Int) (w : World) (hl : y.length = len) (hl' : z.length = len') :
    Calls Tryz.prog 94 #[mv (.slice a len cap) (.slice a' len' cap') q t] w fun e w' => e = .returned (.bool (noM y z q t)) ∧ Below w.heap.size w w' := by
  rw [noM, hl, hl']
  by_cases h0 : len = 0
  · subst h0
    by_cases h1 : len' = 0
    · subst h1
      by_cases h2 : q = 0
      · subst h2
        by_cases h3 : t = 0
        · subst h3
          go_enter Tryz.func94, Tryz.ntmps94
          go_wp2_with fail
          go_ret
          refine ⟨by simp, ?_⟩
          go_grown
        · have hd : decide (t = 0) = false := decide_eq_false h3
          rw [hd]
          have hb : (t == (0 : Int)) = false := by simpa using h3
          go_enter Tryz.func94, Tryz.ntmps94
          go_wp2_with fail
          go_ret
          refine ⟨by simp, ?_⟩
          go_grown
      · have hd : decide (q = 0) = false := decide_eq_false h2
        rw [hd]
        have hb : (q == (0 : Int)) = false := by simpa using h2
        go_enter Tryz.func94, Tryz.ntmps94
        go_wp2_with fail
        go_ret
        refine ⟨by simp, ?_⟩
        go_grown
    · have hd : decide (len' = 0) = false := decide_eq_false h1
      rw [hd]
      have hb : ((len' : Int) == (0 : Int)) = false := by simp; omega
      go_enter Tryz.func94, Tryz.ntmps94
      go_wp2_with fail
      go_ret
      refine ⟨by simp, ?_⟩
      go_grown
  · have hd : decide (len = 0) = false := decide_eq_false h0
    rw [hd]
    have hb : ((len : Int) == (0 : Int)) = false := by simp; omega
    go_enter Tryz.func94, Tryz.ntmps94
    go_wp2_with fail
    go_ret
    refine ⟨by simp, ?_⟩
    go_grown

/-- What does not hang on the epoch. -/
def outerB (d : SD) : Bool := within d.p 1 5 && procsOk d.q && (decide (d.q = 1) || decide (d.p = 5)) && tasksOk d.t && within d.w 0 1000000

theorem shop_new (w : World) (L : LT) (d : SD) : Bx (w.alloc (.cells (sc L d) 36)) w.heap.size (sc L d).toList := bx_new _ _ _

/-- The cells of a Shop in a variable. -/
theorem Bx.shop {w : World} {b : Nat} {L : LT} {d : SD} (h : Bx w b (sc L d).toList) :
    w.cell? ⟨b, 0, none⟩ = some (.int .i64 d.p) ∧ w.cell? ⟨b, 1, none⟩ = some (.int .i64 d.q) ∧ w.cell? ⟨b, 2, none⟩ = some L.t.v ∧ w.cell? ⟨b, 3, none⟩ = some L.m.v ∧ w.cell? ⟨b, 4, none⟩ = some L.c.v ∧ w.cell? ⟨b, 5, none⟩ = some L.n.v ∧ w.cell? ⟨b, 6, none⟩ = some L.s.v ∧ w.cell? ⟨b, 7, none⟩ = some L.r.v ∧ w.cell? ⟨b, 8, none⟩ = some L.l.v ∧ w.cell? ⟨b, 9, none⟩ = some L.h.v ∧ w.cell? ⟨b, 10, none⟩ = some (.int .i64 d.lt) ∧ w.cell? ⟨b, 11, none⟩ = some (.int .i64 d.la) ∧ w.cell? ⟨b, 12, none⟩ = some L.y.v ∧ w.cell? ⟨b, 13, none⟩ = some L.z.v ∧ w.cell? ⟨b, 14, none⟩ = some (.int .i64 d.yq) ∧ w.cell? ⟨b, 15, none⟩ = some (.int .i64 d.yt) ∧ w.cell? ⟨b, 16, none⟩ = some (.int .i64 d.w) :=
  ⟨h.2 0 _ rfl, h.2 1 _ rfl, h.2 2 _ rfl, h.2 3 _ rfl, h.2 4 _ rfl, h.2 5 _ rfl, h.2 6 _ rfl, h.2 7 _ rfl, h.2 8 _ rfl, h.2 9 _ rfl, h.2 10 _ rfl, h.2 11 _ rfl, h.2 12 _ rfl, h.2 13 _ rfl, h.2 14 _ rfl, h.2 15 _ rfl, h.2 16 _ rfl⟩

set_option maxRecDepth 100000 in
set_option maxHeartbeats 4000000 in
/-- spec.l14Outer at every Shop. -/
theorem specOuter (L : LT) (d : SD) (w : World) (I : Tsks w L.t.a L.t.n d.t) (hs : (L.t.n : Int) ≤ 1048576) :
    Calls Tryz.prog 44 #[sv L d] w fun e w' => e = .returned (.bool (outerB d)) ∧ Below w.heap.size w w' := by
  have HI : Hid (Tsks w L.t.a L.t.n d.t) := I
  clear I
  obtain ⟨W0, hW0⟩ : ∃ W0, W0 = w.alloc (.cells (sc L d) 36) := ⟨_, rfl⟩
  have H0 : Hid (Bx W0 w.heap.size (sc L d).toList ∧ Below w.heap.size w W0) := by rw [hW0]; exact ⟨shop_new _ _ _, below_new _ _⟩
  have HW : Hid (outerB d = (within d.p 1 5 && procsOk d.q && (decide (d.q = 1) || decide (d.p = 5)) && tasksOk d.t && within d.w 0 1000000)) := rfl
  cases hp : within d.p 1 5
  · have H1 : Hid (within d.p 1 5 = false ∧ True) := ⟨hp, trivial⟩
    have HE : Hid (outerB d = false) := by show _ = _; rw [HW.out, hp]; rfl
    clear hp
    go_enter Tryz.func44, Tryz.ntmps44
    go_wp2_with fail
    rw [← hW0]
    obtain ⟨c0, c1, c2, c3, c4, c5, c6, c7, c8, c9, c10, c11, c12, c13, c14, c15, c16⟩ := H0.out.1.shop
    clear hW0
    go_wp2_with fail
    refine (in_any d.p 1 5 _).mono ?_
    rw [H1.out.1]
    rintro e wz1 ⟨rfl, rfl⟩
    go_wp2_with fail
    go_ret
    exact ⟨by rw [HE.out]; rfl, H0.out.2⟩
  cases hq : procsOk d.q
  · have H1 : Hid (within d.p 1 5 = true ∧ procsOk d.q = false) := ⟨hp, hq⟩
    have HE : Hid (outerB d = false) := by show _ = _; rw [HW.out, hp, hq]; rfl
    clear hp hq
    go_enter Tryz.func44, Tryz.ntmps44
    go_wp2_with fail
    rw [← hW0]
    obtain ⟨c0, c1, c2, c3, c4, c5, c6, c7, c8, c9, c10, c11, c12, c13, c14, c15, c16⟩ := H0.out.1.shop
    clear hW0
    go_wp2_with fail
    refine (in_any d.p 1 5 _).mono ?_
    rw [H1.out.1]
    rintro e wz1 ⟨rfl, rfl⟩
    go_wp2_with fail
    refine (specProcs d.q _).mono ?_
    rw [H1.out.2]
    rintro e wz2 ⟨rfl, rfl⟩
    go_wp2_with fail
    go_ret
    exact ⟨by rw [HE.out]; rfl, H0.out.2⟩
  by_cases hq1 : d.q = 1
  · have hb1 : (d.q == (1 : Int)) = true := by simp [hq1]
    have HQ : Hid ((decide (d.q = 1) || decide (d.p = 5)) = true) := by show _ = _; rw [decide_eq_true hq1]; rfl
    clear hq1
    cases ht : tasksOk d.t
    · have H1 : Hid (within d.p 1 5 = true ∧ procsOk d.q = true ∧ tasksOk d.t = false ∧ True) := ⟨hp, hq, ht, trivial⟩
      have HE : Hid (outerB d = false) := by show _ = _; rw [HW.out, hp, hq, ht, Bool.and_false]; rfl
      clear hp hq ht
      go_enter Tryz.func44, Tryz.ntmps44
      go_wp2_with fail
      rw [← hW0]
      obtain ⟨c0, c1, c2, c3, c4, c5, c6, c7, c8, c9, c10, c11, c12, c13, c14, c15, c16⟩ := H0.out.1.shop
      clear hW0
      go_wp2_with fail
      refine (in_any d.p 1 5 _).mono ?_
      rw [H1.out.1]
      rintro e wz1 ⟨rfl, rfl⟩
      go_wp2_with fail
      refine (specProcs d.q _).mono ?_
      rw [H1.out.2.1]
      rintro e wz2 ⟨rfl, rfl⟩
      go_wp2_with fail
      refine (specTasksOk L.t.a L.t.n L.t.c d.t _ (HI.out.kept H0.out.2) hs).mono ?_
      rw [H1.out.2.2.1]
      rintro e wt ⟨rfl, BT⟩
      have HB : Hid (Below w.heap.size w wt ∧ Bx wt w.heap.size (sc L d).toList) := ⟨below_call H0.out.2 H0.out.2.size BT, H0.out.1.all BT⟩
      clear BT
      go_wp2_with fail
      go_ret
      exact ⟨by rw [HE.out]; rfl, HB.out.1⟩
    cases hw : within d.w 0 1000000
    · have H1 : Hid (within d.p 1 5 = true ∧ procsOk d.q = true ∧ tasksOk d.t = true ∧ within d.w 0 1000000 = false) := ⟨hp, hq, ht, hw⟩
      have HE : Hid (outerB d = false) := by show _ = _; rw [HW.out, hp, hq, ht, hw, HQ.out]; rfl
      clear hp hq ht hw
      go_enter Tryz.func44, Tryz.ntmps44
      go_wp2_with fail
      rw [← hW0]
      obtain ⟨c0, c1, c2, c3, c4, c5, c6, c7, c8, c9, c10, c11, c12, c13, c14, c15, c16⟩ := H0.out.1.shop
      clear hW0
      go_wp2_with fail
      refine (in_any d.p 1 5 _).mono ?_
      rw [H1.out.1]
      rintro e wz1 ⟨rfl, rfl⟩
      go_wp2_with fail
      refine (specProcs d.q _).mono ?_
      rw [H1.out.2.1]
      rintro e wz2 ⟨rfl, rfl⟩
      go_wp2_with fail
      refine (specTasksOk L.t.a L.t.n L.t.c d.t _ (HI.out.kept H0.out.2) hs).mono ?_
      rw [H1.out.2.2.1]
      rintro e wt ⟨rfl, BT⟩
      have HB : Hid (Below w.heap.size w wt ∧ Bx wt w.heap.size (sc L d).toList) := ⟨below_call H0.out.2 H0.out.2.size BT, H0.out.1.all BT⟩
      clear BT
      clear c0 c1 c2 c3 c4 c5 c6 c7 c8 c9 c10 c11 c12 c13 c14 c15 c16
      have c16 := HB.out.2.2 16 _ rfl
      go_wp2_with fail
      refine (in_any d.w 0 1000000 _).mono ?_
      rw [H1.out.2.2.2]
      rintro e wz3 ⟨rfl, rfl⟩
      go_wp2_with fail
      go_ret
      exact ⟨by rw [HE.out]; rfl, HB.out.1⟩
    · have H1 : Hid (within d.p 1 5 = true ∧ procsOk d.q = true ∧ tasksOk d.t = true ∧ within d.w 0 1000000 = true) := ⟨hp, hq, ht, hw⟩
      have HE : Hid (outerB d = true) := by show _ = _; rw [HW.out, hp, hq, ht, hw, HQ.out]; rfl
      clear hp hq ht hw
      go_enter Tryz.func44, Tryz.ntmps44
      go_wp2_with fail
      rw [← hW0]
      obtain ⟨c0, c1, c2, c3, c4, c5, c6, c7, c8, c9, c10, c11, c12, c13, c14, c15, c16⟩ := H0.out.1.shop
      clear hW0
      go_wp2_with fail
      refine (in_any d.p 1 5 _).mono ?_
      rw [H1.out.1]
      rintro e wz1 ⟨rfl, rfl⟩
      go_wp2_with fail
      refine (specProcs d.q _).mono ?_
      rw [H1.out.2.1]
      rintro e wz2 ⟨rfl, rfl⟩
      go_wp2_with fail
      refine (specTasksOk L.t.a L.t.n L.t.c d.t _ (HI.out.kept H0.out.2) hs).mono ?_
      rw [H1.out.2.2.1]
      rintro e wt ⟨rfl, BT⟩
      have HB : Hid (Below w.heap.size w wt ∧ Bx wt w.heap.size (sc L d).toList) := ⟨below_call H0.out.2 H0.out.2.size BT, H0.out.1.all BT⟩
      clear BT
      clear c0 c1 c2 c3 c4 c5 c6 c7 c8 c9 c10 c11 c12 c13 c14 c15 c16
      have c16 := HB.out.2.2 16 _ rfl
      go_wp2_with fail
      refine (in_any d.w 0 1000000 _).mono ?_
      rw [H1.out.2.2.2]
      rintro e wz3 ⟨rfl, rfl⟩
      go_wp2_with fail
      go_ret
      exact ⟨by rw [HE.out]; rfl, HB.out.1⟩
  have hb1 : (d.q == (1 : Int)) = false := by simpa using hq1
  by_cases hp5 : d.p = 5
  · have hb2 : (d.p == (5 : Int)) = true := by simp [hp5]
    have HQ : Hid ((decide (d.q = 1) || decide (d.p = 5)) = true) := by show _ = _; rw [decide_eq_true hp5, Bool.or_true]
    clear hq1 hp5
    cases ht : tasksOk d.t
    · have H1 : Hid (within d.p 1 5 = true ∧ procsOk d.q = true ∧ tasksOk d.t = false ∧ True) := ⟨hp, hq, ht, trivial⟩
      have HE : Hid (outerB d = false) := by show _ = _; rw [HW.out, hp, hq, ht, Bool.and_false]; rfl
      clear hp hq ht
      go_enter Tryz.func44, Tryz.ntmps44
      go_wp2_with fail
      rw [← hW0]
      obtain ⟨c0, c1, c2, c3, c4, c5, c6, c7, c8, c9, c10, c11, c12, c13, c14, c15, c16⟩ := H0.out.1.shop
      clear hW0
      go_wp2_with fail
      refine (in_any d.p 1 5 _).mono ?_
      rw [H1.out.1]
      rintro e wz1 ⟨rfl, rfl⟩
      go_wp2_with fail
      refine (specProcs d.q _).mono ?_
      rw [H1.out.2.1]
      rintro e wz2 ⟨rfl, rfl⟩
      go_wp2_with fail
      refine (specTasksOk L.t.a L.t.n L.t.c d.t _ (HI.out.kept H0.out.2) hs).mono ?_
      rw [H1.out.2.2.1]
      rintro e wt ⟨rfl, BT⟩
      have HB : Hid (Below w.heap.size w wt ∧ Bx wt w.heap.size (sc L d).toList) := ⟨below_call H0.out.2 H0.out.2.size BT, H0.out.1.all BT⟩
      clear BT
      go_wp2_with fail
      go_ret
      exact ⟨by rw [HE.out]; rfl, HB.out.1⟩
    cases hw : within d.w 0 1000000
    · have H1 : Hid (within d.p 1 5 = true ∧ procsOk d.q = true ∧ tasksOk d.t = true ∧ within d.w 0 1000000 = false) := ⟨hp, hq, ht, hw⟩
      have HE : Hid (outerB d = false) := by show _ = _; rw [HW.out, hp, hq, ht, hw, HQ.out]; rfl
      clear hp hq ht hw
      go_enter Tryz.func44, Tryz.ntmps44
      go_wp2_with fail
      rw [← hW0]
      obtain ⟨c0, c1, c2, c3, c4, c5, c6, c7, c8, c9, c10, c11, c12, c13, c14, c15, c16⟩ := H0.out.1.shop
      clear hW0
      go_wp2_with fail
      refine (in_any d.p 1 5 _).mono ?_
      rw [H1.out.1]
      rintro e wz1 ⟨rfl, rfl⟩
      go_wp2_with fail
      refine (specProcs d.q _).mono ?_
      rw [H1.out.2.1]
      rintro e wz2 ⟨rfl, rfl⟩
      go_wp2_with fail
      refine (specTasksOk L.t.a L.t.n L.t.c d.t _ (HI.out.kept H0.out.2) hs).mono ?_
      rw [H1.out.2.2.1]
      rintro e wt ⟨rfl, BT⟩
      have HB : Hid (Below w.heap.size w wt ∧ Bx wt w.heap.size (sc L d).toList) := ⟨below_call H0.out.2 H0.out.2.size BT, H0.out.1.all BT⟩
      clear BT
      clear c0 c1 c2 c3 c4 c5 c6 c7 c8 c9 c10 c11 c12 c13 c14 c15 c16
      have c16 := HB.out.2.2 16 _ rfl
      go_wp2_with fail
      refine (in_any d.w 0 1000000 _).mono ?_
      rw [H1.out.2.2.2]
      rintro e wz3 ⟨rfl, rfl⟩
      go_wp2_with fail
      go_ret
      exact ⟨by rw [HE.out]; rfl, HB.out.1⟩
    · have H1 : Hid (within d.p 1 5 = true ∧ procsOk d.q = true ∧ tasksOk d.t = true ∧ within d.w 0 1000000 = true) := ⟨hp, hq, ht, hw⟩
      have HE : Hid (outerB d = true) := by show _ = _; rw [HW.out, hp, hq, ht, hw, HQ.out]; rfl
      clear hp hq ht hw
      go_enter Tryz.func44, Tryz.ntmps44
      go_wp2_with fail
      rw [← hW0]
      obtain ⟨c0, c1, c2, c3, c4, c5, c6, c7, c8, c9, c10, c11, c12, c13, c14, c15, c16⟩ := H0.out.1.shop
      clear hW0
      go_wp2_with fail
      refine (in_any d.p 1 5 _).mono ?_
      rw [H1.out.1]
      rintro e wz1 ⟨rfl, rfl⟩
      go_wp2_with fail
      refine (specProcs d.q _).mono ?_
      rw [H1.out.2.1]
      rintro e wz2 ⟨rfl, rfl⟩
      go_wp2_with fail
      refine (specTasksOk L.t.a L.t.n L.t.c d.t _ (HI.out.kept H0.out.2) hs).mono ?_
      rw [H1.out.2.2.1]
      rintro e wt ⟨rfl, BT⟩
      have HB : Hid (Below w.heap.size w wt ∧ Bx wt w.heap.size (sc L d).toList) := ⟨below_call H0.out.2 H0.out.2.size BT, H0.out.1.all BT⟩
      clear BT
      clear c0 c1 c2 c3 c4 c5 c6 c7 c8 c9 c10 c11 c12 c13 c14 c15 c16
      have c16 := HB.out.2.2 16 _ rfl
      go_wp2_with fail
      refine (in_any d.w 0 1000000 _).mono ?_
      rw [H1.out.2.2.2]
      rintro e wz3 ⟨rfl, rfl⟩
      go_wp2_with fail
      go_ret
      exact ⟨by rw [HE.out]; rfl, HB.out.1⟩
  have hb2 : (d.p == (5 : Int)) = false := by simpa using hp5
  have H1 : Hid (within d.p 1 5 = true ∧ procsOk d.q = true) := ⟨hp, hq⟩
  have HE : Hid (outerB d = false) := by show _ = _; rw [HW.out, hp, hq, decide_eq_false hq1, decide_eq_false hp5]; rfl
  clear hp hq hq1 hp5
  go_enter Tryz.func44, Tryz.ntmps44
  go_wp2_with fail
  rw [← hW0]
  obtain ⟨c0, c1, c2, c3, c4, c5, c6, c7, c8, c9, c10, c11, c12, c13, c14, c15, c16⟩ := H0.out.1.shop
  clear hW0
  go_wp2_with fail
  refine (in_any d.p 1 5 _).mono ?_
  rw [H1.out.1]
  rintro e wz1 ⟨rfl, rfl⟩
  go_wp2_with fail
  refine (specProcs d.q _).mono ?_
  rw [H1.out.2]
  rintro e wz2 ⟨rfl, rfl⟩
  go_wp2_with fail
  go_ret
  exact ⟨by rw [HE.out]; rfl, H0.out.2⟩

end Go.Proofs.YtcmeimfjedakeaaGreat.Crew
