/-
  impl's tasks: whether one is right, whether all are, where one stands.
-/
import Derived.Test.YtcmeimfjedakeaaGreatTaskSpec
namespace Go.Proofs.YtcmeimfjedakeaaGreat.Crew
open Go.ChangeShapes Go.WideShapes Go.ChangeAt Go.RowKit

theorem implIdOk (n : Int) (w : World) :
    Calls Tryz.prog 157 #[.int .i64 n] w fun e w' => e = .returned (.bool (within n 1 9999)) ∧ w' = w := by
  cases h : within n 1 9999
  · by_cases h1 : 1 ≤ n
    · have h2 : ¬ n ≤ 9999 := by rcases within_no h with h | h <;> omega
      have hd : decide (n ≤ 9999) = false := by simp; omega
      clear h
      go_enter Tryz.func157, Tryz.ntmps157
      go_wp2_with fail
      go_ret
      exact ⟨rfl, rfl⟩
    · have hd : decide (1 ≤ n) = false := by simp; omega
      clear h
      go_enter Tryz.func157, Tryz.ntmps157
      go_wp2_with fail
      go_ret
      exact ⟨rfl, rfl⟩
  · obtain ⟨h1, h2⟩ := within_yes h
    clear h
    go_enter Tryz.func157, Tryz.ntmps157
    go_wp2_with fail
    go_ret
    exact ⟨rfl, rfl⟩

theorem implStateOk (n : Int) (w : World) :
    Calls Tryz.prog 132 #[.int .i64 n] w fun e w' => e = .returned (.bool (within n 1 3)) ∧ w' = w := by
  cases h : within n 1 3
  · by_cases h1 : 1 ≤ n
    · have h2 : ¬ n ≤ 3 := by rcases within_no h with h | h <;> omega
      have hd : decide (n ≤ 3) = false := by simp; omega
      clear h
      go_enter Tryz.func132, Tryz.ntmps132
      go_wp2_with fail
      go_ret
      exact ⟨rfl, rfl⟩
    · have hd : decide (1 ≤ n) = false := by simp; omega
      clear h
      go_enter Tryz.func132, Tryz.ntmps132
      go_wp2_with fail
      go_ret
      exact ⟨rfl, rfl⟩
  · obtain ⟨h1, h2⟩ := within_yes h
    clear h
    go_enter Tryz.func132, Tryz.ntmps132
    go_wp2_with fail
    go_ret
    exact ⟨rfl, rfl⟩

theorem implHadOk (n : Int) (w : World) :
    Calls Tryz.prog 158 #[.int .i64 n] w fun e w' => e = .returned (.bool (within n 0 100000000)) ∧ w' = w := by
  cases h : within n 0 100000000
  · by_cases h1 : 0 ≤ n
    · have h2 : ¬ n ≤ 100000000 := by rcases within_no h with h | h <;> omega
      have hd : decide (n ≤ 100000000) = false := by simp; omega
      clear h
      go_enter Tryz.func158, Tryz.ntmps158
      go_wp2_with fail
      go_ret
      exact ⟨rfl, rfl⟩
    · have hd : decide (0 ≤ n) = false := by simp; omega
      clear h
      go_enter Tryz.func158, Tryz.ntmps158
      go_wp2_with fail
      go_ret
      exact ⟨rfl, rfl⟩
  · obtain ⟨h1, h2⟩ := within_yes h
    clear h
    go_enter Tryz.func158, Tryz.ntmps158
    go_wp2_with fail
    go_ret
    exact ⟨rfl, rfl⟩

/-- impl.taskOk. -/
theorem implTaskOk (i v s h : Int) (w : World) :
    Calls Tryz.prog 125 #[tk i v s h] w fun e w' => e = .returned (.bool (taskOk ⟨i, v, s, h⟩)) ∧ Below w.heap.size w w' := by
  have e : taskOk ⟨i, v, s, h⟩ = (within i 1 9999 && within v 1 1000000 && within s 1 3 && within h 0 100000000) := rfl
  rw [e]
  clear e
  cases h1 : within i 1 9999
  · have H1 : Hid (within i 1 9999 = false) := h1
    clear h1
    go_enter Tryz.func125, Tryz.ntmps125
    go_wp2_with fail
    refine (implIdOk i _).mono ?_
    rw [H1.out]
    rintro e w1 ⟨rfl, rfl⟩
    go_wp2_with fail
    go_ret
    refine ⟨rfl, ?_⟩
    go_grown
  have H1 : Hid (within i 1 9999 = true) := h1
  clear h1
  cases h2 : within v 1 1000000
  · have H2 : Hid (within v 1 1000000 = false) := h2
    clear h2
    go_enter Tryz.func125, Tryz.ntmps125
    go_wp2_with fail
    refine (implIdOk i _).mono ?_
    rw [H1.out]
    rintro e w1 ⟨rfl, rfl⟩
    go_wp2_with fail
    refine (implWeight_any v _).mono ?_
    rw [H2.out]
    rintro e w2 ⟨rfl, rfl⟩
    go_wp2_with fail
    go_ret
    refine ⟨rfl, ?_⟩
    go_grown
  have H2 : Hid (within v 1 1000000 = true) := h2
  clear h2
  cases h3 : within s 1 3
  · have H3 : Hid (within s 1 3 = false) := h3
    clear h3
    go_enter Tryz.func125, Tryz.ntmps125
    go_wp2_with fail
    refine (implIdOk i _).mono ?_
    rw [H1.out]
    rintro e w1 ⟨rfl, rfl⟩
    go_wp2_with fail
    refine (implWeight_any v _).mono ?_
    rw [H2.out]
    rintro e w2 ⟨rfl, rfl⟩
    go_wp2_with fail
    refine (implStateOk s _).mono ?_
    rw [H3.out]
    rintro e w3 ⟨rfl, rfl⟩
    go_wp2_with fail
    go_ret
    refine ⟨rfl, ?_⟩
    go_grown
  have H3 : Hid (within s 1 3 = true) := h3
  clear h3
  cases h4 : within h 0 100000000
  · have H4 : Hid (within h 0 100000000 = false) := h4
    clear h4
    go_enter Tryz.func125, Tryz.ntmps125
    go_wp2_with fail
    refine (implIdOk i _).mono ?_
    rw [H1.out]
    rintro e w1 ⟨rfl, rfl⟩
    go_wp2_with fail
    refine (implWeight_any v _).mono ?_
    rw [H2.out]
    rintro e w2 ⟨rfl, rfl⟩
    go_wp2_with fail
    refine (implStateOk s _).mono ?_
    rw [H3.out]
    rintro e w3 ⟨rfl, rfl⟩
    go_wp2_with fail
    refine (implHadOk h _).mono ?_
    rw [H4.out]
    rintro e w4 ⟨rfl, rfl⟩
    go_wp2_with fail
    go_ret
    refine ⟨rfl, ?_⟩
    go_grown
  have H4 : Hid (within h 0 100000000 = true) := h4
  clear h4
  go_enter Tryz.func125, Tryz.ntmps125
  go_wp2_with fail
  refine (implIdOk i _).mono ?_
  rw [H1.out]
  rintro e w1 ⟨rfl, rfl⟩
  go_wp2_with fail
  refine (implWeight_any v _).mono ?_
  rw [H2.out]
  rintro e w2 ⟨rfl, rfl⟩
  go_wp2_with fail
  refine (implStateOk s _).mono ?_
  rw [H3.out]
  rintro e w3 ⟨rfl, rfl⟩
  go_wp2_with fail
  refine (implHadOk h _).mono ?_
  rw [H4.out]
  rintro e w4 ⟨rfl, rfl⟩
  go_wp2_with fail
  go_ret
  refine ⟨rfl, ?_⟩
  go_grown

/-- A task in a variable of its own. -/
def TBox (w : World) (b : Nat) (x : Tsk) : Prop :=
  b < w.heap.size ∧ w.cell? ⟨b, 0, none⟩ = some (.int .i64 x.i) ∧ w.cell? ⟨b, 1, none⟩ = some (.int .i64 x.w) ∧ w.cell? ⟨b, 2, none⟩ = some (.int .i64 x.s) ∧ w.cell? ⟨b, 3, none⟩ = some (.int .i64 x.h)

theorem TBox.kept {w w' : World} {b B : Nat} {x : Tsk} (h : TBox w b x) (k : Below B w w') (hb : b < B) : TBox w' b x :=
  ⟨Nat.lt_of_lt_of_le h.1 k.size, (k.cell hb).trans h.2.1, (k.cell hb).trans h.2.2.1, (k.cell hb).trans h.2.2.2.1, (k.cell hb).trans h.2.2.2.2⟩

theorem TBox.all {w w' : World} {b : Nat} {x : Tsk} (h : TBox w b x) (k : Below w.heap.size w w') : TBox w' b x := h.kept k h.1

theorem tbox_new (w : World) (i v s h : Int) : TBox (w.alloc (.cells #[.int .i64 i, .int .i64 v, .int .i64 s, .int .i64 h] 73)) w.heap.size ⟨i, v, s, h⟩ := by
  have c : ∀ j : Nat, (w.alloc (.cells #[.int .i64 i, .int .i64 v, .int .i64 s, .int .i64 h] 73)).cell? ⟨w.heap.size, j, none⟩ = (#[Value.int .i64 i, .int .i64 v, .int .i64 s, .int .i64 h])[j]? := fun j => cell_of_row _ w.heap.size _ _ _ _ (heap_alloc_new w _)
  exact ⟨by simp, by rw [c]; rfl, by rw [c]; rfl, by rw [c]; rfl, by rw [c]; rfl⟩

set_option maxRecDepth 100000 in
set_option maxHeartbeats 4000000 in
/-- impl.TasksOk at every slice of tasks. -/
theorem implTasksOk (a : Option Addr) (len cap : Nat) (ps : List Tsk) (w : World) (I : Tsks w a len ps) (hs : (len : Int) ≤ 1048576) :
    Calls Tryz.prog 105 #[.slice a len cap] w fun e w' => e = .returned (.bool (tasksOk ps)) ∧ Below w.heap.size w w' := by
  have HI : Hid (Tsks w a len ps) := I
  have HL : Hid (ps.length = len) := I.1
  clear I
  by_cases h24 : len ≤ 24
  · have h24' : ¬ (24 : Int) < (len : Int) := by omega
    have H24 : Hid (len ≤ 24) := h24
    have hd : decide ((24 : Int) < (len : Int)) = false := decide_eq_false h24'
    go_enter Tryz.func105, Tryz.ntmps105
    go_wp2_with fail
    clear hd
    go_loopw [3, 4, 10] (fun _ _ i wr => ∃ k : Nat, k ≤ len ∧ i = .int .i64 k ∧ Hid (allTo ps k = true ∧ Below w.heap.size w wr)) (fun _ _ i _ => len - (intOf i).toNat)
    case atStart => exact ⟨0, Nat.zero_le _, rfl, rfl, Below.refl _ _⟩
    case round =>
      obtain ⟨k, hk, rfl, R⟩ := hrel
      by_cases hlt : k < len
      · obtain ⟨_, h0 | ⟨b, off, rfl, hb, hc⟩⟩ := tsks_parts (HI.out.kept R.out.2)
        · omega
        obtain ⟨x, hx⟩ : ∃ x, x = ps.getD k tz := ⟨_, rfl⟩
        obtain ⟨c0, c1, c2, c3⟩ := hc k hlt
        rw [← hx] at c0 c1 c2 c3
        have hkl : (k : Int) < (len : Int) := by omega
        have HX : Hid (x = ps.getD k tz) := hx
        clear hx
        obtain ⟨y, hy⟩ : ∃ y, y = (ps.getD (k - 1) tz).i := ⟨_, rfl⟩
        have cy : 0 < k → wr.cell? ⟨b, off + (k - 1) * 4, none⟩ = some (.int .i64 y) := fun h => by rw [hy]; exact (hc (k - 1) (by omega)).1
        have HY : Hid (y = (ps.getD (k - 1) tz).i) := hy
        have HCY : Hid (0 < k → wr.cell? ⟨b, off + (k - 1) * 4, none⟩ = some (.int .i64 y)) := cy
        clear hc hy cy
        obtain ⟨xi, xw, xs, xh⟩ := x
        simp only at c0 c1 c2 c3
        go_wp2_with fail
        obtain ⟨W, hW⟩ : ∃ W, W = wr.alloc (.cells #[.int .i64 xi, .int .i64 xw, .int .i64 xs, .int .i64 xh] 73) := ⟨_, rfl⟩
        have BX := tbox_new wr xi xw xs xh
        rw [← hW] at BX ⊢
        have BW : Hid (Below w.heap.size w W ∧ Below wr.heap.size wr W) := by rw [hW]; exact ⟨below_call R.out.2 R.out.2.size (below_new _ _), below_new _ _⟩
        clear hW c0 c1 c2 c3
        have v0 : ∀ z : Kin W, z.u.cell? ⟨wr.heap.size, 0, none⟩ = some (.int .i64 xi) := fun z => z.cell BX.1 BX.2.1
        have v1 : ∀ z : Kin W, z.u.cell? ⟨wr.heap.size, 1, none⟩ = some (.int .i64 xw) := fun z => z.cell BX.1 BX.2.2.1
        have v2 : ∀ z : Kin W, z.u.cell? ⟨wr.heap.size, 2, none⟩ = some (.int .i64 xs) := fun z => z.cell BX.1 BX.2.2.2.1
        have v3 : ∀ z : Kin W, z.u.cell? ⟨wr.heap.size, 3, none⟩ = some (.int .i64 xh) := fun z => z.cell BX.1 BX.2.2.2.2
        obtain ⟨p1, hp1⟩ : ∃ p, p = taskOk ⟨xi, xw, xs, xh⟩ := ⟨_, rfl⟩
        have K1 : Hid (∀ u : World, Calls Tryz.prog 125 #[tk xi xw xs xh] u fun e w' => e = .returned (.bool p1) ∧ Below u.heap.size u w') := fun u => by rw [hp1]; exact implTaskOk xi xw xs xh u
        have HP : Hid (taskAt ps k = (p1 && (decide (k = 0) || decide (y < xi)))) := by
          show _ = _
          rw [taskAt, ← HX.out, ← HY.out, hp1]
        clear hp1 HX HY
        cases p1
        · refine wp_region_kin (by kernel_rfl) (by kernel_rfl) (fun hne => ?_)
          repeat (go_big_quiet_step ((first | (go_at_call 125; exact kin_calls (K1.out _)))))
          refine wpQuiet_nil ?_
          rintro _ ⟨z, rfl⟩
          have BZ : Hid (Below w.heap.size w z.u) := below_call BW.out.1 BW.out.1.size z.b
          generalize z.u = wz at BZ ⊢
          have HN : Hid (taskAt ps k = false) := by show _ = _; rw [HP.out]; rfl
          clear K1 v0 v1 v2 v3 hne
          go_wp2_with fail
          go_ret
          refine ⟨?_, BZ.out⟩
          rw [tasksOk, allTo_no HN.out (by rw [HL.out]; exact hlt)]
          rfl
        by_cases hk0 : k = 0
        · have hd : decide ((0 : Int) < (k : Int)) = false := decide_eq_false (by omega)
          have hdn : decide (0 < k) = false := decide_eq_false (by omega)
          have HK : Hid (k = 0) := hk0
          clear hk0
          refine wp_region_kin (by kernel_rfl) (by kernel_rfl) (fun hne => ?_)
          repeat (go_big_quiet_step ((first | (go_at_call 125; exact kin_calls (K1.out _)))))
          refine wpQuiet_nil ?_
          rintro _ ⟨z, rfl⟩
          have BZ : Hid (Below w.heap.size w z.u) := below_call BW.out.1 BW.out.1.size z.b
          generalize z.u = wz at BZ ⊢
          have HN : Hid (taskAt ps k = true) := by show _ = _; rw [HP.out]; rw [HK.out]; rfl
          clear K1 v0 v1 v2 v3 hne
          go_wp2_with fail
          go_roundw
          case rel => exact ⟨k + 1, by omega, by go_num, by rw [allTo, R.out.1, HN.out]; rfl, BZ.out⟩
          case measure => simp [intOf]; omega
        have hkp : 0 < k := by omega
        have hki : (0 : Int) < (k : Int) := by omega
        have hd : decide ((0 : Int) < (k : Int)) = true := decide_eq_true hki
        have cy := HCY.out hkp
        have v4 : ∀ z : Kin W, z.u.cell? ⟨b, off + (k - 1) * 4, none⟩ = some (.int .i64 y) := fun z => z.cell (Nat.lt_of_lt_of_le hb BW.out.2.size) ((BW.out.2.cell (p := ⟨b, off + (k - 1) * 4, none⟩) hb).trans cy)
        clear cy
        by_cases hyx : y < xi
        · have hyx' : ¬ xi ≤ y := by omega
          have hyd : decide (xi ≤ y) = false := decide_eq_false hyx'
          refine wp_region_kin (by kernel_rfl) (by kernel_rfl) (fun hne => ?_)
          repeat (go_big_quiet_step ((first | (go_at_call 125; exact kin_calls (K1.out _)))))
          refine wpQuiet_nil ?_
          rintro _ ⟨z, rfl⟩
          have BZ : Hid (Below w.heap.size w z.u) := below_call BW.out.1 BW.out.1.size z.b
          generalize z.u = wz at BZ ⊢
          have HN : Hid (taskAt ps k = true) := by show _ = _; rw [HP.out]; rw [decide_eq_true hyx]; simp
          clear v4 K1 v0 v1 v2 v3 hne
          go_wp2_with fail
          go_roundw
          case rel => exact ⟨k + 1, by omega, by go_num, by rw [allTo, R.out.1, HN.out]; rfl, BZ.out⟩
          case measure => simp [intOf]; omega
        · have hyx' : xi ≤ y := by omega
          have hyd : decide (xi ≤ y) = true := decide_eq_true hyx'
          refine wp_region_kin (by kernel_rfl) (by kernel_rfl) (fun hne => ?_)
          repeat (go_big_quiet_step ((first | (go_at_call 125; exact kin_calls (K1.out _)))))
          refine wpQuiet_nil ?_
          rintro _ ⟨z, rfl⟩
          have BZ : Hid (Below w.heap.size w z.u) := below_call BW.out.1 BW.out.1.size z.b
          generalize z.u = wz at BZ ⊢
          have HN : Hid (taskAt ps k = false) := by show _ = _; rw [HP.out]; rw [decide_eq_false hyx, decide_eq_false hk0]; rfl
          clear v4 K1 v0 v1 v2 v3 hne
          go_wp2_with fail
          go_ret
          refine ⟨?_, BZ.out⟩
          rw [tasksOk, allTo_no HN.out (by rw [HL.out]; exact hlt)]
          rfl
      · have hlt' : ¬ (k : Int) < (len : Int) := by omega
        have e : k = len := by omega
        subst e
        have HE : Hid (tasksOk ps = true) := by show _ = _; rw [tasksOk, HL.out, R.out.1, decide_eq_true H24.out]; rfl
        go_wp2_with fail
        go_ret
        exact ⟨by rw [HE.out]; rfl, R.out.2⟩
  · have h24' : (24 : Int) < (len : Int) := by omega
    have HN : Hid (tasksOk ps = false) := by show _ = _; rw [tasksOk, HL.out, decide_eq_false h24, Bool.and_false]
    have hd : decide ((24 : Int) < (len : Int)) = true := decide_eq_true h24'
    go_enter Tryz.func105, Tryz.ntmps105
    go_wp2_with fail
    go_ret
    exact ⟨by rw [HN.out]; rfl, Below.refl _ _⟩

/-- Is it the one of that Id? The closure of impl.FindTask. -/
theorem isT_any (i v s h id : Int) (bx : Nat) (w : World) (hb : bx < w.heap.size) (c : w.cell? ⟨bx, 0, none⟩ = some (.int .i64 id)) :
    Calls Tryz.prog 160 #[tk i v s h, .pointer (some ⟨bx, 0, none⟩)] w fun e w' => e = .returned (.bool (i == id)) ∧ Below w.heap.size w w' := by
  have n1 := Nat.ne_of_lt hb
  have n2 := Nat.ne_of_gt hb
  go_enter Tryz.func160, Tryz.ntmps160
  go_wp2_with fail
  go_ret
  refine ⟨rfl, ?_⟩
  go_grown

/-- slices.IndexFunc with it. -/
theorem indexT_any (a : Option Addr) (len cap : Nat) (ps : List Tsk) (id : Int) (bx : Nat) (w : World) (I : Tsks w a len ps) (hs : (len : Int) ≤ 1048576) (hb : bx < w.heap.size) (c : w.cell? ⟨bx, 0, none⟩ = some (.int .i64 id)) :
    Calls Tryz.prog 159 #[.slice a len cap, .func (.func 160) #[] #[.pointer (some ⟨bx, 0, none⟩)]] w fun e w' => e = .returned (.int .i64 (findT ps id)) ∧ Below w.heap.size w w' := by
  have HI : Hid (Tsks w a len ps) := I
  have HL : Hid (ps.length = len) := I.1
  have HB : Hid (bx < w.heap.size ∧ w.cell? ⟨bx, 0, none⟩ = some (.int .i64 id)) := ⟨hb, c⟩
  clear I hb c
  go_enter Tryz.func159, Tryz.ntmps159
  go_wp2_with fail
  go_loopw [5, 8] (fun _ i wr => ∃ k : Nat, k ≤ len ∧ i = .int .i64 k ∧ Hid (findTo ps id k = k ∧ Below w.heap.size w wr)) (fun _ i _ => len - (intOf i).toNat)
  case atStart => exact ⟨0, Nat.zero_le _, rfl, rfl, Below.refl _ _⟩
  case round =>
    obtain ⟨k, hk, rfl, R⟩ := hrel
    by_cases hlt : k < len
    · obtain ⟨_, h0 | ⟨b, off, rfl, hb, hc⟩⟩ := tsks_parts (HI.out.kept R.out.2)
      · omega
      obtain ⟨x, hx⟩ : ∃ x, x = ps.getD k tz := ⟨_, rfl⟩
      obtain ⟨c0, c1, c2, c3⟩ := hc k hlt
      rw [← hx] at c0 c1 c2 c3
      have hkl : (k : Int) < (len : Int) := by omega
      have HX : Hid (x = ps.getD k tz) := hx
      have hbx := Nat.lt_of_lt_of_le HB.out.1 R.out.2.size
      have cb : Hid (wr.cell? ⟨bx, 0, none⟩ = some (.int .i64 id)) := (R.out.2.cell (p := ⟨bx, 0, none⟩) HB.out.1).trans HB.out.2
      clear hc hx
      obtain ⟨xi, xw, xs, xh⟩ := x
      simp only at c0 c1 c2 c3
      go_wp2_with fail
      refine (isT_any xi xw xs xh id bx _ hbx cb.out).mono ?_
      rintro e w1 ⟨rfl, B1⟩
      have R1 : Hid (Below w.heap.size w w1) := below_call R.out.2 R.out.2.size B1
      clear B1 c0 c1 c2 c3 cb hbx hb
      by_cases he : xi = id
      · have hb1 : (xi == id) = true := by simp [he]
        have HE : Hid (findT ps id = k) := by
          show _ = _
          rw [findT, findTo_hit R.out.1 (by rw [← HX.out]; exact he) (by rw [HL.out]; exact hlt), HL.out, if_pos hlt]
        clear he
        go_wp2_with fail
        go_ret
        exact ⟨by rw [HE.out]; rfl, R1.out⟩
      · have hb1 : (xi == id) = false := by simp [he]
        have HE : Hid (findTo ps id (k + 1) = k + 1) := findTo_step R.out.1 (by rw [← HX.out]; exact he)
        clear he
        go_wp2_with fail
        go_roundw
        case rel => exact ⟨k + 1, by omega, by go_num, HE.out, R1.out⟩
        case measure => simp [intOf]; omega
    · have hlt' : ¬ (k : Int) < (len : Int) := by omega
      have e : k = len := by omega
      subst e
      have HE : Hid (findT ps id = -1) := by
        show _ = _
        rw [findT, HL.out, R.out.1, if_neg (Nat.lt_irrefl _)]
      go_wp2_with fail
      go_ret
      exact ⟨by rw [HE.out]; rfl, R.out.2⟩

/-- impl.FindTask at every slice of tasks. -/
theorem implFind (a : Option Addr) (len cap : Nat) (ps : List Tsk) (id : Int) (w : World) (I : Tsks w a len ps) (hs : (len : Int) ≤ 1048576) :
    Calls Tryz.prog 127 #[.slice a len cap, .int .i64 id] w fun e w' => e = .returned (.int .i64 (findT ps id)) ∧ Below w.heap.size w w' := by
  have HI : Hid (Tsks w a len ps) := I
  have B0 : Hid (Below w.heap.size w (w.alloc (.cells #[.int .i64 id] 2))) := below_new _ _
  have C0 : Hid ((w.alloc (.cells #[.int .i64 id] 2)).cell? ⟨w.heap.size, 0, none⟩ = some (.int .i64 id)) := by
    show _ = _
    rw [cell_of_row _ w.heap.size _ _ _ _ (heap_alloc_new w _)]
    rfl
  clear I
  go_enter Tryz.func127, Tryz.ntmps127
  go_wp2_with fail
  refine (indexT_any a len cap ps id w.heap.size _ (HI.out.kept B0.out) hs (by simp) C0.out).mono ?_
  rintro e w1 ⟨rfl, B1⟩
  have B2 := below_call B0.out (by simp) B1
  clear B1
  go_wp2_with fail
  go_ret
  exact ⟨rfl, B2⟩

end Go.Proofs.YtcmeimfjedakeaaGreat.Crew
