/-
  impl's tasks: whether one is right, whether all are, where one stands.
-/
import Derived.Test.YtcmeimfjedakeaaGreatTaskSpec
import Derived.Test.YtcmeimfjedakeaaGreatRecs
import Derived.Laws.CopyOwn
import Derived.Laws.IdiomCopy
import Derived.Test.YtcmeimfjedakeaaGreatTaskMake
import Derived.Test.YtcmeimfjedakeaaGreatTaskMath
namespace Go.Proofs.YtcmeimfjedakeaaGreat.Crew
open Go.ChangeShapes Go.WideShapes Go.ChangeAt Go.RowKit

theorem implIdOk (n : Int) (w : World) :
    Calls Tryz.prog 157 #[.int .i64 n] w fun e w' => e = .returned (.bool (within n 1 9999)) ∧ w' = w := by
  cases h : within n 1 9999
  · by_cases h1 : 1 ≤ n
    · have h2 : ¬ n ≤ 9999 := by rcases within_no h with h | h <;> omega
      have hd : decide (n ≤ 9999) = false := by simp; omega
      clear h
      go_enter Tryz.func157, Tryz.ntmps157
      go_wp2_with fail
      go_ret
      exact ⟨rfl, rfl⟩
    · have hd : decide (1 ≤ n) = false := by simp; omega
      clear h
      go_enter Tryz.func157, Tryz.ntmps157
      go_wp2_with fail
      go_ret
      exact ⟨rfl, rfl⟩
  · obtain ⟨h1, h2⟩ := within_yes h
    clear h
    go_enter Tryz.func157, Tryz.ntmps157
    go_wp2_with fail
    go_ret
    exact ⟨rfl, rfl⟩

theorem implStateOk (n : Int) (w : World) :
    Calls Tryz.prog 132 #[.int .i64 n] w fun e w' => e = .returned (.bool (within n 1 3)) ∧ w' = w := by
  cases h : within n 1 3
  · by_cases h1 : 1 ≤ n
    · have h2 : ¬ n ≤ 3 := by rcases within_no h with h | h <;> omega
      have hd : decide (n ≤ 3) = false := by simp; omega
      clear h
      go_enter Tryz.func132, Tryz.ntmps132
      go_wp2_with fail
      go_ret
      exact ⟨rfl, rfl⟩
    · have hd : decide (1 ≤ n) = false := by simp; omega
      clear h
      go_enter Tryz.func132, Tryz.ntmps132
      go_wp2_with fail
      go_ret
      exact ⟨rfl, rfl⟩
  · obtain ⟨h1, h2⟩ := within_yes h
    clear h
    go_enter Tryz.func132, Tryz.ntmps132
    go_wp2_with fail
    go_ret
    exact ⟨rfl, rfl⟩

theorem implHadOk (n : Int) (w : World) :
    Calls Tryz.prog 158 #[.int .i64 n] w fun e w' => e = .returned (.bool (within n 0 100000000)) ∧ w' = w := by
  cases h : within n 0 100000000
  · by_cases h1 : 0 ≤ n
    · have h2 : ¬ n ≤ 100000000 := by rcases within_no h with h | h <;> omega
      have hd : decide (n ≤ 100000000) = false := by simp; omega
      clear h
      go_enter Tryz.func158, Tryz.ntmps158
      go_wp2_with fail
      go_ret
      exact ⟨rfl, rfl⟩
    · have hd : decide (0 ≤ n) = false := by simp; omega
      clear h
      go_enter Tryz.func158, Tryz.ntmps158
      go_wp2_with fail
      go_ret
      exact ⟨rfl, rfl⟩
  · obtain ⟨h1, h2⟩ := within_yes h
    clear h
    go_enter Tryz.func158, Tryz.ntmps158
    go_wp2_with fail
    go_ret
    exact ⟨rfl, rfl⟩

/-- impl.taskOk. -/
theorem implTaskOk (i v s h : Int) (w : World) :
    Calls Tryz.prog 125 #[tk i v s h] w fun e w' => e = .returned (.bool (taskOk ⟨i, v, s, h⟩)) ∧ Below w.heap.size w w' := by
  have e : taskOk ⟨i, v, s, h⟩ = (within i 1 9999 && within v 1 1000000 && within s 1 3 && within h 0 100000000) := rfl
  rw [e]
  clear e
  cases h1 : within i 1 9999
  · have H1 : Hid (within i 1 9999 = false) := h1
    clear h1
    go_enter Tryz.func125, Tryz.ntmps125
    go_wp2_with fail
    refine (implIdOk i _).mono ?_
    rw [H1.out]
    rintro e w1 ⟨rfl, rfl⟩
    go_wp2_with fail
    go_ret
    refine ⟨rfl, ?_⟩
    go_grown
  have H1 : Hid (within i 1 9999 = true) := h1
  clear h1
  cases h2 : within v 1 1000000
  · have H2 : Hid (within v 1 1000000 = false) := h2
    clear h2
    go_enter Tryz.func125, Tryz.ntmps125
    go_wp2_with fail
    refine (implIdOk i _).mono ?_
    rw [H1.out]
    rintro e w1 ⟨rfl, rfl⟩
    go_wp2_with fail
    refine (implWeight_any v _).mono ?_
    rw [H2.out]
    rintro e w2 ⟨rfl, rfl⟩
    go_wp2_with fail
    go_ret
    refine ⟨rfl, ?_⟩
    go_grown
  have H2 : Hid (within v 1 1000000 = true) := h2
  clear h2
  cases h3 : within s 1 3
  · have H3 : Hid (within s 1 3 = false) := h3
    clear h3
    go_enter Tryz.func125, Tryz.ntmps125
    go_wp2_with fail
    refine (implIdOk i _).mono ?_
    rw [H1.out]
    rintro e w1 ⟨rfl, rfl⟩
    go_wp2_with fail
    refine (implWeight_any v _).mono ?_
    rw [H2.out]
    rintro e w2 ⟨rfl, rfl⟩
    go_wp2_with fail
    refine (implStateOk s _).mono ?_
    rw [H3.out]
    rintro e w3 ⟨rfl, rfl⟩
    go_wp2_with fail
    go_ret
    refine ⟨rfl, ?_⟩
    go_grown
  have H3 : Hid (within s 1 3 = true) := h3
  clear h3
  cases h4 : within h 0 100000000
  · have H4 : Hid (within h 0 100000000 = false) := h4
    clear h4
    go_enter Tryz.func125, Tryz.ntmps125
    go_wp2_with fail
    refine (implIdOk i _).mono ?_
    rw [H1.out]
    rintro e w1 ⟨rfl, rfl⟩
    go_wp2_with fail
    refine (implWeight_any v _).mono ?_
    rw [H2.out]
    rintro e w2 ⟨rfl, rfl⟩
    go_wp2_with fail
    refine (implStateOk s _).mono ?_
    rw [H3.out]
    rintro e w3 ⟨rfl, rfl⟩
    go_wp2_with fail
    refine (implHadOk h _).mono ?_
    rw [H4.out]
    rintro e w4 ⟨rfl, rfl⟩
    go_wp2_with fail
    go_ret
    refine ⟨rfl, ?_⟩
    go_grown
  have H4 : Hid (within h 0 100000000 = true) := h4
  clear h4
  go_enter Tryz.func125, Tryz.ntmps125
  go_wp2_with fail
  refine (implIdOk i _).mono ?_
  rw [H1.out]
  rintro e w1 ⟨rfl, rfl⟩
  go_wp2_with fail
  refine (implWeight_any v _).mono ?_
  rw [H2.out]
  rintro e w2 ⟨rfl, rfl⟩
  go_wp2_with fail
  refine (implStateOk s _).mono ?_
  rw [H3.out]
  rintro e w3 ⟨rfl, rfl⟩
  go_wp2_with fail
  refine (implHadOk h _).mono ?_
  rw [H4.out]
  rintro e w4 ⟨rfl, rfl⟩
  go_wp2_with fail
  go_ret
  refine ⟨rfl, ?_⟩
  go_grown

/-- A task in a variable of its own. -/
def TBox (w : World) (b : Nat) (x : Tsk) : Prop :=
  b < w.heap.size ∧ w.cell? ⟨b, 0, none⟩ = some (.int .i64 x.i) ∧ w.cell? ⟨b, 1, none⟩ = some (.int .i64 x.w) ∧ w.cell? ⟨b, 2, none⟩ = some (.int .i64 x.s) ∧ w.cell? ⟨b, 3, none⟩ = some (.int .i64 x.h)

theorem TBox.kept {w w' : World} {b B : Nat} {x : Tsk} (h : TBox w b x) (k : Below B w w') (hb : b < B) : TBox w' b x :=
  ⟨Nat.lt_of_lt_of_le h.1 k.size, (k.cell hb).trans h.2.1, (k.cell hb).trans h.2.2.1, (k.cell hb).trans h.2.2.2.1, (k.cell hb).trans h.2.2.2.2⟩

theorem TBox.all {w w' : World} {b : Nat} {x : Tsk} (h : TBox w b x) (k : Below w.heap.size w w') : TBox w' b x := h.kept k h.1

theorem tbox_new (w : World) (i v s h : Int) : TBox (w.alloc (.cells #[.int .i64 i, .int .i64 v, .int .i64 s, .int .i64 h] 73)) w.heap.size ⟨i, v, s, h⟩ := by
  have c : ∀ j : Nat, (w.alloc (.cells #[.int .i64 i, .int .i64 v, .int .i64 s, .int .i64 h] 73)).cell? ⟨w.heap.size, j, none⟩ = (#[Value.int .i64 i, .int .i64 v, .int .i64 s, .int .i64 h])[j]? := fun j => cell_of_row _ w.heap.size _ _ _ _ (heap_alloc_new w _)
  exact ⟨by simp, by rw [c]; rfl, by rw [c]; rfl, by rw [c]; rfl, by rw [c]; rfl⟩

set_option maxRecDepth 100000 in
set_option maxHeartbeats 4000000 in
/-- impl.TasksOk at every slice of tasks. -/
theorem implTasksOk (a : Option Addr) (len cap : Nat) (ps : List Tsk) (w : World) (I : Tsks w a len ps) (hs : (len : Int) ≤ 1048576) :
    Calls Tryz.prog 105 #[.slice a len cap] w fun e w' => e = .returned (.bool (tasksOk ps)) ∧ Below w.heap.size w w' := by
  have HI : Hid (Tsks w a len ps) := I
  have HL : Hid (ps.length = len) := I.1
  clear I
  by_cases h24 : len ≤ 24
  · have h24' : ¬ (24 : Int) < (len : Int) := by omega
    have H24 : Hid (len ≤ 24) := h24
    have hd : decide ((24 : Int) < (len : Int)) = false := decide_eq_false h24'
    go_enter Tryz.func105, Tryz.ntmps105
    go_wp2_with fail
    clear hd
    go_loopw [3, 4, 10] (fun _ _ i wr => ∃ k : Nat, k ≤ len ∧ i = .int .i64 k ∧ Hid (allTo ps k = true ∧ Below w.heap.size w wr)) (fun _ _ i _ => len - (intOf i).toNat)
    case atStart => exact ⟨0, Nat.zero_le _, rfl, rfl, Below.refl _ _⟩
    case round =>
      obtain ⟨k, hk, rfl, R⟩ := hrel
      by_cases hlt : k < len
      · obtain ⟨_, h0 | ⟨b, off, rfl, hb, hc⟩⟩ := tsks_parts (HI.out.kept R.out.2)
        · omega
        obtain ⟨x, hx⟩ : ∃ x, x = ps.getD k tz := ⟨_, rfl⟩
        obtain ⟨c0, c1, c2, c3⟩ := hc k hlt
        rw [← hx] at c0 c1 c2 c3
        have hkl : (k : Int) < (len : Int) := by omega
        have HX : Hid (x = ps.getD k tz) := hx
        clear hx
        obtain ⟨y, hy⟩ : ∃ y, y = (ps.getD (k - 1) tz).i := ⟨_, rfl⟩
        have cy : 0 < k → wr.cell? ⟨b, off + (k - 1) * 4, none⟩ = some (.int .i64 y) := fun h => by rw [hy]; exact (hc (k - 1) (by omega)).1
        have HY : Hid (y = (ps.getD (k - 1) tz).i) := hy
        have HCY : Hid (0 < k → wr.cell? ⟨b, off + (k - 1) * 4, none⟩ = some (.int .i64 y)) := cy
        clear hc hy cy
        obtain ⟨xi, xw, xs, xh⟩ := x
        simp only at c0 c1 c2 c3
        go_wp2_with fail
        obtain ⟨W, hW⟩ : ∃ W, W = wr.alloc (.cells #[.int .i64 xi, .int .i64 xw, .int .i64 xs, .int .i64 xh] 73) := ⟨_, rfl⟩
        have BX := tbox_new wr xi xw xs xh
        rw [← hW] at BX ⊢
        have BW : Hid (Below w.heap.size w W ∧ Below wr.heap.size wr W) := by rw [hW]; exact ⟨below_call R.out.2 R.out.2.size (below_new _ _), below_new _ _⟩
        clear hW c0 c1 c2 c3
        have v0 : ∀ z : Kin W, z.u.cell? ⟨wr.heap.size, 0, none⟩ = some (.int .i64 xi) := fun z => z.cell BX.1 BX.2.1
        have v1 : ∀ z : Kin W, z.u.cell? ⟨wr.heap.size, 1, none⟩ = some (.int .i64 xw) := fun z => z.cell BX.1 BX.2.2.1
        have v2 : ∀ z : Kin W, z.u.cell? ⟨wr.heap.size, 2, none⟩ = some (.int .i64 xs) := fun z => z.cell BX.1 BX.2.2.2.1
        have v3 : ∀ z : Kin W, z.u.cell? ⟨wr.heap.size, 3, none⟩ = some (.int .i64 xh) := fun z => z.cell BX.1 BX.2.2.2.2
        obtain ⟨p1, hp1⟩ : ∃ p, p = taskOk ⟨xi, xw, xs, xh⟩ := ⟨_, rfl⟩
        have K1 : Hid (∀ u : World, Calls Tryz.prog 125 #[tk xi xw xs xh] u fun e w' => e = .returned (.bool p1) ∧ Below u.heap.size u w') := fun u => by rw [hp1]; exact implTaskOk xi xw xs xh u
        have HP : Hid (taskAt ps k = (p1 && (decide (k = 0) || decide (y < xi)))) := by
          show _ = _
          rw [taskAt, ← HX.out, ← HY.out, hp1]
        clear hp1 HX HY
        cases p1
        · refine wp_region_kin (by kernel_rfl) (by kernel_rfl) (fun hne => ?_)
          repeat (go_big_quiet_step ((first | (go_at_call 125; exact kin_calls (K1.out _)))))
          refine wpQuiet_nil ?_
          rintro _ ⟨z, rfl⟩
          have BZ : Hid (Below w.heap.size w z.u) := below_call BW.out.1 BW.out.1.size z.b
          generalize z.u = wz at BZ ⊢
          have HN : Hid (taskAt ps k = false) := by show _ = _; rw [HP.out]; rfl
          clear K1 v0 v1 v2 v3 hne
          go_wp2_with fail
          go_ret
          refine ⟨?_, BZ.out⟩
          rw [tasksOk, allTo_no HN.out (by rw [HL.out]; exact hlt)]
          rfl
        by_cases hk0 : k = 0
        · have hd : decide ((0 : Int) < (k : Int)) = false := decide_eq_false (by omega)
          have hdn : decide (0 < k) = false := decide_eq_false (by omega)
          have HK : Hid (k = 0) := hk0
          clear hk0
          refine wp_region_kin (by kernel_rfl) (by kernel_rfl) (fun hne => ?_)
          repeat (go_big_quiet_step ((first | (go_at_call 125; exact kin_calls (K1.out _)))))
          refine wpQuiet_nil ?_
          rintro _ ⟨z, rfl⟩
          have BZ : Hid (Below w.heap.size w z.u) := below_call BW.out.1 BW.out.1.size z.b
          generalize z.u = wz at BZ ⊢
          have HN : Hid (taskAt ps k = true) := by show _ = _; rw [HP.out]; rw [HK.out]; rfl
          clear K1 v0 v1 v2 v3 hne
          go_wp2_with fail
          go_roundw
          case rel => exact ⟨k + 1, by omega, by go_num, by rw [allTo, R.out.1, HN.out]; rfl, BZ.out⟩
          case measure => simp [intOf]; omega
        have hkp : 0 < k := by omega
        have hki : (0 : Int) < (k : Int) := by omega
        have hd : decide ((0 : Int) < (k : Int)) = true := decide_eq_true hki
        have cy := HCY.out hkp
        have v4 : ∀ z : Kin W, z.u.cell? ⟨b, off + (k - 1) * 4, none⟩ = some (.int .i64 y) := fun z => z.cell (Nat.lt_of_lt_of_le hb BW.out.2.size) ((BW.out.2.cell (p := ⟨b, off + (k - 1) * 4, none⟩) hb).trans cy)
        clear cy
        by_cases hyx : y < xi
        · have hyx' : ¬ xi ≤ y := by omega
          have hyd : decide (xi ≤ y) = false := decide_eq_false hyx'
          refine wp_region_kin (by kernel_rfl) (by kernel_rfl) (fun hne => ?_)
          repeat (go_big_quiet_step ((first | (go_at_call 125; exact kin_calls (K1.out _)))))
          refine wpQuiet_nil ?_
          rintro _ ⟨z, rfl⟩
          have BZ : Hid (Below w.heap.size w z.u) := below_call BW.out.1 BW.out.1.size z.b
          generalize z.u = wz at BZ ⊢
          have HN : Hid (taskAt ps k = true) := by show _ = _; rw [HP.out]; rw [decide_eq_true hyx]; simp
          clear v4 K1 v0 v1 v2 v3 hne
          go_wp2_with fail
          go_roundw
          case rel => exact ⟨k + 1, by omega, by go_num, by rw [allTo, R.out.1, HN.out]; rfl, BZ.out⟩
          case measure => simp [intOf]; omega
        · have hyx' : xi ≤ y := by omega
          have hyd : decide (xi ≤ y) = true := decide_eq_true hyx'
          refine wp_region_kin (by kernel_rfl) (by kernel_rfl) (fun hne => ?_)
          repeat (go_big_quiet_step ((first | (go_at_call 125; exact kin_calls (K1.out _)))))
          refine wpQuiet_nil ?_
          rintro _ ⟨z, rfl⟩
          have BZ : Hid (Below w.heap.size w z.u) := below_call BW.out.1 BW.out.1.size z.b
          generalize z.u = wz at BZ ⊢
          have HN : Hid (taskAt ps k = false) := by show _ = _; rw [HP.out]; rw [decide_eq_false hyx, decide_eq_false hk0]; rfl
          clear v4 K1 v0 v1 v2 v3 hne
          go_wp2_with fail
          go_ret
          refine ⟨?_, BZ.out⟩
          rw [tasksOk, allTo_no HN.out (by rw [HL.out]; exact hlt)]
          rfl
      · have hlt' : ¬ (k : Int) < (len : Int) := by omega
        have e : k = len := by omega
        subst e
        have HE : Hid (tasksOk ps = true) := by show _ = _; rw [tasksOk, HL.out, R.out.1, decide_eq_true H24.out]; rfl
        go_wp2_with fail
        go_ret
        exact ⟨by rw [HE.out]; rfl, R.out.2⟩
  · have h24' : (24 : Int) < (len : Int) := by omega
    have HN : Hid (tasksOk ps = false) := by show _ = _; rw [tasksOk, HL.out, decide_eq_false h24, Bool.and_false]
    have hd : decide ((24 : Int) < (len : Int)) = true := decide_eq_true h24'
    go_enter Tryz.func105, Tryz.ntmps105
    go_wp2_with fail
    go_ret
    exact ⟨by rw [HN.out]; rfl, Below.refl _ _⟩

/-- Is it the one of that Id? The closure of impl.FindTask. -/
theorem isT_any (i v s h id : Int) (bx : Nat) (w : World) (hb : bx < w.heap.size) (c : w.cell? ⟨bx, 0, none⟩ = some (.int .i64 id)) :
    Calls Tryz.prog 160 #[tk i v s h, .pointer (some ⟨bx, 0, none⟩)] w fun e w' => e = .returned (.bool (i == id)) ∧ Below w.heap.size w w' := by
  have n1 := Nat.ne_of_lt hb
  have n2 := Nat.ne_of_gt hb
  go_enter Tryz.func160, Tryz.ntmps160
  go_wp2_with fail
  go_ret
  refine ⟨rfl, ?_⟩
  go_grown

/-- slices.IndexFunc with it. -/
theorem indexT_any (a : Option Addr) (len cap : Nat) (ps : List Tsk) (id : Int) (bx : Nat) (w : World) (I : Tsks w a len ps) (hs : (len : Int) ≤ 1048576) (hb : bx < w.heap.size) (c : w.cell? ⟨bx, 0, none⟩ = some (.int .i64 id)) :
    Calls Tryz.prog 159 #[.slice a len cap, .func (.func 160) #[] #[.pointer (some ⟨bx, 0, none⟩)]] w fun e w' => e = .returned (.int .i64 (findT ps id)) ∧ Below w.heap.size w w' := by
  have HI : Hid (Tsks w a len ps) := I
  have HL : Hid (ps.length = len) := I.1
  have HB : Hid (bx < w.heap.size ∧ w.cell? ⟨bx, 0, none⟩ = some (.int .i64 id)) := ⟨hb, c⟩
  clear I hb c
  go_enter Tryz.func159, Tryz.ntmps159
  go_wp2_with fail
  go_loopw [5, 8] (fun _ i wr => ∃ k : Nat, k ≤ len ∧ i = .int .i64 k ∧ Hid (findTo ps id k = k ∧ Below w.heap.size w wr)) (fun _ i _ => len - (intOf i).toNat)
  case atStart => exact ⟨0, Nat.zero_le _, rfl, rfl, Below.refl _ _⟩
  case round =>
    obtain ⟨k, hk, rfl, R⟩ := hrel
    by_cases hlt : k < len
    · obtain ⟨_, h0 | ⟨b, off, rfl, hb, hc⟩⟩ := tsks_parts (HI.out.kept R.out.2)
      · omega
      obtain ⟨x, hx⟩ : ∃ x, x = ps.getD k tz := ⟨_, rfl⟩
      obtain ⟨c0, c1, c2, c3⟩ := hc k hlt
      rw [← hx] at c0 c1 c2 c3
      have hkl : (k : Int) < (len : Int) := by omega
      have HX : Hid (x = ps.getD k tz) := hx
      have hbx := Nat.lt_of_lt_of_le HB.out.1 R.out.2.size
      have cb : Hid (wr.cell? ⟨bx, 0, none⟩ = some (.int .i64 id)) := (R.out.2.cell (p := ⟨bx, 0, none⟩) HB.out.1).trans HB.out.2
      clear hc hx
      obtain ⟨xi, xw, xs, xh⟩ := x
      simp only at c0 c1 c2 c3
      go_wp2_with fail
      refine (isT_any xi xw xs xh id bx _ hbx cb.out).mono ?_
      rintro e w1 ⟨rfl, B1⟩
      have R1 : Hid (Below w.heap.size w w1) := below_call R.out.2 R.out.2.size B1
      clear B1 c0 c1 c2 c3 cb hbx hb
      by_cases he : xi = id
      · have hb1 : (xi == id) = true := by simp [he]
        have HE : Hid (findT ps id = k) := by
          show _ = _
          rw [findT, findTo_hit R.out.1 (by rw [← HX.out]; exact he) (by rw [HL.out]; exact hlt), HL.out, if_pos hlt]
        clear he
        go_wp2_with fail
        go_ret
        exact ⟨by rw [HE.out]; rfl, R1.out⟩
      · have hb1 : (xi == id) = false := by simp [he]
        have HE : Hid (findTo ps id (k + 1) = k + 1) := findTo_step R.out.1 (by rw [← HX.out]; exact he)
        clear he
        go_wp2_with fail
        go_roundw
        case rel => exact ⟨k + 1, by omega, by go_num, HE.out, R1.out⟩
        case measure => simp [intOf]; omega
    · have hlt' : ¬ (k : Int) < (len : Int) := by omega
      have e : k = len := by omega
      subst e
      have HE : Hid (findT ps id = -1) := by
        show _ = _
        rw [findT, HL.out, R.out.1, if_neg (Nat.lt_irrefl _)]
      go_wp2_with fail
      go_ret
      exact ⟨by rw [HE.out]; rfl, R.out.2⟩

/-- impl.FindTask at every slice of tasks. -/
theorem implFind (a : Option Addr) (len cap : Nat) (ps : List Tsk) (id : Int) (w : World) (I : Tsks w a len ps) (hs : (len : Int) ≤ 1048576) :
    Calls Tryz.prog 127 #[.slice a len cap, .int .i64 id] w fun e w' => e = .returned (.int .i64 (findT ps id)) ∧ Below w.heap.size w w' := by
  have HI : Hid (Tsks w a len ps) := I
  have B0 : Hid (Below w.heap.size w (w.alloc (.cells #[.int .i64 id] 2))) := below_new _ _
  have C0 : Hid ((w.alloc (.cells #[.int .i64 id] 2)).cell? ⟨w.heap.size, 0, none⟩ = some (.int .i64 id)) := by
    show _ = _
    rw [cell_of_row _ w.heap.size _ _ _ _ (heap_alloc_new w _)]
    rfl
  clear I
  go_enter Tryz.func127, Tryz.ntmps127
  go_wp2_with fail
  refine (indexT_any a len cap ps id w.heap.size _ (HI.out.kept B0.out) hs (by simp) C0.out).mono ?_
  rintro e w1 ⟨rfl, B1⟩
  have B2 := below_call B0.out (by simp) B1
  clear B1
  go_wp2_with fail
  go_ret
  exact ⟨rfl, B2⟩

end Go.Proofs.YtcmeimfjedakeaaGreat.Crew

/-
  Slices of structs of int64s: make, copy, and append at a step of a region that draws its order.
-/
namespace Go.Proofs.YtcmeimfjedakeaaGreat.Crew
open Go.ChangeShapes Go.WideShapes Go.ChangeAt Go.RowKit
namespace Rec
variable {α : Type} {K : Rec α}

/-- So many of one kind of struct. -/
theorem row_rep (K : Rec α) (w : World) (n : Nat) (x : α) (hn : (n : Int) ≤ 1048576) : K.row (w.alloc (.cells (K.fl (List.replicate n x)).toArray K.ty)) w.heap.size n (List.replicate n x) := by
  have h := row_new K w (List.replicate n x) (by simp [maxLen]; omega)
  rwa [List.length_replicate] at h

theorem row.drew {w : World} {g cap : Nat} {xs : List α} (h : K.row w g cap xs) : K.row w.drew g cap xs := h.all (below_drewN (Below.refl _ _) 1)

/-- copy onto a row of just that length. -/
theorem run_copy {P : Program} (w : World) (t ty : TypeId) (i : TypeInfo) (ht : P.underlying t = some (.slice K.ty)) (hi : P.info? K.ty = some i) (hsize : i.size = K.n)
    (base : Nat) (w0 : World) (B : Below base w0 w) (g : Nat) (hg : base ≤ g) (zs : List α) (a : Option Addr) (len cap : Nat) (xs : List α) (R : K.row w g len zs) (I : K.sl w a len xs) :
    ∃ w1, (Builtin.copy_ #[t, t] ty #[.slice (some ⟨g, 0, none⟩) len len, .slice a len cap]).run P w = .ok (.int .i64 len) w1 ∧ K.row w1 g len xs ∧ Below base w0 w1 := by
  by_cases h0 : len = 0
  · subst h0
    have hx : xs = [] := List.eq_nil_of_length_eq_zero I.1
    subst hx
    have hl : ∀ (x : Addr), (loadCells x 0).run P w = .ok #[] w := fun x => by simpa using run_loadCells_list (P := P) w x [] (by simp)
    refine ⟨w, ?_, ?_, B⟩
    · cases a <;> simp [Builtin.copy_, run_underlying ht, Builtin.lenOf, Builtin.firstCells, sizeOf, typeInfo, hi, storeCells, hl] <;> rfl
    · obtain ⟨cur, hh, hl', hm, hs, htk⟩ := R
      exact ⟨cur, hh, Nat.zero_le _, hm, hs, by simp [fl]⟩
  · obtain ⟨ad, rfl⟩ : ∃ ad, a = some ad := by
      rcases I.2 with h | ⟨b, off, h, _⟩
      · exact absurd h h0
      · exact ⟨_, h⟩
    obtain ⟨cur, hh, hl', hm, hs, htk⟩ := R
    have hn : (K.fl xs).length = len * K.n := by rw [fl_length, I.1]
    have hl := run_loadCells_list (P := P) w ad (K.fl xs) (sl.cellsAt I)
    have hst := run_storeCells_at P g 0 K.ty (K.fl xs) 0 cur w hh (by rw [hn, hs]; simp) (fl_one K xs)
    rw [hn] at hl
    simp only [Nat.zero_add, List.take_zero, List.nil_append] at hst
    refine ⟨w.setRow g (K.fl xs ++ cur.toList.drop (K.fl xs).length).toArray, ?_, ⟨_, setRow_heap _ _ _ _ _ _ hh, by rw [I.1]; exact Nat.le_refl _, hm, ?_, ?_⟩, below_setRow B hg _⟩
    · simp [Builtin.copy_, run_underlying ht, Builtin.lenOf, Builtin.firstCells, sizeOf, typeInfo, hi, hsize, hl, hst] <;> rfl
    · simp [hn, hs]
    · rw [List.toList_toArray, ← fl_length, List.take_left]

/-- append at a step of a region that draws its order. -/
theorem step_append {P : Program} {w : World} {ops : Array Oper} {o : Oper} {a : Act} {C : Act → World → Prop} {Q : Exit → Act → World → Prop} {E : Prop} (hgd : o.guard = none) (s y : Operand) (t : TypeId)
    (ho : o.op = .call { callee := .builtin .append, args := #[s, y], argTypes := #[t, t] })
    (i : TypeInfo) (zv : Value) (ht : P.underlying t = some (.slice K.ty)) (hi : P.info? K.ty = some i) (hz : i.zero = some zv) (hsize : i.size = K.n) (hby : i.bytes = 8 * K.n) (hzc : zv.cells.size = K.n) (h8 : K.n ≤ 100)
    (g n cap : Nat) (xs : List α) (hs : a.eval s = .slice (some ⟨g, 0, none⟩) n cap) (hn : n = xs.length) (R : K.row w g cap xs) (ao : Option Addr) (m c : Nat) (ys : List α) (hy : a.eval y = .slice ao m c) (I : K.sl w ao m ys) (hlen : xs.length + m ≤ 100000000) (H : Nat) (hH : w.heap.size = H)
    (h : ∀ g' cap' w', K.row w' g' cap' (xs ++ ys) → w.grownBy w' (some g) → (g' = g ∨ g' = H) → C (a.put o.dst (.slice (some ⟨g', 0, none⟩) (n + m) cap')) w') :
    if Region.wanted o (yielded ops a.tmps) = true then Oper.wp P o a w C Q else E := by
  have hw : Region.wanted o (yielded ops a.tmps) = true := by simp [Region.wanted, hgd]
  rw [if_pos hw]
  subst hH
  subst hn
  obtain ⟨g', cap', w', hr, h2, h3, h4⟩ := run_append (P := P) w t o.type i zv ht hi hz hsize hby hzc h8 g cap xs R ao m c ys I hlen
  unfold Oper.wp execOp
  simp only [ho, resolve, invoke, builtin, Sem.run_bind, Sem.run_pure, Result.andThen_ok, List.map_toArray, List.map_cons, List.map_nil, hs, hy, hr]
  exact h g' cap' w' h2 h3 h4

end Rec
end Go.Proofs.YtcmeimfjedakeaaGreat.Crew

/-
  impl's tasks: a copy, a list as it is, the sort by Id.
-/
namespace Go.Proofs.YtcmeimfjedakeaaGreat.Crew
open Go.ChangeShapes Go.WideShapes Go.ChangeAt Go.RowKit

theorem made_tsks (n : Nat) (hn : (n : Int) ≤ 1048576) (w : World) : (Instr.makeSlice 26 (.int .i64 n) (.int .i64 n)).run Tryz.prog w = .ok (.slice (some ⟨w.heap.size, 0, none⟩) n n) (w.alloc (.cells (tskR.fl (List.replicate n tz)).toArray 73)) := by
  obtain ⟨i0, hi, hz0, hz1, hz2⟩ := info_parts info_task
  have h := run_make (P := Tryz.prog) w 26 73 i0 (.agg #[.int .i64 0, .int .i64 0, .int .i64 0, .int .i64 0]) Tryz.underlying26 hi hz0 .i64 .i64 n n (by omega) (by omega) (by rw [hz2]; omega) (by omega)
  rw [h, hz1]
  have e : madeCells (Value.agg #[.int .i64 0, .int .i64 0, .int .i64 0, .int .i64 0]).cells (n * 4) = (tskR.fl (List.replicate n tz)).toArray := by
    apply Array.ext'
    rw [List.toList_toArray]
    exact made_tasks n
  simp only [Int.toNat_natCast]
  rw [e]

set_option maxRecDepth 100000 in
/-- impl.copied over tasks: a copy in a block of its own. -/
theorem copiedT_any (a : Option Addr) (len cap : Nat) (ps : List Tsk) (w : World) (I : Tsks w a len ps) (hs : (len : Int) ≤ 1048576) :
    Calls Tryz.prog 41 #[.slice a len cap] w fun e w' => e = .returned (.slice (some ⟨w.heap.size, 0, none⟩) len len) ∧ TRow w' w.heap.size len ps ∧ Below w.heap.size w w' := by
  obtain ⟨i0, hi, hz0, hz1, hz2⟩ := info_parts info_task
  have hm := made_tsks len hs w
  obtain ⟨w1, hc, R1, B1⟩ := Rec.run_copy (P := Tryz.prog) (w.alloc (.cells (tskR.fl (List.replicate len tz)).toArray 73)) 26 3 i0 Tryz.underlying26 hi hz1 w.heap.size w (below_new _ _) w.heap.size (Nat.le_refl _) (List.replicate len tz) a len cap ps (Rec.row_rep tskR w len tz hs) (I.kept (below_new _ _))
  have H1 : Hid (TRow w1 w.heap.size len ps ∧ Below w.heap.size w w1) := ⟨R1, B1⟩
  clear I R1 B1 hi hz0 hz1 hz2
  go_enter Tryz.func41, Tryz.ntmps41
  go_wp2_with fail
  go_ret
  exact ⟨rfl, H1.out⟩

/-- impl.asItIs. -/
theorem implAsIs (a : Option Addr) (len cap : Nat) (ps : List Tsk) (w : World) (I : Tsks w a len ps) (hs : (len : Int) ≤ 1048576) :
    Calls Tryz.prog 126 #[.slice a len cap] w fun e w' => ∃ g n c : Nat, e = .returned (.slice (some ⟨g, 0, none⟩) n c) ∧ TFit w' w.heap.size (some ⟨g, 0, none⟩) n c (asIs ps) ∧ Below w.heap.size w w' := by
  have HI : Hid (Tsks w a len ps) := I
  clear I
  cases hk : tasksOk ps
  · have HK : Hid (tasksOk ps = false) := hk
    have e : asIs ps = [] := by rw [asIs, hk]; rfl
    rw [e]
    clear hk e
    go_enter Tryz.func126, Tryz.ntmps126
    go_wp2_with fail
    refine (implTasksOk a len cap ps _ HI.out hs).mono ?_
    rw [HK.out]
    rintro e w1 ⟨rfl, B1⟩
    have H1 : Hid (Below w.heap.size w w1) := B1
    clear B1
    go_wp2_with fail
    go_ret
    exact ⟨w1.heap.size, 0, 0, rfl, (Rec.row_nil tskR w1).fit H1.out.size rfl, H1.out.alloc H1.out.size _⟩
  · have HK : Hid (tasksOk ps = true) := hk
    have e : asIs ps = ps := by rw [asIs, hk]; rfl
    rw [e]
    clear hk e
    go_enter Tryz.func126, Tryz.ntmps126
    go_wp2_with fail
    refine (implTasksOk a len cap ps _ HI.out hs).mono ?_
    rw [HK.out]
    rintro e w1 ⟨rfl, B1⟩
    have H1 : Hid (Below w.heap.size w w1) := B1
    clear B1
    go_wp2_with fail
    refine (copiedT_any a len cap ps _ (HI.out.kept H1.out) hs).mono ?_
    rintro e w2 ⟨rfl, R2, B2⟩
    have H2 : Hid (TRow w2 w1.heap.size len ps ∧ w.heap.size ≤ w1.heap.size ∧ Below w.heap.size w w2) := ⟨R2, H1.out.size, below_call H1.out H1.out.size B2⟩
    clear R2 B2
    go_wp2_with fail
    go_ret
    exact ⟨w1.heap.size, len, len, rfl, H2.out.1.fit H2.out.2.1 HI.out.1, H2.out.2.2⟩

/-- Where one of that Id is put among the first k. -/
def posT (id : Int) (out : List Tsk) : Nat → Nat
  | 0 => 0
  | k + 1 => if id < (out.getD k tz).i then posT id out k else k + 1

def insT (out : List Tsk) (x : Tsk) : List Tsk := out.take (posT x.i out out.length) ++ x :: out.drop (posT x.i out out.length)

/-- The first k of them, sorted. -/
def sortT (L : List Tsk) : Nat → List Tsk
  | 0 => []
  | k + 1 => insT (sortT L k) (L.getD k tz)

theorem posT_le (id : Int) (out : List Tsk) (k : Nat) : posT id out k ≤ k := by
  induction k with
  | zero => exact Nat.le_refl _
  | succ k ih =>
    rw [posT]
    split <;> omega

theorem insT_len (out : List Tsk) (x : Tsk) : (insT out x).length = out.length + 1 := by
  have := posT_le x.i out out.length
  rw [insT, List.length_append, List.length_cons, List.length_take, List.length_drop]
  omega

theorem sortT_len (L : List Tsk) (k : Nat) : (sortT L k).length = k := by
  induction k with
  | zero => rfl
  | succ k ih => rw [sortT, insT_len, ih]

theorem posT_down {id : Int} {out : List Tsk} {k : Nat} (h0 : 0 < k) (h : id < (out.getD (k - 1) tz).i) : posT id out k = posT id out (k - 1) := by
  obtain ⟨m, rfl⟩ : ∃ m, k = m + 1 := ⟨k - 1, by omega⟩
  rw [Nat.add_sub_cancel] at h ⊢
  rw [posT, if_pos h]

theorem posT_stop {id : Int} {out : List Tsk} {k : Nat} (h : k = 0 ∨ ¬ id < (out.getD (k - 1) tz).i) : posT id out k = k := by
  cases k with
  | zero => rfl
  | succ m =>
    rcases h with h | h
    · omega
    · rw [Nat.add_sub_cancel] at h
      rw [posT, if_neg h]

theorem tsk_shift {out zs : List Tsk} {t : Nat} {j : Tsk} (h0 : 0 < t) (h1 : t ≤ out.length) :
    (out.take t ++ j :: (out.drop t ++ zs)).set t (out.getD (t - 1) tz) = out.take (t - 1) ++ out.getD (t - 1) tz :: (out.drop (t - 1) ++ zs) := by
  rw [List.set_append_right _ _ (by simp; omega), List.length_take, show t - min t out.length = 0 by omega, List.set_cons_zero]
  obtain ⟨m, rfl⟩ : ∃ m, t = m + 1 := ⟨t - 1, by omega⟩
  have hm : m < out.length := by omega
  rw [Nat.add_sub_cancel, show out.getD m tz = out[m] by simp [List.getD, hm], List.take_succ_eq_append_getElem hm, List.drop_eq_getElem_cons hm, List.append_assoc]
  rfl

theorem tsk_place {out zs : List Tsk} {t : Nat} {j x : Tsk} (h1 : t ≤ out.length) :
    (out.take t ++ j :: (out.drop t ++ zs)).set t x = out.take t ++ x :: (out.drop t ++ zs) := by
  rw [List.set_append_right _ _ (by simp; omega), List.length_take, show t - min t out.length = 0 by omega, List.set_cons_zero]

theorem tsk_read {out zs : List Tsk} {t : Nat} {j : Tsk} (h0 : 0 < t) (h1 : t ≤ out.length) : (out.take t ++ j :: (out.drop t ++ zs)).getD (t - 1) tz = out.getD (t - 1) tz := by
  simp only [List.getD, List.getElem?_append]
  rw [if_pos (by simp; omega), List.getElem?_take, if_pos (by omega)]

theorem tsk_rowlen {out zs : List Tsk} {t : Nat} {j : Tsk} (h1 : t ≤ out.length) : (out.take t ++ j :: (out.drop t ++ zs)).length = out.length + 1 + zs.length := by
  simp; omega

theorem tsk_start {out : List Tsk} {n k : Nat} (hk : k < n) (hl : out.length = k) : out ++ List.replicate (n - k) tz = out.take k ++ tz :: (out.drop k ++ List.replicate (n - (k + 1)) tz) := by
  rw [show n - k = (n - (k + 1)) + 1 by omega, List.replicate_succ, List.take_of_length_le (by omega), List.drop_eq_nil_of_le (by omega)]
  rfl

/-- The end of a round: the new one has been put in. -/
theorem tsk_put {out L : List Tsk} {len k t : Nat} {j x : Tsk} (ho : out = sortT L k) (hx : x = L.getD k tz) (ht : t ≤ k) (hp : posT x.i out k = t) :
    (out.take t ++ j :: (out.drop t ++ List.replicate (len - (k + 1)) tz)).set t x = sortT L (k + 1) ++ List.replicate (len - (k + 1)) tz := by
  have hl : out.length = k := by rw [ho]; exact sortT_len L k
  rw [tsk_place (by omega), sortT, insT, ← ho, ← hx, hl, hp, List.append_assoc]
  rfl

/-- The closure of impl.Created. -/
theorem lessT_any (i v s h i' v' s' h' : Int) (w : World) :
    Calls Tryz.prog 129 #[tk i v s h, tk i' v' s' h'] w fun e w' => e = .returned (.bool (decide (i < i'))) ∧ Below w.heap.size w w' := by
  by_cases hl : i < i'
  · have hd : decide (i < i') = true := decide_eq_true hl
    rw [hd]
    go_enter Tryz.func129, Tryz.ntmps129
    go_wp2_with fail
    go_ret
    refine ⟨rfl, ?_⟩
    go_grown
  · have hd : decide (i < i') = false := decide_eq_false hl
    rw [hd]
    go_enter Tryz.func129, Tryz.ntmps129
    go_wp2_with fail
    go_ret
    refine ⟨rfl, ?_⟩
    go_grown

end Go.Proofs.YtcmeimfjedakeaaGreat.Crew

/-
  impl.sortedBy over tasks, by Id.
-/
namespace Go.Proofs.YtcmeimfjedakeaaGreat.Crew
open Go.ChangeShapes Go.WideShapes Go.ChangeAt Go.RowKit

theorem TBox.past {w w' : World} {b g : Nat} {x : Tsk} (h : TBox w b x) (k : w.grownBy w' (some g)) (hb : b ≠ g) : TBox w' b x := by
  have hg : some b ≠ some g := by simpa using hb
  exact ⟨Nat.lt_of_lt_of_le h.1 k.size, k.cell h.2.1 hg, k.cell h.2.2.1 hg, k.cell h.2.2.2.1 hg, k.cell h.2.2.2.2 hg⟩

set_option maxRecDepth 100000 in
set_option maxHeartbeats 4000000 in
/-- impl.sortedBy[impl.Task] with the closure of impl.Created. -/
theorem sortedT_any (a : Option Addr) (len cap : Nat) (L : List Tsk) (w : World) (I : Tsks w a len L) (hs : (len : Int) ≤ 1048576) :
    Calls Tryz.prog 128 #[.slice a len cap, .func (.func 129) #[] #[]] w fun e w' => e = .returned (.slice (some ⟨w.heap.size, 0, none⟩) len len) ∧ TRow w' w.heap.size len (sortT L len) ∧ Below w.heap.size w w' := by
  have HI : Hid (Tsks w a len L) := I
  have HL : Hid (L.length = len) := I.1
  have hm := made_tsks len hs w
  have R0 : Hid (TRow (w.alloc (.cells (tskR.fl (List.replicate len tz)).toArray 73)) w.heap.size len (List.replicate len tz) ∧ Below w.heap.size w (w.alloc (.cells (tskR.fl (List.replicate len tz)).toArray 73))) := ⟨Rec.row_rep tskR w len tz hs, below_new _ _⟩
  clear I
  go_enter Tryz.func128, Tryz.ntmps128
  go_wp2_with fail
  generalize w.alloc (.cells (tskR.fl (List.replicate len tz)).toArray 73) = wa at R0 ⊢
  clear hm
  go_loopw [6, 7, 8, 14] (fun _ _ _ i wr => ∃ k : Nat, k ≤ len ∧ i = .int .i64 k ∧ Hid (TRow wr w.heap.size len (sortT L k ++ List.replicate (len - k) tz)) ∧ Hid (Below w.heap.size w wr)) (fun _ _ _ i _ => len - (intOf i).toNat)
  case atStart => exact ⟨0, Nat.zero_le _, rfl, R0.out.1, R0.out.2⟩
  case round =>
    obtain ⟨k, hk, rfl, R, B⟩ := hrel
    by_cases hlt : k < len
    · obtain ⟨_, h0 | ⟨b, off, rfl, hb, hc⟩⟩ := tsks_parts (HI.out.kept B.out)
      · omega
      obtain ⟨x, hx⟩ : ∃ x, x = L.getD k tz := ⟨_, rfl⟩
      obtain ⟨c0, c1, c2, c3⟩ := hc k hlt
      rw [← hx] at c0 c1 c2 c3
      have hlt' : (k : Int) < (len : Int) := by omega
      have X : Hid (x = L.getD k tz) := hx
      obtain ⟨out, hout⟩ : ∃ out, out = sortT L k := ⟨_, rfl⟩
      have ho : out.length = k := by rw [hout]; exact sortT_len L k
      have OUT : Hid (out = sortT L k ∧ out.length = k) := ⟨hout, ho⟩
      have R' : Hid (TRow wr w.heap.size len (out.take k ++ tz :: (out.drop k ++ List.replicate (len - (k + 1)) tz))) := by
        have := R.out
        rw [← hout, tsk_start hlt ho] at this
        exact this
      clear hc hx R hout ho
      obtain ⟨xi, xw, xs, xh⟩ := x
      simp only at c0 c1 c2 c3
      have hsz : w.heap.size < wr.heap.size := R'.out.lt
      go_wp2_with fail
      obtain ⟨W, hW⟩ : ∃ W, W = wr.alloc (.cells #[.int .i64 xi, .int .i64 xw, .int .i64 xs, .int .i64 xh] 73) := ⟨_, rfl⟩
      have BX : Hid (TBox W wr.heap.size ⟨xi, xw, xs, xh⟩) := by rw [hW]; exact tbox_new wr xi xw xs xh
      have BW : Hid (Below w.heap.size w W) := by rw [hW]; exact below_call B.out B.out.size (below_new _ _)
      have RW : Hid (TRow W w.heap.size len (out.take k ++ tz :: (out.drop k ++ List.replicate (len - (k + 1)) tz))) := by rw [hW]; exact R'.out.alloc _
      rw [← hW]
      obtain ⟨bt, hbt⟩ : ∃ bt, bt = wr.heap.size := ⟨_, rfl⟩
      rw [← hbt] at BX ⊢
      have hne : ¬ bt = w.heap.size := by omega
      have HNE : Hid (bt ≠ w.heap.size ∧ bt ≠ w.heap.size) := ⟨hne, hne⟩
      clear hW hbt hb c0 c1 c2 c3 hne
      go_wp2_with fail
      go_loopw [8] (fun i wq => ∃ t : Nat, t ≤ k ∧ i = .int .i64 t ∧ Hid (∃ j, TRow wq w.heap.size len (out.take t ++ j :: (out.drop t ++ List.replicate (len - (k + 1)) tz))) ∧ Hid (Below w.heap.size w wq) ∧ Hid (TBox wq bt ⟨xi, xw, xs, xh⟩) ∧ Hid (posT xi out k = posT xi out t)) (fun i _ => (intOf i).toNat)
      case atStart => exact ⟨k, Nat.le_refl _, rfl, ⟨tz, RW.out⟩, BW, BX, rfl⟩
      case round =>
        obtain ⟨t, ht, rfl, RJ, BQ, TB, PQ⟩ := hrel
        obtain ⟨j, RJ'⟩ := RJ.out
        have RK : Hid (TRow wr w.heap.size len (out.take t ++ j :: (out.drop t ++ List.replicate (len - (k + 1)) tz))) := RJ'
        have hlen : t < (out.take t ++ j :: (out.drop t ++ List.replicate (len - (k + 1)) tz)).length := by rw [tsk_rowlen (by have := OUT.out.2; omega)]; have := OUT.out.2; omega
        clear RJ RJ'
        have y0 : ∀ z : Kin wr, z.u.cell? ⟨bt, 0, none⟩ = some (.int .i64 xi) := fun z => z.cell TB.out.1 TB.out.2.1
        have y1 : ∀ z : Kin wr, z.u.cell? ⟨bt, 1, none⟩ = some (.int .i64 xw) := fun z => z.cell TB.out.1 TB.out.2.2.1
        have y2 : ∀ z : Kin wr, z.u.cell? ⟨bt, 2, none⟩ = some (.int .i64 xs) := fun z => z.cell TB.out.1 TB.out.2.2.2.1
        have y3 : ∀ z : Kin wr, z.u.cell? ⟨bt, 3, none⟩ = some (.int .i64 xh) := fun z => z.cell TB.out.1 TB.out.2.2.2.2
        have nbt := HNE.out.1
        have nbt' := Ne.symm nbt
        by_cases ht0 : t = 0
        · have hd : decide ((0 : Int) < (t : Int)) = false := decide_eq_false (by omega)
          have hdn : decide (0 < t) = false := decide_eq_false (by omega)
          have HT : Hid (t = 0) := ht0
          clear ht0
          go_wp2_with fail
          refine wp_region_kin (by kernel_rfl) (by kernel_rfl) (fun hne => ?_)
          repeat (go_big_quiet_step ((first | (go_at_call 129; exact kin_calls (K1.out _)))))
          refine wpQuiet_nil ?_
          rintro _ ⟨z, rfl⟩
          have BZ : Hid (Below wr.heap.size wr z.u) := z.b
          generalize z.u = wz at BZ ⊢
          have RZ : Hid (TRow wz w.heap.size len (out.take t ++ j :: (out.drop t ++ List.replicate (len - (k + 1)) tz))) := RK.out.all BZ.out
          have TZ : Hid (TBox wz bt ⟨xi, xw, xs, xh⟩) := TB.out.all BZ.out
          have BW2 : Hid (Below w.heap.size w wz) := below_call BQ.out BQ.out.size BZ.out
          have z0 := TZ.out.2.1
          have z1 := TZ.out.2.2.1
          have z2 := TZ.out.2.2.2.1
          have z3 := TZ.out.2.2.2.2
          simp only at z0 z1 z2 z3
          clear y0 y1 y2 y3 hne
          have f0 := RZ.out.frozen (t * 4)
          have f1 := RZ.out.frozen (t * 4 + 1)
          have f2 := RZ.out.frozen (t * 4 + 2)
          have f3 := RZ.out.frozen (t * 4 + 3)
          obtain ⟨q0, q1, q2, q3⟩ := TRow.c RZ.out (i := t) (hlen)
          generalize ((out.take t ++ j :: (out.drop t ++ List.replicate (len - (k + 1)) tz)).getD t tz).i = u0 at q0
          generalize ((out.take t ++ j :: (out.drop t ++ List.replicate (len - (k + 1)) tz)).getD t tz).w = u1 at q1
          generalize ((out.take t ++ j :: (out.drop t ++ List.replicate (len - (k + 1)) tz)).getD t tz).s = u2 at q2
          generalize ((out.take t ++ j :: (out.drop t ++ List.replicate (len - (k + 1)) tz)).getD t tz).h = u3 at q3
          clear hd hdn
          go_wp2_with fail
          go_roundw
          case rel =>
            refine ⟨k + 1, by omega, by go_num, ?_, ?_⟩
            · have := TRow.put RZ.out t xi xw xs xh
              rw [tsk_put OUT.out.1 X.out ht (by show posT xi out k = t; rw [PQ.out]; exact posT_stop (.inl HT.out))] at this
              exact this
            · exact BW2.out.grown (TRow.sets t _ _ _ _) BW2.out.size (fun j hj => by cases hj; exact Nat.le_refl _)
          case measure => simp [intOf]; omega
        · have ht1 : 0 < t := by omega
          have hti : (0 : Int) < (t : Int) := by omega
          have hd : decide ((0 : Int) < (t : Int)) = true := decide_eq_true hti
          have hr2 := tsk_read (out := out) (zs := List.replicate (len - (k + 1)) tz) (t := t) (j := j) ht1 (by have := OUT.out.2; omega)
          obtain ⟨d0, d1, d2, d3⟩ := TRow.c RK.out (i := t - 1) (by omega)
          rw [hr2] at d0 d1 d2 d3
          obtain ⟨y, hy⟩ : ∃ y, y = out.getD (t - 1) tz := ⟨_, rfl⟩
          rw [← hy] at d0 d1 d2 d3
          have HY : Hid (y = out.getD (t - 1) tz) := hy
          clear hy hr2
          obtain ⟨yi, yw, ys, yh⟩ := y
          simp only at d0 d1 d2 d3
          have hgl := RK.out.lt
          have x0 : ∀ z : Kin wr, z.u.cell? ⟨w.heap.size, (t - 1) * 4, none⟩ = some (.int .i64 yi) := fun z => z.cell hgl d0
          have x1 : ∀ z : Kin wr, z.u.cell? ⟨w.heap.size, (t - 1) * 4 + 1, none⟩ = some (.int .i64 yw) := fun z => z.cell hgl d1
          have x2 : ∀ z : Kin wr, z.u.cell? ⟨w.heap.size, (t - 1) * 4 + 2, none⟩ = some (.int .i64 ys) := fun z => z.cell hgl d2
          have x3 : ∀ z : Kin wr, z.u.cell? ⟨w.heap.size, (t - 1) * 4 + 3, none⟩ = some (.int .i64 yh) := fun z => z.cell hgl d3
          clear d0 d1 d2 d3
          obtain ⟨p, hp⟩ : ∃ p, p = decide (xi < yi) := ⟨_, rfl⟩
          have K1 : Hid (∀ u : World, Calls Tryz.prog 129 #[tk xi xw xs xh, tk yi yw ys yh] u fun e w' => e = .returned (.bool p) ∧ Below u.heap.size u w') := fun u => by rw [hp]; exact lessT_any _ _ _ _ _ _ _ _ u
          have HP : Hid (p = decide (xi < yi)) := hp
          clear hp
          cases p
          · go_wp2_with fail
            refine wp_region_kin (by kernel_rfl) (by kernel_rfl) (fun hne => ?_)
            repeat (go_big_quiet_step ((first | (go_at_call 129; exact kin_calls (K1.out _)))))
            refine wpQuiet_nil ?_
            rintro _ ⟨z, rfl⟩
            have BZ : Hid (Below wr.heap.size wr z.u) := z.b
            generalize z.u = wz at BZ ⊢
            have RZ : Hid (TRow wz w.heap.size len (out.take t ++ j :: (out.drop t ++ List.replicate (len - (k + 1)) tz))) := RK.out.all BZ.out
            have TZ : Hid (TBox wz bt ⟨xi, xw, xs, xh⟩) := TB.out.all BZ.out
            have BW2 : Hid (Below w.heap.size w wz) := below_call BQ.out BQ.out.size BZ.out
            have z0 := TZ.out.2.1
            have z1 := TZ.out.2.2.1
            have z2 := TZ.out.2.2.2.1
            have z3 := TZ.out.2.2.2.2
            simp only at z0 z1 z2 z3
            clear y0 y1 y2 y3 x0 x1 x2 x3 K1 hne
            have f0 := RZ.out.frozen (t * 4)
            have f1 := RZ.out.frozen (t * 4 + 1)
            have f2 := RZ.out.frozen (t * 4 + 2)
            have f3 := RZ.out.frozen (t * 4 + 3)
            obtain ⟨q0, q1, q2, q3⟩ := TRow.c RZ.out (i := t) (hlen)
            generalize ((out.take t ++ j :: (out.drop t ++ List.replicate (len - (k + 1)) tz)).getD t tz).i = u0 at q0
            generalize ((out.take t ++ j :: (out.drop t ++ List.replicate (len - (k + 1)) tz)).getD t tz).w = u1 at q1
            generalize ((out.take t ++ j :: (out.drop t ++ List.replicate (len - (k + 1)) tz)).getD t tz).s = u2 at q2
            generalize ((out.take t ++ j :: (out.drop t ++ List.replicate (len - (k + 1)) tz)).getD t tz).h = u3 at q3
            clear hd
            go_wp2_with fail
            go_roundw
            case rel =>
              refine ⟨k + 1, by omega, by go_num, ?_, ?_⟩
              · have := TRow.put RZ.out t xi xw xs xh
                rw [tsk_put OUT.out.1 X.out ht (by show posT xi out k = t; rw [PQ.out]; exact posT_stop (.inr (by rw [← HY.out]; simpa using HP.out)))] at this
                exact this
              · exact BW2.out.grown (TRow.sets t _ _ _ _) BW2.out.size (fun j hj => by cases hj; exact Nat.le_refl _)
            case measure => simp [intOf]; omega
          · go_wp2_with fail
            refine wp_region_kin (by kernel_rfl) (by kernel_rfl) (fun hne => ?_)
            repeat (go_big_quiet_step ((first | (go_at_call 129; exact kin_calls (K1.out _)))))
            refine wpQuiet_nil ?_
            rintro _ ⟨z, rfl⟩
            have BZ : Hid (Below wr.heap.size wr z.u) := z.b
            generalize z.u = wz at BZ ⊢
            have RZ : Hid (TRow wz w.heap.size len (out.take t ++ j :: (out.drop t ++ List.replicate (len - (k + 1)) tz))) := RK.out.all BZ.out
            have TZ : Hid (TBox wz bt ⟨xi, xw, xs, xh⟩) := TB.out.all BZ.out
            have BW2 : Hid (Below w.heap.size w wz) := below_call BQ.out BQ.out.size BZ.out
            have z0 := TZ.out.2.1
            have z1 := TZ.out.2.2.1
            have z2 := TZ.out.2.2.2.1
            have z3 := TZ.out.2.2.2.2
            simp only at z0 z1 z2 z3
            have d0 := (BZ.out.cell (p := ⟨w.heap.size, (t - 1) * 4, none⟩) hgl).trans (x0 ⟨wr, Below.refl _ _⟩)
            have d1 := (BZ.out.cell (p := ⟨w.heap.size, (t - 1) * 4 + 1, none⟩) hgl).trans (x1 ⟨wr, Below.refl _ _⟩)
            have d2 := (BZ.out.cell (p := ⟨w.heap.size, (t - 1) * 4 + 2, none⟩) hgl).trans (x2 ⟨wr, Below.refl _ _⟩)
            have d3 := (BZ.out.cell (p := ⟨w.heap.size, (t - 1) * 4 + 3, none⟩) hgl).trans (x3 ⟨wr, Below.refl _ _⟩)
            clear y0 y1 y2 y3 x0 x1 x2 x3 K1 hne
            have f0 := RZ.out.frozen (t * 4)
            have f1 := RZ.out.frozen (t * 4 + 1)
            have f2 := RZ.out.frozen (t * 4 + 2)
            have f3 := RZ.out.frozen (t * 4 + 3)
            obtain ⟨q0, q1, q2, q3⟩ := TRow.c RZ.out (i := t) (hlen)
            generalize ((out.take t ++ j :: (out.drop t ++ List.replicate (len - (k + 1)) tz)).getD t tz).i = u0 at q0
            generalize ((out.take t ++ j :: (out.drop t ++ List.replicate (len - (k + 1)) tz)).getD t tz).w = u1 at q1
            generalize ((out.take t ++ j :: (out.drop t ++ List.replicate (len - (k + 1)) tz)).getD t tz).s = u2 at q2
            generalize ((out.take t ++ j :: (out.drop t ++ List.replicate (len - (k + 1)) tz)).getD t tz).h = u3 at q3
            go_wp2_with fail
            go_roundw
            case rel =>
              refine ⟨t - 1, by omega, by go_num, ⟨⟨yi, yw, ys, yh⟩, ?_⟩, ?_, TZ.out.past (TRow.sets t _ _ _ _) nbt, ?_⟩
              · have := TRow.put RZ.out t yi yw ys yh
                rw [HY.out, tsk_shift ht1 (by have := OUT.out.2; omega), ← HY.out] at this
                exact this
              · exact BW2.out.grown (TRow.sets t _ _ _ _) BW2.out.size (fun j hj => by cases hj; exact Nat.le_refl _)
              · show _ = _
                rw [PQ.out]
                exact posT_down ht1 (by rw [← HY.out]; simpa using HP.out)
            case measure => simp [intOf]; omega
    · have hlt' : ¬ (k : Int) < (len : Int) := by omega
      go_wp2_with fail
      go_ret
      have e : k = len := by omega
      subst e
      have := R.out
      rw [Nat.sub_self, List.replicate_zero, List.append_nil] at this
      exact ⟨rfl, this, B.out⟩

end Go.Proofs.YtcmeimfjedakeaaGreat.Crew

/-
  impl.Created and ReadyOf at every list of tasks. (Written by wip/tools/gen_taskmakei.py.)
-/
namespace Go.Proofs.YtcmeimfjedakeaaGreat.Crew
open Go.ChangeShapes Go.WideShapes Go.ChangeAt Go.RowKit

theorem sortT_rise {xs : List Tsk} (h : tasksOk xs = true) (x : Tsk) : ∀ k, k ≤ xs.length → sortT (xs ++ [x]) k = xs.take k := by
  intro k
  induction k with
  | zero => intro _; rfl
  | succ k ih =>
    intro hk
    have e : (xs ++ [x]).getD k tz = xs.getD k tz := by simp only [List.getD, List.getElem?_append]; rw [if_pos (by omega)]
    have hl : (xs.take k).length = k := by rw [List.length_take]; omega
    have hp : posT (xs.getD k tz).i (xs.take k) k = k := by
      refine posT_stop ?_
      rcases (ok_at h (k := k) (by omega)).2 with h0 | h0
      · exact .inl h0
      · by_cases hk0 : k = 0
        · exact .inl hk0
        · refine .inr ?_
          have e2 : (xs.take k).getD (k - 1) tz = xs.getD (k - 1) tz := by simp only [List.getD, List.getElem?_take]; rw [if_pos (by omega)]
          rw [e2]
          omega
    rw [sortT, ih (by omega), e, insT, hl, hp, List.take_of_length_le (by omega), List.drop_eq_nil_of_le (by omega), List.take_succ_eq_append_getElem (by omega)]
    rw [show xs.getD k tz = xs[k] by simp [List.getD, show k < xs.length by omega]]

theorem posT_at {xs : List Tsk} {id : Int} (k : Nat) (h : ∀ j, j < k → (xs.getD j tz).i ≠ id) : posT id xs k = atTo xs id k := by
  induction k with
  | zero => rfl
  | succ k ih =>
    have hk := h k (by omega)
    rw [posT, atTo, ih (fun j hj => h j (by omega))]
    by_cases h1 : id < (xs.getD k tz).i
    · rw [if_pos h1, if_neg (by omega)]
    · rw [if_neg h1, if_pos (by omega)]

/-- Sorted it is the one in order. -/
theorem sort_new {xs : List Tsk} {id wt : Int} (h : tasksOk xs = true) (hf : findT xs id < 0) : sortT (xs ++ [⟨id, wt, 1, 0⟩]) (xs.length + 1) = crNew xs id wt := by
  have e : (xs ++ [(⟨id, wt, 1, 0⟩ : Tsk)]).getD xs.length tz = ⟨id, wt, 1, 0⟩ := by simp [List.getD]
  rw [sortT, sortT_rise h _ _ (Nat.le_refl _), List.take_length, e, insT, crNew, posT_at _ (fun j hj => findT_none hf hj)]

/-- The new one's variable lies there still. -/
structure Cr (w X : World) (x : Tsk) : Prop where
  bel : Below w.heap.size w X
  box : TBox X w.heap.size x

theorem Cr.all {w X Y : World} {x : Tsk} (h : Cr w X x) (k : Below X.heap.size X Y) : Cr w Y x := ⟨below_call h.bel h.bel.size k, h.box.all k⟩

theorem Cr.alloc {w X : World} {x : Tsk} (h : Cr w X x) (o : Obj) : Cr w (X.alloc o) x := h.all (below_new _ _)

theorem Cr.drew {w X : World} {x : Tsk} (h : Cr w X x) : Cr w X.drew x := h.all (below_drewN (Below.refl _ _) 1)

theorem Cr.other {w X Y : World} {x : Tsk} {g : Nat} (h : Cr w X x) (k : X.grownBy Y (some g)) (hg : w.heap.size < g) : Cr w Y x :=
  ⟨h.bel.grown k h.bel.size (fun j hj => by cases hj; omega), h.box.past k (Nat.ne_of_lt hg)⟩

theorem copiedC {w X : World} {x : Tsk} (C : Cr w X x) (a : Option Addr) (len cap : Nat) (ps : List Tsk) (I : Tsks w a len ps) (hs : (len : Int) ≤ 1048576) :
    Calls Tryz.prog 41 #[.slice a len cap] X fun e w' => ∃ g, e = .returned (.slice (some ⟨g, 0, none⟩) len len) ∧ TRow w' g len ps ∧ w.heap.size < g ∧ Cr w w' x ∧ Below X.heap.size X w' := by
  refine (copiedT_any a len cap ps X (I.kept C.bel) hs).mono ?_
  rintro e w' ⟨rfl, R, B⟩
  exact ⟨_, rfl, R, C.box.1, C.all B, B⟩

theorem int_at {X : World} {s : Nat} (h : X.heap.size = s) (i : Int) : Ints (X.alloc (.cells #[.int .i64 i] 2)) (some ⟨s, 0, none⟩) 1 [i] := by
  subst h
  exact ints_one X i _

theorem one_at {X : World} {s : Nat} (h : X.heap.size = s) (i v st hd : Int) : TRow (X.alloc (.cells #[.int .i64 i, .int .i64 v, .int .i64 st, .int .i64 hd] 73)) s 1 [⟨i, v, st, hd⟩] := by
  subst h
  exact Rec.row_one tskR X ⟨i, v, st, hd⟩

theorem tbox_arg (w : World) (i v s h : Int) : Hid (Below w.heap.size w (w.alloc (.cells #[.int .i64 i, .int .i64 v, .int .i64 s, .int .i64 h] 73)) ∧ TBox (w.alloc (.cells #[.int .i64 i, .int .i64 v, .int .i64 s, .int .i64 h] 73)) w.heap.size ⟨i, v, s, h⟩) := ⟨below_new _ _, tbox_new _ _ _ _ _⟩

set_option maxRecDepth 100000 in
set_option maxHeartbeats 4000000 in
/-- impl.Created at every list of tasks. -/
theorem implCreated (a : Option Addr) (len cap : Nat) (ps : List Tsk) (id wt : Int) (w : World) (I : Tsks w a len ps) (hs : (len : Int) ≤ 1048576) :
    Calls Tryz.prog 83 #[.slice a len cap, .int .i64 id, .int .i64 wt] w (TPost (crL ps id wt) (crC ps id wt) w) := by
  obtain ⟨i0, hi, hz0, hz1, hz2⟩ := info_parts info_task
  have HI : Hid (Tsks w a len ps) := I
  have HL : Hid (ps.length = len) := I.1
  have A0 := tbox_arg w id wt 1 0
  clear I
  have bad : crOk ps id wt = false → crC ps id wt = 1 ∧ crL ps id wt = asIs ps := fun h => by
    have h1 : crC ps id wt = 1 := by rw [crC, h]; rfl
    exact ⟨h1, by rw [crL, h1]; rfl⟩
  have ht : taskOk ⟨id, wt, 1, 0⟩ = (within id 1 9999 && within wt 1 1000000) := by
    show (within id 1 9999 && within wt 1 1000000 && within 1 1 3 && within 0 0 100000000) = _
    rw [show within 1 1 3 = true by decide, show within 0 0 100000000 = true by decide, Bool.and_true, Bool.and_true]
  cases hk : tasksOk ps
  · have HK : Hid (tasksOk ps = false ∧ True) := ⟨hk, trivial⟩
    obtain ⟨e1, e2⟩ := bad (by rw [crOk, hk]; rfl)
    rw [e1, e2]
    clear hk bad e1 e2 ht
    go_enter Tryz.func83, Tryz.ntmps83
    go_wp2_with fail
    generalize w.alloc (.cells #[.int .i64 id, .int .i64 wt, .int .i64 1, .int .i64 0] 73) = wa at A0 ⊢
    refine (implTasksOk a len cap ps _ (HI.out.kept A0.out.1) hs).mono ?_
    rw [HK.out.1]
    rintro e w1 ⟨rfl, B1⟩
    have H1 : Hid (Below w.heap.size w w1 ∧ TBox w1 w.heap.size ⟨id, wt, 1, 0⟩) := ⟨below_call A0.out.1 A0.out.1.size B1, A0.out.2.all B1⟩
    clear B1
    go_wp2_with fail
    refine (implAsIs a len cap ps _ (HI.out.kept H1.out.1) hs).mono ?_
    rintro e wz ⟨g, n, c, rfl, F, B⟩
    have HZ : Hid (TFit wz w.heap.size (some ⟨g, 0, none⟩) n c (asIs ps) ∧ Below w.heap.size w wz) := ⟨F.mono H1.out.1.size, below_call H1.out.1 H1.out.1.size B⟩
    clear F B
    go_wp2_with fail
    go_ret2
    exact ⟨g, n, c, rfl, HZ.out.1, HZ.out.2⟩
  cases hw : taskOk ⟨id, wt, 1, 0⟩
  · have HK : Hid (tasksOk ps = true ∧ taskOk ⟨id, wt, 1, 0⟩ = false ∧ True) := ⟨hk, hw, trivial⟩
    obtain ⟨e1, e2⟩ := bad (by rw [crOk, hk, Bool.true_and, ← ht, hw])
    rw [e1, e2]
    clear hk hw bad e1 e2 ht
    go_enter Tryz.func83, Tryz.ntmps83
    go_wp2_with fail
    generalize w.alloc (.cells #[.int .i64 id, .int .i64 wt, .int .i64 1, .int .i64 0] 73) = wa at A0 ⊢
    refine (implTasksOk a len cap ps _ (HI.out.kept A0.out.1) hs).mono ?_
    rw [HK.out.1]
    rintro e w1 ⟨rfl, B1⟩
    have H1 : Hid (Below w.heap.size w w1 ∧ TBox w1 w.heap.size ⟨id, wt, 1, 0⟩) := ⟨below_call A0.out.1 A0.out.1.size B1, A0.out.2.all B1⟩
    clear B1
    have t0 := H1.out.2.2.1
    have t1 := H1.out.2.2.2.1
    have t2 := H1.out.2.2.2.2.1
    have t3 := H1.out.2.2.2.2.2
    simp only at t0 t1 t2 t3
    go_wp2_with fail
    refine (implTaskOk id wt 1 0 _).mono ?_
    rw [HK.out.2.1]
    rintro e w2 ⟨rfl, B2⟩
    have H2 : Hid (Below w.heap.size w w2 ∧ TBox w2 w.heap.size ⟨id, wt, 1, 0⟩) := ⟨below_call H1.out.1 H1.out.1.size B2, H1.out.2.all B2⟩
    clear B2 H1 t0 t1 t2 t3
    go_wp2_with fail
    refine (implAsIs a len cap ps _ (HI.out.kept H2.out.1) hs).mono ?_
    rintro e wz ⟨g, n, c, rfl, F, B⟩
    have HZ : Hid (TFit wz w.heap.size (some ⟨g, 0, none⟩) n c (asIs ps) ∧ Below w.heap.size w wz) := ⟨F.mono H2.out.1.size, below_call H2.out.1 H2.out.1.size B⟩
    clear F B
    go_wp2_with fail
    go_ret2
    exact ⟨g, n, c, rfl, HZ.out.1, HZ.out.2⟩
  have hok : crOk ps id wt = true := by rw [crOk, hk, Bool.true_and, ← ht, hw]
  obtain ⟨f, hf⟩ : ∃ f, f = findT ps id := ⟨_, rfl⟩
  have HK : Hid (tasksOk ps = true ∧ taskOk ⟨id, wt, 1, 0⟩ = true ∧ f = findT ps id) := ⟨hk, hw, hf⟩
  by_cases hf0 : 0 ≤ f
  · have e1 : crC ps id wt = 3 := by rw [crC, hok, if_pos rfl, ← hf, if_pos hf0]
    have e2 : crL ps id wt = asIs ps := by rw [crL, e1]; rfl
    rw [e1, e2]
    clear hk hw bad e1 e2 hok hf ht
    go_enter Tryz.func83, Tryz.ntmps83
    go_wp2_with fail
    generalize w.alloc (.cells #[.int .i64 id, .int .i64 wt, .int .i64 1, .int .i64 0] 73) = wa at A0 ⊢
    refine (implTasksOk a len cap ps _ (HI.out.kept A0.out.1) hs).mono ?_
    rw [HK.out.1]
    rintro e w1 ⟨rfl, B1⟩
    have H1 : Hid (Below w.heap.size w w1 ∧ TBox w1 w.heap.size ⟨id, wt, 1, 0⟩) := ⟨below_call A0.out.1 A0.out.1.size B1, A0.out.2.all B1⟩
    clear B1
    have t0 := H1.out.2.2.1
    have t1 := H1.out.2.2.2.1
    have t2 := H1.out.2.2.2.2.1
    have t3 := H1.out.2.2.2.2.2
    simp only at t0 t1 t2 t3
    go_wp2_with fail
    refine (implTaskOk id wt 1 0 _).mono ?_
    rw [HK.out.2.1]
    rintro e w2 ⟨rfl, B2⟩
    have H2 : Hid (Below w.heap.size w w2 ∧ TBox w2 w.heap.size ⟨id, wt, 1, 0⟩) := ⟨below_call H1.out.1 H1.out.1.size B2, H1.out.2.all B2⟩
    clear B2 H1 t0 t1 t2 t3
    go_wp2_with fail
    refine (implFind a len cap ps id _ (HI.out.kept H2.out.1) hs).mono ?_
    rw [← HK.out.2.2]
    rintro e w3 ⟨rfl, B3⟩
    have H3 : Hid (Below w.heap.size w w3 ∧ TBox w3 w.heap.size ⟨id, wt, 1, 0⟩) := ⟨below_call H2.out.1 H2.out.1.size B3, H2.out.2.all B3⟩
    clear B3 H2
    go_wp2_with fail
    refine (implAsIs a len cap ps _ (HI.out.kept H3.out.1) hs).mono ?_
    rintro e wz ⟨g, n, c, rfl, F, B⟩
    have HZ : Hid (TFit wz w.heap.size (some ⟨g, 0, none⟩) n c (asIs ps) ∧ Below w.heap.size w wz) := ⟨F.mono H3.out.1.size, below_call H3.out.1 H3.out.1.size B⟩
    clear F B
    go_wp2_with fail
    go_ret2
    exact ⟨g, n, c, rfl, HZ.out.1, HZ.out.2⟩
  have hfd : decide (0 ≤ f) = false := decide_eq_false hf0
  have hl24 : len ≤ 24 := by have := tasks_len hk; have := HL.out; omega
  by_cases h24 : len = 24
  · have e1 : crC ps id wt = 5 := by rw [crC, hok, if_pos rfl, ← hf, if_neg hf0, HL.out, if_pos (by omega)]
    have e2 : crL ps id wt = asIs ps := by rw [crL, e1]; rfl
    rw [e1, e2]
    have hb : Hid ((len : Int) = 24) := by show _ = _; omega
    clear hk hw bad e1 e2 hok hf ht h24 hl24
    go_enter Tryz.func83, Tryz.ntmps83
    go_wp2_with fail
    generalize w.alloc (.cells #[.int .i64 id, .int .i64 wt, .int .i64 1, .int .i64 0] 73) = wa at A0 ⊢
    refine (implTasksOk a len cap ps _ (HI.out.kept A0.out.1) hs).mono ?_
    rw [HK.out.1]
    rintro e w1 ⟨rfl, B1⟩
    have H1 : Hid (Below w.heap.size w w1 ∧ TBox w1 w.heap.size ⟨id, wt, 1, 0⟩) := ⟨below_call A0.out.1 A0.out.1.size B1, A0.out.2.all B1⟩
    clear B1
    have t0 := H1.out.2.2.1
    have t1 := H1.out.2.2.2.1
    have t2 := H1.out.2.2.2.2.1
    have t3 := H1.out.2.2.2.2.2
    simp only at t0 t1 t2 t3
    go_wp2_with fail
    refine (implTaskOk id wt 1 0 _).mono ?_
    rw [HK.out.2.1]
    rintro e w2 ⟨rfl, B2⟩
    have H2 : Hid (Below w.heap.size w w2 ∧ TBox w2 w.heap.size ⟨id, wt, 1, 0⟩) := ⟨below_call H1.out.1 H1.out.1.size B2, H1.out.2.all B2⟩
    clear B2 H1 t0 t1 t2 t3
    go_wp2_with fail
    refine (implFind a len cap ps id _ (HI.out.kept H2.out.1) hs).mono ?_
    rw [← HK.out.2.2]
    rintro e w3 ⟨rfl, B3⟩
    have H3 : Hid (Below w.heap.size w w3 ∧ TBox w3 w.heap.size ⟨id, wt, 1, 0⟩) := ⟨below_call H2.out.1 H2.out.1.size B3, H2.out.2.all B3⟩
    clear B3 H2
    have hb1 : ((len : Int) == (24 : Int)) = true := by rw [hb.out]; rfl
    go_wp2_with fail
    refine (implAsIs a len cap ps _ (HI.out.kept H3.out.1) hs).mono ?_
    rintro e wz ⟨g, n, c, rfl, F, B⟩
    have HZ : Hid (TFit wz w.heap.size (some ⟨g, 0, none⟩) n c (asIs ps) ∧ Below w.heap.size w wz) := ⟨F.mono H3.out.1.size, below_call H3.out.1 H3.out.1.size B⟩
    clear F B
    go_wp2_with fail
    go_ret2
    exact ⟨g, n, c, rfl, HZ.out.1, HZ.out.2⟩
  have e1 : crC ps id wt = 0 := by rw [crC, hok, if_pos rfl, ← hf, if_neg hf0, HL.out, if_neg (by omega)]
  have e2 : crL ps id wt = crNew ps id wt := by rw [crL, e1]; rfl
  have HN : Hid (sortT (ps ++ [⟨id, wt, 1, 0⟩]) (len + 1) = crNew ps id wt) := by
    show _ = _
    rw [← HL.out]
    exact sort_new hk (by omega)
  have HN2 : Hid ((crNew ps id wt).length = len + 1) := by rw [← HN.out]; exact sortT_len _ _
  rw [e1, e2]
  have hb : ((len : Int) == (24 : Int)) = false := by simp; omega
  have hb' : ¬ (len : Int) = 24 := by omega
  clear hk hw bad e1 e2 hok hf ht
  go_enter Tryz.func83, Tryz.ntmps83
  go_wp2_with fail
  generalize w.alloc (.cells #[.int .i64 id, .int .i64 wt, .int .i64 1, .int .i64 0] 73) = wa at A0 ⊢
  refine (implTasksOk a len cap ps _ (HI.out.kept A0.out.1) hs).mono ?_
  rw [HK.out.1]
  rintro e w1 ⟨rfl, B1⟩
  have H1 : Hid (Below w.heap.size w w1 ∧ TBox w1 w.heap.size ⟨id, wt, 1, 0⟩) := ⟨below_call A0.out.1 A0.out.1.size B1, A0.out.2.all B1⟩
  clear B1
  have t0 := H1.out.2.2.1
  have t1 := H1.out.2.2.2.1
  have t2 := H1.out.2.2.2.2.1
  have t3 := H1.out.2.2.2.2.2
  simp only at t0 t1 t2 t3
  go_wp2_with fail
  refine (implTaskOk id wt 1 0 _).mono ?_
  rw [HK.out.2.1]
  rintro e w2 ⟨rfl, B2⟩
  have H2 : Hid (Below w.heap.size w w2 ∧ TBox w2 w.heap.size ⟨id, wt, 1, 0⟩) := ⟨below_call H1.out.1 H1.out.1.size B2, H1.out.2.all B2⟩
  clear B2 H1 t0 t1 t2 t3
  go_wp2_with fail
  refine (implFind a len cap ps id _ (HI.out.kept H2.out.1) hs).mono ?_
  rw [← HK.out.2.2]
  rintro e w3 ⟨rfl, B3⟩
  have H3 : Hid (Below w.heap.size w w3 ∧ TBox w3 w.heap.size ⟨id, wt, 1, 0⟩) := ⟨below_call H2.out.1 H2.out.1.size B3, H2.out.2.all B3⟩
  clear B3 H2
  have t0 := H3.out.2.2.1
  have t1 := H3.out.2.2.2.1
  have t2 := H3.out.2.2.2.2.1
  have t3 := H3.out.2.2.2.2.2
  simp only at t0 t1 t2 t3
  have CR : Cr w w3 ⟨id, wt, 1, 0⟩ := ⟨H3.out.1, H3.out.2⟩
  have m1 := CR.box.1
  clear H3 A0
  go_wp2_with fail
  go_region_held3 (fun w' => w'.cell? ⟨w.heap.size, 0, none⟩ = some (.int .i64 id) ∧ w'.cell? ⟨w.heap.size, 1, none⟩ = some (.int .i64 wt) ∧ w'.cell? ⟨w.heap.size, 2, none⟩ = some (.int .i64 1) ∧ w'.cell? ⟨w.heap.size, 3, none⟩ = some (.int .i64 0)) (go_keep)
    ((first | (refine Rec.step_append (K := tskR) (by rfl) (.tmp 38) (.tmp 40) 26 (by rfl) i0 _ Tryz.underlying26 hi hz0 hz1 hz2 (by rfl) (by decide) _ _ _ ps (by rfl) HL.out.symm (by repeat (first | with_reducible exact R1 | apply Rec.row.drew | apply Rec.row.alloc)) _ _ _ [⟨id, wt, 1, 0⟩] (by rfl) (by first | exact E1.sl | exact E1.drew.sl | exact (one_at rfl id wt 1 0).sl | exact (one_at rfl id wt 1 0).drew.sl) (by rw [HL.out]; omega) _ rfl ?_; intro g6 c6 w6 R6 G6 D6; have CR : Cr w w6 ⟨id, wt, 1, 0⟩ := (by first | with_reducible exact Cr.other CR G6 l1 | with_reducible exact Cr.other CR.drew G6 l1 | with_reducible exact Cr.other (CR.alloc _) G6 l1 | with_reducible exact Cr.other (CR.alloc _).drew G6 l1 | with_reducible exact Cr.other (CR.drew.alloc _) G6 l1 | with_reducible exact Cr.other (CR.drew.alloc _).drew G6 l1); have t0 := CR.box.2.1; have t1 := CR.box.2.2.1; have t2 := CR.box.2.2.2.1; have t3 := CR.box.2.2.2.2; have m1 := CR.box.1) | (go_at_call 41; refine (copiedC (w := w) (x := ⟨id, wt, 1, 0⟩) (by first | with_reducible exact CR | with_reducible exact CR.drew | with_reducible exact (CR.alloc _) | with_reducible exact (CR.alloc _).drew | with_reducible exact (CR.drew.alloc _) | with_reducible exact (CR.drew.alloc _).drew) a len cap ps HI.out hs).mono ?_; rintro e u1 ⟨g1, rfl, R1, l1, CR, K1⟩; (first | (have E1 : TRow u1 _ 1 [⟨id, wt, 1, 0⟩] := Rec.row.all (one_at rfl id wt 1 0) K1) | (have E1 : TRow u1 _ 1 [⟨id, wt, 1, 0⟩] := Rec.row.all (one_at rfl id wt 1 0).drew K1) | skip); have t0 := CR.box.2.1; have t1 := CR.box.2.2.1; have t2 := CR.box.2.2.2.1; have t3 := CR.box.2.2.2.2; have m1 := CR.box.1)))
  all_goals
    have HR : Hid (Tsks w6 (some ⟨g6, 0, none⟩) (len + 1) (ps ++ [⟨id, wt, 1, 0⟩]) ∧ Below w.heap.size w w6) := ⟨by have h := Rec.row.sl R6; rwa [List.length_append, HL.out] at h, CR.bel⟩
    clear R6 G6 D6 CR t0 t1 t2 t3 m1 hi hz0 hz1 hz2
    go_wp2_with fail
    refine (sortedT_any (some ⟨g6, 0, none⟩) (len + 1) c6 (ps ++ [⟨id, wt, 1, 0⟩]) _ HR.out.1 (by omega)).mono ?_
    rintro e w7 ⟨rfl, R7, B7⟩
    have H7 : Hid (TFit w7 w.heap.size (some ⟨w6.heap.size, 0, none⟩) (len + 1) (len + 1) (crNew ps id wt) ∧ Below w.heap.size w w7) := by
      rw [HN.out] at R7
      exact ⟨R7.fit HR.out.2.size HN2.out, below_call HR.out.2 HR.out.2.size B7⟩
    clear R7 B7
    go_wp2_with fail
    go_ret2
    exact ⟨_, _, _, rfl, H7.out.1, H7.out.2⟩

set_option maxRecDepth 100000 in
/-- impl.ReadyOf at every list of tasks. -/
theorem implReadyOf (a : Option Addr) (len cap : Nat) (ps : List Tsk) (w : World) (I : Tsks w a len ps) (hs : (len : Int) ≤ 1048576) :
    Calls Tryz.prog 42 #[.slice a len cap] w fun e w' => ∃ g n c : Nat, e = .returned (.slice (some ⟨g, 0, none⟩) n c) ∧ Fit w' w.heap.size (some ⟨g, 0, none⟩) n c (rdyL ps) ∧ Below w.heap.size w w' := by
  obtain ⟨i0, hi, hz0, hz1, hz2⟩ := info_parts info_int
  have HI : Hid (Tsks w a len ps) := I
  have HL : Hid (ps.length = len) := I.1
  have R0 : Hid (Row (w.alloc (.cells #[] 2)) w.heap.size 0 [] ∧ Below w.heap.size w (w.alloc (.cells #[] 2))) := ⟨row_nil w, below_new _ _⟩
  have hz : (w.alloc (.cells #[] 2)).heap.size = w.heap.size + 1 := by simp
  clear I
  cases hk : tasksOk ps
  · have HK : Hid (tasksOk ps = false ∧ rdyL ps = []) := ⟨hk, by rw [rdyL, hk]; rfl⟩
    clear hk
    go_enter Tryz.func42, Tryz.ntmps42
    go_wp2_with fail
    refine (implTasksOk a len cap ps _ (HI.out.kept R0.out.2) hs).mono ?_
    rw [HK.out.1]
    rintro e w1 ⟨rfl, B1⟩
    have H1 : Hid (Row w1 w.heap.size 0 [] ∧ Below w.heap.size w w1) := ⟨R0.out.1.all B1, below_call R0.out.2 R0.out.2.size B1⟩
    clear B1
    go_wp2_with fail
    go_ret
    exact ⟨w.heap.size, 0, 0, rfl, by rw [HK.out.2]; exact H1.out.1.fit (Nat.le_refl _) rfl, H1.out.2⟩
  · have HK : Hid (tasksOk ps = true ∧ rdyL ps = rdyTo ps len) := ⟨hk, by rw [rdyL, hk, HL.out]; rfl⟩
    clear hk
    go_enter Tryz.func42, Tryz.ntmps42
    go_wp2_with fail
    refine (implTasksOk a len cap ps _ (HI.out.kept R0.out.2) hs).mono ?_
    rw [HK.out.1]
    rintro e w1 ⟨rfl, B1⟩
    have H1 : Hid (Row w1 w.heap.size 0 [] ∧ Below w.heap.size w w1) := ⟨R0.out.1.all B1, below_call R0.out.2 R0.out.2.size B1⟩
    clear B1 R0
    go_wp2_with fail
    go_loopw [3, 5, 13] (fun q _ i wr => ∃ k m g c : Nat, k ≤ len ∧ i = .int .i64 k ∧ q = .slice (some ⟨g, 0, none⟩) m c ∧ Hid ((rdyTo ps k).length = m ∧ Row wr g c (rdyTo ps k) ∧ w.heap.size ≤ g ∧ Below w.heap.size w wr)) (fun _ _ i _ => len - (intOf i).toNat)
    case atStart => exact ⟨0, 0, w.heap.size, 0, Nat.zero_le _, rfl, rfl, rfl, H1.out.1, Nat.le_refl _, H1.out.2⟩
    case round =>
      obtain ⟨k, m, g, c, hkl, rfl, rfl, R⟩ := hrel
      by_cases hlt : k < len
      · obtain ⟨_, h0 | ⟨b, off, rfl, hb, hc⟩⟩ := tsks_parts (HI.out.kept R.out.2.2.2)
        · omega
        obtain ⟨c0, c1, c2, c3⟩ := hc k hlt
        obtain ⟨x, hx⟩ : ∃ x, x = ps.getD k tz := ⟨_, rfl⟩
        rw [← hx] at c0 c1 c2 c3
        obtain ⟨xi, xw, xs, xh⟩ := x
        simp only at c0 c1 c2 c3
        have hlt' : (k : Int) < (len : Int) := by omega
        have HX : Hid (ps.getD k tz = ⟨xi, xw, xs, xh⟩) := hx.symm
        have hm := rdyTo_len ps k
        rw [R.out.1] at hm
        clear hc hx
        by_cases hy1 : xs = 1
        · have HA : Hid (rdyTo ps (k + 1) = rdyTo ps k ++ [xi]) := by show _ = _; rw [rdyTo, HX.out, if_pos hy1]
          have hb1 : (xs == (1 : Int)) = true := by simp [hy1]
          have RX : Hid (Row (wr.alloc (.cells #[.int .i64 xi, .int .i64 xw, .int .i64 xs, .int .i64 xh] 73)) g c (rdyTo ps k) ∧ Below w.heap.size w (wr.alloc (.cells #[.int .i64 xi, .int .i64 xw, .int .i64 xs, .int .i64 xh] 73))) := ⟨R.out.2.1.alloc _, below_call R.out.2.2.2 R.out.2.2.2.size (below_new _ _)⟩
          clear hy1
          go_wp2_with (at_builtin; refine wpList_append_ints rfl (.tmp 20) (.tmp 23) 27 rfl i0 Tryz.underlying27 hi hz0 hz1 hz2 _ _ _ (rdyTo ps k) rfl R.out.1.symm (RX.out.1.alloc _) _ _ _ [xi] rfl (int_at (by simp) xi) (by rw [R.out.1]; omega) ?_)
          intro g4 c4 w4 R4 G4 D4
          have R5 : Hid ((rdyTo ps (k + 1)).length = m + 1 ∧ Row w4 g4 c4 (rdyTo ps (k + 1)) ∧ w.heap.size ≤ g4 ∧ Below w.heap.size w w4) := by
            have h1 := R.out.2.2.1
            have h2 := R.out.2.2.2.size
            have h3 := RX.out.2.size
            rw [HA.out]
            exact ⟨by rw [List.length_append, R.out.1]; rfl, R4, by first | omega | (simp at D4; omega), (RX.out.2.alloc h3 _).grown G4 (by simp; omega) (fun i hi => by cases hi; exact h1)⟩
          clear R4 G4 D4
          go_wp2_with fail
          go_roundw
          case rel => exact ⟨k + 1, m + 1, g4, c4, by omega, by go_num, rfl, R5⟩
          case measure => simp [intOf]; omega
        · have HA : Hid (rdyTo ps (k + 1) = rdyTo ps k) := by show _ = _; rw [rdyTo, HX.out, if_neg hy1]
          have hb1 : (xs == (1 : Int)) = false := by simpa using hy1
          have RX : Hid (Row (wr.alloc (.cells #[.int .i64 xi, .int .i64 xw, .int .i64 xs, .int .i64 xh] 73)) g c (rdyTo ps k) ∧ Below w.heap.size w (wr.alloc (.cells #[.int .i64 xi, .int .i64 xw, .int .i64 xs, .int .i64 xh] 73))) := ⟨R.out.2.1.alloc _, below_call R.out.2.2.2 R.out.2.2.2.size (below_new _ _)⟩
          clear hy1
          go_wp2_with fail
          go_roundw
          case rel => exact ⟨k + 1, m, g, c, by omega, by go_num, rfl, by rw [HA.out]; exact ⟨R.out.1, RX.out.1, R.out.2.2.1, RX.out.2⟩⟩
          case measure => simp [intOf]; omega
      · have hlt' : ¬ (k : Int) < (len : Int) := by omega
        have he : k = len := by omega
        subst he
        go_wp2_with fail
        go_ret
        exact ⟨g, m, c, rfl, by rw [HK.out.2]; exact R.out.2.1.fit R.out.2.2.1 R.out.1, R.out.2.2.2⟩

end Go.Proofs.YtcmeimfjedakeaaGreat.Crew
