/-
  spec's tasks: whether they are right, where one stands, a copy, a list as it is with a code.
-/
import Derived.Test.YtcmeimfjedakeaaGreatTaskLaws
import Derived.Test.YtcmeimfjedakeaaGreatCrewBase
namespace Go.Proofs.YtcmeimfjedakeaaGreat.Crew
open Go.ChangeShapes Go.WideShapes Go.ChangeAt Go.RowKit

def taskOk (x : Tsk) : Bool := within x.i 1 9999 && within x.w 1 1000000 && within x.s 1 3 && within x.h 0 100000000

/-- Whether the k-th one is right, and its Id more than the one's ahead of it. -/
def taskAt (xs : List Tsk) (k : Nat) : Bool := taskOk (xs.getD k tz) && (decide (k = 0) || decide ((xs.getD (k - 1) tz).i < (xs.getD k tz).i))

def allTo (xs : List Tsk) : Nat → Bool
  | 0 => true
  | k + 1 => allTo xs k && taskAt xs k

def tasksOk (xs : List Tsk) : Bool := allTo xs xs.length && decide (xs.length ≤ 24)

theorem allTo_no {xs : List Tsk} {j k : Nat} (h : taskAt xs j = false) (hj : j < k) : allTo xs k = false := by
  induction k with
  | zero => omega
  | succ k ih =>
    rw [allTo]
    by_cases e : j = k
    · subst e; rw [h, Bool.and_false]
    · rw [ih (by omega), Bool.false_and]

theorem allTo_at {xs : List Tsk} {j k : Nat} (h : allTo xs k = true) (hj : j < k) : taskAt xs j = true := by
  cases h2 : taskAt xs j
  · rw [allTo_no h2 hj] at h; cases h
  · rfl

/-- Where the first one of that Id stands, among the first k. -/
def findTo (xs : List Tsk) (id : Int) : Nat → Nat
  | 0 => 0
  | k + 1 => if findTo xs id k < k then findTo xs id k else if (xs.getD k tz).i = id then k else k + 1

def findT (xs : List Tsk) (id : Int) : Int := if findTo xs id xs.length < xs.length then (findTo xs id xs.length : Nat) else -1

theorem findTo_le (xs : List Tsk) (id : Int) (k : Nat) : findTo xs id k ≤ k := by
  induction k with
  | zero => exact Nat.le_refl _
  | succ k ih =>
    rw [findTo]
    split
    · omega
    · split <;> omega

/-- The first one is found. -/
theorem findTo_hit {xs : List Tsk} {id : Int} {j k : Nat} (h : findTo xs id j = j) (he : (xs.getD j tz).i = id) (hj : j < k) : findTo xs id k = j := by
  induction k with
  | zero => omega
  | succ k ih =>
    rw [findTo]
    by_cases e : j = k
    · subst e; rw [h, if_neg (Nat.lt_irrefl _), if_pos he]
    · rw [ih (by omega), if_pos (by omega)]

theorem findTo_step {xs : List Tsk} {id : Int} {j : Nat} (h : findTo xs id j = j) (he : ¬ (xs.getD j tz).i = id) : findTo xs id (j + 1) = j + 1 := by
  rw [findTo, h, if_neg (Nat.lt_irrefl _), if_neg he]

theorem specState (n : Int) (w : World) :
    Calls Tryz.prog 130 #[.int .i64 n] w fun e w' => e = .returned (.bool (within n 1 3)) ∧ w' = w := by
  go_enter Tryz.func130, Tryz.ntmps130
  go_wp2_with fail
  refine (in_any n 1 3 _).mono ?_
  rintro e w1 ⟨rfl, rfl⟩
  go_wp2_with fail
  go_ret
  exact ⟨rfl, rfl⟩

theorem kin_same {f : FuncId} {args : Array Value} {w : World} {v : Value} (h : Calls Tryz.prog f args w fun e w' => e = .returned v ∧ w' = w) : Calls Tryz.prog f args w fun e w' => e = .returned v ∧ Below w.heap.size w w' :=
  h.mono fun _ _ ⟨he, hw⟩ => ⟨he, by rw [hw]; exact Below.refl _ _⟩

set_option maxRecDepth 100000 in
set_option maxHeartbeats 4000000 in
/-- spec.TasksOk at every slice of tasks. -/
theorem specTasksOk (a : Option Addr) (len cap : Nat) (ps : List Tsk) (w : World) (I : Tsks w a len ps) (hs : (len : Int) ≤ 1048576) :
    Calls Tryz.prog 109 #[.slice a len cap] w fun e w' => e = .returned (.bool (tasksOk ps)) ∧ Below w.heap.size w w' := by
  have HI : Hid (Tsks w a len ps) := I
  have HL : Hid (ps.length = len) := I.1
  clear I
  go_enter Tryz.func109, Tryz.ntmps109
  go_wp2_with fail
  go_loopw [3, 4] (fun i _ wr => ∃ k : Nat, k ≤ len ∧ i = .int .i64 k ∧ Hid (allTo ps k = true ∧ Below w.heap.size w wr)) (fun i _ _ => len - (intOf i).toNat)
  case atStart => exact ⟨0, Nat.zero_le _, rfl, rfl, Below.refl _ _⟩
  case round =>
    obtain ⟨k, hk, rfl, R⟩ := hrel
    by_cases hlt : k < len
    · obtain ⟨_, h0 | ⟨b, off, rfl, hb, hc⟩⟩ := tsks_parts (HI.out.kept R.out.2)
      · omega
      obtain ⟨x, hx⟩ : ∃ x, x = ps.getD k tz := ⟨_, rfl⟩
      obtain ⟨c0, c1, c2, c3⟩ := hc k hlt
      rw [← hx] at c0 c1 c2 c3
      have hkl : (k : Int) < (len : Int) := by omega
      have HX : Hid (x = ps.getD k tz) := hx
      clear hx
      obtain ⟨y, hy⟩ : ∃ y, y = (ps.getD (k - 1) tz).i := ⟨_, rfl⟩
      have cy : 0 < k → wr.cell? ⟨b, off + (k - 1) * 4, none⟩ = some (.int .i64 y) := fun h => by rw [hy]; exact (hc (k - 1) (by omega)).1
      have HY : Hid (y = (ps.getD (k - 1) tz).i) := hy
      have HCY : Hid (0 < k → wr.cell? ⟨b, off + (k - 1) * 4, none⟩ = some (.int .i64 y)) := cy
      clear hc hy cy
      obtain ⟨xi, xw, xs, xh⟩ := x
      simp only at c0 c1 c2 c3
      go_wp2_with fail
      obtain ⟨W, hW⟩ : ∃ W, W = wr.alloc (.cells #[.int .i64 xi, .int .i64 xw, .int .i64 xs, .int .i64 xh] 73) := ⟨_, rfl⟩
      have BX := bx_new wr #[.int .i64 xi, .int .i64 xw, .int .i64 xs, .int .i64 xh] 73
      rw [← hW] at BX ⊢
      have BW : Hid (Below w.heap.size w W ∧ Below wr.heap.size wr W) := by rw [hW]; exact ⟨below_call R.out.2 R.out.2.size (below_new _ _), below_new _ _⟩
      clear hW c0 c1 c2 c3
      have v0 : ∀ z : Kin W, z.u.cell? ⟨wr.heap.size, 0, none⟩ = some (.int .i64 xi) := fun z => z.cell BX.1 (BX.2 0 _ rfl)
      have v1 : ∀ z : Kin W, z.u.cell? ⟨wr.heap.size, 1, none⟩ = some (.int .i64 xw) := fun z => z.cell BX.1 (BX.2 1 _ rfl)
      have v2 : ∀ z : Kin W, z.u.cell? ⟨wr.heap.size, 2, none⟩ = some (.int .i64 xs) := fun z => z.cell BX.1 (BX.2 2 _ rfl)
      have v3 : ∀ z : Kin W, z.u.cell? ⟨wr.heap.size, 3, none⟩ = some (.int .i64 xh) := fun z => z.cell BX.1 (BX.2 3 _ rfl)
      obtain ⟨p1, hp1⟩ : ∃ p, p = within xi 1 9999 := ⟨_, rfl⟩
      obtain ⟨p2, hp2⟩ : ∃ p, p = within xw 1 1000000 := ⟨_, rfl⟩
      obtain ⟨p3, hp3⟩ : ∃ p, p = within xs 1 3 := ⟨_, rfl⟩
      obtain ⟨p4, hp4⟩ : ∃ p, p = within xh 0 100000000 := ⟨_, rfl⟩
      have K1 : Hid (∀ u : World, Calls Tryz.prog 107 #[.int .i64 xi, .int .i64 1, .int .i64 9999] u fun e w' => e = .returned (.bool p1) ∧ Below u.heap.size u w') := fun u => by rw [hp1]; exact kin_same (in_any _ _ _ _)
      have K2 : Hid (∀ u : World, Calls Tryz.prog 123 #[.int .i64 xw] u fun e w' => e = .returned (.bool p2) ∧ Below u.heap.size u w') := fun u => by rw [hp2]; exact kin_same (specWeight_any _ _)
      have K3 : Hid (∀ u : World, Calls Tryz.prog 130 #[.int .i64 xs] u fun e w' => e = .returned (.bool p3) ∧ Below u.heap.size u w') := fun u => by rw [hp3]; exact kin_same (specState _ _)
      have K4 : Hid (∀ u : World, Calls Tryz.prog 107 #[.int .i64 xh, .int .i64 0, .int .i64 100000000] u fun e w' => e = .returned (.bool p4) ∧ Below u.heap.size u w') := fun u => by rw [hp4]; exact kin_same (in_any _ _ _ _)
      have HP : Hid (taskAt ps k = (p1 && p2 && p3 && p4 && (decide (k = 0) || decide (y < xi)))) := by
        show _ = _
        rw [taskAt, ← HX.out, ← HY.out, taskOk, hp1, hp2, hp3, hp4]
      clear hp1 hp2 hp3 hp4 HX HY
      cases p1
      · refine wp_region_kin (by kernel_rfl) (by kernel_rfl) (fun hne => ?_)
        repeat (go_big_quiet_step ((first | (go_at_call_of 107 (Value.int IntKind.i64 9999); exact kin_calls (K1.out _)) | (go_at_call_of 107 (Value.int IntKind.i64 100000000); exact kin_calls (K4.out _)) | (go_at_call 123; exact kin_calls (K2.out _)) | (go_at_call 130; exact kin_calls (K3.out _)))))
        refine wpQuiet_nil ?_
        rintro _ ⟨z, rfl⟩
        have BZ : Hid (Below w.heap.size w z.u) := below_call BW.out.1 BW.out.1.size z.b
        generalize z.u = wz at BZ ⊢
        have HN : Hid (taskAt ps k = false) := by show _ = _; rw [HP.out]; rfl
        clear K1 K2 K3 K4 v0 v1 v2 v3 hne
        go_wp2_with fail
        go_ret
        refine ⟨?_, BZ.out⟩
        rw [tasksOk, allTo_no HN.out (by rw [HL.out]; exact hlt)]
        rfl
      cases p2
      · refine wp_region_kin (by kernel_rfl) (by kernel_rfl) (fun hne => ?_)
        repeat (go_big_quiet_step ((first | (go_at_call_of 107 (Value.int IntKind.i64 9999); exact kin_calls (K1.out _)) | (go_at_call_of 107 (Value.int IntKind.i64 100000000); exact kin_calls (K4.out _)) | (go_at_call 123; exact kin_calls (K2.out _)) | (go_at_call 130; exact kin_calls (K3.out _)))))
        refine wpQuiet_nil ?_
        rintro _ ⟨z, rfl⟩
        have BZ : Hid (Below w.heap.size w z.u) := below_call BW.out.1 BW.out.1.size z.b
        generalize z.u = wz at BZ ⊢
        have HN : Hid (taskAt ps k = false) := by show _ = _; rw [HP.out]; rfl
        clear K1 K2 K3 K4 v0 v1 v2 v3 hne
        go_wp2_with fail
        go_ret
        refine ⟨?_, BZ.out⟩
        rw [tasksOk, allTo_no HN.out (by rw [HL.out]; exact hlt)]
        rfl
      cases p3
      · refine wp_region_kin (by kernel_rfl) (by kernel_rfl) (fun hne => ?_)
        repeat (go_big_quiet_step ((first | (go_at_call_of 107 (Value.int IntKind.i64 9999); exact kin_calls (K1.out _)) | (go_at_call_of 107 (Value.int IntKind.i64 100000000); exact kin_calls (K4.out _)) | (go_at_call 123; exact kin_calls (K2.out _)) | (go_at_call 130; exact kin_calls (K3.out _)))))
        refine wpQuiet_nil ?_
        rintro _ ⟨z, rfl⟩
        have BZ : Hid (Below w.heap.size w z.u) := below_call BW.out.1 BW.out.1.size z.b
        generalize z.u = wz at BZ ⊢
        have HN : Hid (taskAt ps k = false) := by show _ = _; rw [HP.out]; rfl
        clear K1 K2 K3 K4 v0 v1 v2 v3 hne
        go_wp2_with fail
        go_ret
        refine ⟨?_, BZ.out⟩
        rw [tasksOk, allTo_no HN.out (by rw [HL.out]; exact hlt)]
        rfl
      cases p4
      · refine wp_region_kin (by kernel_rfl) (by kernel_rfl) (fun hne => ?_)
        repeat (go_big_quiet_step ((first | (go_at_call_of 107 (Value.int IntKind.i64 9999); exact kin_calls (K1.out _)) | (go_at_call_of 107 (Value.int IntKind.i64 100000000); exact kin_calls (K4.out _)) | (go_at_call 123; exact kin_calls (K2.out _)) | (go_at_call 130; exact kin_calls (K3.out _)))))
        refine wpQuiet_nil ?_
        rintro _ ⟨z, rfl⟩
        have BZ : Hid (Below w.heap.size w z.u) := below_call BW.out.1 BW.out.1.size z.b
        generalize z.u = wz at BZ ⊢
        have HN : Hid (taskAt ps k = false) := by show _ = _; rw [HP.out]; rfl
        clear K1 K2 K3 K4 v0 v1 v2 v3 hne
        go_wp2_with fail
        go_ret
        refine ⟨?_, BZ.out⟩
        rw [tasksOk, allTo_no HN.out (by rw [HL.out]; exact hlt)]
        rfl
      by_cases hk0 : k = 0
      · have hd : decide ((0 : Int) < (k : Int)) = false := decide_eq_false (by omega)
        have hdn : decide (0 < k) = false := decide_eq_false (by omega)
        have HK : Hid (k = 0) := hk0
        clear hk0
        refine wp_region_kin (by kernel_rfl) (by kernel_rfl) (fun hne => ?_)
        repeat (go_big_quiet_step ((first | (go_at_call_of 107 (Value.int IntKind.i64 9999); exact kin_calls (K1.out _)) | (go_at_call_of 107 (Value.int IntKind.i64 100000000); exact kin_calls (K4.out _)) | (go_at_call 123; exact kin_calls (K2.out _)) | (go_at_call 130; exact kin_calls (K3.out _)))))
        refine wpQuiet_nil ?_
        rintro _ ⟨z, rfl⟩
        have BZ : Hid (Below w.heap.size w z.u) := below_call BW.out.1 BW.out.1.size z.b
        generalize z.u = wz at BZ ⊢
        have HN : Hid (taskAt ps k = true) := by show _ = _; rw [HP.out]; rw [HK.out]; rfl
        clear K1 K2 K3 K4 v0 v1 v2 v3 hne
        go_wp2_with fail
        go_roundw
        case rel => exact ⟨k + 1, by omega, by go_num, by rw [allTo, R.out.1, HN.out]; rfl, BZ.out⟩
        case measure => simp [intOf]; omega
      have hkp : 0 < k := by omega
      have hki : (0 : Int) < (k : Int) := by omega
      have hd : decide ((0 : Int) < (k : Int)) = true := decide_eq_true hki
      have cy := HCY.out hkp
      have v4 : ∀ z : Kin W, z.u.cell? ⟨b, off + (k - 1) * 4, none⟩ = some (.int .i64 y) := fun z => z.cell (Nat.lt_of_lt_of_le hb BW.out.2.size) ((BW.out.2.cell (p := ⟨b, off + (k - 1) * 4, none⟩) hb).trans cy)
      clear cy
      by_cases hyx : y < xi
      · have hyx' : ¬ xi ≤ y := by omega
        have hyd : decide (xi ≤ y) = false := decide_eq_false hyx'
        refine wp_region_kin (by kernel_rfl) (by kernel_rfl) (fun hne => ?_)
        repeat (go_big_quiet_step ((first | (go_at_call_of 107 (Value.int IntKind.i64 9999); exact kin_calls (K1.out _)) | (go_at_call_of 107 (Value.int IntKind.i64 100000000); exact kin_calls (K4.out _)) | (go_at_call 123; exact kin_calls (K2.out _)) | (go_at_call 130; exact kin_calls (K3.out _)))))
        refine wpQuiet_nil ?_
        rintro _ ⟨z, rfl⟩
        have BZ : Hid (Below w.heap.size w z.u) := below_call BW.out.1 BW.out.1.size z.b
        generalize z.u = wz at BZ ⊢
        have HN : Hid (taskAt ps k = true) := by show _ = _; rw [HP.out]; rw [decide_eq_true hyx]; simp
        clear v4 K1 K2 K3 K4 v0 v1 v2 v3 hne
        go_wp2_with fail
        go_roundw
        case rel => exact ⟨k + 1, by omega, by go_num, by rw [allTo, R.out.1, HN.out]; rfl, BZ.out⟩
        case measure => simp [intOf]; omega
      · have hyx' : xi ≤ y := by omega
        have hyd : decide (xi ≤ y) = true := decide_eq_true hyx'
        refine wp_region_kin (by kernel_rfl) (by kernel_rfl) (fun hne => ?_)
        repeat (go_big_quiet_step ((first | (go_at_call_of 107 (Value.int IntKind.i64 9999); exact kin_calls (K1.out _)) | (go_at_call_of 107 (Value.int IntKind.i64 100000000); exact kin_calls (K4.out _)) | (go_at_call 123; exact kin_calls (K2.out _)) | (go_at_call 130; exact kin_calls (K3.out _)))))
        refine wpQuiet_nil ?_
        rintro _ ⟨z, rfl⟩
        have BZ : Hid (Below w.heap.size w z.u) := below_call BW.out.1 BW.out.1.size z.b
        generalize z.u = wz at BZ ⊢
        have HN : Hid (taskAt ps k = false) := by show _ = _; rw [HP.out]; rw [decide_eq_false hyx, decide_eq_false hk0]; rfl
        clear v4 K1 K2 K3 K4 v0 v1 v2 v3 hne
        go_wp2_with fail
        go_ret
        refine ⟨?_, BZ.out⟩
        rw [tasksOk, allTo_no HN.out (by rw [HL.out]; exact hlt)]
        rfl
    · have hlt' : ¬ (k : Int) < (len : Int) := by omega
      have e : k = len := by omega
      subst e
      have HE : Hid (tasksOk ps = decide (k ≤ 24)) := by show _ = _; rw [tasksOk, HL.out, R.out.1]; rfl
      go_wp2_with fail
      go_ret
      refine ⟨?_, R.out.2⟩
      rw [HE.out]
      first | rfl | (simp; done) | (congr 2; simp; omega)

theorem specFind (a : Option Addr) (len cap : Nat) (ps : List Tsk) (id : Int) (w : World) (I : Tsks w a len ps) (hs : (len : Int) ≤ 1048576) :
    Calls Tryz.prog 110 #[.slice a len cap, .int .i64 id] w fun e w' => e = .returned (.int .i64 (findT ps id)) ∧ w' = w := by
  have HI : Hid (Tsks w a len ps) := I
  have HL : Hid (ps.length = len) := I.1
  clear I
  go_enter Tryz.func110, Tryz.ntmps110
  go_wp2_with fail
  go_loop [5] (fun i => ∃ k : Nat, k ≤ len ∧ i = .int .i64 k ∧ Hid (findTo ps id k = k)) (fun i => len - (intOf i).toNat)
  case atStart => exact ⟨0, Nat.zero_le _, rfl, rfl⟩
  case round =>
    obtain ⟨k, hk, rfl, F⟩ := hrel
    by_cases hlt : k < len
    · obtain ⟨_, h0 | ⟨b, off, rfl, hb, hc⟩⟩ := tsks_parts HI.out
      · omega
      have c0 := (hc k hlt).1
      obtain ⟨x, hx⟩ : ∃ x, x = (ps.getD k tz).i := ⟨_, rfl⟩
      rw [← hx] at c0
      have hkl : (k : Int) < (len : Int) := by omega
      clear hc
      by_cases he : x = id
      · have hb1 : (x == id) = true := by simp [he]
        have HE : Hid (findT ps id = k) := by
          show _ = _
          rw [findT, findTo_hit F.out (by rw [← hx]; exact he) (by rw [HL.out]; exact hlt), HL.out, if_pos hlt]
        clear hx he
        go_wp2_with fail
        go_ret
        exact ⟨by rw [HE.out]; rfl, rfl⟩
      · have hb1 : (x == id) = false := by simp [he]
        have HE : Hid (findTo ps id (k + 1) = k + 1) := findTo_step F.out (by rw [← hx]; exact he)
        clear hx he
        go_wp2_with fail
        go_round
        case rel => exact ⟨k + 1, by omega, by go_num, HE⟩
        case measure => simp [intOf]; omega
    · have hlt' : ¬ (k : Int) < (len : Int) := by omega
      have e : k = len := by omega
      subst e
      have HE : Hid (findT ps id = -1) := by
        show _ = _
        rw [findT, HL.out, F.out, if_neg (Nat.lt_irrefl _)]
      go_wp2_with fail
      go_ret
      exact ⟨by rw [HE.out]; rfl, rfl⟩

/-- spec.l13Copy: a copy in a block of its own. -/
theorem specCopyT (a : Option Addr) (len cap : Nat) (ps : List Tsk) (w : World) (I : Tsks w a len ps) (hs : (len : Int) ≤ 1048576) :
    Calls Tryz.prog 45 #[.slice a len cap] w fun e w' => ∃ g c : Nat, e = .returned (.slice (some ⟨g, 0, none⟩) len c) ∧ TRow w' g c ps ∧ w.heap.size ≤ g ∧ Below w.heap.size w w' := by
  obtain ⟨i0, hi, hz0, hz1, hz2⟩ := info_parts info_task
  have HI : Hid (Tsks w a len ps) := I
  have hl := I.1
  clear I
  go_enter Tryz.func45, Tryz.ntmps45
  go_wp2_with (at_builtin; refine Rec.wpList_append (K := tskR) rfl (.tmp 3) (.tmp 4) 26 rfl i0 _ Tryz.underlying26 hi hz0 hz1 hz2 rfl (by decide) _ _ _ [] rfl rfl (Rec.row_nil tskR w) _ _ _ ps rfl (HI.out.kept (below_new _ _)) (by simp; omega) ?_)
  intro g c w1 R1 G1 D1
  have H1 : Hid (TRow w1 g c ps ∧ w.heap.size ≤ g ∧ Below w.heap.size w w1) := by
    refine ⟨by simpa using R1, by first | omega | (simp at D1; omega), (below_new w _).grown G1 (by simp) (fun j hj => by cases hj; omega)⟩
  clear R1 G1 D1
  go_wp2_with fail
  go_ret
  exact ⟨g, c, by simp, H1.out⟩

/-- spec.l13No: a list as it is, with a code; nothing where it is not right. -/
theorem specNoT (a : Option Addr) (len cap : Nat) (ps : List Tsk) (code : Int) (w : World) (I : Tsks w a len ps) (hs : (len : Int) ≤ 1048576) :
    Calls Tryz.prog 124 #[.slice a len cap, .int .i64 code] w fun e w' => ∃ g n c : Nat, e = .returned (.tuple #[.slice (some ⟨g, 0, none⟩) n c, .int .i64 (if tasksOk ps then code else 1)]) ∧ TFit w' w.heap.size (some ⟨g, 0, none⟩) n c (if tasksOk ps then ps else []) ∧ Below w.heap.size w w' := by
  have HI : Hid (Tsks w a len ps) := I
  clear I
  cases hk : tasksOk ps
  · have HK : Hid (tasksOk ps = false) := hk
    clear hk
    go_enter Tryz.func124, Tryz.ntmps124
    go_wp2_with fail
    refine (specTasksOk a len cap ps _ HI.out hs).mono ?_
    rw [HK.out]
    rintro e w1 ⟨rfl, B1⟩
    have H1 : Hid (Below w.heap.size w w1) := B1
    clear B1
    go_wp2_with fail
    go_ret2
    exact ⟨w1.heap.size, 0, 0, rfl, (Rec.row_nil tskR w1).fit H1.out.size rfl, H1.out.alloc H1.out.size _⟩
  · have HK : Hid (tasksOk ps = true) := hk
    clear hk
    go_enter Tryz.func124, Tryz.ntmps124
    go_wp2_with fail
    refine (specTasksOk a len cap ps _ HI.out hs).mono ?_
    rw [HK.out]
    rintro e w1 ⟨rfl, B1⟩
    have H1 : Hid (Below w.heap.size w w1) := B1
    clear B1
    go_wp2_with fail
    refine (specCopyT a len cap ps _ (HI.out.kept H1.out) hs).mono ?_
    rintro e w2 ⟨g, c, rfl, R2, hg, B2⟩
    have H2 : Hid (TRow w2 g c ps ∧ w.heap.size ≤ g ∧ Below w.heap.size w w2) := ⟨R2, Nat.le_trans H1.out.size hg, below_call H1.out H1.out.size B2⟩
    clear R2 hg B2
    go_wp2_with fail
    go_ret2
    exact ⟨g, len, c, rfl, H2.out.1.fit H2.out.2.1 HI.out.1, H2.out.2.2⟩

end Go.Proofs.YtcmeimfjedakeaaGreat.Crew
