/-
  The law FnWindows: whatever the code, it answers true and nothing that was there is written.
-/
import Derived.Test.YtodggdgcbhmjoaaWinOver
import Derived.Test.YtodggdgcbhmjoaaDrawWin
import Derived.Test.YtodggdgcbhmjoaaBig
namespace Go.Proofs.Ytodggdgcbhmjoaa.Win
open Go.ChangeShapes Go.WideShapes Go.ChangeAt Go.RowKit Go.Proofs.Ytodggdgcbhmjoaa.Crew
open Go.Proofs.Ytodggdgcbhmjoaa.Draw (Bytes big_any drawDue_any)

theorem win_math (n d j : Int) (h : turnOk n d j = true) : 0 ≤ readyV n d j ∧ readyV n d j < dueV n d j ∧ dueV n d j ≤ 100000000000001 := by
  obtain ⟨n1, n2, d2, j1, j2⟩ := turn_yes h
  obtain ⟨m0, m1⟩ := mul_bd (j := j) (d := d) (by omega) (by omega) (by omega) d2
  obtain ⟨k0, _⟩ := mul_bd (j := j - 1) (d := d) (by omega) (by omega) (by omega) d2
  rw [readyV_yes h, dueV_yes h]
  have e1 : (j - 1) * d = j * d - d := by rw [Int.sub_mul, Int.one_mul]
  rw [e1] at k0 ⊢
  generalize j * d = x at *
  refine ⟨Int.ediv_nonneg k0 (by omega), ?_, ?_⟩
  · have h1 : (x - d) / n ≤ (x - n) / n := Int.ediv_le_ediv (by omega) (by omega)
    have h2 : (x - n) / n = x / n - 1 := by
      have := Int.add_mul_ediv_right x (-1) (c := n) (by omega)
      rw [show x + -1 * n = x - n by omega] at this
      omega
    have h3 : x / n ≤ (x + n - 1) / n := Int.ediv_le_ediv (by omega) (by omega)
    omega
  · rw [up_int x n m0 n1]
    have h4 : x / n ≤ x := Int.ediv_le_self n m0
    split <;> omega

theorem win_next (n d j : Int) (h : turnOk n d j = true) (hj : j < 1000000) : readyV n d (j + 1) ≤ dueV n d j ∧ 0 ≤ readyV n d (j + 1) ∧ dueV n d j - readyV n d (j + 1) = overV n d j ∧ 0 ≤ overV n d j ∧ overV n d j ≤ 1 ∧ dueV n d j < dueV n d (j + 1) := by
  obtain ⟨n1, n2, d2, j1, j2⟩ := turn_yes h
  have h' : turnOk n d (j + 1) = true := by
    simp only [turnOk, shareOk, within, Bool.and_eq_true, decide_eq_true_eq]
    omega
  obtain ⟨m0, m1⟩ := mul_bd (j := j) (d := d) (by omega) (by omega) (by omega) d2
  rw [readyV_yes h', dueV_yes h, dueV_yes h', overV_yes h, Int.add_sub_cancel]
  have e1 : (j + 1) * d = j * d + d := by rw [Int.add_mul, Int.one_mul]
  rw [e1]
  generalize j * d = x at *
  have h5 : (x + n + n - 1) / n ≤ (x + d + n - 1) / n := Int.ediv_le_ediv (by omega) (by omega)
  have h6 : (x + n + n - 1) / n = (x + n - 1) / n + 1 := by
    have := Int.add_mul_ediv_right (x + n - 1) 1 (c := n) (by omega)
    rw [show x + n - 1 + 1 * n = x + n + n - 1 by omega] at this
    exact this
  have h7 : 0 ≤ x / n := Int.ediv_nonneg m0 (by omega)
  rw [up_int x n m0 n1] at h6 ⊢
  by_cases hz : x % n = 0
  · rw [if_pos hz] at h6 ⊢
    rw [if_pos hz]
    omega
  · rw [if_neg hz] at h6 ⊢
    rw [if_neg hz]
    omega

theorem windows_long (a : Option Addr) (len cap : Nat) (w : World) (hb : (4096 : Int) < (len : Int)) :
    Calls Try.prog 3 #[.slice a len cap] w fun e w' => e = .returned (.bool true) ∧ Below w.heap.size w w' := by
  have hd : decide (4096 < (len : Int)) = true := by simp; omega
  go_enter Try.func3, Try.ntmps3
  go_wp2_with fail
  refine (big_any a len cap _).mono ?_
  rintro e w1 ⟨rfl, rfl⟩
  rw [hd]
  clear hd
  go_wp2_with fail
  go_ret
  exact ⟨rfl, Below.refl _ _⟩

theorem windows_short (a : Option Addr) (len cap : Nat) (w : World) (B : Bytes w a len) (hb : ¬ (4096 : Int) < (len : Int)) :
    Calls Try.prog 3 #[.slice a len cap] w fun e w' => e = .returned (.bool true) ∧ Below w.heap.size w w' := by
  have ht : len ≤ 9223372036854775806 := by omega
  have hd : decide (4096 < (len : Int)) = false := by simp; omega
  go_enter Try.func3, Try.ntmps3
  go_wp2_with fail
  refine (big_any a len cap _).mono ?_
  rintro e w ⟨rfl, rfl⟩
  rw [hd]
  clear hd
  go_wp2_with fail
  refine (drawDue_any a len cap _ B ht).mono ?_
  clear B ht hb
  rintro e w2 ⟨n, d, j, rfl, B2⟩
  obtain ⟨r, hr⟩ : ∃ r, r = readyV n d j := ⟨_, rfl⟩
  obtain ⟨f, hf⟩ : ∃ f, f = dueV n d j := ⟨_, rfl⟩
  obtain ⟨o, ho⟩ : ∃ o, o = overV n d j := ⟨_, rfl⟩
  obtain ⟨k, hk⟩ : ∃ k, k = shareOk n d := ⟨_, rfl⟩
  have V : Hid (r = readyV n d j ∧ f = dueV n d j ∧ o = overV n d j ∧ k = shareOk n d) := ⟨hr, hf, ho, hk⟩
  clear hr hf ho hk
  have B2' : Hid (Below w.heap.size w (w2.alloc (.cells #[.int .i64 n, .int .i64 d] 25))) := B2.alloc B2.size _
  have X2 : Hid (Box (w2.alloc (.cells #[.int .i64 n, .int .i64 d] 25)) w2.heap.size n d) := box_new w2 n d _
  clear B2
  go_wp2_with fail
  refine (implReady n d j _).mono ?_
  rw [← V.out.1]
  rintro e w3 ⟨rfl, b3⟩
  have B3 : Hid (Below w.heap.size w w3) := B2'.out.trans (b3.mono B2'.out.size)
  have X3 : Hid (Box w3 w2.heap.size n d) := X2.out.kept b3 X2.out.1
  clear b3 B2' X2
  generalize w2.heap.size = s at *
  obtain ⟨_, c0, c1⟩ := X3.out
  go_wp2_with fail
  refine (implDue n d j _).mono ?_
  rw [← V.out.2.1]
  rintro e w4 ⟨rfl, b4⟩
  have B4 : Hid (Below w.heap.size w w4) := B3.out.trans (b4.mono B3.out.size)
  have X4 : Hid (Box w4 s n d) := X3.out.kept b4 X3.out.1
  clear b4 B3 X3 c0 c1
  obtain ⟨_, c0, c1⟩ := X4.out
  go_wp2_with fail
  refine (implOver n d j _).mono ?_
  rw [← V.out.2.2.1]
  rintro e w5 ⟨rfl, b5⟩
  have B5 : Hid (Below w.heap.size w w5) := B4.out.trans (b5.mono B4.out.size)
  have X5 : Hid (Box w5 s n d) := X4.out.kept b5 X4.out.1
  clear b5 B4 X4 c0 c1
  go_wp2_with fail
  have c0 : ∀ x : Kin w5, x.u.cell? ⟨s, 0, none⟩ = some (.int .i64 n) := fun x => x.cell X5.out.1 X5.out.2.1
  have c1 : ∀ x : Kin w5, x.u.cell? ⟨s, 1, none⟩ = some (.int .i64 d) := fun x => x.cell X5.out.1 X5.out.2.2
  have SR : Hid (∀ w, Calls Try.prog 10 #[sh n d, .int .i64 j] w fun e w' => e = .returned (.int .i64 r) ∧ Below w.heap.size w w') := by rw [V.out.1]; exact specReady n d j
  have SD : Hid (∀ w, Calls Try.prog 11 #[sh n d, .int .i64 j] w fun e w' => e = .returned (.int .i64 f) ∧ Below w.heap.size w w') := by rw [V.out.2.1]; exact specDue n d j
  have SO : Hid (∀ w, Calls Try.prog 12 #[sh n d, .int .i64 j] w fun e w' => e = .returned (.int .i64 o) ∧ Below w.heap.size w w') := by rw [V.out.2.2.1]; exact specOver n d j
  have SK : Hid (∀ w, Calls Try.prog 14 #[sh n d] w fun e w' => e = .returned (.bool k) ∧ Below w.heap.size w w') := by rw [V.out.2.2.2]; exact specShareOk n d
  have IK : Hid (∀ w, Calls Try.prog 13 #[sh n d] w fun e w' => e = .returned (.bool k) ∧ Below w.heap.size w w') := by rw [V.out.2.2.2]; exact implShareOk n d
  refine wp_region_kin (by kernel_rfl) (by kernel_rfl) (fun hne => ?_)
  repeat (go_big_quiet_step ((first | (go_at_call 10; exact kin_calls (SR.out _)) | (go_at_call 11; exact kin_calls (SD.out _)) | (go_at_call 12; exact kin_calls (SO.out _)) | (go_at_call 14; exact kin_calls (SK.out _)) | (go_at_call 13; exact kin_calls (IK.out _)))))
  refine wpQuiet_nil ?_
  rintro _ ⟨x, rfl⟩
  have B6 : Hid (Below w.heap.size w x.u) := B5.out.trans (x.b.mono B5.out.size)
  have X6 : Hid (Box x.u s n d) := X5.out.kept x.b X5.out.1
  clear c0 c1 hne SR SD SO SK IK B5 X5
  generalize x.u = w6 at *
  cases hT : turnOk n d j
  · obtain rfl : r = -1 := V.out.1.trans (readyV_no hT)
    obtain rfl : f = -1 := V.out.2.1.trans (dueV_no hT)
    obtain rfl : o = -1 := V.out.2.2.1.trans (overV_no hT)
    clear V hT X6
    go_wp2_with fail
    go_ret
    exact ⟨rfl, B6.out⟩
  · obtain ⟨q1, q2, q3⟩ := win_math n d j hT
    rw [← V.out.1] at q1 q2
    rw [← V.out.2.1] at q2 q3
    by_cases hj : j = 1000000
    · subst hj
      clear V hT X6
      go_wp2_with fail
      go_ret
      exact ⟨rfl, B6.out⟩
    · have hj2 : j < 1000000 := by have := turn_yes hT; omega
      have hj1 : 1 ≤ j := (turn_yes hT).2.2.2.1
      obtain ⟨p1, p2, p3, p4, p5, p6⟩ := win_next n d j hT hj2
      rw [← V.out.2.1] at p1 p3 p6
      rw [← V.out.2.2.1] at p3 p4 p5
      obtain ⟨m, hm⟩ : ∃ m, m = readyV n d (j + 1) := ⟨_, rfl⟩
      obtain ⟨g, hg⟩ : ∃ g, g = dueV n d (j + 1) := ⟨_, rfl⟩
      rw [← hm] at p1 p2 p3
      rw [← hg] at p6
      have IR : Hid (∀ w, Calls Try.prog 7 #[sh n d, .int .i64 (j + 1)] w fun e w' => e = .returned (.int .i64 m) ∧ Below w.heap.size w w') := by rw [hm]; exact implReady n d (j + 1)
      have ID : Hid (∀ w, Calls Try.prog 8 #[sh n d, .int .i64 (j + 1)] w fun e w' => e = .returned (.int .i64 g) ∧ Below w.heap.size w w') := by rw [hg]; exact implDue n d (j + 1)
      obtain rfl : o = f - m := p3.symm
      clear V hT hm hg p3
      obtain ⟨_, c0, c1⟩ := X6.out
      go_wp2_with fail
      refine (IR.out _).mono ?_
      rintro e w7 ⟨rfl, b7⟩
      have B7 : Hid (Below w.heap.size w w7) := B6.out.trans (b7.mono B6.out.size)
      have X7 : Hid (Box w7 s n d) := X6.out.kept b7 X6.out.1
      clear b7 B6 X6 c0 c1
      obtain ⟨_, c0, c1⟩ := X7.out
      go_wp2_with fail
      refine (ID.out _).mono ?_
      rintro e w8 ⟨rfl, b8⟩
      have B8 : Hid (Below w.heap.size w w8) := B7.out.trans (b8.mono B7.out.size)
      clear b8 B7 X7 c0 c1
      go_wp2_with fail
      go_ret
      exact ⟨rfl, B8.out⟩

/-- The law FnWindows. -/
theorem lawWindows (a : Option Addr) (len cap : Nat) (w : World) (B : Bytes w a len) :
    Calls Try.prog 3 #[.slice a len cap] w fun e w' => e = .returned (.bool true) ∧ Below w.heap.size w w' := by
  by_cases hb : (4096 : Int) < (len : Int)
  · exact windows_long a len cap w hb
  · exact windows_short a len cap w B hb

end Go.Proofs.Ytodggdgcbhmjoaa.Win
