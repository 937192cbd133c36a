/-
  The law FnChains: whatever the code, it answers true and nothing that was there is written.
-/
import Derived.Test.YtaioidlmbpdahaaChainImpl
import Derived.Test.YtaioidlmbpdahaaChainMath
import Derived.Test.YtaioidlmbpdahaaDrawChain
import Derived.Test.YtaioidlmbpdahaaBig
namespace Go.Proofs.Ytaioidlmbpdahaa.Win
open Go.ChangeShapes Go.WideShapes Go.ChangeAt Go.RowKit Go.Proofs.Ytaioidlmbpdahaa.Crew
open Go.Proofs.Ytaioidlmbpdahaa.Draw (Bytes big_any drawChain_any)

theorem chains_long (a : Option Addr) (len cap : Nat) (w : World) (hb : (4096 : Int) < (len : Int)) :
    Calls Try.prog 3 #[.slice a len cap] w fun e w' => e = .returned (.bool true) ∧ Below w.heap.size w w' := by
  have hd : decide (4096 < (len : Int)) = true := by simp; omega
  go_enter Try.func3, Try.ntmps3
  go_wp2_with fail
  refine (big_any a len cap _).mono ?_
  rintro e w1 ⟨rfl, rfl⟩
  rw [hd]
  clear hd
  go_wp2_with fail
  go_ret
  exact ⟨rfl, Below.refl _ _⟩

theorem chains_short (a : Option Addr) (len cap : Nat) (w : World) (B : Bytes w a len) (hb : ¬ (4096 : Int) < (len : Int)) :
    Calls Try.prog 3 #[.slice a len cap] w fun e w' => e = .returned (.bool true) ∧ Below w.heap.size w w' := by
  have ht : len ≤ 9223372036854775806 := by omega
  have hd : decide (4096 < (len : Int)) = false := by simp; omega
  go_enter Try.func3, Try.ntmps3
  go_wp2_with fail
  refine (big_any a len cap _).mono ?_
  rintro e w ⟨rfl, rfl⟩
  rw [hd]
  clear hd
  go_wp2_with fail
  refine (drawChain_any a len cap _ B ht).mono ?_
  clear B ht hb
  rintro e w2 ⟨n, d, j, rfl, B2⟩
  obtain ⟨y, hy⟩ : ∃ y, y = chainV n d j := ⟨_, rfl⟩
  obtain ⟨k, hk⟩ : ∃ k, k = heavyOk n d := ⟨_, rfl⟩
  have V : Hid (y = chainV n d j ∧ k = heavyOk n d) := ⟨hy, hk⟩
  clear hy hk
  have B2' : Hid (Below w.heap.size w (w2.alloc (.cells #[.int .i64 n, .int .i64 d] 25))) := B2.alloc B2.size _
  have X2 : Hid (Box (w2.alloc (.cells #[.int .i64 n, .int .i64 d] 25)) w2.heap.size n d) := box_new w2 n d _
  clear B2
  go_wp2_with fail
  refine (implChain n d j _).mono ?_
  rw [← V.out.1]
  rintro e w5 ⟨rfl, b3⟩
  have B5 : Hid (Below w.heap.size w w5) := B2'.out.trans (b3.mono B2'.out.size)
  have X5 : Hid (Box w5 w2.heap.size n d) := X2.out.kept b3 X2.out.1
  clear b3 B2' X2
  generalize w2.heap.size = s at *
  go_wp2_with fail
  have c0 : ∀ x : Kin w5, x.u.cell? ⟨s, 0, none⟩ = some (.int .i64 n) := fun x => x.cell X5.out.1 X5.out.2.1
  have c1 : ∀ x : Kin w5, x.u.cell? ⟨s, 1, none⟩ = some (.int .i64 d) := fun x => x.cell X5.out.1 X5.out.2.2
  have SC : Hid (∀ w, Calls Try.prog 9 #[sh n d, .int .i64 j] w fun e w' => e = .returned (.int .i64 y) ∧ Below w.heap.size w w') := by rw [V.out.1]; exact specChain n d j
  have SK : Hid (∀ w, Calls Try.prog 11 #[sh n d] w fun e w' => e = .returned (.bool k) ∧ Below w.heap.size w w') := by rw [V.out.2]; exact specHeavy n d
  have IK : Hid (∀ w, Calls Try.prog 10 #[sh n d] w fun e w' => e = .returned (.bool k) ∧ Below w.heap.size w w') := by rw [V.out.2]; exact implHeavy n d
  refine wp_region_kin (by kernel_rfl) (by kernel_rfl) (fun hne => ?_)
  repeat (go_big_quiet_step ((first | (go_at_call 9; exact kin_calls (SC.out _)) | (go_at_call 11; exact kin_calls (SK.out _)) | (go_at_call 10; exact kin_calls (IK.out _)))))
  refine wpQuiet_nil ?_
  rintro _ ⟨x, rfl⟩
  have B6 : Hid (Below w.heap.size w x.u) := B5.out.trans (x.b.mono B5.out.size)
  have X6 : Hid (Box x.u s n d) := X5.out.kept x.b X5.out.1
  clear c0 c1 hne SC IK B5 X5
  generalize x.u = w6 at *
  obtain ⟨_, c0, c1⟩ := X6.out
  cases k
  · have hy : y ≤ 0 := by
      rw [V.out.1]
      cases hT : turnOk n d j
      · rw [chainV_no hT]; omega
      · rw [chainV_yes hT, chainIn_no V.out.2.symm]; omega
    go_wp2_with fail
    refine (SK.out _).mono ?_
    rintro e w7 ⟨rfl, b7⟩
    have B7 : Hid (Below w.heap.size w w7) := B6.out.trans (b7.mono B6.out.size)
    clear b7 B6 X6 c0 c1 V
    go_wp2_with fail
    go_ret
    exact ⟨rfl, B7.out⟩
  · cases hT : turnOk n d j
    · obtain rfl : y = -1 := V.out.1.trans (chainV_no hT)
      go_wp2_with fail
      refine (SK.out _).mono ?_
      rintro e w7 ⟨rfl, b7⟩
      have B7 : Hid (Below w.heap.size w w7) := B6.out.trans (b7.mono B6.out.size)
      clear b7 B6 X6 c0 c1 V hT
      go_wp2_with fail
      go_ret
      exact ⟨rfl, B7.out⟩
    · obtain ⟨q1, q2⟩ := chain_due n d j hT V.out.2.symm
      have j1 := (turn_yes hT).2.2.2.1
      have j2 := (turn_yes hT).2.2.2.2
      obtain ⟨f, hf⟩ : ∃ f, f = dueV n d j := ⟨_, rfl⟩
      rw [← V.out.1, ← hf] at q1
      rw [← hf] at q2
      have ID : Hid (∀ w, Calls Try.prog 12 #[sh n d, .int .i64 j] w fun e w' => e = .returned (.int .i64 f) ∧ Below w.heap.size w w') := by rw [hf]; exact implDue n d j
      clear hf
      by_cases hj : j = 1
      · subst hj
        clear V hT j1 j2
        go_wp2_with fail
        refine (SK.out _).mono ?_
        rintro e w7 ⟨rfl, b7⟩
        have B7 : Hid (Below w.heap.size w w7) := B6.out.trans (b7.mono B6.out.size)
        have X7 : Hid (Box w7 s n d) := X6.out.kept b7 X6.out.1
        clear b7 B6 X6 c0 c1
        obtain ⟨_, c0, c1⟩ := X7.out
        go_wp2_with fail
        refine (ID.out _).mono ?_
        rintro e w8 ⟨rfl, b8⟩
        have B8 : Hid (Below w.heap.size w w8) := B7.out.trans (b8.mono B7.out.size)
        clear b8 B7 X7 c0 c1
        go_wp2_with fail
        go_ret
        exact ⟨rfl, B8.out⟩
      · have q3 := chain_next n d j hT V.out.2.symm hj
        obtain ⟨p, hp⟩ : ∃ p, p = chainV n d (j - 1) := ⟨_, rfl⟩
        rw [← V.out.1, ← hp] at q3
        have IC : Hid (∀ w, Calls Try.prog 8 #[sh n d, .int .i64 (j - 1)] w fun e w' => e = .returned (.int .i64 p) ∧ Below w.heap.size w w') := by rw [hp]; exact implChain n d (j - 1)
        clear V hT hp
        go_wp2_with fail
        refine (SK.out _).mono ?_
        rintro e w7 ⟨rfl, b7⟩
        have B7 : Hid (Below w.heap.size w w7) := B6.out.trans (b7.mono B6.out.size)
        have X7 : Hid (Box w7 s n d) := X6.out.kept b7 X6.out.1
        clear b7 B6 X6 c0 c1
        obtain ⟨_, c0, c1⟩ := X7.out
        go_wp2_with fail
        refine (ID.out _).mono ?_
        rintro e w8 ⟨rfl, b8⟩
        have B8 : Hid (Below w.heap.size w w8) := B7.out.trans (b8.mono B7.out.size)
        have X8 : Hid (Box w8 s n d) := X7.out.kept b8 X7.out.1
        clear b8 B7 X7 c0 c1
        obtain ⟨_, c0, c1⟩ := X8.out
        go_wp2_with fail
        refine (IC.out _).mono ?_
        rintro e w9 ⟨rfl, b9⟩
        have B9 : Hid (Below w.heap.size w w9) := B8.out.trans (b9.mono B8.out.size)
        clear b9 B8 X8 c0 c1
        go_wp2_with fail
        go_ret
        exact ⟨rfl, B9.out⟩

/-- The law FnChains. -/
theorem lawChains (a : Option Addr) (len cap : Nat) (w : World) (B : Bytes w a len) :
    Calls Try.prog 3 #[.slice a len cap] w fun e w' => e = .returned (.bool true) ∧ Below w.heap.size w w' := by
  by_cases hb : (4096 : Int) < (len : Int)
  · exact chains_long a len cap w hb
  · exact chains_short a len cap w B hb

end Go.Proofs.Ytaioidlmbpdahaa.Win
