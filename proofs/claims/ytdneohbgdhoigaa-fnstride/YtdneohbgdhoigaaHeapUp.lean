/-
  container/heap's up and Push over a line.
-/
import Derived.Test.YtdneohbgdhoigaaLinePush
import Derived.Test.YtdneohbgdhoigaaLineLess
namespace Go.Proofs.Ytdneohbgdhoigaa.Crew
open Go.ChangeShapes Go.WideShapes Go.ChangeAt Go.RowKit

theorem finds_less (p : Option Addr) (w : World) : (method (Try.prog.types.size + 100) 47 (.pointer p) "Less").run Try.prog w = .ok (82, .pointer p) w := by kernel_rfl

theorem finds_swap (p : Option Addr) (w : World) : (method (Try.prog.types.size + 100) 47 (.pointer p) "Swap").run Try.prog w = .ok (85, .pointer p) w := by kernel_rfl

theorem finds_len (p : Option Addr) (w : World) : (method (Try.prog.types.size + 100) 47 (.pointer p) "Len").run Try.prog w = .ok (81, .pointer p) w := by kernel_rfl

theorem finds_push (p : Option Addr) (w : World) : (method (Try.prog.types.size + 100) 47 (.pointer p) "Push").run Try.prog w = .ok (84, .pointer p) w := by kernel_rfl

theorem finds_pop (p : Option Addr) (w : World) : (method (Try.prog.types.size + 100) 47 (.pointer p) "Pop").run Try.prog w = .ok (83, .pointer p) w := by kernel_rfl

/-- All that wait are numbers of the crew. -/
def Inside (n : Nat) (ws : List Int) : Prop := ∀ k, k < ws.length → ∃ i : Nat, gd ws k = (i : Int) ∧ i < n

theorem inside_swap {n : Nat} {ws : List Int} (h : Inside n ws) {i j : Nat} (hi : i < ws.length) (hj : j < ws.length) : Inside n (swapL ws i j) := by
  intro k hk
  rw [swapL_length] at hk
  rw [gd_swap ws hi hj, swapF]
  split
  · exact h i hi
  · split
    · exact h j hj
    · exact h k hk

theorem up_at (w0 : World) (b : Nat) (ca : Option Addr) (la cca : Nat) (cs : List Int) (g lg cg : Nat) (ns : List Int) (ha : Option Addr) (lh ch : Nat) (m : Nat) (hm : m ≤ 3000) (C : Counted cs ns m) (ws : List Int) (w : World) (L : Ln w0 w b ca la cca cs g lg cg ns ha lh ch ws)
    (j : Nat) (hj : j < lh) (h25 : lh ≤ 25) (R : Rising (aheadOf cs ns) (gd ws) lh j) (N : Inside cs.length ws) :
    Calls Try.prog 57 #[.iface 47 (.pointer (some ⟨b, 0, none⟩)), .int .i64 j] w fun e w' => e = .returned (.tuple #[]) ∧ ∃ ws', Ln w0 w' b ca la cca cs g lg cg ns ha lh ch ws' ∧ ws'.Perm ws ∧ Heaped (aheadOf cs ns) (gd ws') lh ∧ Only b g ha w w' := by
  have fL := finds_less (some ⟨b, 0, none⟩)
  have fS := finds_swap (some ⟨b, 0, none⟩)
  have H0 : Hid (Ln w0 w b ca la cca cs g lg cg ns ha lh ch ws ∧ Rising (aheadOf cs ns) (gd ws) lh j ∧ Inside cs.length ws) := ⟨L, R, N⟩
  clear L R N
  go_enter Try.func57, Try.ntmps57
  go_wp2_with fail
  go_loopw [1] (fun v wr => ∃ (k : Nat) (us : List Int), v = .int .i64 k ∧ k < lh ∧ Hid (Ln w0 wr b ca la cca cs g lg cg ns ha lh ch us ∧ Rising (aheadOf cs ns) (gd us) lh k ∧ Inside cs.length us ∧ us.Perm ws ∧ Only b g ha w wr)) (fun v _ => (intOf v).toNat)
  case atStart => exact ⟨j, ws, rfl, hj, H0.out.1, H0.out.2.1, H0.out.2.2, List.Perm.refl _, only_refl _ _ _ _⟩
  case round =>
    obtain ⟨k, us, rfl, hk, H⟩ := hrel
    by_cases h0 : k = 0
    · subst h0
      go_wp2_with fail
      go_end0
      exact ⟨rfl, us, H.out.1, H.out.2.2.2.1, rising_root H.out.2.1, H.out.2.2.2.2⟩
    · obtain ⟨i, hi⟩ : ∃ i, i = (k - 1) / 2 := ⟨_, rfl⟩
      have e : ((k - 1 : Nat) : Int) / 2 = (i : Int) := by omega
      have e' : ((k : Int) - 1) / 2 = (i : Int) := by omega
      have hne : ((i : Int) == (k : Int)) = false := by rw [beq_eq_false_iff_ne]; omega
      have hul := H.out.1.wait.1
      obtain ⟨x, hx, hxn⟩ := H.out.2.2.1 k (by omega)
      obtain ⟨y, hy, hyn⟩ := H.out.2.2.1 i (by omega)
      have H1 : Hid (i = (k - 1) / 2 ∧ us.length = lh ∧ gd us k = (x : Int) ∧ gd us i = (y : Int) ∧ x < cs.length ∧ y < cs.length) := ⟨hi, hul, hx, hy, hxn, hyn⟩
      have hik : i < k := by omega
      clear hi hul hx hy hxn hyn
      go_wp2_with fail
      refine (less_at w0 b ca la cca cs g lg cg ns ha lh ch us _ H.out.1 m hm C k i hk (by omega) x y H1.out.2.2.1 H1.out.2.2.2.1 H1.out.2.2.2.2.1 H1.out.2.2.2.2.2).mono ?_
      rintro e1 w1 ⟨rfl, B1⟩
      cases hlt : aheadOf cs ns (gd us k) (gd us i)
      · have HT : Hid (aheadOf cs ns (gd us k) (gd us i) = false) := hlt
        clear hlt
        go_wp2_with fail
        go_end0
        have hh := HT.out
        rw [H1.out.1] at hh
        exact ⟨rfl, us, H.out.1.all B1, H.out.2.2.2.1, rising_end H.out.2.1 hh, H.out.2.2.2.2.trans (only_below B1)⟩
      · have HT : Hid (aheadOf cs ns (gd us k) (gd us i) = true) := hlt
        clear hlt
        go_wp2_with fail
        refine (swap_at w0 b ca la cca cs g lg cg ns ha lh ch us _ (H.out.1.all B1) i k (by omega) hk).mono ?_
        rintro e2 w2 ⟨rfl, L2, O2⟩
        go_wp2_with fail
        go_roundw
        case rel =>
          have hul := H1.out.2.1
          refine ⟨i, swapL us i k, rfl, by omega, L2, ?_, inside_swap H.out.2.2.1 (by omega) (by omega), (swapL_perm us (by omega) (by omega)).trans H.out.2.2.2.1, (H.out.2.2.2.2.trans (only_below B1)).trans O2⟩
          rw [gd_swap us (by omega) (by omega)]
          exact rising_step (ahead_order cs ns) H.out.2.1 H1.out.1 (by omega) hk HT.out
        case measure => simp [intOf]; omega

end Go.Proofs.Ytdneohbgdhoigaa.Crew
