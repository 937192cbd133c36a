/-
  container/heap's Pop over a line: who waits on top leaves.
-/
import Derived.Test.YtdneohbgdhoigaaHeapDown
namespace Go.Proofs.Ytdneohbgdhoigaa.Crew
open Go.ChangeShapes Go.WideShapes Go.ChangeAt Go.RowKit

theorem heaped_swapped {lt : Int → Int → Bool} {ws : List Int} {n : Nat} (h : Heaped lt (gd ws) (n + 1)) (hl : ws.length = n + 1) : Sinking lt (gd (swapL ws 0 n)) n 0 := by
  rw [gd_swap ws (by omega) (by omega)]
  refine sinking_root fun k h0 hk hp => ?_
  rw [swapF_k (gd ws) (by omega) (by omega), swapF_k (gd ws) hp (by omega)]
  exact h k h0 (by omega)

theorem take_last {vs : List Int} {n : Nat} (hl : vs.length = n + 1) : vs.take n ++ [gd vs n] = vs := by
  have h : n < vs.length := by omega
  have e : gd vs n = vs[n] := by simp [gd, List.getD, h]
  rw [e, ← List.take_succ_eq_append_getElem h, List.take_of_length_le (by omega)]

/-- What a line is behind a Pop. -/
structure Popped (w0 w w' : World) (b : Nat) (ca : Option Addr) (la cca : Nat) (cs : List Int) (g lg cg : Nat) (ns : List Int) (ha : Option Addr) (lh ch : Nat) (ws us : List Int) : Prop where
  line : Ln w0 w' b ca la cca cs g lg cg ns ha lh ch us
  perm : (us ++ [gd ws 0]).Perm ws
  heap : Heaped (aheadOf cs ns) (gd us) lh
  only : Only b g ha w w'

theorem heapPop (w0 : World) (b : Nat) (ca : Option Addr) (la cca : Nat) (cs : List Int) (g lg cg : Nat) (ns : List Int) (ha : Option Addr) (lh ch : Nat) (m : Nat) (hm : m ≤ 3000) (C : Counted cs ns m) (ws : List Int) (w : World) (L : Ln w0 w b ca la cca cs g lg cg ns ha (lh + 1) ch ws)
    (h24 : lh < 24) (R : Heaped (aheadOf cs ns) (gd ws) (lh + 1)) (N : Inside cs.length ws) :
    Calls Try.prog 48 #[.iface 47 (.pointer (some ⟨b, 0, none⟩))] w fun e w' => e = .returned (.iface 2 (.int .i64 (gd ws 0))) ∧ ∃ us : List Int, Popped w0 w w' b ca la cca cs g lg cg ns ha lh ch ws us := by
  have fP := finds_pop (some ⟨b, 0, none⟩)
  have fL := finds_len (some ⟨b, 0, none⟩)
  have fS := finds_swap (some ⟨b, 0, none⟩)
  have hl := L.wait.1
  have H : Hid (Ln w0 w b ca la cca cs g lg cg ns ha (lh + 1) ch ws ∧ Heaped (aheadOf cs ns) (gd ws) (lh + 1) ∧ Inside cs.length ws ∧ ws.length = lh + 1) := ⟨L, R, N, hl⟩
  clear L R N hl
  have hz : ((lh + 1 : Nat) : Int) - 1 = (lh : Int) := by omega
  go_enter Try.func48, Try.ntmps48
  go_wp2_with fail
  refine (len_at b _ _ _ _ _ _ H.out.1.line).mono ?_
  rintro e1 w1 ⟨rfl, rfl⟩
  go_wp2_with fail
  refine (swap_at w0 b ca la cca cs g lg cg ns ha (lh + 1) ch ws _ H.out.1 0 lh (by omega) (by omega)).mono ?_
  rintro e2 w2 ⟨rfl, L2, O2⟩
  have H2 : Hid (Ln w0 w2 b ca la cca cs g lg cg ns ha (lh + 1) ch (swapL ws 0 lh) ∧ Only b g ha w1 w2) := ⟨L2, O2⟩
  clear L2 O2
  go_wp2_with fail
  refine (down_at w0 b ca la cca cs g lg cg ns ha (lh + 1) ch m hm C (swapL ws 0 lh) _ H2.out.1 lh (by omega) (by omega) (heaped_swapped H.out.2.1 H.out.2.2.2) (inside_swap H.out.2.2.1 (by have := H.out.2.2.2; omega) (by have := H.out.2.2.2; omega))).mono ?_
  rintro e3 w3 ⟨v, rfl, vs, L3, P3, R3, O3, T3⟩
  have hl := H.out.2.2.2
  have T4 := T3 lh (Nat.le_refl _)
  rw [gd_swap ws (by omega) (by omega), swapF_j] at T4
  have H3 : Hid (Ln w0 w3 b ca la cca cs g lg cg ns ha (lh + 1) ch vs ∧ vs.Perm ws ∧ Heaped (aheadOf cs ns) (gd vs) lh ∧ Only b g ha w1 w3 ∧ gd vs lh = gd ws 0) := ⟨L3, P3.trans (swapL_perm ws (by omega) (by omega)), R3, H2.out.2.trans O3, T4⟩
  clear L3 P3 R3 O3 T3 T4 hl
  go_wp2_with fail
  refine (pop_at w0 b ca la cca cs g lg cg ns ha lh ch vs _ H3.out.1 (by omega)).mono ?_
  rw [H3.out.2.2.2.2]
  rintro e4 w4 ⟨rfl, L4, O4⟩
  go_wp2_with fail
  go_ret
  refine ⟨rfl, vs.take lh, L4, ?_, heaped_same H3.out.2.2.1 (fun k hk => gd_take hk), H3.out.2.2.2.1.trans O4⟩
  have hv := H3.out.1.wait.1
  rw [← H3.out.2.2.2.2, take_last hv]
  exact H3.out.2.1

end Go.Proofs.Ytdneohbgdhoigaa.Crew
