/-
  What the laws of the ratios draw: spec.DrawLessFrac and spec.DrawFloorOf, and the dice of the laws.
-/
import Derived.Test.YtlmlgidfgjejpaaDrawNums
import Derived.Test.YtlmlgidfgjejpaaDrawBelow
namespace Go.Proofs.Ytlmlgidfgjejpaa.Draw
open Go.ChangeShapes Go.WideShapes Go.ChangeAt Go.RowKit

/-! ### the dice of the laws -/
theorem left_third {k : IntKind} {T : TypeId} {p : Nat} {a : Option Addr} {len cap : Nat} {w w' : World} (L : Left k T p a len cap w w') {i : Nat} {h : Int} (hi : i ≤ len) (hb : w'.heap[p]? = some (.cells #[.slice a len cap, .int .i64 i, .int k h] T (0, 0))) (h' : Int) :
    Left k T p a len cap w (w'.setCell ⟨p, 2, none⟩ (.int k h')) :=
  ⟨grown_set L.1 2 _, i, h', hi, heap_setCell_same w' p 2 _ T _ hb⟩

theorem left_drewn {k : IntKind} {T : TypeId} {p : Nat} {a : Option Addr} {len cap : Nat} {w w' : World} (L : Left k T p a len cap w w') : Left k T p a len cap w w'.drew :=
  ⟨⟨L.1.os, L.1.tape, L.1.output, L.1.size, L.1.block⟩, L.2⟩

set_option maxRecDepth 100000 in
theorem roll_any (a : Option Addr) (len cap : Nat) (seed : Int) (w : World) (B : Bytes w a len) (ht : len ≤ 9223372036854775806) :
    Calls Try.prog 8 #[.slice a len cap, .int .u64 seed] w fun e w' => e = .returned (.pointer (some ⟨w.heap.size, 0, none⟩)) ∧ ∃ h : Int, Left .u64 43 w.heap.size a len cap (w.alloc (.cells #[.slice a len cap, .int .i64 0, .int .u64 h] 43)) w' := by
  have HB : Hid (Bytes w a len) := B
  clear B
  have ht' : (len : Int) ≤ 9223372036854775806 := by omega
  generalize hN : w.heap.size = N
  have HN : Hid (w.heap.size = N) := hN
  go_enter Try.func8, Try.ntmps8
  go_wp2_with fail
  generalize IntKind.u64.wrap (IntKind.u64.wrap (seed * 7919) + ↑len) = h0
  clear hN
  generalize hW0 : w.alloc (.cells #[.slice a len cap, .int .i64 0, .int .u64 h0] 43) = W0
  have HW : Hid (w.alloc (.cells #[.slice a len cap, .int .i64 0, .int .u64 h0] 43) = W0) := hW0
  have L0 : Left .u64 43 N a len cap W0 W0 := ⟨World.grownBy.refl _ _, 0, h0, Nat.zero_le _, by rw [← HW.out, ← HN.out]; exact heap_alloc_new w _⟩
  clear hW0
  go_loopw [6] (fun i wx => ∃ n : Nat, n ≤ len ∧ i = .int .i64 n ∧ Left .u64 43 N a len cap W0 wx) (fun i _ => len - (intOf i).toNat)
  case atStart => exact ⟨0, Nat.zero_le _, rfl, L0⟩
  case round =>
    obtain ⟨n, hn, rfl, L⟩ := hrel
    by_cases hlt : n < len
    · rcases HB.out with hz | ⟨b, off, rfl, hb, hc⟩
      · omega
      · obtain ⟨z, z0, z1, hz⟩ := hc n hlt
        obtain ⟨i, h, hi, hbk⟩ := L.2
        have c2 : wr.cell? ⟨N, 2, none⟩ = some (.int .u64 h) := cell_blk hbk 2
        have f2 : wr.frozen? ⟨N, 2, none⟩ = false := frozen_of_row wr N 2 _ _ hbk
        have hzr : wr.cell? ⟨b, off + n, none⟩ = some (.int .u8 z) := by
          have hbN : b ≠ N := by have := HN.out; omega
          have hb0 : b < W0.heap.size := by rw [← HW.out]; simp; omega
          rw [L.cell hb0 hbN, ← HW.out, World.cell?_of_block (Below.heap_alloc w _ b hb)]; exact hz
        have LL : Hid (Left .u64 43 N (some ⟨b, off, none⟩) len cap W0 wr) := L
        have HK : Hid (wr.heap[N]? = some (.cells #[.slice (some ⟨b, off, none⟩) len cap, .int .i64 i, .int .u64 h] 43 (0, 0))) := hbk
        clear hbk L hc hz L0
        go_wp2_with fail
        go_region
        all_goals
          go_wp2_with fail
          go_roundw
          case rel => exact ⟨n + 1, by omega, by go_num, left_drewn (left_third LL.out hi HK.out _)⟩
          case measure => simp [intOf]; omega
    · go_wp2_with fail
      go_ret
      exact ⟨rfl, h0, by rw [HW.out]; exact L⟩

end Go.Proofs.Ytlmlgidfgjejpaa.Draw
