/-
  The dice of the laws: a throw below n, and whether a code is too long.
-/
import Derived.Test.YtlmlgidfgjejpaaDrawRatio
import Derived.Test.YtlmlgidfgjejpaaBig
namespace Go.Proofs.Ytlmlgidfgjejpaa.Draw
open Go.ChangeShapes Go.WideShapes Go.ChangeAt Go.RowKit

theorem wrap_u64n (n : Nat) (h : n < 18446744073709551616) : IntKind.u64.wrap (n : Int) = (n : Int) := by
  simp [IntKind.wrap, IntKind.bits, IntKind.signed]; omega

theorem emod_le (x n : Int) (h : 0 ≤ x) (hn : 0 < n) : x % n ≤ x := by
  have a := Int.emod_add_mul_ediv x n
  have b := Int.mul_nonneg (Int.le_of_lt hn) (Int.ediv_nonneg h (Int.le_of_lt hn))
  omega

theorem and_le_u64 (X : Int) (m : Nat) : 0 ≤ bits .and .u64 X (m : Int) ∧ bits .and .u64 X (m : Int) ≤ (m : Int) := by
  have h : (BitVec.ofInt 64 X &&& BitVec.ofInt 64 (m : Int)).toNat ≤ m := by
    rw [BitVec.toNat_and]
    refine Nat.le_trans Nat.and_le_right ?_
    rw [BitVec.ofInt_natCast, BitVec.toNat_ofNat]
    exact Nat.mod_le _ _
  have e : bits .and .u64 X (m : Int) = IntKind.u64.wrap (((BitVec.ofInt 64 X &&& BitVec.ofInt 64 (m : Int)).toNat : Nat) : Int) := rfl
  rw [e, wrap_u64n _ (by omega)]
  omega

theorem and24 (X : Int) : 0 ≤ bits .and .u64 X 16777215 ∧ bits .and .u64 X 16777215 ≤ 16777215 := and_le_u64 X 16777215

set_option maxRecDepth 100000 in
theorem dice_end (T : TypeId) (p : Nat) (a : Option Addr) (len cap : Nat) (n : Int) (w : World) (i : Nat) (h : Int) (hb : w.heap[p]? = some (.cells #[.slice a len cap, .int .i64 i, .int .u64 h] T (0, 0))) (hle : i ≤ len) (hi : ¬ (i : Int) < (len : Int)) (hn : 0 < n) :
    Calls Try.prog 23 #[.pointer (some ⟨p, 0, none⟩), .int .i64 n] w fun e w' => ∃ x : Int, e = .returned (.int .i64 x) ∧ 0 ≤ x ∧ x < n ∧ x < 33554432 ∧ Left .u64 T p a len cap w w' := by
  have c0 : w.cell? ⟨p, 0, none⟩ = some (.slice a len cap) := cell_blk hb 0
  have c1 : w.cell? ⟨p, 1, none⟩ = some (.int .i64 i) := cell_blk hb 1
  have c2 : w.cell? ⟨p, 2, none⟩ = some (.int .u64 h) := cell_blk hb 2
  have f2 : w.frozen? ⟨p, 2, none⟩ = false := frozen_of_row w p 2 _ T hb
  have B : Hid (w.heap[p]? = some (.cells #[.slice a len cap, .int .i64 i, .int .u64 h] T (0, 0))) := hb
  clear hb
  have hn0 : (n == 0) = false := by simp; omega
  obtain ⟨h', hh⟩ : ∃ h', IntKind.u64.wrap (IntKind.u64.wrap (h * 6364136223846793005) + 1442695040888963407) = h' := ⟨_, rfl⟩
  obtain ⟨x0, x1⟩ := and24 (h' / 8589934592)
  obtain ⟨x, hx⟩ : ∃ x, bits .and .u64 (h' / 8589934592) 16777215 = x := ⟨_, rfl⟩
  rw [hx] at x0 x1
  go_enter Try.func23, Try.ntmps23
  go_wp2_with fail
  clear hh hx
  go_quiet (fail)
  go_wp2_with fail
  go_ret
  exact ⟨x % n, rfl, Int.emod_nonneg _ (by omega), Int.emod_lt_of_pos _ hn, by have := emod_le x n (by omega) hn; omega, grown_drewN (grown_setCell w p 2 _) _, i, h', hle, heap_setCell_same w p 2 _ T _ B.out⟩

set_option maxRecDepth 100000 in
theorem dice_in (T : TypeId) (p b off : Nat) (len cap : Nat) (n : Int) (w : World) (i : Nat) (h z : Int) (hbl : w.heap[p]? = some (.cells #[.slice (some ⟨b, off, none⟩) len cap, .int .i64 i, .int .u64 h] T (0, 0))) (hi : (i : Int) < (len : Int)) (hl : (len : Int) ≤ 9223372036854775806)
    (hb : b ≠ p) (hz : w.cell? ⟨b, off + i, none⟩ = some (.int .u8 z)) (z0 : 0 ≤ z) (z1 : z ≤ 255) (hn : 0 < n) :
    Calls Try.prog 23 #[.pointer (some ⟨p, 0, none⟩), .int .i64 n] w fun e w' => ∃ x : Int, e = .returned (.int .i64 x) ∧ 0 ≤ x ∧ x < n ∧ x < 33554432 ∧ Left .u64 T p (some ⟨b, off, none⟩) len cap w w' := by
  have c0 : w.cell? ⟨p, 0, none⟩ = some (.slice (some ⟨b, off, none⟩) len cap) := cell_blk hbl 0
  have c1 : w.cell? ⟨p, 1, none⟩ = some (.int .i64 i) := cell_blk hbl 1
  have c2 : w.cell? ⟨p, 2, none⟩ = some (.int .u64 h) := cell_blk hbl 2
  have f1 : w.frozen? ⟨p, 1, none⟩ = false := frozen_of_row w p 1 _ T hbl
  have f2 : w.frozen? ⟨p, 2, none⟩ = false := frozen_of_row w p 2 _ T hbl
  have B : Hid (w.heap[p]? = some (.cells #[.slice (some ⟨b, off, none⟩) len cap, .int .i64 i, .int .u64 h] T (0, 0))) := hbl
  clear hbl
  have hz' : ∀ v, (w.setCell ⟨p, 2, none⟩ v).cell? ⟨b, off + i, none⟩ = some (.int .u8 z) := fun v => by
    rw [World.cell?_of_block (heap_setCell_other w ⟨p, 2, none⟩ b v hb)]; exact hz
  have hn0 : (n == 0) = false := by simp; omega
  obtain ⟨h', hh⟩ : ∃ h', IntKind.u64.wrap (IntKind.u64.wrap (h * 6364136223846793005) + 1442695040888963407) = h' := ⟨_, rfl⟩
  obtain ⟨x0, x1⟩ := and24 (h' / 8589934592)
  obtain ⟨x, hx⟩ : ∃ x, bits .and .u64 (h' / 8589934592) 16777215 = x := ⟨_, rfl⟩
  rw [hx] at x0 x1
  go_enter Try.func23, Try.ntmps23
  go_wp2_with fail
  clear hh hx
  go_quiet (fail)
  go_wp2_with fail
  go_quiet (fail)
  go_wp2_with fail
  go_ret
  refine ⟨(x + z) % n, rfl, Int.emod_nonneg _ (by omega), Int.emod_lt_of_pos _ hn, by have := emod_le (x + z) n (by omega) hn; omega, ?_, i + 1, h', by omega, ?_⟩
  · repeat (first | exact grown_setCell w p 2 _ | refine grown_drewN ?_ _ | refine grown_set ?_ _ _)
  · exact heap_setCell_same _ p 1 _ T _ (heap_setCell_same w p 2 _ T _ B.out)

/-- (*laws.dice).below at every dice: from 0 to n less 1. -/
theorem dice_any (T : TypeId) (p : Nat) (a : Option Addr) (len cap : Nat) (n : Int) (w : World) (C : Cur .u64 T p a len cap w) (hn : 0 < n) :
    Calls Try.prog 23 #[.pointer (some ⟨p, 0, none⟩), .int .i64 n] w fun e w' => ∃ x : Int, e = .returned (.int .i64 x) ∧ 0 ≤ x ∧ x < n ∧ x < 33554432 ∧ Left .u64 T p a len cap w w' := by
  obtain ⟨i, h, hle, hb⟩ := C.blk
  by_cases hi : i < len
  · rcases C.bytes with h0 | ⟨b, off, rfl, hlt, hne, hc⟩
    · omega
    · obtain ⟨z, z0, z1, hz⟩ := hc i hi
      exact dice_in T p b off len cap n w i h z hb (by omega) (by have := C.top; omega) hne hz z0 z1 hn
  · exact dice_end T p a len cap n w i h hb hle (by omega) hn

end Go.Proofs.Ytlmlgidfgjejpaa.Draw
