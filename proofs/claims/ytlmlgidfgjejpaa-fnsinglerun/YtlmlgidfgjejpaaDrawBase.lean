/-
  Drawing: the cursor of spec's draws. It lies in a block of its own; a draw writes there alone, and answers some number in its range.
-/
import Derived.Test.YtlmlgidfgjejpaaRows
import Derived.WalkKit
import Derived.ProofKit
import Derived.OpenShut
import Derived.Below
import Derived.Deep.QuietTactic
import Derived.BigQuiet
import Derived.Maps.RangeWalk
import Derived.Maps.AppendAt
namespace Go.Proofs.Ytlmlgidfgjejpaa.Draw
open Go.ChangeShapes Go.WideShapes Go.ChangeAt Go.RowKit

/-- A cursor at block p, over the len bytes that a leads to. k: the kind of its number; T: the type of its block. -/
structure Cur (k : IntKind) (T : TypeId) (p : Nat) (a : Option Addr) (len cap : Nat) (w : World) : Prop where
  blk : ∃ i : Nat, ∃ h : Int, i ≤ len ∧ w.heap[p]? = some (.cells #[.slice a len cap, .int .i64 i, .int k h] T (0, 0))
  top : len ≤ 9223372036854775806
  bytes : len = 0 ∨ ∃ b off, a = some ⟨b, off, none⟩ ∧ b < w.heap.size ∧ b ≠ p ∧ ∀ i, i < len → ∃ z : Int, 0 ≤ z ∧ z ≤ 255 ∧ w.cell? ⟨b, off + i, none⟩ = some (.int .u8 z)

theorem Cur.lt {k : IntKind} {T : TypeId} {p : Nat} {a : Option Addr} {len cap : Nat} {w : World} (C : Cur k T p a len cap w) : p < w.heap.size := by
  obtain ⟨i, h, _, hb⟩ := C.blk
  exact (Array.getElem?_eq_some_iff.1 hb).1

theorem grown_setCell (w : World) (p j : Nat) (v : Value) : w.grownBy (w.setCell ⟨p, j, none⟩ v) (some p) :=
  ⟨rfl, rfl, rfl, by simp, fun i _ hne => heap_setCell_other w ⟨p, j, none⟩ i v (fun e => hne (by simp at e; rw [e]))⟩

theorem grown_drewN {w w' : World} {row : Option Nat} (h : w.grownBy w' row) (n : Nat) : w.grownBy (w'.drewN n) row :=
  ⟨by have := h.os; induction n with | zero => exact this | succ n ih => exact ih, by simp [h.tape], by have := h.output; induction n with | zero => exact this | succ n ih => exact ih, by simpa using h.size, fun i hi hne => by simpa using h.block i hi hne⟩

/-- Where all else stays, and the cursor's block is a cursor's still, it is a cursor. -/
theorem Cur.step {k : IntKind} {T : TypeId} {p : Nat} {a : Option Addr} {len cap : Nat} {w w' : World} (C : Cur k T p a len cap w) (g : w.grownBy w' (some p))
    (hb : ∃ i : Nat, ∃ h : Int, i ≤ len ∧ w'.heap[p]? = some (.cells #[.slice a len cap, .int .i64 i, .int k h] T (0, 0))) : Cur k T p a len cap w' := by
  refine ⟨hb, C.top, ?_⟩
  rcases C.bytes with h | ⟨b, off, ha, hlt, hne, hc⟩
  · exact .inl h
  · refine .inr ⟨b, off, ha, Nat.lt_of_lt_of_le hlt g.size, hne, fun i hi => ?_⟩
    obtain ⟨z, z0, z1, hz⟩ := hc i hi
    exact ⟨z, z0, z1, by rw [World.cell?_of_block (g.block b hlt (fun e => hne (by cases e; rfl)))]; exact hz⟩

/-- Where another block alone is written, it stays a cursor. -/
theorem Cur.other {k : IntKind} {T : TypeId} {p : Nat} {a : Option Addr} {len cap : Nat} {w w' : World} {row : Option Nat} (C : Cur k T p a len cap w) (g : w.grownBy w' row) (hp : some p ≠ row)
    (hb : ∀ b off sp, a = some ⟨b, off, sp⟩ → some b ≠ row) : Cur k T p a len cap w' := by
  refine ⟨?_, C.top, ?_⟩
  · rw [g.block p C.lt hp]; exact C.blk
  · rcases C.bytes with h | ⟨b, off, ha, hlt, hne, hc⟩
    · exact .inl h
    · refine .inr ⟨b, off, ha, Nat.lt_of_lt_of_le hlt g.size, hne, fun i hi => ?_⟩
      obtain ⟨z, z0, z1, hz⟩ := hc i hi
      exact ⟨z, z0, z1, by rw [World.cell?_of_block (g.block b hlt (hb b off none ha))]; exact hz⟩

theorem cell_blk {w : World} {p : Nat} {c : Array Value} {T : TypeId} (h : w.heap[p]? = some (.cells c T (0, 0))) (j : Nat) : w.cell? ⟨p, j, none⟩ = c[j]? := by simp [World.cell?, h]

theorem wrap_i64 (n : Nat) (h : n < 9223372036854775808) : IntKind.i64.wrap (n : Int) = (n : Int) := by
  simp [IntKind.wrap, IntKind.bits, IntKind.signed]; omega

/-- A number masked by m is from 0 to m. -/
theorem and_le (X : Int) (m : Nat) (hm : m < 9223372036854775808) : 0 ≤ bits .and .i64 X (m : Int) ∧ bits .and .i64 X (m : Int) ≤ (m : Int) := by
  have h : (BitVec.ofInt 64 X &&& BitVec.ofInt 64 (m : Int)).toNat ≤ m := by
    rw [BitVec.toNat_and]
    refine Nat.le_trans Nat.and_le_right ?_
    rw [BitVec.ofInt_natCast, BitVec.toNat_ofNat]
    exact Nat.mod_le _ _
  have e : bits .and .i64 X (m : Int) = IntKind.i64.wrap (((BitVec.ofInt 64 X &&& BitVec.ofInt 64 (m : Int)).toNat : Nat) : Int) := rfl
  rw [e, wrap_i64 _ (by omega)]
  omega

theorem and255 (X : Int) : 0 ≤ bits .and .i64 X 255 ∧ bits .and .i64 X 255 ≤ 255 := and_le X 255 (by decide)

theorem grown_set {w w' : World} {p : Nat} (h : w.grownBy w' (some p)) (j : Nat) (v : Value) : w.grownBy (w'.setCell ⟨p, j, none⟩ v) (some p) :=
  h.trans (grown_setCell w' p j v)

/-- What a draw leaves: the cursor's block alone is written, and is a cursor's still. -/
def Left (k : IntKind) (T : TypeId) (p : Nat) (a : Option Addr) (len cap : Nat) (w w' : World) : Prop :=
  w.grownBy w' (some p) ∧ ∃ i : Nat, ∃ h : Int, i ≤ len ∧ w'.heap[p]? = some (.cells #[.slice a len cap, .int .i64 i, .int k h] T (0, 0))

theorem Left.cur {k : IntKind} {T : TypeId} {p : Nat} {a : Option Addr} {len cap : Nat} {w w' : World} (h : Left k T p a len cap w w') (C : Cur k T p a len cap w) : Cur k T p a len cap w' := C.step h.1 h.2

theorem Left.trans {k : IntKind} {T : TypeId} {p : Nat} {a : Option Addr} {len cap : Nat} {w w' w'' : World} (h : Left k T p a len cap w w') (g : Left k T p a len cap w' w'') : Left k T p a len cap w w'' := ⟨h.1.trans g.1, g.2⟩

theorem Left.refl {k : IntKind} {T : TypeId} {p : Nat} {a : Option Addr} {len cap : Nat} {w : World} (C : Cur k T p a len cap w) : Left k T p a len cap w w := ⟨World.grownBy.refl _ _, C.blk⟩

/-- New blocks and draws besides. -/
theorem Left.more {k : IntKind} {T : TypeId} {p : Nat} {a : Option Addr} {len cap : Nat} {w w' w'' : World} (h : Left k T p a len cap w w') (g : w'.grownBy w'' none) (hp : p < w'.heap.size) : Left k T p a len cap w w'' :=
  ⟨h.1.trans (g.but _), by rw [g.block p hp (by simp)]; exact h.2⟩

set_option maxRecDepth 100000 in
/-- A byte drawn behind the last one. -/
theorem byte_end (T : TypeId) (p : Nat) (a : Option Addr) (len cap : Nat) (w : World) (i : Nat) (h : Int) (hb : w.heap[p]? = some (.cells #[.slice a len cap, .int .i64 i, .int .i64 h] T (0, 0))) (hle : i ≤ len) (hi : ¬ (i : Int) < (len : Int)) :
    Calls Try.prog 64 #[.pointer (some ⟨p, 0, none⟩)] w fun e w' => ∃ x : Int, e = .returned (.int .i64 x) ∧ 0 ≤ x ∧ x ≤ 255 ∧ Left .i64 T p a len cap w w' := by
  have c0 : w.cell? ⟨p, 0, none⟩ = some (.slice a len cap) := cell_blk hb 0
  have c1 : w.cell? ⟨p, 1, none⟩ = some (.int .i64 i) := cell_blk hb 1
  have c2 : w.cell? ⟨p, 2, none⟩ = some (.int .i64 h) := cell_blk hb 2
  have f2 : w.frozen? ⟨p, 2, none⟩ = false := frozen_of_row w p 2 _ T hb
  have B : Hid (w.heap[p]? = some (.cells #[.slice a len cap, .int .i64 i, .int .i64 h] T (0, 0))) := hb
  clear hb
  go_enter Try.func64, Try.ntmps64
  go_wp2_with fail
  generalize wrap64 (wrap64 (h * 6364136223846793005) + 1442695040888963407) = h'
  go_quiet (fail)
  go_wp2_with fail
  obtain ⟨x0, x1⟩ := and255 (bits BinOp.xor IntKind.i64 (h' / 8589934592) (h' / 35184372088832))
  generalize bits BinOp.and IntKind.i64 (bits BinOp.xor IntKind.i64 (h' / 8589934592) (h' / 35184372088832)) 255 = x at *
  go_quiet (fail)
  go_wp2_with fail
  go_ret
  exact ⟨x, rfl, x0, x1, grown_drewN (grown_drewN (grown_setCell w p 2 _) _) _, i, h', hle, heap_setCell_same w p 2 _ T _ B.out⟩

set_option maxRecDepth 100000 in
/-- A byte drawn with the help of the next one that came in. -/
theorem byte_in (T : TypeId) (p b off : Nat) (len cap : Nat) (w : World) (i : Nat) (h z : Int) (hbl : w.heap[p]? = some (.cells #[.slice (some ⟨b, off, none⟩) len cap, .int .i64 i, .int .i64 h] T (0, 0))) (hi : (i : Int) < (len : Int)) (hl : (len : Int) ≤ 9223372036854775806)
    (hb : b ≠ p) (hz : w.cell? ⟨b, off + i, none⟩ = some (.int .u8 z)) (z0 : 0 ≤ z) (z1 : z ≤ 255) :
    Calls Try.prog 64 #[.pointer (some ⟨p, 0, none⟩)] w fun e w' => ∃ x : Int, e = .returned (.int .i64 x) ∧ 0 ≤ x ∧ x ≤ 255 ∧ Left .i64 T p (some ⟨b, off, none⟩) len cap w w' := by
  have c0 : w.cell? ⟨p, 0, none⟩ = some (.slice (some ⟨b, off, none⟩) len cap) := cell_blk hbl 0
  have c1 : w.cell? ⟨p, 1, none⟩ = some (.int .i64 i) := cell_blk hbl 1
  have c2 : w.cell? ⟨p, 2, none⟩ = some (.int .i64 h) := cell_blk hbl 2
  have f1 : w.frozen? ⟨p, 1, none⟩ = false := frozen_of_row w p 1 _ T hbl
  have f2 : w.frozen? ⟨p, 2, none⟩ = false := frozen_of_row w p 2 _ T hbl
  have B : Hid (w.heap[p]? = some (.cells #[.slice (some ⟨b, off, none⟩) len cap, .int .i64 i, .int .i64 h] T (0, 0))) := hbl
  clear hbl
  have hz' : ∀ v, (w.setCell ⟨p, 2, none⟩ v).cell? ⟨b, off + i, none⟩ = some (.int .u8 z) := fun v => by
    rw [World.cell?_of_block (heap_setCell_other w ⟨p, 2, none⟩ b v hb)]; exact hz
  go_enter Try.func64, Try.ntmps64
  go_wp2_with fail
  generalize wrap64 (wrap64 (h * 6364136223846793005) + 1442695040888963407) = h'
  go_quiet (fail)
  go_wp2_with fail
  obtain ⟨x0, x1⟩ := and255 (bits BinOp.xor IntKind.i64 (h' / 8589934592) (h' / 35184372088832))
  generalize bits BinOp.and IntKind.i64 (bits BinOp.xor IntKind.i64 (h' / 8589934592) (h' / 35184372088832)) 255 = x at *
  go_quiet (fail)
  go_wp2_with fail
  go_quiet (fail)
  go_wp2_with fail
  obtain ⟨y0, y1⟩ := and255 (x + z)
  go_ret
  exact ⟨_, rfl, y0, y1, by refine ⟨?_, i + 1, h', by omega, ?_⟩
                            · repeat (first | exact grown_setCell w p 2 _ | refine grown_drewN ?_ _ | refine grown_set ?_ _ _)
                            · exact heap_setCell_same _ p 1 _ T _ (heap_setCell_same w p 2 _ T _ B.out)⟩

/-- spec.l1Byte at every cursor. -/
theorem byte_any (T : TypeId) (p : Nat) (a : Option Addr) (len cap : Nat) (w : World) (C : Cur .i64 T p a len cap w) :
    Calls Try.prog 64 #[.pointer (some ⟨p, 0, none⟩)] w fun e w' => ∃ x : Int, e = .returned (.int .i64 x) ∧ 0 ≤ x ∧ x ≤ 255 ∧ Left .i64 T p a len cap w w' := by
  obtain ⟨i, h, hle, hb⟩ := C.blk
  by_cases hi : i < len
  · rcases C.bytes with h0 | ⟨b, off, rfl, hlt, hne, hc⟩
    · omega
    · obtain ⟨z, z0, z1, hz⟩ := hc i hi
      exact byte_in T p b off len cap w i h z hb (by omega) (by have := C.top; omega) hne hz z0 z1
  · exact byte_end T p a len cap w i h hb hle (by omega)

end Go.Proofs.Ytlmlgidfgjejpaa.Draw
