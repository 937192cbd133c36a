/-
  Drawing: the cursor of spec's draws. It lies in a block of its own; a draw writes there alone, and answers some number in its range.
  Drawing numbers: spec's l1Below, l1Once, l1From, l1Odd, l1Num, l1DrawNum and l1New. Each writes the cursor's block alone.
  What a draw leaves as it was: everything below the cursor's block.
  laws.big: is a code too long.
  What the laws of the ratios draw: spec.DrawLessFrac and spec.DrawFloorOf, and the dice of the laws.
  The dice of the laws: a throw below n, and whether a code is too long.
-/
import Derived.Test.YtjhenfdmbagaiaaGreatRows
import Derived.WalkKit
import Derived.ProofKit
import Derived.OpenShut
import Derived.Below
import Derived.Deep.QuietTactic
import Derived.BigQuiet
import Derived.Maps.RangeWalk
import Derived.Maps.AppendAt
namespace Go.Proofs.YtjhenfdmbagaiaaGreat.Draw
open Go.ChangeShapes Go.WideShapes Go.ChangeAt Go.RowKit

/-- A cursor at block p, over the len bytes that a leads to. k: the kind of its number; T: the type of its block. -/
structure Cur (k : IntKind) (T : TypeId) (p : Nat) (a : Option Addr) (len cap : Nat) (w : World) : Prop where
  blk : ∃ i : Nat, ∃ h : Int, i ≤ len ∧ w.heap[p]? = some (.cells #[.slice a len cap, .int .i64 i, .int k h] T (0, 0))
  top : len ≤ 9223372036854775806
  bytes : len = 0 ∨ ∃ b off, a = some ⟨b, off, none⟩ ∧ b < w.heap.size ∧ b ≠ p ∧ ∀ i, i < len → ∃ z : Int, 0 ≤ z ∧ z ≤ 255 ∧ w.cell? ⟨b, off + i, none⟩ = some (.int .u8 z)

theorem Cur.lt {k : IntKind} {T : TypeId} {p : Nat} {a : Option Addr} {len cap : Nat} {w : World} (C : Cur k T p a len cap w) : p < w.heap.size := by
  obtain ⟨i, h, _, hb⟩ := C.blk
  exact (Array.getElem?_eq_some_iff.1 hb).1

theorem grown_setCell (w : World) (p j : Nat) (v : Value) : w.grownBy (w.setCell ⟨p, j, none⟩ v) (some p) :=
  ⟨rfl, rfl, rfl, by simp, fun i _ hne => heap_setCell_other w ⟨p, j, none⟩ i v (fun e => hne (by simp at e; rw [e]))⟩

theorem grown_drewN {w w' : World} {row : Option Nat} (h : w.grownBy w' row) (n : Nat) : w.grownBy (w'.drewN n) row :=
  ⟨by have := h.os; induction n with | zero => exact this | succ n ih => exact ih, by simp [h.tape], by have := h.output; induction n with | zero => exact this | succ n ih => exact ih, by simpa using h.size, fun i hi hne => by simpa using h.block i hi hne⟩

/-- Where all else stays, and the cursor's block is a cursor's still, it is a cursor. -/
theorem Cur.step {k : IntKind} {T : TypeId} {p : Nat} {a : Option Addr} {len cap : Nat} {w w' : World} (C : Cur k T p a len cap w) (g : w.grownBy w' (some p))
    (hb : ∃ i : Nat, ∃ h : Int, i ≤ len ∧ w'.heap[p]? = some (.cells #[.slice a len cap, .int .i64 i, .int k h] T (0, 0))) : Cur k T p a len cap w' := by
  refine ⟨hb, C.top, ?_⟩
  rcases C.bytes with h | ⟨b, off, ha, hlt, hne, hc⟩
  · exact .inl h
  · refine .inr ⟨b, off, ha, Nat.lt_of_lt_of_le hlt g.size, hne, fun i hi => ?_⟩
    obtain ⟨z, z0, z1, hz⟩ := hc i hi
    exact ⟨z, z0, z1, by rw [World.cell?_of_block (g.block b hlt (fun e => hne (by cases e; rfl)))]; exact hz⟩

/-- Where another block alone is written, it stays a cursor. -/
theorem Cur.other {k : IntKind} {T : TypeId} {p : Nat} {a : Option Addr} {len cap : Nat} {w w' : World} {row : Option Nat} (C : Cur k T p a len cap w) (g : w.grownBy w' row) (hp : some p ≠ row)
    (hb : ∀ b off sp, a = some ⟨b, off, sp⟩ → some b ≠ row) : Cur k T p a len cap w' := by
  refine ⟨?_, C.top, ?_⟩
  · rw [g.block p C.lt hp]; exact C.blk
  · rcases C.bytes with h | ⟨b, off, ha, hlt, hne, hc⟩
    · exact .inl h
    · refine .inr ⟨b, off, ha, Nat.lt_of_lt_of_le hlt g.size, hne, fun i hi => ?_⟩
      obtain ⟨z, z0, z1, hz⟩ := hc i hi
      exact ⟨z, z0, z1, by rw [World.cell?_of_block (g.block b hlt (hb b off none ha))]; exact hz⟩

theorem cell_blk {w : World} {p : Nat} {c : Array Value} {T : TypeId} (h : w.heap[p]? = some (.cells c T (0, 0))) (j : Nat) : w.cell? ⟨p, j, none⟩ = c[j]? := by simp [World.cell?, h]

theorem wrap_i64 (n : Nat) (h : n < 9223372036854775808) : IntKind.i64.wrap (n : Int) = (n : Int) := by
  simp [IntKind.wrap, IntKind.bits, IntKind.signed]; omega

/-- A number masked by m is from 0 to m. -/
theorem and_le (X : Int) (m : Nat) (hm : m < 9223372036854775808) : 0 ≤ bits .and .i64 X (m : Int) ∧ bits .and .i64 X (m : Int) ≤ (m : Int) := by
  have h : (BitVec.ofInt 64 X &&& BitVec.ofInt 64 (m : Int)).toNat ≤ m := by
    rw [BitVec.toNat_and]
    refine Nat.le_trans Nat.and_le_right ?_
    rw [BitVec.ofInt_natCast, BitVec.toNat_ofNat]
    exact Nat.mod_le _ _
  have e : bits .and .i64 X (m : Int) = IntKind.i64.wrap (((BitVec.ofInt 64 X &&& BitVec.ofInt 64 (m : Int)).toNat : Nat) : Int) := rfl
  rw [e, wrap_i64 _ (by omega)]
  omega

theorem and255 (X : Int) : 0 ≤ bits .and .i64 X 255 ∧ bits .and .i64 X 255 ≤ 255 := and_le X 255 (by decide)

theorem grown_set {w w' : World} {p : Nat} (h : w.grownBy w' (some p)) (j : Nat) (v : Value) : w.grownBy (w'.setCell ⟨p, j, none⟩ v) (some p) :=
  h.trans (grown_setCell w' p j v)

/-- What a draw leaves: the cursor's block alone is written, and is a cursor's still. -/
def Left (k : IntKind) (T : TypeId) (p : Nat) (a : Option Addr) (len cap : Nat) (w w' : World) : Prop :=
  w.grownBy w' (some p) ∧ ∃ i : Nat, ∃ h : Int, i ≤ len ∧ w'.heap[p]? = some (.cells #[.slice a len cap, .int .i64 i, .int k h] T (0, 0))

theorem Left.cur {k : IntKind} {T : TypeId} {p : Nat} {a : Option Addr} {len cap : Nat} {w w' : World} (h : Left k T p a len cap w w') (C : Cur k T p a len cap w) : Cur k T p a len cap w' := C.step h.1 h.2

theorem Left.trans {k : IntKind} {T : TypeId} {p : Nat} {a : Option Addr} {len cap : Nat} {w w' w'' : World} (h : Left k T p a len cap w w') (g : Left k T p a len cap w' w'') : Left k T p a len cap w w'' := ⟨h.1.trans g.1, g.2⟩

theorem Left.refl {k : IntKind} {T : TypeId} {p : Nat} {a : Option Addr} {len cap : Nat} {w : World} (C : Cur k T p a len cap w) : Left k T p a len cap w w := ⟨World.grownBy.refl _ _, C.blk⟩

/-- New blocks and draws besides. -/
theorem Left.more {k : IntKind} {T : TypeId} {p : Nat} {a : Option Addr} {len cap : Nat} {w w' w'' : World} (h : Left k T p a len cap w w') (g : w'.grownBy w'' none) (hp : p < w'.heap.size) : Left k T p a len cap w w'' :=
  ⟨h.1.trans (g.but _), by rw [g.block p hp (by simp)]; exact h.2⟩

set_option maxRecDepth 100000 in
/-- A byte drawn behind the last one. -/
theorem byte_end (T : TypeId) (p : Nat) (a : Option Addr) (len cap : Nat) (w : World) (i : Nat) (h : Int) (hb : w.heap[p]? = some (.cells #[.slice a len cap, .int .i64 i, .int .i64 h] T (0, 0))) (hle : i ≤ len) (hi : ¬ (i : Int) < (len : Int)) :
    Calls Tryz.prog 66 #[.pointer (some ⟨p, 0, none⟩)] w fun e w' => ∃ x : Int, e = .returned (.int .i64 x) ∧ 0 ≤ x ∧ x ≤ 255 ∧ Left .i64 T p a len cap w w' := by
  have c0 : w.cell? ⟨p, 0, none⟩ = some (.slice a len cap) := cell_blk hb 0
  have c1 : w.cell? ⟨p, 1, none⟩ = some (.int .i64 i) := cell_blk hb 1
  have c2 : w.cell? ⟨p, 2, none⟩ = some (.int .i64 h) := cell_blk hb 2
  have f2 : w.frozen? ⟨p, 2, none⟩ = false := frozen_of_row w p 2 _ T hb
  have B : Hid (w.heap[p]? = some (.cells #[.slice a len cap, .int .i64 i, .int .i64 h] T (0, 0))) := hb
  clear hb
  go_enter Tryz.func66, Tryz.ntmps66
  go_wp2_with fail
  generalize wrap64 (wrap64 (h * 6364136223846793005) + 1442695040888963407) = h'
  go_quiet (fail)
  go_wp2_with fail
  obtain ⟨x0, x1⟩ := and255 (bits BinOp.xor IntKind.i64 (h' / 8589934592) (h' / 35184372088832))
  generalize bits BinOp.and IntKind.i64 (bits BinOp.xor IntKind.i64 (h' / 8589934592) (h' / 35184372088832)) 255 = x at *
  go_quiet (fail)
  go_wp2_with fail
  go_ret
  exact ⟨x, rfl, x0, x1, grown_drewN (grown_drewN (grown_setCell w p 2 _) _) _, i, h', hle, heap_setCell_same w p 2 _ T _ B.out⟩

set_option maxRecDepth 100000 in
/-- A byte drawn with the help of the next one that came in. -/
theorem byte_in (T : TypeId) (p b off : Nat) (len cap : Nat) (w : World) (i : Nat) (h z : Int) (hbl : w.heap[p]? = some (.cells #[.slice (some ⟨b, off, none⟩) len cap, .int .i64 i, .int .i64 h] T (0, 0))) (hi : (i : Int) < (len : Int)) (hl : (len : Int) ≤ 9223372036854775806)
    (hb : b ≠ p) (hz : w.cell? ⟨b, off + i, none⟩ = some (.int .u8 z)) (z0 : 0 ≤ z) (z1 : z ≤ 255) :
    Calls Tryz.prog 66 #[.pointer (some ⟨p, 0, none⟩)] w fun e w' => ∃ x : Int, e = .returned (.int .i64 x) ∧ 0 ≤ x ∧ x ≤ 255 ∧ Left .i64 T p (some ⟨b, off, none⟩) len cap w w' := by
  have c0 : w.cell? ⟨p, 0, none⟩ = some (.slice (some ⟨b, off, none⟩) len cap) := cell_blk hbl 0
  have c1 : w.cell? ⟨p, 1, none⟩ = some (.int .i64 i) := cell_blk hbl 1
  have c2 : w.cell? ⟨p, 2, none⟩ = some (.int .i64 h) := cell_blk hbl 2
  have f1 : w.frozen? ⟨p, 1, none⟩ = false := frozen_of_row w p 1 _ T hbl
  have f2 : w.frozen? ⟨p, 2, none⟩ = false := frozen_of_row w p 2 _ T hbl
  have B : Hid (w.heap[p]? = some (.cells #[.slice (some ⟨b, off, none⟩) len cap, .int .i64 i, .int .i64 h] T (0, 0))) := hbl
  clear hbl
  have hz' : ∀ v, (w.setCell ⟨p, 2, none⟩ v).cell? ⟨b, off + i, none⟩ = some (.int .u8 z) := fun v => by
    rw [World.cell?_of_block (heap_setCell_other w ⟨p, 2, none⟩ b v hb)]; exact hz
  go_enter Tryz.func66, Tryz.ntmps66
  go_wp2_with fail
  generalize wrap64 (wrap64 (h * 6364136223846793005) + 1442695040888963407) = h'
  go_quiet (fail)
  go_wp2_with fail
  obtain ⟨x0, x1⟩ := and255 (bits BinOp.xor IntKind.i64 (h' / 8589934592) (h' / 35184372088832))
  generalize bits BinOp.and IntKind.i64 (bits BinOp.xor IntKind.i64 (h' / 8589934592) (h' / 35184372088832)) 255 = x at *
  go_quiet (fail)
  go_wp2_with fail
  go_quiet (fail)
  go_wp2_with fail
  obtain ⟨y0, y1⟩ := and255 (x + z)
  go_ret
  exact ⟨_, rfl, y0, y1, by refine ⟨?_, i + 1, h', by omega, ?_⟩
                            · repeat (first | exact grown_setCell w p 2 _ | refine grown_drewN ?_ _ | refine grown_set ?_ _ _)
                            · exact heap_setCell_same _ p 1 _ T _ (heap_setCell_same w p 2 _ T _ B.out)⟩

/-- spec.l1Byte at every cursor. -/
theorem byte_any (T : TypeId) (p : Nat) (a : Option Addr) (len cap : Nat) (w : World) (C : Cur .i64 T p a len cap w) :
    Calls Tryz.prog 66 #[.pointer (some ⟨p, 0, none⟩)] w fun e w' => ∃ x : Int, e = .returned (.int .i64 x) ∧ 0 ≤ x ∧ x ≤ 255 ∧ Left .i64 T p a len cap w w' := by
  obtain ⟨i, h, hle, hb⟩ := C.blk
  by_cases hi : i < len
  · rcases C.bytes with h0 | ⟨b, off, rfl, hlt, hne, hc⟩
    · omega
    · obtain ⟨z, z0, z1, hz⟩ := hc i hi
      exact byte_in T p b off len cap w i h z hb (by omega) (by have := C.top; omega) hne hz z0 z1
  · exact byte_end T p a len cap w i h hb hle (by omega)

end Go.Proofs.YtjhenfdmbagaiaaGreat.Draw

namespace Go.Proofs.YtjhenfdmbagaiaaGreat.Draw
open Go.ChangeShapes Go.WideShapes Go.ChangeAt Go.RowKit

/-- spec.l1Below: 0 where n is not above 0, else from 0 to n less 1. -/
theorem below_any (T : TypeId) (p : Nat) (a : Option Addr) (len cap : Nat) (n : Int) (w : World) (C : Cur .i64 T p a len cap w) :
    Calls Tryz.prog 47 #[.pointer (some ⟨p, 0, none⟩), .int .i64 n] w fun e w' => ∃ x : Int, e = .returned (.int .i64 x) ∧ 0 ≤ x ∧ (0 < n → x < n) ∧ (n ≤ 0 → x = 0) ∧ Left .i64 T p a len cap w w' := by
  by_cases h0 : n ≤ 0
  · go_enter Tryz.func47, Tryz.ntmps47
    go_wp2_with fail
    go_ret
    exact ⟨0, rfl, by omega, fun h => by omega, fun _ => rfl, Left.refl C⟩
  · have hn : (n == 0) = false := by simp; omega
    have hp : 0 < n := by omega
    by_cases h1 : n ≤ 256
    · go_enter Tryz.func47, Tryz.ntmps47
      go_wp2_with fail
      refine (byte_any T p a len cap _ C).mono ?_
      rintro e w1 ⟨x, rfl, x0, x1, L⟩
      go_wp2_with fail
      go_ret
      exact ⟨x % n, rfl, Int.emod_nonneg _ (by omega), fun h => Int.emod_lt_of_pos _ h, fun h => by omega, L⟩
    · go_enter Tryz.func47, Tryz.ntmps47
      go_wp2_with fail
      refine (byte_any T p a len cap _ C).mono ?_
      rintro e w1 ⟨x, rfl, x0, x1, L1⟩
      have C1 := L1.cur C
      go_wp2_with fail
      refine (byte_any T p a len cap _ C1).mono ?_
      rintro e w2 ⟨y, rfl, y0, y1, L2⟩
      have C2 := L2.cur C1
      go_wp2_with fail
      refine (byte_any T p a len cap _ C2).mono ?_
      rintro e w3 ⟨z, rfl, z0, z1, L3⟩
      have C3 := L3.cur C2
      go_wp2_with fail
      refine (byte_any T p a len cap _ C3).mono ?_
      rintro e w4 ⟨v, rfl, v0, v1, L4⟩
      clear C C1 C2 C3
      go_wp2_with fail
      go_ret
      exact ⟨(x * 16777216 + y * 65536 + z * 256 + v) % n, rfl, Int.emod_nonneg _ (by omega), fun h => Int.emod_lt_of_pos _ h, fun h => by omega, ((L1.trans L2).trans L3).trans L4⟩

theorem once_any (T : TypeId) (p : Nat) (a : Option Addr) (len cap : Nat) (n : Int) (w : World) (C : Cur .i64 T p a len cap w) :
    Calls Tryz.prog 45 #[.pointer (some ⟨p, 0, none⟩), .int .i64 n] w fun e w' => ∃ t : Bool, e = .returned (.bool t) ∧ Left .i64 T p a len cap w w' := by
  go_enter Tryz.func45, Tryz.ntmps45
  go_wp2_with fail
  refine (below_any T p a len cap n _ C).mono ?_
  rintro e w1 ⟨x, rfl, x0, x1, _, L⟩
  generalize ht : (x == 0) = t
  go_wp2_with fail
  go_ret
  exact ⟨t, rfl, L⟩

/-- spec.l1From where the ends are small: from lo to hi. -/
theorem from_any (T : TypeId) (p : Nat) (a : Option Addr) (len cap : Nat) (lo hi : Int) (w : World) (C : Cur .i64 T p a len cap w) (h1 : -4611686018427387904 ≤ lo) (h2 : lo ≤ hi) (h3 : hi ≤ 4611686018427387902) :
    Calls Tryz.prog 46 #[.pointer (some ⟨p, 0, none⟩), .int .i64 lo, .int .i64 hi] w fun e w' => ∃ x : Int, e = .returned (.int .i64 x) ∧ lo ≤ x ∧ x ≤ hi ∧ Left .i64 T p a len cap w w' := by
  go_enter Tryz.func46, Tryz.ntmps46
  go_wp2_with fail
  refine (below_any T p a len cap _ _ C).mono ?_
  rintro e w1 ⟨x, rfl, x0, x1, _, L⟩
  have hx : x < hi - lo + 1 := x1 (by omega)
  clear x1 C
  go_wp2_with fail
  go_ret
  exact ⟨lo + x, rfl, by omega, by omega, L⟩

theorem min_any (a b : Int) (w : World) :
    Calls Tryz.prog 78 #[.int .i64 a, .int .i64 b] w fun e w' => ∃ x : Int, e = .returned (.int .i64 x) ∧ x ≤ a ∧ x ≤ b ∧ (x = a ∨ x = b) ∧ w' = w := by
  by_cases h : a < b
  · go_enter Tryz.func78, Tryz.ntmps78
    go_wp2_with fail
    go_ret
    exact ⟨a, rfl, by omega, by omega, .inl rfl, rfl⟩
  · go_enter Tryz.func78, Tryz.ntmps78
    go_wp2_with fail
    go_ret
    exact ⟨b, rfl, by omega, by omega, .inr rfl, rfl⟩

/-- A cell of a block that a draw does not write. -/
theorem Left.cell {k : IntKind} {T : TypeId} {p : Nat} {a : Option Addr} {len cap : Nat} {w w' : World} (h : Left k T p a len cap w w') {b j : Nat} (hb : b < w.heap.size) (hp : b ≠ p) : w'.cell? ⟨b, j, none⟩ = w.cell? ⟨b, j, none⟩ :=
  World.cell?_of_block (h.1.block b hb (fun e => hp (by cases e; rfl)))

/-- A cursor where new blocks are laid. -/
theorem Cur.alloc {k : IntKind} {T : TypeId} {p : Nat} {a : Option Addr} {len cap : Nat} {w : World} (C : Cur k T p a len cap w) (o : Obj) : Cur k T p a len cap (w.alloc o) :=
  C.other (World.grownBy_alloc w o none) (by simp) (by simp)

theorem left_alloc {k : IntKind} {T : TypeId} {p : Nat} {a : Option Addr} {len cap : Nat} {w w' : World} {o : Obj} (C : Cur k T p a len cap w) (h : Left k T p a len cap (w.alloc o) w') : Left k T p a len cap w w' :=
  ((Left.refl C).more (World.grownBy_alloc w o none) C.lt).trans h

theorem odd_any (T : TypeId) (p : Nat) (a : Option Addr) (len cap : Nat) (w : World) (C : Cur .i64 T p a len cap w) :
    Calls Tryz.prog 77 #[.pointer (some ⟨p, 0, none⟩)] w fun e w' => ∃ x : Int, e = .returned (.int .i64 x) ∧ Left .i64 T p a len cap w w' := by
  have hlt := C.lt
  go_enter Tryz.func77, Tryz.ntmps77
  go_wp2_with fail
  refine (below_any T p a len cap _ _ (C.alloc _)).mono ?_
  rintro e w1 ⟨x, rfl, x0, x1, _, L⟩
  have hx : x < 10 := x1 (by omega)
  obtain ⟨n, rfl⟩ := Int.eq_ofNat_of_zero_le x0
  have hn : n < 10 := by omega
  have hc := L.cell (b := w.heap.size) (j := n) (by simp) (by omega)
  obtain ⟨v, hv⟩ : ∃ v : Int, w1.cell? ⟨w.heap.size, n, none⟩ = some (.int .i64 v) := by
    rw [hc]
    have : n = 0 ∨ n = 1 ∨ n = 2 ∨ n = 3 ∨ n = 4 ∨ n = 5 ∨ n = 6 ∨ n = 7 ∨ n = 8 ∨ n = 9 := by omega
    rcases this with h | h | h | h | h | h | h | h | h | h <;> (subst h; exact ⟨_, cell_blk (heap_alloc_new _ _) _⟩)
  have L' := left_alloc C L
  clear L hc x1 C
  go_wp2_with fail
  go_ret
  exact ⟨v, rfl, L'⟩

theorem num_any (T : TypeId) (p : Nat) (a : Option Addr) (len cap : Nat) (most : Int) (w : World) (C : Cur .i64 T p a len cap w) :
    Calls Tryz.prog 61 #[.pointer (some ⟨p, 0, none⟩), .int .i64 most] w fun e w' => ∃ x : Int, e = .returned (.int .i64 x) ∧ Left .i64 T p a len cap w w' := by
  go_enter Tryz.func61, Tryz.ntmps61
  go_wp2_with fail
  refine (once_any T p a len cap _ _ C).mono ?_
  rintro e w1 ⟨t, rfl, L1⟩
  have C1 := L1.cur C
  cases t
  · go_wp2_with fail
    refine (once_any T p a len cap _ _ C1).mono ?_
    rintro e w2 ⟨t, rfl, L2⟩
    have C2 := L2.cur C1
    cases t
    · go_wp2_with fail
      refine (below_any T p a len cap _ _ C2).mono ?_
      rintro e w3 ⟨x, rfl, _, _, _, L3⟩
      clear C C1 C2
      go_wp2_with fail
      go_ret
      exact ⟨x, rfl, (L1.trans L2).trans L3⟩
    · go_wp2_with fail
      refine (min_any _ _ _).mono ?_
      rintro e w2' ⟨y, rfl, _, _, _, rfl⟩
      go_wp2_with fail
      refine (below_any T p a len cap _ _ C2).mono ?_
      rintro e w3 ⟨x, rfl, _, _, _, L3⟩
      clear C C1 C2
      go_wp2_with fail
      go_ret
      exact ⟨x, rfl, (L1.trans L2).trans L3⟩
  · go_wp2_with fail
    refine (odd_any T p a len cap _ C1).mono ?_
    rintro e w2 ⟨o, rfl, L2⟩
    have C2 := L2.cur C1
    have hlt := C2.lt
    generalize hm : wrap64 (most + 1) = m1
    clear hm
    go_wp2_with fail
    refine (below_any T p a len cap _ _ (C2.alloc _)).mono ?_
    rintro e w3 ⟨x, rfl, x0, x1, _, L3⟩
    have hx : x < 4 := x1 (by omega)
    obtain ⟨n, rfl⟩ := Int.eq_ofNat_of_zero_le x0
    have hn : n < 4 := by omega
    have hc := L3.cell (b := w2.heap.size) (j := n) (by simp) (by omega)
    obtain ⟨v, hv⟩ : ∃ v : Int, w3.cell? ⟨w2.heap.size, n, none⟩ = some (.int .i64 v) := by
      rw [hc]
      have : n = 0 ∨ n = 1 ∨ n = 2 ∨ n = 3 := by omega
      rcases this with h | h | h | h <;> (subst h; exact ⟨_, cell_blk (heap_alloc_new _ _) _⟩)
    have L' := (L1.trans L2).trans (left_alloc C2 L3)
    clear L1 L2 L3 hc x1 C C1 C2
    go_wp2_with fail
    go_ret
    exact ⟨v, rfl, L'⟩

/-- The bytes that came in. -/
def Bytes (w : World) (a : Option Addr) (len : Nat) : Prop :=
  len = 0 ∨ ∃ b off, a = some ⟨b, off, none⟩ ∧ b < w.heap.size ∧ ∀ i, i < len → ∃ z : Int, 0 ≤ z ∧ z ≤ 255 ∧ w.cell? ⟨b, off + i, none⟩ = some (.int .u8 z)

theorem Bytes.grown {w w' : World} {a : Option Addr} {len : Nat} (h : Bytes w a len) (g : Below w.heap.size w w') : Bytes w' a len := by
  rcases h with h | ⟨b, off, ha, hlt, hc⟩
  · exact .inl h
  · refine .inr ⟨b, off, ha, Nat.lt_of_lt_of_le hlt g.size, fun i hi => ?_⟩
    obtain ⟨z, z0, z1, hz⟩ := hc i hi
    exact ⟨z, z0, z1, by rw [g.cell (p := ⟨b, off + i, none⟩) hlt]; exact hz⟩

/-- A new block is a cursor over them. -/
theorem cur_new {k : IntKind} {T : TypeId} {w : World} {a : Option Addr} {len cap : Nat} (B : Bytes w a len) (ht : len ≤ 9223372036854775806) (h : Int) : Cur k T w.heap.size a len cap (w.alloc (.cells #[.slice a len cap, .int .i64 0, .int k h] T)) := by
  refine ⟨⟨0, h, Nat.zero_le _, heap_alloc_new w _⟩, ht, ?_⟩
  rcases B with h | ⟨b, off, ha, hlt, hc⟩
  · exact .inl h
  · refine .inr ⟨b, off, ha, by simp; omega, by omega, fun i hi => ?_⟩
    obtain ⟨z, z0, z1, hz⟩ := hc i hi
    exact ⟨z, z0, z1, by rw [World.cell?_of_block (Below.heap_alloc w _ b hlt)]; exact hz⟩

theorem new_any (a : Option Addr) (len cap : Nat) (w : World) (B : Bytes w a len) (ht : len ≤ 9223372036854775806) :
    Calls Tryz.prog 34 #[.slice a len cap] w fun e w' => e = .returned (.pointer (some ⟨w.heap.size, 0, none⟩)) ∧ ∃ h : Int, w' = w.alloc (.cells #[.slice a len cap, .int .i64 0, .int .i64 h] 82) := by
  have HB : Hid (Bytes w a len) := B
  clear B
  have ht' : (len : Int) ≤ 9223372036854775806 := by omega
  go_enter Tryz.func34, Tryz.ntmps34
  go_wp2_with fail
  go_loop [3, 4] (fun h i => ∃ n : Nat, ∃ x : Int, n ≤ len ∧ h = .int .i64 x ∧ i = .int .i64 n) (fun _ i => len - (intOf i).toNat)
  case atStart => exact ⟨0, _, Nat.zero_le _, rfl, rfl⟩
  case round =>
    obtain ⟨n, x, hn, rfl, rfl⟩ := hrel
    by_cases hlt : n < len
    · rcases HB.out with h0 | ⟨b, off, rfl, hb, hc⟩
      · omega
      · obtain ⟨z, z0, z1, hz⟩ := hc n hlt
        clear hc
        go_wp2_with fail
        go_round
        case rel => exact ⟨n + 1, _, by omega, rfl, by go_num⟩
        case measure => simp [intOf]; omega
    · go_wp2_with fail
      go_ret
      exact ⟨rfl, x, rfl⟩

end Go.Proofs.YtjhenfdmbagaiaaGreat.Draw

namespace Go.Proofs.YtjhenfdmbagaiaaGreat.Draw
open Go.ChangeShapes Go.WideShapes Go.ChangeAt Go.RowKit

theorem below_of {B : Nat} {w w' : World} {row : Option Nat} (g : w.grownBy w' row) (hB : B ≤ w.heap.size) (hr : ∀ k, row = some k → B ≤ k) : Below B w w' := (Below.refl B w).grown g hB hr

theorem left_below {k : IntKind} {T : TypeId} {p : Nat} {a : Option Addr} {len cap : Nat} {w w' : World} {B : Nat} (L : Left k T p a len cap w w') (hB : B ≤ p) (hp : p < w.heap.size) : Below B w w' :=
  below_of L.1 (by omega) (fun j hj => by cases hj; exact hB)

theorem new_below {k : IntKind} {T : TypeId} {a : Option Addr} {len cap : Nat} {w w' : World} {o : Obj} (L : Left k T w.heap.size a len cap (w.alloc o) w') : Below w.heap.size w w' :=
  ((Below.refl _ w).alloc (Nat.le_refl _) o).trans (left_below L (Nat.le_refl _) (by simp))

/-- Blocks of the call's own are written, besides the cursor's. -/
theorem left_own {k : IntKind} {T : TypeId} {p : Nat} {a : Option Addr} {len cap : Nat} {w w1 w2 : World} {row : Option Nat} (L : Left k T p a len cap w w1) (G : w1.grownBy w2 row) (hr : ∀ j, row = some j → w.heap.size ≤ j) (hp : p < w.heap.size) : Left k T p a len cap w w2 := by
  have hs := L.1.size
  refine ⟨⟨G.os.trans L.1.os, G.tape.trans L.1.tape, G.output.trans L.1.output, Nat.le_trans hs G.size, fun i hi hne => ?_⟩, ?_⟩
  · rw [G.block i (by omega) (fun e => by have := hr i e.symm; omega)]
    exact L.1.block i hi hne
  · rw [G.block p (by omega) (fun e => by have := hr p e.symm; omega)]
    exact L.2

end Go.Proofs.YtjhenfdmbagaiaaGreat.Draw

namespace Go.Proofs.YtjhenfdmbagaiaaGreat.Draw
open Go.ChangeShapes Go.WideShapes Go.ChangeAt Go.RowKit

theorem big_any (a : Option Addr) (len cap : Nat) (w : World) :
    Calls Tryz.prog 6 #[.slice a len cap] w fun e w' => e = .returned (.bool (decide (4096 < (len : Int)))) ∧ w' = w := by
  by_cases h : (4096 : Int) < (len : Int)
  all_goals
    go_enter Tryz.func6, Tryz.ntmps6
    go_wp2_with fail
    go_ret
    exact ⟨by first | rfl | simp [h] | (simp; omega), rfl⟩

end Go.Proofs.YtjhenfdmbagaiaaGreat.Draw

namespace Go.Proofs.YtjhenfdmbagaiaaGreat.Draw
open Go.ChangeShapes Go.WideShapes Go.ChangeAt Go.RowKit

/-! ### the dice of the laws -/
theorem left_third {k : IntKind} {T : TypeId} {p : Nat} {a : Option Addr} {len cap : Nat} {w w' : World} (L : Left k T p a len cap w w') {i : Nat} {h : Int} (hi : i ≤ len) (hb : w'.heap[p]? = some (.cells #[.slice a len cap, .int .i64 i, .int k h] T (0, 0))) (h' : Int) :
    Left k T p a len cap w (w'.setCell ⟨p, 2, none⟩ (.int k h')) :=
  ⟨grown_set L.1 2 _, i, h', hi, heap_setCell_same w' p 2 _ T _ hb⟩

theorem left_drewn {k : IntKind} {T : TypeId} {p : Nat} {a : Option Addr} {len cap : Nat} {w w' : World} (L : Left k T p a len cap w w') : Left k T p a len cap w w'.drew :=
  ⟨⟨L.1.os, L.1.tape, L.1.output, L.1.size, L.1.block⟩, L.2⟩

set_option maxRecDepth 100000 in
theorem roll_any (a : Option Addr) (len cap : Nat) (seed : Int) (w : World) (B : Bytes w a len) (ht : len ≤ 9223372036854775806) :
    Calls Tryz.prog 21 #[.slice a len cap, .int .u64 seed] w fun e w' => e = .returned (.pointer (some ⟨w.heap.size, 0, none⟩)) ∧ ∃ h : Int, Left .u64 76 w.heap.size a len cap (w.alloc (.cells #[.slice a len cap, .int .i64 0, .int .u64 h] 76)) w' := by
  have HB : Hid (Bytes w a len) := B
  clear B
  have ht' : (len : Int) ≤ 9223372036854775806 := by omega
  generalize hN : w.heap.size = N
  have HN : Hid (w.heap.size = N) := hN
  go_enter Tryz.func21, Tryz.ntmps21
  go_wp2_with fail
  generalize IntKind.u64.wrap (IntKind.u64.wrap (seed * 7919) + ↑len) = h0
  clear hN
  generalize hW0 : w.alloc (.cells #[.slice a len cap, .int .i64 0, .int .u64 h0] 76) = W0
  have HW : Hid (w.alloc (.cells #[.slice a len cap, .int .i64 0, .int .u64 h0] 76) = W0) := hW0
  have L0 : Left .u64 76 N a len cap W0 W0 := ⟨World.grownBy.refl _ _, 0, h0, Nat.zero_le _, by rw [← HW.out, ← HN.out]; exact heap_alloc_new w _⟩
  clear hW0
  go_loopw [6] (fun i wx => ∃ n : Nat, n ≤ len ∧ i = .int .i64 n ∧ Left .u64 76 N a len cap W0 wx) (fun i _ => len - (intOf i).toNat)
  case atStart => exact ⟨0, Nat.zero_le _, rfl, L0⟩
  case round =>
    obtain ⟨n, hn, rfl, L⟩ := hrel
    by_cases hlt : n < len
    · rcases HB.out with hz | ⟨b, off, rfl, hb, hc⟩
      · omega
      · obtain ⟨z, z0, z1, hz⟩ := hc n hlt
        obtain ⟨i, h, hi, hbk⟩ := L.2
        have c2 : wr.cell? ⟨N, 2, none⟩ = some (.int .u64 h) := cell_blk hbk 2
        have f2 : wr.frozen? ⟨N, 2, none⟩ = false := frozen_of_row wr N 2 _ _ hbk
        have hzr : wr.cell? ⟨b, off + n, none⟩ = some (.int .u8 z) := by
          have hbN : b ≠ N := by have := HN.out; omega
          have hb0 : b < W0.heap.size := by rw [← HW.out]; simp; omega
          rw [L.cell hb0 hbN, ← HW.out, World.cell?_of_block (Below.heap_alloc w _ b hb)]; exact hz
        have LL : Hid (Left .u64 76 N (some ⟨b, off, none⟩) len cap W0 wr) := L
        have HK : Hid (wr.heap[N]? = some (.cells #[.slice (some ⟨b, off, none⟩) len cap, .int .i64 i, .int .u64 h] 76 (0, 0))) := hbk
        clear hbk L hc hz L0
        go_wp2_with fail
        go_region
        all_goals
          go_wp2_with fail
          go_roundw
          case rel => exact ⟨n + 1, by omega, by go_num, left_drewn (left_third LL.out hi HK.out _)⟩
          case measure => simp [intOf]; omega
    · go_wp2_with fail
      go_ret
      exact ⟨rfl, h0, by rw [HW.out]; exact L⟩

end Go.Proofs.YtjhenfdmbagaiaaGreat.Draw

namespace Go.Proofs.YtjhenfdmbagaiaaGreat.Draw
open Go.ChangeShapes Go.WideShapes Go.ChangeAt Go.RowKit

theorem wrap_u64n (n : Nat) (h : n < 18446744073709551616) : IntKind.u64.wrap (n : Int) = (n : Int) := by
  simp [IntKind.wrap, IntKind.bits, IntKind.signed]; omega

theorem emod_le (x n : Int) (h : 0 ≤ x) (hn : 0 < n) : x % n ≤ x := by
  have a := Int.emod_add_mul_ediv x n
  have b := Int.mul_nonneg (Int.le_of_lt hn) (Int.ediv_nonneg h (Int.le_of_lt hn))
  omega

theorem and_le_u64 (X : Int) (m : Nat) : 0 ≤ bits .and .u64 X (m : Int) ∧ bits .and .u64 X (m : Int) ≤ (m : Int) := by
  have h : (BitVec.ofInt 64 X &&& BitVec.ofInt 64 (m : Int)).toNat ≤ m := by
    rw [BitVec.toNat_and]
    refine Nat.le_trans Nat.and_le_right ?_
    rw [BitVec.ofInt_natCast, BitVec.toNat_ofNat]
    exact Nat.mod_le _ _
  have e : bits .and .u64 X (m : Int) = IntKind.u64.wrap (((BitVec.ofInt 64 X &&& BitVec.ofInt 64 (m : Int)).toNat : Nat) : Int) := rfl
  rw [e, wrap_u64n _ (by omega)]
  omega

theorem and24 (X : Int) : 0 ≤ bits .and .u64 X 16777215 ∧ bits .and .u64 X 16777215 ≤ 16777215 := and_le_u64 X 16777215

set_option maxRecDepth 100000 in
theorem dice_end (T : TypeId) (p : Nat) (a : Option Addr) (len cap : Nat) (n : Int) (w : World) (i : Nat) (h : Int) (hb : w.heap[p]? = some (.cells #[.slice a len cap, .int .i64 i, .int .u64 h] T (0, 0))) (hle : i ≤ len) (hi : ¬ (i : Int) < (len : Int)) (hn : 0 < n) :
    Calls Tryz.prog 22 #[.pointer (some ⟨p, 0, none⟩), .int .i64 n] w fun e w' => ∃ x : Int, e = .returned (.int .i64 x) ∧ 0 ≤ x ∧ x < n ∧ x < 33554432 ∧ Left .u64 T p a len cap w w' := by
  have c0 : w.cell? ⟨p, 0, none⟩ = some (.slice a len cap) := cell_blk hb 0
  have c1 : w.cell? ⟨p, 1, none⟩ = some (.int .i64 i) := cell_blk hb 1
  have c2 : w.cell? ⟨p, 2, none⟩ = some (.int .u64 h) := cell_blk hb 2
  have f2 : w.frozen? ⟨p, 2, none⟩ = false := frozen_of_row w p 2 _ T hb
  have B : Hid (w.heap[p]? = some (.cells #[.slice a len cap, .int .i64 i, .int .u64 h] T (0, 0))) := hb
  clear hb
  have hn0 : (n == 0) = false := by simp; omega
  obtain ⟨h', hh⟩ : ∃ h', IntKind.u64.wrap (IntKind.u64.wrap (h * 6364136223846793005) + 1442695040888963407) = h' := ⟨_, rfl⟩
  obtain ⟨x0, x1⟩ := and24 (h' / 8589934592)
  obtain ⟨x, hx⟩ : ∃ x, bits .and .u64 (h' / 8589934592) 16777215 = x := ⟨_, rfl⟩
  rw [hx] at x0 x1
  go_enter Tryz.func22, Tryz.ntmps22
  go_wp2_with fail
  clear hh hx
  go_quiet (fail)
  go_wp2_with fail
  go_ret
  exact ⟨x % n, rfl, Int.emod_nonneg _ (by omega), Int.emod_lt_of_pos _ hn, by have := emod_le x n (by omega) hn; omega, grown_drewN (grown_setCell w p 2 _) _, i, h', hle, heap_setCell_same w p 2 _ T _ B.out⟩

set_option maxRecDepth 100000 in
theorem dice_in (T : TypeId) (p b off : Nat) (len cap : Nat) (n : Int) (w : World) (i : Nat) (h z : Int) (hbl : w.heap[p]? = some (.cells #[.slice (some ⟨b, off, none⟩) len cap, .int .i64 i, .int .u64 h] T (0, 0))) (hi : (i : Int) < (len : Int)) (hl : (len : Int) ≤ 9223372036854775806)
    (hb : b ≠ p) (hz : w.cell? ⟨b, off + i, none⟩ = some (.int .u8 z)) (z0 : 0 ≤ z) (z1 : z ≤ 255) (hn : 0 < n) :
    Calls Tryz.prog 22 #[.pointer (some ⟨p, 0, none⟩), .int .i64 n] w fun e w' => ∃ x : Int, e = .returned (.int .i64 x) ∧ 0 ≤ x ∧ x < n ∧ x < 33554432 ∧ Left .u64 T p (some ⟨b, off, none⟩) len cap w w' := by
  have c0 : w.cell? ⟨p, 0, none⟩ = some (.slice (some ⟨b, off, none⟩) len cap) := cell_blk hbl 0
  have c1 : w.cell? ⟨p, 1, none⟩ = some (.int .i64 i) := cell_blk hbl 1
  have c2 : w.cell? ⟨p, 2, none⟩ = some (.int .u64 h) := cell_blk hbl 2
  have f1 : w.frozen? ⟨p, 1, none⟩ = false := frozen_of_row w p 1 _ T hbl
  have f2 : w.frozen? ⟨p, 2, none⟩ = false := frozen_of_row w p 2 _ T hbl
  have B : Hid (w.heap[p]? = some (.cells #[.slice (some ⟨b, off, none⟩) len cap, .int .i64 i, .int .u64 h] T (0, 0))) := hbl
  clear hbl
  have hz' : ∀ v, (w.setCell ⟨p, 2, none⟩ v).cell? ⟨b, off + i, none⟩ = some (.int .u8 z) := fun v => by
    rw [World.cell?_of_block (heap_setCell_other w ⟨p, 2, none⟩ b v hb)]; exact hz
  have hn0 : (n == 0) = false := by simp; omega
  obtain ⟨h', hh⟩ : ∃ h', IntKind.u64.wrap (IntKind.u64.wrap (h * 6364136223846793005) + 1442695040888963407) = h' := ⟨_, rfl⟩
  obtain ⟨x0, x1⟩ := and24 (h' / 8589934592)
  obtain ⟨x, hx⟩ : ∃ x, bits .and .u64 (h' / 8589934592) 16777215 = x := ⟨_, rfl⟩
  rw [hx] at x0 x1
  go_enter Tryz.func22, Tryz.ntmps22
  go_wp2_with fail
  clear hh hx
  go_quiet (fail)
  go_wp2_with fail
  go_quiet (fail)
  go_wp2_with fail
  go_ret
  refine ⟨(x + z) % n, rfl, Int.emod_nonneg _ (by omega), Int.emod_lt_of_pos _ hn, by have := emod_le (x + z) n (by omega) hn; omega, ?_, i + 1, h', by omega, ?_⟩
  · repeat (first | exact grown_setCell w p 2 _ | refine grown_drewN ?_ _ | refine grown_set ?_ _ _)
  · exact heap_setCell_same _ p 1 _ T _ (heap_setCell_same w p 2 _ T _ B.out)

/-- (*laws.dice).below at every dice: from 0 to n less 1. -/
theorem dice_any (T : TypeId) (p : Nat) (a : Option Addr) (len cap : Nat) (n : Int) (w : World) (C : Cur .u64 T p a len cap w) (hn : 0 < n) :
    Calls Tryz.prog 22 #[.pointer (some ⟨p, 0, none⟩), .int .i64 n] w fun e w' => ∃ x : Int, e = .returned (.int .i64 x) ∧ 0 ≤ x ∧ x < n ∧ x < 33554432 ∧ Left .u64 T p a len cap w w' := by
  obtain ⟨i, h, hle, hb⟩ := C.blk
  by_cases hi : i < len
  · rcases C.bytes with h0 | ⟨b, off, rfl, hlt, hne, hc⟩
    · omega
    · obtain ⟨z, z0, z1, hz⟩ := hc i hi
      exact dice_in T p b off len cap n w i h z hb (by omega) (by have := C.top; omega) hne hz z0 z1 hn
  · exact dice_end T p a len cap n w i h hb hle (by omega) hn

end Go.Proofs.YtjhenfdmbagaiaaGreat.Draw
