/-
  What the laws of the ratios draw: spec.DrawLessFrac and spec.DrawFloorOf, and the dice of the laws.
-/
import Derived.Test.YtajnmmcgocfjlaaDrawNums
namespace Go.Proofs.Ytajnmmcgocfjlaa.Draw
open Go.ChangeShapes Go.WideShapes Go.ChangeAt Go.RowKit

theorem below_of {B : Nat} {w w' : World} {row : Option Nat} (g : w.grownBy w' row) (hB : B ≤ w.heap.size) (hr : ∀ k, row = some k → B ≤ k) : Below B w w' := (Below.refl B w).grown g hB hr

theorem left_below {k : IntKind} {T : TypeId} {p : Nat} {a : Option Addr} {len cap : Nat} {w w' : World} {B : Nat} (L : Left k T p a len cap w w') (hB : B ≤ p) (hp : p < w.heap.size) : Below B w w' :=
  below_of L.1 (by omega) (fun j hj => by cases hj; exact hB)

theorem new_below {k : IntKind} {T : TypeId} {a : Option Addr} {len cap : Nat} {w w' : World} {o : Obj} (L : Left k T w.heap.size a len cap (w.alloc o) w') : Below w.heap.size w w' :=
  ((Below.refl _ w).alloc (Nat.le_refl _) o).trans (left_below L (Nat.le_refl _) (by simp))

theorem drawLess_any (a : Option Addr) (len cap : Nat) (w : World) (B : Bytes w a len) (ht : len ≤ 9223372036854775806) :
    Calls Try.prog 9 #[.slice a len cap] w fun e w' => ∃ x y z v : Int, e = .returned (.tuple #[.int .i64 x, .int .i64 y, .int .i64 z, .int .i64 v]) ∧ Below w.heap.size w w' := by
  go_enter Try.func9, Try.ntmps9
  go_wp2_with fail
  refine (new_any a len cap _ B ht).mono ?_
  rintro e w1 ⟨rfl, h, rfl⟩
  have C1 := cur_new (k := .i64) (T := 57) (cap := cap) B ht h
  clear B
  go_wp2_with fail
  refine (drawNum_any _ _ a len cap _ C1).mono ?_
  rintro e w2 ⟨x, rfl, L2⟩
  have C2 := L2.cur C1
  go_wp2_with fail
  refine (drawNum_any _ _ a len cap _ C2).mono ?_
  rintro e w3 ⟨y, rfl, L3⟩
  have C3 := L3.cur C2
  have M3 := L2.trans L3
  clear C1 C2 L2 L3
  go_wp2_with fail
  refine (once_any _ _ a len cap _ _ C3).mono ?_
  rintro e w4 ⟨t, rfl, L4⟩
  have C4 := L4.cur C3
  have M4 := M3.trans L4
  clear C3 L4 M3
  cases t
  · go_wp2_with fail
    refine (drawNum_any _ _ a len cap _ C4).mono ?_
    rintro e w5 ⟨z, rfl, L5⟩
    have C5 := L5.cur C4
    have M5 := M4.trans L5
    clear C4 L5 M4
    go_wp2_with fail
    refine (drawNum_any _ _ a len cap _ C5).mono ?_
    rintro e w6 ⟨v, rfl, L6⟩
    have M6 := M5.trans L6
    clear C5 L6 M5
    go_wp2_with fail
    refine bodyPost_ret (v := .tuple #[.int .i64 x, .int .i64 y, .int .i64 z, .int .i64 v]) (by simp [results, Try.results9, go_sem]) rfl ⟨x, y, z, v, rfl, new_below M6⟩
  · go_wp2_with fail
    refine (from_any _ _ a len cap _ _ _ C4 (by omega) (by omega) (by omega)).mono ?_
    rintro e w5 ⟨z, rfl, _, _, L5⟩
    have C5 := L5.cur C4
    have M5 := M4.trans L5
    clear C4 L5 M4
    go_wp2_with fail
    refine (from_any _ _ a len cap _ _ _ C5 (by omega) (by omega) (by omega)).mono ?_
    rintro e w6 ⟨v, rfl, _, _, L6⟩
    have M6 := M5.trans L6
    clear C5 L6 M5
    go_wp2_with fail
    refine bodyPost_ret (v := .tuple #[.int .i64 x, .int .i64 y, .int .i64 (wrap64 (x + z)), .int .i64 (wrap64 (y + v))]) (by simp [results, Try.results9, go_sem]) rfl ⟨x, y, _, _, rfl, new_below M6⟩

theorem drawFloor_any (a : Option Addr) (len cap : Nat) (w : World) (B : Bytes w a len) (ht : len ≤ 9223372036854775806) :
    Calls Try.prog 14 #[.slice a len cap] w fun e w' => ∃ x y z : Int, e = .returned (.tuple #[.int .i64 x, .int .i64 y, .int .i64 z]) ∧ Below w.heap.size w w' := by
  go_enter Try.func14, Try.ntmps14
  go_wp2_with fail
  refine (new_any a len cap _ B ht).mono ?_
  rintro e w1 ⟨rfl, h, rfl⟩
  have C1 := cur_new (k := .i64) (T := 57) (cap := cap) B ht h
  clear B
  go_wp2_with fail
  refine (drawNum_any _ _ a len cap _ C1).mono ?_
  rintro e w2 ⟨x, rfl, L2⟩
  have C2 := L2.cur C1
  go_wp2_with fail
  refine (drawNum_any _ _ a len cap _ C2).mono ?_
  rintro e w3 ⟨y, rfl, L3⟩
  have C3 := L3.cur C2
  have M3 := L2.trans L3
  clear C1 C2 L2 L3
  go_wp2_with fail
  refine (once_any _ _ a len cap _ _ C3).mono ?_
  rintro e w4 ⟨t, rfl, L4⟩
  have C4 := L4.cur C3
  have M4 := M3.trans L4
  clear C3 L4 M3
  cases t
  · go_wp2_with fail
    refine (drawNum_any _ _ a len cap _ C4).mono ?_
    rintro e w5 ⟨z, rfl, L5⟩
    have M5 := M4.trans L5
    clear C4 L5 M4
    go_wp2_with fail
    go_ret3
    exact ⟨x, y, z, rfl, new_below M5⟩
  · go_wp2_with fail
    refine (below_any _ _ a len cap _ _ C4).mono ?_
    rintro e w5 ⟨z, rfl, z0, z1, _, L5⟩
    have hz : z < 9 := z1 (by omega)
    have M5 := M4.trans L5
    clear C4 L5 M4 z1
    go_wp2_with fail
    go_ret3
    exact ⟨x, y, 1 + z, rfl, new_below M5⟩

/-! ### the dice of the laws -/
theorem left_set {k : IntKind} {T : TypeId} {p : Nat} {a : Option Addr} {len cap : Nat} {w w' : World} (L : Left k T p a len cap w w') {i : Nat} {h : Int} (hi : i ≤ len) (hb : w'.heap[p]? = some (.cells #[.slice a len cap, .int .i64 i, .int k h] T (0, 0))) (h' : Int) :
    Left k T p a len cap w (w'.setCell ⟨p, 2, none⟩ (.int k h')) :=
  ⟨grown_set L.1 2 _, i, h', hi, heap_setCell_same w' p 2 _ T _ hb⟩

theorem left_drew {k : IntKind} {T : TypeId} {p : Nat} {a : Option Addr} {len cap : Nat} {w w' : World} (L : Left k T p a len cap w w') : Left k T p a len cap w w'.drew :=
  ⟨⟨L.1.os, L.1.tape, L.1.output, L.1.size, L.1.block⟩, L.2⟩

set_option maxRecDepth 100000 in
theorem roll_any (a : Option Addr) (len cap : Nat) (seed : Int) (w : World) (B : Bytes w a len) (ht : len ≤ 9223372036854775806) :
    Calls Try.prog 11 #[.slice a len cap, .int .u64 seed] w fun e w' => e = .returned (.pointer (some ⟨w.heap.size, 0, none⟩)) ∧ ∃ h : Int, Left .u64 47 w.heap.size a len cap (w.alloc (.cells #[.slice a len cap, .int .i64 0, .int .u64 h] 47)) w' := by
  have HB : Hid (Bytes w a len) := B
  clear B
  have ht' : (len : Int) ≤ 9223372036854775806 := by omega
  generalize hN : w.heap.size = N
  have HN : Hid (w.heap.size = N) := hN
  go_enter Try.func11, Try.ntmps11
  go_wp2_with fail
  generalize IntKind.u64.wrap (IntKind.u64.wrap (seed * 7919) + ↑len) = h0
  clear hN
  generalize hW0 : w.alloc (.cells #[.slice a len cap, .int .i64 0, .int .u64 h0] 47) = W0
  have HW : Hid (w.alloc (.cells #[.slice a len cap, .int .i64 0, .int .u64 h0] 47) = W0) := hW0
  have L0 : Left .u64 47 N a len cap W0 W0 := ⟨World.grownBy.refl _ _, 0, h0, Nat.zero_le _, by rw [← HW.out, ← HN.out]; exact heap_alloc_new w _⟩
  clear hW0
  go_loopw [6] (fun i wx => ∃ n : Nat, n ≤ len ∧ i = .int .i64 n ∧ Left .u64 47 N a len cap W0 wx) (fun i _ => len - (intOf i).toNat)
  case atStart => exact ⟨0, Nat.zero_le _, rfl, L0⟩
  case round =>
    obtain ⟨n, hn, rfl, L⟩ := hrel
    by_cases hlt : n < len
    · rcases HB.out with hz | ⟨b, off, rfl, hb, hc⟩
      · omega
      · obtain ⟨z, z0, z1, hz⟩ := hc n hlt
        obtain ⟨i, h, hi, hbk⟩ := L.2
        have c2 : wr.cell? ⟨N, 2, none⟩ = some (.int .u64 h) := cell_blk hbk 2
        have f2 : wr.frozen? ⟨N, 2, none⟩ = false := frozen_of_row wr N 2 _ _ hbk
        have hzr : wr.cell? ⟨b, off + n, none⟩ = some (.int .u8 z) := by
          have hbN : b ≠ N := by have := HN.out; omega
          have hb0 : b < W0.heap.size := by rw [← HW.out]; simp; omega
          rw [L.cell hb0 hbN, ← HW.out, World.cell?_of_block (Below.heap_alloc w _ b hb)]; exact hz
        have LL : Hid (Left .u64 47 N (some ⟨b, off, none⟩) len cap W0 wr) := L
        have HK : Hid (wr.heap[N]? = some (.cells #[.slice (some ⟨b, off, none⟩) len cap, .int .i64 i, .int .u64 h] 47 (0, 0))) := hbk
        clear hbk L hc hz L0
        go_wp2_with fail
        go_region
        all_goals
          go_wp2_with fail
          go_roundw
          case rel => exact ⟨n + 1, by omega, by go_num, left_drew (left_set LL.out hi HK.out _)⟩
          case measure => simp [intOf]; omega
    · go_wp2_with fail
      go_ret
      exact ⟨rfl, h0, by rw [HW.out]; exact L⟩

end Go.Proofs.Ytajnmmcgocfjlaa.Draw
