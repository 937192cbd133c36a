/-
  Drawing numbers: spec's l1Below, l1Once, l1From, l1Odd, l1Num, l1DrawNum and l1New. Each writes the cursor's block alone.
-/
import Derived.Test.YtlmlgidfgjejpaaDrawBase
namespace Go.Proofs.Ytlmlgidfgjejpaa.Draw
open Go.ChangeShapes Go.WideShapes Go.ChangeAt Go.RowKit

/-- spec.l1Below: 0 where n is not above 0, else from 0 to n less 1. -/
theorem below_any (T : TypeId) (p : Nat) (a : Option Addr) (len cap : Nat) (n : Int) (w : World) (C : Cur .i64 T p a len cap w) :
    Calls Try.prog 53 #[.pointer (some ⟨p, 0, none⟩), .int .i64 n] w fun e w' => ∃ x : Int, e = .returned (.int .i64 x) ∧ 0 ≤ x ∧ (0 < n → x < n) ∧ (n ≤ 0 → x = 0) ∧ Left .i64 T p a len cap w w' := by
  by_cases h0 : n ≤ 0
  · go_enter Try.func53, Try.ntmps53
    go_wp2_with fail
    go_ret
    exact ⟨0, rfl, by omega, fun h => by omega, fun _ => rfl, Left.refl C⟩
  · have hn : (n == 0) = false := by simp; omega
    have hp : 0 < n := by omega
    by_cases h1 : n ≤ 256
    · go_enter Try.func53, Try.ntmps53
      go_wp2_with fail
      refine (byte_any T p a len cap _ C).mono ?_
      rintro e w1 ⟨x, rfl, x0, x1, L⟩
      go_wp2_with fail
      go_ret
      exact ⟨x % n, rfl, Int.emod_nonneg _ (by omega), fun h => Int.emod_lt_of_pos _ h, fun h => by omega, L⟩
    · go_enter Try.func53, Try.ntmps53
      go_wp2_with fail
      refine (byte_any T p a len cap _ C).mono ?_
      rintro e w1 ⟨x, rfl, x0, x1, L1⟩
      have C1 := L1.cur C
      go_wp2_with fail
      refine (byte_any T p a len cap _ C1).mono ?_
      rintro e w2 ⟨y, rfl, y0, y1, L2⟩
      have C2 := L2.cur C1
      go_wp2_with fail
      refine (byte_any T p a len cap _ C2).mono ?_
      rintro e w3 ⟨z, rfl, z0, z1, L3⟩
      have C3 := L3.cur C2
      go_wp2_with fail
      refine (byte_any T p a len cap _ C3).mono ?_
      rintro e w4 ⟨v, rfl, v0, v1, L4⟩
      clear C C1 C2 C3
      go_wp2_with fail
      go_ret
      exact ⟨(x * 16777216 + y * 65536 + z * 256 + v) % n, rfl, Int.emod_nonneg _ (by omega), fun h => Int.emod_lt_of_pos _ h, fun h => by omega, ((L1.trans L2).trans L3).trans L4⟩

theorem once_any (T : TypeId) (p : Nat) (a : Option Addr) (len cap : Nat) (n : Int) (w : World) (C : Cur .i64 T p a len cap w) :
    Calls Try.prog 35 #[.pointer (some ⟨p, 0, none⟩), .int .i64 n] w fun e w' => ∃ t : Bool, e = .returned (.bool t) ∧ Left .i64 T p a len cap w w' := by
  go_enter Try.func35, Try.ntmps35
  go_wp2_with fail
  refine (below_any T p a len cap n _ C).mono ?_
  rintro e w1 ⟨x, rfl, x0, x1, _, L⟩
  generalize ht : (x == 0) = t
  go_wp2_with fail
  go_ret
  exact ⟨t, rfl, L⟩

theorem min_any (a b : Int) (w : World) :
    Calls Try.prog 31 #[.int .i64 a, .int .i64 b] w fun e w' => ∃ x : Int, e = .returned (.int .i64 x) ∧ x ≤ a ∧ x ≤ b ∧ (x = a ∨ x = b) ∧ w' = w := by
  by_cases h : a < b
  · go_enter Try.func31, Try.ntmps31
    go_wp2_with fail
    go_ret
    exact ⟨a, rfl, by omega, by omega, .inl rfl, rfl⟩
  · go_enter Try.func31, Try.ntmps31
    go_wp2_with fail
    go_ret
    exact ⟨b, rfl, by omega, by omega, .inr rfl, rfl⟩

/-- A cell of a block that a draw does not write. -/
theorem Left.cell {k : IntKind} {T : TypeId} {p : Nat} {a : Option Addr} {len cap : Nat} {w w' : World} (h : Left k T p a len cap w w') {b j : Nat} (hb : b < w.heap.size) (hp : b ≠ p) : w'.cell? ⟨b, j, none⟩ = w.cell? ⟨b, j, none⟩ :=
  World.cell?_of_block (h.1.block b hb (fun e => hp (by cases e; rfl)))

/-- A cursor where new blocks are laid. -/
theorem Cur.alloc {k : IntKind} {T : TypeId} {p : Nat} {a : Option Addr} {len cap : Nat} {w : World} (C : Cur k T p a len cap w) (o : Obj) : Cur k T p a len cap (w.alloc o) :=
  C.other (World.grownBy_alloc w o none) (by simp) (by simp)

theorem left_alloc {k : IntKind} {T : TypeId} {p : Nat} {a : Option Addr} {len cap : Nat} {w w' : World} {o : Obj} (C : Cur k T p a len cap w) (h : Left k T p a len cap (w.alloc o) w') : Left k T p a len cap w w' :=
  ((Left.refl C).more (World.grownBy_alloc w o none) C.lt).trans h

theorem odd_any (T : TypeId) (p : Nat) (a : Option Addr) (len cap : Nat) (w : World) (C : Cur .i64 T p a len cap w) :
    Calls Try.prog 65 #[.pointer (some ⟨p, 0, none⟩)] w fun e w' => ∃ x : Int, e = .returned (.int .i64 x) ∧ Left .i64 T p a len cap w w' := by
  have hlt := C.lt
  go_enter Try.func65, Try.ntmps65
  go_wp2_with fail
  refine (below_any T p a len cap _ _ (C.alloc _)).mono ?_
  rintro e w1 ⟨x, rfl, x0, x1, _, L⟩
  have hx : x < 10 := x1 (by omega)
  obtain ⟨n, rfl⟩ := Int.eq_ofNat_of_zero_le x0
  have hn : n < 10 := by omega
  have hc := L.cell (b := w.heap.size) (j := n) (by simp) (by omega)
  obtain ⟨v, hv⟩ : ∃ v : Int, w1.cell? ⟨w.heap.size, n, none⟩ = some (.int .i64 v) := by
    rw [hc]
    have : n = 0 ∨ n = 1 ∨ n = 2 ∨ n = 3 ∨ n = 4 ∨ n = 5 ∨ n = 6 ∨ n = 7 ∨ n = 8 ∨ n = 9 := by omega
    rcases this with h | h | h | h | h | h | h | h | h | h <;> (subst h; exact ⟨_, cell_blk (heap_alloc_new _ _) _⟩)
  have L' := left_alloc C L
  clear L hc x1 C
  go_wp2_with fail
  go_ret
  exact ⟨v, rfl, L'⟩

theorem num_any (T : TypeId) (p : Nat) (a : Option Addr) (len cap : Nat) (most : Int) (w : World) (C : Cur .i64 T p a len cap w) :
    Calls Try.prog 55 #[.pointer (some ⟨p, 0, none⟩), .int .i64 most] w fun e w' => ∃ x : Int, e = .returned (.int .i64 x) ∧ Left .i64 T p a len cap w w' := by
  go_enter Try.func55, Try.ntmps55
  go_wp2_with fail
  refine (once_any T p a len cap _ _ C).mono ?_
  rintro e w1 ⟨t, rfl, L1⟩
  have C1 := L1.cur C
  cases t
  · go_wp2_with fail
    refine (once_any T p a len cap _ _ C1).mono ?_
    rintro e w2 ⟨t, rfl, L2⟩
    have C2 := L2.cur C1
    cases t
    · go_wp2_with fail
      refine (below_any T p a len cap _ _ C2).mono ?_
      rintro e w3 ⟨x, rfl, _, _, _, L3⟩
      clear C C1 C2
      go_wp2_with fail
      go_ret
      exact ⟨x, rfl, (L1.trans L2).trans L3⟩
    · go_wp2_with fail
      refine (min_any _ _ _).mono ?_
      rintro e w2' ⟨y, rfl, _, _, _, rfl⟩
      go_wp2_with fail
      refine (below_any T p a len cap _ _ C2).mono ?_
      rintro e w3 ⟨x, rfl, _, _, _, L3⟩
      clear C C1 C2
      go_wp2_with fail
      go_ret
      exact ⟨x, rfl, (L1.trans L2).trans L3⟩
  · go_wp2_with fail
    refine (odd_any T p a len cap _ C1).mono ?_
    rintro e w2 ⟨o, rfl, L2⟩
    have C2 := L2.cur C1
    have hlt := C2.lt
    generalize hm : wrap64 (most + 1) = m1
    clear hm
    go_wp2_with fail
    refine (below_any T p a len cap _ _ (C2.alloc _)).mono ?_
    rintro e w3 ⟨x, rfl, x0, x1, _, L3⟩
    have hx : x < 4 := x1 (by omega)
    obtain ⟨n, rfl⟩ := Int.eq_ofNat_of_zero_le x0
    have hn : n < 4 := by omega
    have hc := L3.cell (b := w2.heap.size) (j := n) (by simp) (by omega)
    obtain ⟨v, hv⟩ : ∃ v : Int, w3.cell? ⟨w2.heap.size, n, none⟩ = some (.int .i64 v) := by
      rw [hc]
      have : n = 0 ∨ n = 1 ∨ n = 2 ∨ n = 3 := by omega
      rcases this with h | h | h | h <;> (subst h; exact ⟨_, cell_blk (heap_alloc_new _ _) _⟩)
    have L' := (L1.trans L2).trans (left_alloc C2 L3)
    clear L1 L2 L3 hc x1 C C1 C2
    go_wp2_with fail
    go_ret
    exact ⟨v, rfl, L'⟩

/-- The bytes that came in. -/
def Bytes (w : World) (a : Option Addr) (len : Nat) : Prop :=
  len = 0 ∨ ∃ b off, a = some ⟨b, off, none⟩ ∧ b < w.heap.size ∧ ∀ i, i < len → ∃ z : Int, 0 ≤ z ∧ z ≤ 255 ∧ w.cell? ⟨b, off + i, none⟩ = some (.int .u8 z)

theorem Bytes.grown {w w' : World} {a : Option Addr} {len : Nat} (h : Bytes w a len) (g : Below w.heap.size w w') : Bytes w' a len := by
  rcases h with h | ⟨b, off, ha, hlt, hc⟩
  · exact .inl h
  · refine .inr ⟨b, off, ha, Nat.lt_of_lt_of_le hlt g.size, fun i hi => ?_⟩
    obtain ⟨z, z0, z1, hz⟩ := hc i hi
    exact ⟨z, z0, z1, by rw [g.cell (p := ⟨b, off + i, none⟩) hlt]; exact hz⟩

/-- A new block is a cursor over them. -/
theorem cur_new {k : IntKind} {T : TypeId} {w : World} {a : Option Addr} {len cap : Nat} (B : Bytes w a len) (ht : len ≤ 9223372036854775806) (h : Int) : Cur k T w.heap.size a len cap (w.alloc (.cells #[.slice a len cap, .int .i64 0, .int k h] T)) := by
  refine ⟨⟨0, h, Nat.zero_le _, heap_alloc_new w _⟩, ht, ?_⟩
  rcases B with h | ⟨b, off, ha, hlt, hc⟩
  · exact .inl h
  · refine .inr ⟨b, off, ha, by simp; omega, by omega, fun i hi => ?_⟩
    obtain ⟨z, z0, z1, hz⟩ := hc i hi
    exact ⟨z, z0, z1, by rw [World.cell?_of_block (Below.heap_alloc w _ b hlt)]; exact hz⟩

theorem new_any (a : Option Addr) (len cap : Nat) (w : World) (B : Bytes w a len) (ht : len ≤ 9223372036854775806) :
    Calls Try.prog 33 #[.slice a len cap] w fun e w' => e = .returned (.pointer (some ⟨w.heap.size, 0, none⟩)) ∧ ∃ h : Int, w' = w.alloc (.cells #[.slice a len cap, .int .i64 0, .int .i64 h] 70) := by
  have HB : Hid (Bytes w a len) := B
  clear B
  have ht' : (len : Int) ≤ 9223372036854775806 := by omega
  go_enter Try.func33, Try.ntmps33
  go_wp2_with fail
  go_loop [3, 4] (fun h i => ∃ n : Nat, ∃ x : Int, n ≤ len ∧ h = .int .i64 x ∧ i = .int .i64 n) (fun _ i => len - (intOf i).toNat)
  case atStart => exact ⟨0, _, Nat.zero_le _, rfl, rfl⟩
  case round =>
    obtain ⟨n, x, hn, rfl, rfl⟩ := hrel
    by_cases hlt : n < len
    · rcases HB.out with h0 | ⟨b, off, rfl, hb, hc⟩
      · omega
      · obtain ⟨z, z0, z1, hz⟩ := hc n hlt
        clear hc
        go_wp2_with fail
        go_round
        case rel => exact ⟨n + 1, _, by omega, rfl, by go_num⟩
        case measure => simp [intOf]; omega
    · go_wp2_with fail
      go_ret
      exact ⟨rfl, x, rfl⟩

end Go.Proofs.Ytlmlgidfgjejpaa.Draw
