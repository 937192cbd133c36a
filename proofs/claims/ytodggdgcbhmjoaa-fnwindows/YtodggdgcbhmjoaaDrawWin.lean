/-
  spec.DrawReadyAt and spec.DrawDueAt: some share and some turn; everything that was there stays as it was.
-/
import Derived.Test.YtodggdgcbhmjoaaDrawShare
namespace Go.Proofs.Ytodggdgcbhmjoaa.Draw
open Go.ChangeShapes Go.WideShapes Go.ChangeAt Go.RowKit
open Go.Proofs.Ytodggdgcbhmjoaa.Win

theorem drawReady_any (a : Option Addr) (len cap : Nat) (w : World) (B : Bytes w a len) (ht : len ≤ 9223372036854775806) :
    Calls Try.prog 20 #[.slice a len cap] w fun e w' => ∃ n d j : Int, e = .returned (.tuple #[sh n d, .int .i64 j]) ∧ Below w.heap.size w w' := by
  have B0 : Hid (Bytes (w.alloc (.cells #[.int .i64 0, .int .i64 0] 25)) a len) := B.grown ((Below.refl _ w).alloc (Nat.le_refl _) _)
  have HB : Hid (Below w.heap.size w (w.alloc (.cells #[.int .i64 0, .int .i64 0] 25))) := (Below.refl _ w).alloc (Nat.le_refl _) _
  have R0 : Hid (Sh (w.alloc (.cells #[.int .i64 0, .int .i64 0] 25)) w.heap.size 0 0) := sh_new w 0 0
  clear B
  go_enter Try.func20, Try.ntmps20
  go_wp2_with fail
  refine (new_any a len cap _ B0.out ht).mono ?_
  rintro e w1 ⟨rfl, h, rfl⟩
  have hz : (w.alloc (.cells #[.int .i64 0, .int .i64 0] 25)).heap.size = w.heap.size + 1 := by simp
  have C1 : Hid (Cur .i64 66 (w.heap.size + 1) a len cap ((w.alloc (.cells #[.int .i64 0, .int .i64 0] 25)).alloc (.cells #[.slice a len cap, .int .i64 0, .int .i64 h] 66))) := by
    have := cur_new (k := .i64) (T := 66) (cap := cap) B0.out ht h
    rw [hz] at this
    exact this
  have R1 : Hid (Sh ((w.alloc (.cells #[.int .i64 0, .int .i64 0] 25)).alloc (.cells #[.slice a len cap, .int .i64 0, .int .i64 h] 66)) w.heap.size 0 0) := R0.out.alloc _
  have B1 : Hid (Below w.heap.size w ((w.alloc (.cells #[.int .i64 0, .int .i64 0] 25)).alloc (.cells #[.slice a len cap, .int .i64 0, .int .i64 h] 66))) := HB.out.alloc (by simp) _
  rw [hz]
  clear R0 HB B0 hz
  generalize (w.alloc (.cells #[.int .i64 0, .int .i64 0] 25)).alloc (.cells #[.slice a len cap, .int .i64 0, .int .i64 h] 66) = v at *
  have hpv := C1.out.lt
  go_wp2_with fail
  refine (draw_any_share 66 (w.heap.size + 1) a len cap _ C1.out).mono ?_
  rintro e w2 ⟨n, d, rfl, L2⟩
  have H2 : Hid (Left .i64 66 (w.heap.size + 1) a len cap v w2 ∧ Sh w2 w.heap.size 0 0) := ⟨L2, R1.out.left L2 (by omega)⟩
  have hs : v.heap.size ≤ w2.heap.size := L2.1.size
  clear L2 R1
  go_wp2_with fail
  have H3 : Hid (Left .i64 66 (w.heap.size + 1) a len cap v (w2.alloc (.cells #[.int .i64 n, .int .i64 d] 25)) ∧ Sh (w2.alloc (.cells #[.int .i64 n, .int .i64 d] 25)) w.heap.size 0 0 ∧ Sh (w2.alloc (.cells #[.int .i64 n, .int .i64 d] 25)) w2.heap.size n d) := ⟨left_new H2.out.1 hpv _, H2.out.2.alloc _, sh_new _ _ _⟩
  clear H2
  generalize w2.alloc (.cells #[.int .i64 n, .int .i64 d] 25) = w3 at *
  generalize w2.heap.size = s at *
  have DC : Hid (Cur .i64 66 (w.heap.size + 1) a len cap w3.drew) := cur_drew (H3.out.1.cur C1.out)
  have s0 := H3.out.2.2.c0
  have s1 := H3.out.2.2.c1
  go_region_with (go_at_call 31; refine (draw_turn 66 (w.heap.size + 1) a len cap _ DC.out).mono ?_; rintro e w7 ⟨q, rfl, L7⟩; have H7 : Hid (Left .i64 66 (w.heap.size + 1) a len cap v w7 ∧ Sh w7 w.heap.size 0 0 ∧ Sh w7 s n d) := ⟨(left_drew H3.out.1).trans L7, Sh.left (w := w3.drew) H3.out.2.1 L7 (by omega), Sh.left (w := w3.drew) H3.out.2.2 L7 (by omega)⟩; have e0 := H7.out.2.2.c0; have e1 := H7.out.2.2.c1; have o0 := H7.out.2.1.c0; have o1 := H7.out.2.1.c1; have g0 := H7.out.2.1.fr 0; have g1 := H7.out.2.1.fr 1; clear L7)
  all_goals
    have B7 : Hid (Below w.heap.size w w7) := B1.out.trans (left_below H7.out.1 (by omega) hpv)
    go_wp2_with fail
    exact bodyPost_ret (ret_share2 rfl rfl rfl ((H7.out.2.1.set0 _).set1 _)) rfl ⟨_, _, _, rfl, (B7.out.setCell (Nat.le_refl _) _).setCell (Nat.le_refl _) _⟩

theorem drawDue_any (a : Option Addr) (len cap : Nat) (w : World) (B : Bytes w a len) (ht : len ≤ 9223372036854775806) :
    Calls Try.prog 6 #[.slice a len cap] w fun e w' => ∃ n d j : Int, e = .returned (.tuple #[sh n d, .int .i64 j]) ∧ Below w.heap.size w w' := by
  have B0 : Hid (Bytes (w.alloc (.cells #[.int .i64 0, .int .i64 0] 25)) a len) := B.grown ((Below.refl _ w).alloc (Nat.le_refl _) _)
  have R0 : Hid (Sh (w.alloc (.cells #[.int .i64 0, .int .i64 0] 25)) w.heap.size 0 0) := sh_new w 0 0
  clear B
  go_enter Try.func6, Try.ntmps6
  go_wp2_with fail
  refine (drawReady_any a len cap _ B0.out ht).mono ?_
  rintro e w1 ⟨n, d, j, rfl, b1⟩
  have b1' : Hid (Below w.heap.size w w1) := ((Below.refl _ w).alloc (Nat.le_refl _) _).trans (b1.mono (by simp))
  have R1 : Hid (Sh w1 w.heap.size 0 0) := (b1.block _ (by simp)).trans R0.out
  clear b1 R0 B0
  have o0 := R1.out.c0
  have o1 := R1.out.c1
  have g0 := R1.out.fr 0
  have g1 := R1.out.fr 1
  go_wp2_with fail
  exact bodyPost_ret (ret_share2 rfl rfl rfl ((R1.out.set0 _).set1 _)) rfl ⟨_, _, _, rfl, (b1'.out.setCell (Nat.le_refl _) _).setCell (Nat.le_refl _) _⟩

end Go.Proofs.Ytodggdgcbhmjoaa.Draw
