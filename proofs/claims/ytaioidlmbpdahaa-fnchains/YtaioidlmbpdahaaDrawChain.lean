/-
  spec.DrawChainEnd: some share and some turn; everything that was there stays as it was.
-/
import Derived.Test.YtaioidlmbpdahaaDrawShare
namespace Go.Proofs.Ytaioidlmbpdahaa.Draw
open Go.ChangeShapes Go.WideShapes Go.ChangeAt Go.RowKit
open Go.Proofs.Ytaioidlmbpdahaa.Win

theorem grown_below {w w' : World} (b : Below w.heap.size w w') : w.grownBy w' none := ⟨b.os, b.tape, b.output, b.size, fun i hi _ => b.block i hi⟩

theorem Sh.kept {w w' : World} {b : Nat} {n d : Int} (h : Sh w b n d) (k : Below w.heap.size w w') : Sh w' b n d := h.other (grown_below k) (by simp)

set_option maxHeartbeats 1000000 in
theorem drawChain_any (a : Option Addr) (len cap : Nat) (w : World) (B : Bytes w a len) (ht : len ≤ 9223372036854775806) :
    Calls Try.prog 7 #[.slice a len cap] w fun e w' => ∃ n d j : Int, e = .returned (.tuple #[sh n d, .int .i64 j]) ∧ Below w.heap.size w w' := by
  have B0 : Hid (Bytes (w.alloc (.cells #[.int .i64 0, .int .i64 0] 25)) a len) := B.grown ((Below.refl _ w).alloc (Nat.le_refl _) _)
  have HB : Hid (Below w.heap.size w (w.alloc (.cells #[.int .i64 0, .int .i64 0] 25))) := (Below.refl _ w).alloc (Nat.le_refl _) _
  have R0 : Hid (Sh (w.alloc (.cells #[.int .i64 0, .int .i64 0] 25)) w.heap.size 0 0) := sh_new w 0 0
  clear B
  go_enter Try.func7, Try.ntmps7
  go_wp2_with fail
  refine (new_any a len cap _ B0.out ht).mono ?_
  rintro e w1 ⟨rfl, h, rfl⟩
  have hz : (w.alloc (.cells #[.int .i64 0, .int .i64 0] 25)).heap.size = w.heap.size + 1 := by simp
  have C1 : Hid (Cur .i64 47 (w.heap.size + 1) a len cap ((w.alloc (.cells #[.int .i64 0, .int .i64 0] 25)).alloc (.cells #[.slice a len cap, .int .i64 0, .int .i64 h] 47))) := by
    have := cur_new (k := .i64) (T := 47) (cap := cap) B0.out ht h
    rw [hz] at this
    exact this
  have R1 : Hid (Sh ((w.alloc (.cells #[.int .i64 0, .int .i64 0] 25)).alloc (.cells #[.slice a len cap, .int .i64 0, .int .i64 h] 47)) w.heap.size 0 0) := R0.out.alloc _
  have B1 : Hid (Below w.heap.size w ((w.alloc (.cells #[.int .i64 0, .int .i64 0] 25)).alloc (.cells #[.slice a len cap, .int .i64 0, .int .i64 h] 47))) := HB.out.alloc (by simp) _
  rw [hz]
  clear R0 HB B0 hz
  generalize (w.alloc (.cells #[.int .i64 0, .int .i64 0] 25)).alloc (.cells #[.slice a len cap, .int .i64 0, .int .i64 h] 47) = v at *
  have hpv := C1.out.lt
  go_wp2_with fail
  refine (draw_any_share 47 (w.heap.size + 1) a len cap _ C1.out).mono ?_
  rintro e w2 ⟨n, d, rfl, L2⟩
  have H2 : Hid (Left .i64 47 (w.heap.size + 1) a len cap v w2 ∧ Sh w2 w.heap.size 0 0) := ⟨L2, R1.out.left L2 (by omega)⟩
  have hs : v.heap.size ≤ w2.heap.size := L2.1.size
  clear L2 R1
  go_wp2_with fail
  have H3 : Hid (Left .i64 47 (w.heap.size + 1) a len cap v (w2.alloc (.cells #[.int .i64 n, .int .i64 d] 25)) ∧ Sh (w2.alloc (.cells #[.int .i64 n, .int .i64 d] 25)) w.heap.size 0 0 ∧ Sh (w2.alloc (.cells #[.int .i64 n, .int .i64 d] 25)) w2.heap.size n d) := ⟨left_new H2.out.1 hpv _, H2.out.2.alloc _, sh_new _ _ _⟩
  clear H2
  generalize w2.alloc (.cells #[.int .i64 n, .int .i64 d] 25) = w3 at *
  generalize w2.heap.size = s at *
  refine (once_any 47 (w.heap.size + 1) a len cap _ _ (H3.out.1.cur C1.out)).mono ?_
  rintro e w4 ⟨t, rfl, L4⟩
  have H4 : Hid (Left .i64 47 (w.heap.size + 1) a len cap v w4 ∧ Sh w4 w.heap.size 0 0 ∧ Sh w4 s n d) := ⟨H3.out.1.trans L4, H3.out.2.1.left L4 (by omega), H3.out.2.2.left L4 (by omega)⟩
  clear L4 H3
  have s0 := H4.out.2.2.c0
  have s1 := H4.out.2.2.c1
  have ns : ¬ s = w.heap.size := by omega
  have ns' : ¬ w.heap.size = s := by omega
  cases t
  · go_wp2_with fail
    clear s0 s1
    generalize w4 = w6 at *
    generalize n = m at *
    have DC : Hid (Cur .i64 47 (w.heap.size + 1) a len cap w6.drew) := cur_drew (H4.out.1.cur C1.out)
    have s0 := H4.out.2.2.c0
    have s1 := H4.out.2.2.c1
    go_region_with (go_at_call 18; refine (draw_turn 47 (w.heap.size + 1) a len cap _ DC.out).mono ?_; rintro e w7 ⟨q, rfl, L7⟩; have H7 : Hid (Left .i64 47 (w.heap.size + 1) a len cap v w7 ∧ Sh w7 w.heap.size 0 0 ∧ Sh w7 s m d) := ⟨(left_drew H4.out.1).trans L7, Sh.left (w := w6.drew) H4.out.2.1 L7 (by omega), Sh.left (w := w6.drew) H4.out.2.2 L7 (by omega)⟩; have e0 := H7.out.2.2.c0; have e1 := H7.out.2.2.c1; have o0 := H7.out.2.1.c0; have o1 := H7.out.2.1.c1; have g0 := H7.out.2.1.fr 0; have g1 := H7.out.2.1.fr 1; clear L7)
    all_goals
      have B7 : Hid (Below w.heap.size w w7) := B1.out.trans (left_below H7.out.1 (by omega) hpv)
      go_wp2_with fail
      exact bodyPost_ret (ret_share2 rfl rfl rfl ((H7.out.2.1.set0 _).set1 _)) rfl ⟨_, _, _, rfl, (B7.out.setCell (Nat.le_refl _) _).setCell (Nat.le_refl _) _⟩
  · cases hk : shareOk n d
    · go_wp2_with fail
      refine (specShareOk n d _).mono ?_
      rw [hk]
      rintro e w6 ⟨rfl, b6⟩
      have H6 : Hid (Left .i64 47 (w.heap.size + 1) a len cap v w6 ∧ Sh w6 w.heap.size 0 0 ∧ Sh w6 s n d) := ⟨left_own H4.out.1 (grown_below b6) (by simp) hpv, H4.out.2.1.kept b6, H4.out.2.2.kept b6⟩
      clear H4 b6 s0 s1
      go_wp2_with fail
      have DC : Hid (Cur .i64 47 (w.heap.size + 1) a len cap w6.drew) := cur_drew (H6.out.1.cur C1.out)
      have s0 := H6.out.2.2.c0
      have s1 := H6.out.2.2.c1
      go_region_with (go_at_call 18; refine (draw_turn 47 (w.heap.size + 1) a len cap _ DC.out).mono ?_; rintro e w7 ⟨q, rfl, L7⟩; have H7 : Hid (Left .i64 47 (w.heap.size + 1) a len cap v w7 ∧ Sh w7 w.heap.size 0 0 ∧ Sh w7 s n d) := ⟨(left_drew H6.out.1).trans L7, Sh.left (w := w6.drew) H6.out.2.1 L7 (by omega), Sh.left (w := w6.drew) H6.out.2.2 L7 (by omega)⟩; have e0 := H7.out.2.2.c0; have e1 := H7.out.2.2.c1; have o0 := H7.out.2.1.c0; have o1 := H7.out.2.1.c1; have g0 := H7.out.2.1.fr 0; have g1 := H7.out.2.1.fr 1; clear L7)
      all_goals
        have B7 : Hid (Below w.heap.size w w7) := B1.out.trans (left_below H7.out.1 (by omega) hpv)
        go_wp2_with fail
        exact bodyPost_ret (ret_share2 rfl rfl rfl ((H7.out.2.1.set0 _).set1 _)) rfl ⟨_, _, _, rfl, (B7.out.setCell (Nat.le_refl _) _).setCell (Nat.le_refl _) _⟩
    · obtain ⟨n1, n2, d2⟩ := share_yes hk
      go_wp2_with fail
      refine (specShareOk n d _).mono ?_
      rw [hk]
      rintro e w5 ⟨rfl, b5⟩
      have H5 : Hid (Left .i64 47 (w.heap.size + 1) a len cap v w5 ∧ Sh w5 w.heap.size 0 0 ∧ Sh w5 s n d) := ⟨left_own H4.out.1 (grown_below b5) (by simp) hpv, H4.out.2.1.kept b5, H4.out.2.2.kept b5⟩
      clear H4 b5 s0 s1
      have s0 := H5.out.2.2.c0
      have s1 := H5.out.2.2.c1
      have f0 := H5.out.2.2.fr 0
      go_wp2_with fail
      generalize d - d / 3 = m at *
      have H6 : Hid (Left .i64 47 (w.heap.size + 1) a len cap v (w5.setCell ⟨s, 0, none⟩ (.int .i64 m)) ∧ Sh (w5.setCell ⟨s, 0, none⟩ (.int .i64 m)) w.heap.size 0 0 ∧ Sh (w5.setCell ⟨s, 0, none⟩ (.int .i64 m)) s m d) :=
        ⟨left_set H5.out.1 (by omega) hpv _ _, H5.out.2.1.past (by omega) _, H5.out.2.2.set0 _⟩
      clear H5 s0 s1 f0
      generalize w5.setCell ⟨s, 0, none⟩ (.int .i64 m) = w6 at *
      have DC : Hid (Cur .i64 47 (w.heap.size + 1) a len cap w6.drew) := cur_drew (H6.out.1.cur C1.out)
      have s0 := H6.out.2.2.c0
      have s1 := H6.out.2.2.c1
      go_region_with (go_at_call 18; refine (draw_turn 47 (w.heap.size + 1) a len cap _ DC.out).mono ?_; rintro e w7 ⟨q, rfl, L7⟩; have H7 : Hid (Left .i64 47 (w.heap.size + 1) a len cap v w7 ∧ Sh w7 w.heap.size 0 0 ∧ Sh w7 s m d) := ⟨(left_drew H6.out.1).trans L7, Sh.left (w := w6.drew) H6.out.2.1 L7 (by omega), Sh.left (w := w6.drew) H6.out.2.2 L7 (by omega)⟩; have e0 := H7.out.2.2.c0; have e1 := H7.out.2.2.c1; have o0 := H7.out.2.1.c0; have o1 := H7.out.2.1.c1; have g0 := H7.out.2.1.fr 0; have g1 := H7.out.2.1.fr 1; clear L7)
      all_goals
        have B7 : Hid (Below w.heap.size w w7) := B1.out.trans (left_below H7.out.1 (by omega) hpv)
        go_wp2_with fail
        exact bodyPost_ret (ret_share2 rfl rfl rfl ((H7.out.2.1.set0 _).set1 _)) rfl ⟨_, _, _, rfl, (B7.out.setCell (Nat.le_refl _) _).setCell (Nat.le_refl _) _⟩

end Go.Proofs.Ytaioidlmbpdahaa.Draw
