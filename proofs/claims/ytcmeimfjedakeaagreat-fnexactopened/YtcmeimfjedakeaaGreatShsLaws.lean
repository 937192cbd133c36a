/-
  What the exact laws do with slices of Shares: how many there are, copy one, hold two against each other, mark one and look whether the marks are held.
-/
import Derived.Test.YtcmeimfjedakeaaGreatShsBase
import Derived.Test.YtcmeimfjedakeaaGreatKin
namespace Go.Proofs.YtcmeimfjedakeaaGreat.Crew
open Go.ChangeShapes Go.WideShapes Go.ChangeAt Go.RowKit Go.Proofs.YtcmeimfjedakeaaGreat.Win

/-- laws.szShareS, where there are not too many. -/
theorem szShares_yes (a : Option Addr) (len cap : Nat) (w : World) (hs : (len : Int) ≤ 1048576) :
    Calls Tryz.prog 116 #[.slice a len cap, .int .i64 1048576] w fun e w' => e = .returned (.int .i64 (1048576 - len)) ∧ w' = w := by
  have hn : ¬ (1048576 : Int) - (len : Int) < 0 := by omega
  go_enter Tryz.func116, Tryz.ntmps116
  go_wp2_with fail
  go_ret
  exact ⟨rfl, rfl⟩

theorem szShares_no (a : Option Addr) (len cap : Nat) (w : World) (hm : (len : Int) ≤ 9223372036854775807) (hs : ¬ (len : Int) ≤ 1048576) :
    Calls Tryz.prog 116 #[.slice a len cap, .int .i64 1048576] w fun e w' => e = .returned (.int .i64 (-1)) ∧ w' = w := by
  have hn : (1048576 : Int) - (len : Int) < 0 := by omega
  go_enter Tryz.func116, Tryz.ntmps116
  go_wp2_with fail
  go_ret
  exact ⟨rfl, rfl⟩

/-- laws.toShareS: a copy, in a block of its own. -/
theorem toShares_any (a : Option Addr) (len cap : Nat) (ps : List Shr) (w : World) (I : Shs w a len ps) (hs : (len : Int) ≤ 1048576) :
    Calls Tryz.prog 118 #[.slice a len cap] w fun e w' => e = .returned (.slice (some ⟨w.heap.size, 0, none⟩) len len) ∧ SRow w' w.heap.size len ps ∧ Below w.heap.size w w' := by
  obtain ⟨i0, hi, hz0, hz1, hz2⟩ := info_parts info_shr
  have HI : Hid (Shs w a len ps) := I
  clear I
  go_enter Tryz.func118, Tryz.ntmps118
  go_wp2_with (at_make; refine wpList_make_full _ rfl (.tmp 6) (.tmp 6) 32 rfl w.heap.size 122 i0 (.agg #[.int .i64 0, .int .i64 0]) 2 Tryz.underlying32 hi hz0 hz1 _ _ _ _ len rfl rfl rfl rfl (by rw [hz2]; omega) (by unfold maxLen; omega) (Nat.le_refl _) ?_)
  intro w1 hown hgrow
  have hown' : w1.ownsRow w.heap.size 122 2 (.slice (some ⟨w.heap.size, 0, none⟩) len len) len (flat (List.replicate len (0, 0))) := by rw [← made_shares]; exact hown
  have R0 : Hid (SRow w1 w.heap.size len (List.replicate len (0, 0))) := (srow_of_owns hown').1
  have B0 : Hid (Below w.heap.size w w1) := (Below.refl _ w).grown hgrow (Nat.le_refl _) (fun k h => by cases h)
  clear hown hown' hgrow hi hz0 hz1 hz2
  go_wp2_with fail
  go_loopw [4] (fun i wr => ∃ k : Nat, k ≤ len ∧ i = .int .i64 k ∧ Hid (SRow wr w.heap.size len (ps.take k ++ List.replicate (len - k) (0, 0))) ∧ Hid (Below w.heap.size w wr)) (fun i _ => len - (intOf i).toNat)
  case atStart => exact ⟨0, Nat.zero_le _, rfl, by simpa using R0, B0⟩
  case round =>
    obtain ⟨k, hk, rfl, R, B⟩ := hrel
    by_cases hlt : k < len
    · obtain ⟨hl, h0 | ⟨b, off, rfl, hb, hc⟩⟩ := HI.out.kept B.out
      · omega
      · obtain ⟨x, y, hz⟩ : ∃ x y, (x, y) = ps.getD k (0, 0) := ⟨_, _, rfl⟩
        obtain ⟨c0, c1⟩ := hc k hlt
        rw [← hz] at c0 c1
        have Z : Hid ((x, y) = ps.getD k (0, 0)) := hz
        clear hz hc
        simp only at c0 c1
        have hlt' : (k : Int) < (len : Int) := by omega
        go_wp2_with fail
        refine (toShare_any x y _).mono ?_
        rintro e w2 ⟨rfl, B2⟩
        have R2 : Hid (SRow w2 w.heap.size len (ps.take k ++ List.replicate (len - k) (0, 0))) := R.out.all B2
        have C2 : Hid (Below w.heap.size w w2) := B.out.trans (B2.mono B.out.size)
        have f0 := R2.out.frozen (k * 2)
        have f1 := R2.out.frozen (k * 2 + 1)
        have q0 := R2.out.c0 (j := k) (by simp; omega)
        have q1 := R2.out.c1 (j := k) (by simp; omega)
        generalize ((ps.take k ++ List.replicate (len - k) (0, 0)).getD k (0, 0)).1 = u at q0
        generalize ((ps.take k ++ List.replicate (len - k) (0, 0)).getD k (0, 0)).2 = v at q1
        clear B2 R B c0 c1
        go_wp2_with fail
        go_roundw
        case rel =>
          refine ⟨k + 1, by omega, by go_num, ?_, ?_⟩
          · have := R2.out.set k x y
            rw [Z.out, ← hl, shs_take_step (by omega), hl] at this
            exact this
          · exact C2.out.grown (grown_two _ _ _ _ _ _) C2.out.size (fun j hj => by cases hj; exact Nat.le_refl _)
        case measure => simp [intOf]; omega
    · have hlt' : ¬ (k : Int) < (len : Int) := by omega
      go_wp2_with fail
      go_ret
      have e : k = len := by omega
      subst e
      have := R.out
      simp [List.take_of_length_le (show ps.length ≤ k by have := HI.out.1; omega)] at this
      exact ⟨rfl, this, B.out⟩

theorem eqShare_same (n d : Int) (w : World) :
    Calls Tryz.prog 156 #[sh n d, sh n d] w fun e w' => e = .returned (.bool true) ∧ Below w.heap.size w w' := by
  have h1 : (n != n) = false := by simp
  have h2 : (d != d) = false := by simp
  go_enter Tryz.func156, Tryz.ntmps156
  go_wp2_with fail
  go_ret
  refine ⟨rfl, ?_⟩
  go_grown

/-- laws.eqShareS where both read alike. -/
theorem eqShares_same (a : Option Addr) (la ca : Nat) (ps : List Shr) (b : Option Addr) (lb cb : Nat) (w : World) (I : Shs w a la ps) (J : Shs w b lb ps) (hs : (la : Int) ≤ 1048576) :
    Calls Tryz.prog 120 #[.slice a la ca, .slice b lb cb] w fun e w' => e = .returned (.bool true) ∧ Below w.heap.size w w' := by
  have hll : la = lb := by have := I.1; have := J.1; omega
  subst hll
  have HI : Hid (Shs w a la ps) := I
  have HJ : Hid (Shs w b la ps) := J
  clear I J
  have hne : ((la : Int) != (la : Int)) = false := by simp
  go_enter Tryz.func120, Tryz.ntmps120
  go_wp2_with fail
  go_loopw [5] (fun i wr => ∃ k : Nat, k ≤ la ∧ i = .int .i64 k ∧ Hid (Below w.heap.size w wr)) (fun i _ => la - (intOf i).toNat)
  case atStart => exact ⟨0, Nat.zero_le _, rfl, Below.refl _ _⟩
  case round =>
    obtain ⟨k, hk, rfl, B⟩ := hrel
    by_cases hlt : k < la
    · obtain ⟨hl1, h0 | ⟨b1, off1, rfl, hb1, hc1⟩⟩ := HI.out.kept B.out
      · omega
      obtain ⟨hl2, h0 | ⟨b2, off2, rfl, hb2, hc2⟩⟩ := HJ.out.kept B.out
      · omega
      obtain ⟨x, hx⟩ : ∃ x, x = (ps.getD k (0, 0)).1 := ⟨_, rfl⟩
      obtain ⟨y, hy⟩ : ∃ y, y = (ps.getD k (0, 0)).2 := ⟨_, rfl⟩
      obtain ⟨p0, p1⟩ := hc1 k hlt
      obtain ⟨q0, q1⟩ := hc2 k hlt
      rw [← hx] at p0 q0
      rw [← hy] at p1 q1
      have c0 := fun z : Kin wr => z.cell (p := ⟨b1, off1 + k * 2, none⟩) hb1 p0
      have c1 := fun z : Kin wr => z.cell (p := ⟨b1, off1 + k * 2 + 1, none⟩) hb1 p1
      have d0 := fun z : Kin wr => z.cell (p := ⟨b2, off2 + k * 2, none⟩) hb2 q0
      have d1 := fun z : Kin wr => z.cell (p := ⟨b2, off2 + k * 2 + 1, none⟩) hb2 q1
      have hlt' : (k : Int) < (la : Int) := by omega
      clear hc1 hc2 hx hy p0 p1 q0 q1
      go_wp2_with fail
      refine wp_region_kin (by kernel_rfl) (by kernel_rfl) (fun hne => ?_)
      repeat (go_big_quiet_step ((go_at_call 156; exact kin_calls (eqShare_same _ _ _))))
      refine wpQuiet_nil ?_
      rintro _ ⟨z, rfl⟩
      have BZ : Hid (Below w.heap.size w z.u) := B.out.trans (z.b.mono B.out.size)
      clear c0 c1 d0 d1
      go_wp2_with fail
      go_roundw
      case rel => exact ⟨k + 1, by omega, by go_num, BZ⟩
      case measure => simp [intOf]; omega
    · have hlt' : ¬ (k : Int) < (la : Int) := by omega
      go_wp2_with fail
      go_ret
      exact ⟨rfl, B.out⟩

/-- The numbers from k on, two a Share. -/
def smarks (k : Int) (n : Nat) : List Shr := (List.range n).map (fun i : Nat => (k + 2 * (i : Int), k + 2 * (i : Int) + 1))

theorem smarks_length (k : Int) (n : Nat) : (smarks k n).length = n := by simp [smarks]

theorem smarks_get (k : Int) (n i : Nat) (h : i < n) : (smarks k n).getD i (0, 0) = (k + 2 * (i : Int), k + 2 * (i : Int) + 1) := by simp [smarks, List.getD, h]

theorem smarks_step (k : Int) (n : Nat) (ps : List Shr) (h : n < ps.length) : (smarks k n ++ ps.drop n).set n (k + 2 * (n : Int), k + 2 * (n : Int) + 1) = smarks k (n + 1) ++ ps.drop (n + 1) := by
  have e : smarks k (n + 1) = smarks k n ++ [(k + 2 * (n : Int), k + 2 * (n : Int) + 1)] := by simp [smarks, List.range_succ]
  rw [List.set_append_right _ _ (by rw [smarks_length]; omega), smarks_length, Nat.sub_self, List.drop_eq_getElem_cons h, List.set_cons_zero, e, List.append_assoc]
  rfl

/-- laws.markShareS: it writes the numbers from k on into the row. -/
theorem markShares_any (g cap : Nat) (ps : List Shr) (k : Int) (w : World) (R : SRow w g cap ps) (hs : (ps.length : Int) ≤ 1048576) (hk0 : 0 ≤ k) (hk1 : k ≤ 1000000000000) :
    Calls Tryz.prog 121 #[.slice (some ⟨g, 0, none⟩) ps.length cap, .int .i64 k] w fun e w' => e = .returned (.int .i64 (k + 2 * ps.length)) ∧ SRow w' g cap (smarks k ps.length) ∧ w.grownBy w' (some g) := by
  have HR : Hid (SRow w g cap ps) := R
  clear R
  obtain ⟨len, hlen⟩ : ∃ len, len = ps.length := ⟨_, rfl⟩
  rw [← hlen] at hs ⊢
  have HL : Hid (len = ps.length) := hlen
  clear hlen
  go_enter Tryz.func121, Tryz.ntmps121
  go_wp2_with fail
  go_loopw [1, 5] (fun q i wr => ∃ n : Nat, n ≤ len ∧ i = .int .i64 n ∧ q = .int .i64 (k + 2 * n) ∧ Hid (SRow wr g cap (smarks k n ++ ps.drop n)) ∧ Hid (w.grownBy wr (some g))) (fun _ i _ => len - (intOf i).toNat)
  case atStart => exact ⟨0, Nat.zero_le _, rfl, by simp, by simpa [smarks] using HR, World.grownBy.refl _ _⟩
  case round =>
    obtain ⟨n, hn, rfl, rfl, R, G⟩ := hrel
    by_cases hlt : n < len
    · have hlt' : (n : Int) < (len : Int) := by omega
      have f0 := R.out.frozen (n * 2)
      have f1 := R.out.frozen (n * 2 + 1)
      have q0 := R.out.c0 (j := n) (by have := HL.out; simp [smarks_length]; omega)
      have q1 := R.out.c1 (j := n) (by have := HL.out; simp [smarks_length]; omega)
      generalize ((smarks k n ++ ps.drop n).getD n (0, 0)).1 = u at q0
      generalize ((smarks k n ++ ps.drop n).getD n (0, 0)).2 = v at q1
      have H3 : Hid (SRow ((wr.setCell ⟨g, n * 2, none⟩ (.int .i64 (k + 2 * n))).setCell ⟨g, n * 2 + 1, none⟩ (.int .i64 (k + 2 * n + 1))) g cap (smarks k (n + 1) ++ ps.drop (n + 1))) := by
        have := R.out.set n (k + 2 * n) (k + 2 * n + 1)
        rw [smarks_step k n ps (by have := HL.out; omega)] at this
        exact this
      go_wp2_with fail
      go_roundw
      case rel => exact ⟨n + 1, by omega, by go_num, by go_num, H3, G.out.trans (grown_two _ _ _ _ _ _)⟩
      case measure => simp [intOf]; omega
    · have hlt' : ¬ (n : Int) < (len : Int) := by omega
      go_wp2_with fail
      go_ret
      have e : n = len := by omega
      subst e
      have := R.out
      rw [List.drop_eq_nil_of_le (by have := HL.out; omega), List.append_nil] at this
      exact ⟨rfl, this, G.out⟩

/-- laws.heldShareS where the marks are held. -/
theorem heldShares_any (a : Option Addr) (len cap : Nat) (k : Int) (w : World) (I : Shs w a len (smarks k len)) (hs : (len : Int) ≤ 1048576) (hk0 : 0 ≤ k) (hk1 : k ≤ 1000000000000) :
    Calls Tryz.prog 122 #[.slice a len cap, .int .i64 k] w fun e w' => e = .returned (.int .i64 (k + 2 * len)) ∧ Below w.heap.size w w' := by
  have HI : Hid (Shs w a len (smarks k len)) := I
  clear I
  go_enter Tryz.func122, Tryz.ntmps122
  go_wp2_with fail
  go_loop [1, 5] (fun q i => ∃ n : Nat, n ≤ len ∧ i = .int .i64 n ∧ q = .int .i64 (k + 2 * n)) (fun _ i => len - (intOf i).toNat)
  case atStart => exact ⟨0, Nat.zero_le _, rfl, by simp⟩
  case round =>
    obtain ⟨n, hn, rfl, rfl⟩ := hrel
    by_cases hlt : n < len
    · obtain ⟨hl1, h0 | ⟨b1, off1, rfl, hb1, hc1⟩⟩ := HI.out
      · omega
      have hlt' : (n : Int) < (len : Int) := by omega
      obtain ⟨c1, c2⟩ := hc1 n hlt
      rw [smarks_get k len n hlt] at c1 c2
      simp only at c1 c2
      have hne : (k + 2 * (n : Int) != k + 2 * (n : Int)) = false := by simp
      have hne' : (k + 2 * (n : Int) + 1 != k + 2 * (n : Int) + 1) = false := by simp
      clear hc1
      go_wp2_with fail
      go_round
      case rel => exact ⟨n + 1, by omega, by go_num, by go_num⟩
      case measure => simp [intOf]; omega
    · have hlt' : ¬ (n : Int) < (len : Int) := by omega
      go_wp2_with fail
      go_ret
      have e : n = len := by omega
      subst e
      exact ⟨rfl, Below.refl _ _⟩

end Go.Proofs.YtcmeimfjedakeaaGreat.Crew

/-
  laws.likeShares where both read alike.
-/
namespace Go.Proofs.YtcmeimfjedakeaaGreat.Crew
open Go.ChangeShapes Go.WideShapes Go.ChangeAt Go.RowKit

/-- laws.likeShares where both read alike. -/
theorem likeShares_same (a : Option Addr) (la ca : Nat) (ps : List Shr) (b : Option Addr) (lb cb : Nat) (w : World) (I : Shs w a la ps) (J : Shs w b lb ps) (hs : (la : Int) ≤ 1048576) :
    Calls Tryz.prog 103 #[.slice a la ca, .slice b lb cb] w fun e w' => e = .returned (.bool true) ∧ Below w.heap.size w w' := by
  have hll : la = lb := by have := I.1; have := J.1; omega
  subst hll
  have HI : Hid (Shs w a la ps) := I
  have HJ : Hid (Shs w b la ps) := J
  clear I J
  have hne : ((la : Int) != (la : Int)) = false := by simp
  go_enter Tryz.func103, Tryz.ntmps103
  go_wp2_with fail
  go_loopw [5] (fun i wr => ∃ k : Nat, k ≤ la ∧ i = .int .i64 k ∧ Hid (Below w.heap.size w wr)) (fun i _ => la - (intOf i).toNat)
  case atStart => exact ⟨0, Nat.zero_le _, rfl, Below.refl _ _⟩
  case round =>
    obtain ⟨k, hk, rfl, B⟩ := hrel
    by_cases hlt : k < la
    · obtain ⟨hl1, h0 | ⟨b1, off1, rfl, hb1, hc1⟩⟩ := HI.out.kept B.out
      · omega
      obtain ⟨hl2, h0 | ⟨b2, off2, rfl, hb2, hc2⟩⟩ := HJ.out.kept B.out
      · omega
      obtain ⟨x, hx⟩ : ∃ x, x = (ps.getD k (0, 0)).1 := ⟨_, rfl⟩
      obtain ⟨y, hy⟩ : ∃ y, y = (ps.getD k (0, 0)).2 := ⟨_, rfl⟩
      obtain ⟨p0, p1⟩ := hc1 k hlt
      obtain ⟨q0, q1⟩ := hc2 k hlt
      rw [← hx] at p0 q0
      rw [← hy] at p1 q1
      have hlt' : (k : Int) < (la : Int) := by omega
      clear hc1 hc2 hx hy
      go_wp2_with fail
      go_quiet (fail)
      have BZ : Hid (∀ n, Below w.heap.size w (wr.drewN n)) := fun n => below_drewN B.out n
      go_wp2_with fail
      go_roundw
      case rel => exact ⟨k + 1, by omega, by go_num, BZ.out _⟩
      case measure => simp [intOf]; omega
    · have hlt' : ¬ (k : Int) < (la : Int) := by omega
      go_wp2_with fail
      go_ret
      exact ⟨rfl, B.out⟩

end Go.Proofs.YtcmeimfjedakeaaGreat.Crew
