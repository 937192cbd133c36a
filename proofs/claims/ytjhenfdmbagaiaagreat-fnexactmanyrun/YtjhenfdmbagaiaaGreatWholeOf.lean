/-
  How many of some Shares are whole: impl.WholeOf and spec.WholeOf at every slice, and the law FnExactWholeOf.
-/
import Derived.Test.YtjhenfdmbagaiaaGreatShsLaws
namespace Go.Proofs.YtjhenfdmbagaiaaGreat.Crew
open Go.ChangeShapes Go.WideShapes Go.ChangeAt Go.RowKit Go.Proofs.YtjhenfdmbagaiaaGreat.Win

/-- How many have Num as Den. -/
def wholeN (ps : List Shr) : Nat := ps.countP fun p => p.1 == p.2

theorem wholeN_le (ps : List Shr) : wholeN ps ≤ ps.length := List.countP_le_length

theorem wholeN_yes {ps : List Shr} {k : Nat} (h : k < ps.length) (he : (ps.getD k (0, 0)).1 = (ps.getD k (0, 0)).2) : wholeN (ps.take (k + 1)) = wholeN (ps.take k) + 1 := by
  rw [show ps.getD k (0, 0) = ps[k] by simp [List.getD, h]] at he
  rw [wholeN, List.take_succ_eq_append_getElem h, List.countP_append, List.countP_singleton, if_pos (by rw [he]; simp)]
  rfl

theorem wholeN_no {ps : List Shr} {k : Nat} (h : k < ps.length) (he : ¬ (ps.getD k (0, 0)).1 = (ps.getD k (0, 0)).2) : wholeN (ps.take (k + 1)) = wholeN (ps.take k) := by
  rw [show ps.getD k (0, 0) = ps[k] by simp [List.getD, h]] at he
  rw [wholeN, List.take_succ_eq_append_getElem h, List.countP_append, List.countP_singleton, if_neg (by simpa using he)]
  rfl

theorem wholeN_take (ps : List Shr) (k : Nat) : wholeN (ps.take k) ≤ k := Nat.le_trans (wholeN_le _) (by simp; omega)

theorem specWhole (a : Option Addr) (len cap : Nat) (ps : List Shr) (w : World) (I : Shs w a len ps) (hs : (len : Int) ≤ 1048576) :
    Calls Tryz.prog 72 #[.slice a len cap] w fun e w' => e = .returned (.int .i64 (wholeN ps)) ∧ Below w.heap.size w w' := by
  have HI : Hid (Shs w a len ps) := I
  clear I
  go_enter Tryz.func72, Tryz.ntmps72
  go_wp2_with fail
  go_loopw [3, 4] (fun q i wr => ∃ k c : Nat, k ≤ len ∧ i = .int .i64 k ∧ q = .int .i64 c ∧ c ≤ k ∧ Hid (c = wholeN (ps.take k)) ∧ Hid (Below w.heap.size w wr)) (fun _ i _ => len - (intOf i).toNat)
  case atStart => exact ⟨0, 0, Nat.zero_le _, rfl, rfl, Nat.le_refl _, by show _ = _; simp [wholeN], Below.refl _ _⟩
  case round =>
    obtain ⟨k, c, hk, rfl, rfl, hck, E, B⟩ := hrel
    by_cases hlt : k < len
    · obtain ⟨hl1, h0 | ⟨b1, off1, rfl, hb1, hc1⟩⟩ := HI.out.kept B.out
      · omega
      obtain ⟨x, hx⟩ : ∃ x, x = (ps.getD k (0, 0)).1 := ⟨_, rfl⟩
      obtain ⟨y, hy⟩ : ∃ y, y = (ps.getD k (0, 0)).2 := ⟨_, rfl⟩
      obtain ⟨p0, p1⟩ := hc1 k hlt
      rw [← hx] at p0
      rw [← hy] at p1
      have hlt' : (k : Int) < (len : Int) := by omega
      by_cases hxy : x = y
      · have E1 : Hid (c + 1 = wholeN (ps.take (k + 1))) := by rw [wholeN_yes (by omega) (by rw [← hx, ← hy]; exact hxy), ← E.out]; exact rfl
        have hn : (x == y) = true := by simp [hxy]
        clear hc1 hx hy hxy
        go_wp2_with fail
        go_quiet (fail)
        go_wp2_with fail
        go_roundw
        case rel => exact ⟨k + 1, c + 1, by omega, by go_num, by go_num, by omega, E1, below_drewN B.out _⟩
        case measure => simp [intOf]; omega
      · have E1 : Hid (c = wholeN (ps.take (k + 1))) := by rw [wholeN_no (by omega) (by rw [← hx, ← hy]; exact hxy)]; exact E
        have hn : (x == y) = false := by simp [hxy]
        clear hc1 hx hy hxy
        go_wp2_with fail
        go_quiet (fail)
        go_wp2_with fail
        go_roundw
        case rel => exact ⟨k + 1, c, by omega, by go_num, rfl, by omega, E1, below_drewN B.out _⟩
        case measure => simp [intOf]; omega
    · have hlt' : ¬ (k : Int) < (len : Int) := by omega
      have EF : Hid (c = wholeN ps) := by
        have := E.out
        rw [List.take_of_length_le (by have := HI.out.1; omega)] at this
        exact this
      go_wp2_with fail
      go_ret
      exact ⟨by rw [EF.out]; rfl, B.out⟩

theorem isWhole_any (n d : Int) (w : World) :
    Calls Tryz.prog 89 #[sh n d] w fun e w' => e = .returned (.bool (n == d)) ∧ w' = w.alloc (.cells #[.int .i64 n, .int .i64 d] 63) := by
  go_enter Tryz.func89, Tryz.ntmps89
  go_wp2_with fail
  go_ret
  exact ⟨rfl, rfl⟩

theorem implWhole (a : Option Addr) (len cap : Nat) (ps : List Shr) (w : World) (I : Shs w a len ps) (hs : (len : Int) ≤ 1048576) :
    Calls Tryz.prog 69 #[.slice a len cap] w fun e w' => e = .returned (.int .i64 (wholeN ps)) ∧ Below w.heap.size w w' := by
  have HI : Hid (Shs w a len ps) := I
  clear I
  go_enter Tryz.func69, Tryz.ntmps69
  go_wp2_with fail
  go_loopw [3, 8] (fun q i wr => ∃ k c : Nat, k ≤ len ∧ i = .int .i64 k ∧ q = .int .i64 c ∧ c ≤ k ∧ Hid (c = wholeN (ps.take k)) ∧ Hid (Below w.heap.size w wr)) (fun _ i _ => len - (intOf i).toNat)
  case atStart => exact ⟨0, 0, Nat.zero_le _, rfl, rfl, Nat.le_refl _, by show _ = _; simp [wholeN], Below.refl _ _⟩
  case round =>
    obtain ⟨k, c, hk, rfl, rfl, hck, E, B⟩ := hrel
    by_cases hlt : k < len
    · obtain ⟨hl1, h0 | ⟨b1, off1, rfl, hb1, hc1⟩⟩ := HI.out.kept B.out
      · omega
      obtain ⟨x, hx⟩ : ∃ x, x = (ps.getD k (0, 0)).1 := ⟨_, rfl⟩
      obtain ⟨y, hy⟩ : ∃ y, y = (ps.getD k (0, 0)).2 := ⟨_, rfl⟩
      obtain ⟨p0, p1⟩ := hc1 k hlt
      rw [← hx] at p0
      rw [← hy] at p1
      have hlt' : (k : Int) < (len : Int) := by omega
      have BZ : Hid (∀ t, Below w.heap.size w ((wr.alloc (.cells #[.int .i64 x, .int .i64 y] t)).alloc (.cells #[.int .i64 x, .int .i64 y] 63))) := fun t => (B.out.alloc B.out.size _).alloc (by have := B.out.size; simp; omega) _
      by_cases hxy : x = y
      · have E1 : Hid (c + 1 = wholeN (ps.take (k + 1))) := by rw [wholeN_yes (by omega) (by rw [← hx, ← hy]; exact hxy), ← E.out]; exact rfl
        have hn : (x == y) = true := by simp [hxy]
        clear hc1 hx hy hxy
        go_wp2_with fail
        refine (isWhole_any _ _ _).mono ?_
        rintro e w2 ⟨rfl, rfl⟩
        rw [hn]
        go_wp2_with fail
        go_roundw
        case rel => exact ⟨k + 1, c + 1, by omega, by go_num, by go_num, by omega, E1, BZ.out _⟩
        case measure => simp [intOf]; omega
      · have E1 : Hid (c = wholeN (ps.take (k + 1))) := by rw [wholeN_no (by omega) (by rw [← hx, ← hy]; exact hxy)]; exact E
        have hn : (x == y) = false := by simp [hxy]
        clear hc1 hx hy hxy
        go_wp2_with fail
        refine (isWhole_any _ _ _).mono ?_
        rintro e w2 ⟨rfl, rfl⟩
        rw [hn]
        go_wp2_with fail
        go_roundw
        case rel => exact ⟨k + 1, c, by omega, by go_num, rfl, by omega, E1, BZ.out _⟩
        case measure => simp [intOf]; omega
    · have hlt' : ¬ (k : Int) < (len : Int) := by omega
      have EF : Hid (c = wholeN ps) := by
        have := E.out
        rw [List.take_of_length_le (by have := HI.out.1; omega)] at this
        exact this
      go_wp2_with fail
      go_ret
      exact ⟨by rw [EF.out]; rfl, B.out⟩

end Go.Proofs.YtjhenfdmbagaiaaGreat.Crew
