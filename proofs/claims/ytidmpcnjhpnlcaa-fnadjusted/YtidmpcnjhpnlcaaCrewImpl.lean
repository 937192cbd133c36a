/-
  impl.ByWeight at every slice.
-/
import Derived.Test.YtidmpcnjhpnlcaaCrewSort
namespace Go.Proofs.Ytidmpcnjhpnlcaa.Crew
open Go.ChangeShapes Go.WideShapes Go.ChangeAt Go.RowKit

/-- All numbers, the heavier ones first; nothing where it is no crew. -/
def byWeight (ws : List Int) : List Int := if crewOk ws then byW ws ws.length else []

theorem heavier_any (bx : Nat) (a : Option Addr) (len cap : Nat) (ws : List Int) (x y : Nat) (w : World) (hbx : w.cell? ⟨bx, 0, none⟩ = some (.slice a len cap)) (I : Ints w a len ws) (hx : x < len) (hy : y < len) :
    Calls Try.prog 56 #[.int .i64 x, .int .i64 y, .pointer (some ⟨bx, 0, none⟩)] w fun e w' => e = .returned (.bool (heavier ws x y)) ∧ Below w.heap.size w w' := by
  obtain ⟨hl, h0 | ⟨b, off, rfl, hb, hc⟩⟩ := I
  · omega
  obtain ⟨p, hp⟩ : ∃ p, p = ws.getD x 0 := ⟨_, rfl⟩
  obtain ⟨q, hq⟩ : ∃ q, q = ws.getD y 0 := ⟨_, rfl⟩
  have c1 := hc x hx
  have c2 := hc y hy
  rw [← hp] at c1
  rw [← hq] at c2
  have hx' : (x : Int) < (len : Int) := by omega
  have hy' : (y : Int) < (len : Int) := by omega
  have he : heavier ws x y = decide (q < p) := by simp [heavier, hp, hq]
  rw [he]
  clear hc hp hq he
  go_enter Try.func56, Try.ntmps56
  go_wp2_with fail
  go_quiet (fail)
  go_wp2_with fail
  go_ret
  exact ⟨rfl, below_drewN (Below.refl _ _) _⟩

theorem nums_step {n k : Nat} (h : k < n) : (nums k ++ List.replicate (n - k) 0).set k (k : Int) = nums (k + 1) ++ List.replicate (n - (k + 1)) 0 := by
  rw [show n - k = (n - (k + 1)) + 1 by omega, List.replicate_succ, List.set_append_right _ _ (by rw [nums_length]; omega), nums_length, Nat.sub_self, List.set_cons_zero, nums_succ, List.append_assoc]
  rfl

/-- Where it is a crew. -/
theorem implBy_yes (a : Option Addr) (len cap : Nat) (ws : List Int) (w : World) (I : Ints w a len ws) (hc : crewOk ws = true) :
    Calls Try.prog 34 #[.slice a len cap] w fun e w' => ∃ g, e = .returned (.slice (some ⟨g, 0, none⟩) len len) ∧ Row w' g len (byW ws len) ∧ w.heap.size ≤ g ∧ Below w.heap.size w w' := by
  obtain ⟨i0, hi, hz0, hz1, hz2⟩ := info_parts info_int
  have hs : (len : Int) ≤ 24 := by have := crew_len hc; have := I.1; omega
  have HI : Hid (Ints w a len ws) := I
  have HC : Hid (crewOk ws = true) := hc
  have B1 := (Below.refl w.heap.size w).alloc (Nat.le_refl _) (.cells #[.slice a len cap] 24)
  have hbx : (w.alloc (.cells #[.slice a len cap] 24)).cell? ⟨w.heap.size, 0, none⟩ = some (.slice a len cap) := by rw [cell_of_row _ w.heap.size _ _ _ _ (heap_alloc_new w _)]; rfl
  clear I hc
  go_enter Try.func34, Try.ntmps34
  go_wp2_with fail
  refine (implCrewOk a len cap ws _ (HI.out.kept B1)).mono ?_
  rw [HC.out]
  rintro e w1 ⟨rfl, rfl⟩
  go_wp2_with (at_make; refine wpList_make_full _ rfl (.tmp 10) (.tmp 10) 24 rfl 0 2 i0 (.int .i64 0) 1 Try.underlying24 hi hz0 hz1 _ _ _ _ len rfl rfl rfl rfl (by rw [hz2]; omega) (by unfold maxLen; omega) (Nat.zero_le _) ?_)
  intro w2 hown hgrow
  rw [made_zero] at hown
  have R0 := (row_of_owns hown).1
  have B2 := B1.grown hgrow (by simp) (fun k h => by cases h)
  have hbx2 := hgrow.cell hbx (by simp)
  clear hown hgrow hi hz0 hz1 hz2
  have RH : Hid (Row w2 (w.heap.size + 1) len (List.replicate len 0)) := R0
  have BH : Hid (Below w.heap.size w w2) := B2
  have CB : Hid (w2.cell? ⟨w.heap.size, 0, none⟩ = some (.slice a len cap)) := hbx2
  clear R0 B2 hbx2 hbx B1
  go_wp2_with fail
  go_loopw [4, 14] (fun _ i wr => ∃ k : Nat, k ≤ len ∧ i = .int .i64 k ∧ Hid (Row wr (w.heap.size + 1) len (nums k ++ List.replicate (len - k) 0)) ∧ Hid (w2.grownBy wr (some (w.heap.size + 1)))) (fun _ i _ => len - (intOf i).toNat)
  case atStart => exact ⟨0, Nat.zero_le _, rfl, by simpa [nums] using RH, World.grownBy.refl _ _⟩
  case round =>
    obtain ⟨k, hk, rfl, R, G⟩ := hrel
    by_cases hlt : k < len
    · have hlt' : (k : Int) < (len : Int) := by omega
      have f0 := R.out.frozen k
      obtain ⟨y, c1⟩ : ∃ y, wr.cell? ⟨w.heap.size + 1, k, none⟩ = some (.int .i64 y) := ⟨_, R.out.cell (j := k) (by simp [nums_length]; omega)⟩
      go_wp2_with fail
      go_roundw
      case rel =>
        refine ⟨k + 1, by omega, by go_num, ?_, G.out.trans (grown_at _ _ _ _)⟩
        have := R.out.set k (k : Int)
        rw [nums_step hlt] at this
        exact this
      case measure => simp [intOf]; omega
    · have hlt' : ¬ (k : Int) < (len : Int) := by omega
      have e : k = len := by omega
      subst e
      have RN : Hid (Row wr (w.heap.size + 1) k (nums k)) := by
        have := R.out
        rw [Nat.sub_self, List.replicate_zero, List.append_nil] at this
        exact this
      have BN : Hid (Below w.heap.size w wr) := BH.out.grown G.out (by have := BH.out.size; omega) (fun j hj => by cases hj; omega)
      have CN : Hid (wr.cell? ⟨w.heap.size, 0, none⟩ = some (.slice a k cap)) := G.out.cell CB.out (by simp)
      have IN : Hid (Ints wr a k ws) := HI.out.kept BN.out
      have hsz : w.heap.size + 1 < wr.heap.size := RN.out.lt
      have HN := RN.out.ints
      rw [nums_length] at HN
      clear R G
      go_wp2_with fail
      refine (sortedBy_any _ k k w.heap.size (nums k) (heavier ws) _ HN (by omega) ?_).mono ?_
      · intro wx x y bx hx hy
        obtain ⟨x', hx1, rfl⟩ := mem_nums hx
        obtain ⟨y', hy1, rfl⟩ := mem_nums hy
        exact heavier_any w.heap.size a k cap ws x' y' wx (by rw [bx.cell (p := ⟨w.heap.size, 0, none⟩) (by show w.heap.size < wr.heap.size; omega)]; exact CN.out) (IN.out.kept bx) hx1 hy1
      · rintro e w3 ⟨rfl, R3, B3⟩
        have BF : Hid (Below w.heap.size w w3) := BN.out.trans (B3.mono (by omega))
        have RF : Hid (Row w3 wr.heap.size k (byW ws k)) := R3
        clear R3 B3 HN
        go_wp2_with fail
        go_ret
        exact ⟨wr.heap.size, rfl, RF.out, by omega, BF.out⟩

/-- Where it is none. -/
theorem implBy_no (a : Option Addr) (len cap : Nat) (ws : List Int) (w : World) (I : Ints w a len ws) (hc : crewOk ws = false) :
    Calls Try.prog 34 #[.slice a len cap] w fun e w' => ∃ g, e = .returned (.slice (some ⟨g, 0, none⟩) 0 0) ∧ Row w' g 0 [] ∧ w.heap.size ≤ g ∧ Below w.heap.size w w' := by
  have HI : Hid (Ints w a len ws) := I
  have HC : Hid (crewOk ws = false) := hc
  have B1 := (Below.refl w.heap.size w).alloc (Nat.le_refl _) (.cells #[.slice a len cap] 24)
  have R2 := row_new (w.alloc (.cells #[.slice a len cap] 24)) [] (by simp [maxLen])
  have B2 := B1.alloc (by simp) (.cells #[] 2)
  clear I hc
  go_enter Try.func34, Try.ntmps34
  go_wp2_with fail
  refine (implCrewOk a len cap ws _ (HI.out.kept B1)).mono ?_
  rw [HC.out]
  rintro e w1 ⟨rfl, rfl⟩
  go_wp2_with fail
  go_ret
  exact ⟨_, rfl, by simpa using R2, by simp, B2⟩

/-- impl.ByWeight at every slice. -/
theorem implBy (a : Option Addr) (len cap : Nat) (ws : List Int) (w : World) (I : Ints w a len ws) :
    Calls Try.prog 34 #[.slice a len cap] w fun e w' => ∃ g cp, e = .returned (.slice (some ⟨g, 0, none⟩) (byWeight ws).length cp) ∧ Row w' g cp (byWeight ws) ∧ w.heap.size ≤ g ∧ Below w.heap.size w w' := by
  have hl := I.1
  cases hc : crewOk ws
  · refine (implBy_no a len cap ws w I hc).mono ?_
    rintro e w' ⟨g, rfl, r⟩
    have e : byWeight ws = [] := by simp [byWeight, hc]
    rw [e]
    exact ⟨g, 0, rfl, r⟩
  · refine (implBy_yes a len cap ws w I hc).mono ?_
    rintro e w' ⟨g, rfl, r⟩
    have e : byWeight ws = byW ws len := by simp [byWeight, hc, hl]
    rw [e, byW_length]
    exact ⟨g, len, rfl, r⟩

end Go.Proofs.Ytidmpcnjhpnlcaa.Crew
