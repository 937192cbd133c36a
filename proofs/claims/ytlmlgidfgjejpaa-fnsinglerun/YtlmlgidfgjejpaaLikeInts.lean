/-
  laws.likeInts: are two slices of int64 alike.
-/
import Derived.Test.YtlmlgidfgjejpaaIntsLaws
namespace Go.Proofs.Ytlmlgidfgjejpaa.Crew
open Go.ChangeShapes Go.WideShapes Go.ChangeAt Go.RowKit

/-- laws.likeInts: are the two alike. -/
theorem likeInts_any (a : Option Addr) (la ca : Nat) (xs : List Int) (b : Option Addr) (lb cb : Nat) (ys : List Int) (w : World) (I : Ints w a la xs) (J : Ints w b lb ys) (hs : (la : Int) ≤ 1048576) :
    Calls Try.prog 16 #[.slice a la ca, .slice b lb cb] w fun e w' => e = .returned (.bool (decide (xs = ys))) ∧ Below w.heap.size w w' := by
  have HI : Hid (Ints w a la xs) := I
  have HJ : Hid (Ints w b lb ys) := J
  clear I J
  by_cases hll : la = lb
  · subst hll
    have hne : ((la : Int) != (la : Int)) = false := by simp
    go_enter Try.func16, Try.ntmps16
    go_wp2_with fail
    go_loopw [5] (fun i wr => ∃ k : Nat, k ≤ la ∧ i = .int .i64 k ∧ Hid (xs.take k = ys.take k) ∧ Hid (Below w.heap.size w wr)) (fun i _ => la - (intOf i).toNat)
    case atStart => exact ⟨0, Nat.zero_le _, rfl, by show _ = _; simp, Below.refl _ _⟩
    case round =>
      obtain ⟨k, hk, rfl, E, B⟩ := hrel
      by_cases hlt : k < la
      · obtain ⟨hl1, h0 | ⟨b1, off1, rfl, hb1, hc1⟩⟩ := HI.out.kept B.out
        · omega
        obtain ⟨hl2, h0 | ⟨b2, off2, rfl, hb2, hc2⟩⟩ := HJ.out.kept B.out
        · omega
        obtain ⟨x, hx⟩ : ∃ x, x = xs.getD k 0 := ⟨_, rfl⟩
        obtain ⟨y, hy⟩ : ∃ y, y = ys.getD k 0 := ⟨_, rfl⟩
        have c1 := hc1 k hlt
        have c2 := hc2 k hlt
        rw [← hx] at c1
        rw [← hy] at c2
        have X : Hid (x = xs.getD k 0) := hx
        have Y : Hid (y = ys.getD k 0) := hy
        have hlt' : (k : Int) < (la : Int) := by omega
        clear hc1 hc2 hx hy
        by_cases hxy : x = y
        · have XY : Hid (x = y) := hxy
          have hn : (x != y) = false := by simp [hxy]
          clear hxy
          go_wp2_with fail
          go_quiet (fail)
          go_wp2_with fail
          go_roundw
          case rel => exact ⟨k + 1, by omega, by go_num, take_same E.out (by omega) (by omega) (by rw [← X.out, ← Y.out]; exact XY.out), below_drewN B.out _⟩
          case measure => simp [intOf]; omega
        · have hn : (x != y) = true := by simp [hxy]
          have XY : Hid (decide (xs = ys) = false) := not_same (k := k) (by rw [← X.out, ← Y.out]; exact hxy)
          clear hxy
          go_wp2_with fail
          go_quiet (fail)
          go_wp2_with fail
          go_ret
          exact ⟨by rw [XY.out]; rfl, below_drewN B.out _⟩
      · have hlt' : ¬ (k : Int) < (la : Int) := by omega
        go_wp2_with fail
        go_ret
        have e := E.out
        rw [List.take_of_length_le (by have := HI.out.1; omega), List.take_of_length_le (by have := HJ.out.1; omega)] at e
        exact ⟨by rw [decide_eq_true e]; rfl, B.out⟩
  · have hne : ((la : Int) != (lb : Int)) = true := by simp; omega
    have XY : Hid (decide (xs = ys) = false) := lens_differ (by have := HI.out.1; have := HJ.out.1; omega)
    go_enter Try.func16, Try.ntmps16
    go_wp2_with fail
    go_ret
    exact ⟨by rw [XY.out]; rfl, Below.refl _ _⟩

/-- laws.likeInts where both read alike. -/
theorem likeInts_same (a : Option Addr) (la ca : Nat) (xs : List Int) (b : Option Addr) (lb cb : Nat) (w : World) (I : Ints w a la xs) (J : Ints w b lb xs) (hs : (la : Int) ≤ 1048576) :
    Calls Try.prog 16 #[.slice a la ca, .slice b lb cb] w fun e w' => e = .returned (.bool true) ∧ Below w.heap.size w w' := by
  refine (likeInts_any a la ca xs b lb cb xs w I J hs).mono ?_
  rintro e w' ⟨rfl, B⟩
  exact ⟨by simp, B⟩

end Go.Proofs.Ytlmlgidfgjejpaa.Crew
