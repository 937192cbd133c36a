/-
  Counts: are they right, and all turns together. spec's and impl's answer alike at every two slices.
-/
import Derived.Test.YtlmlgidfgjejpaaCrewTotal
namespace Go.Proofs.Ytlmlgidfgjejpaa.Crew
open Go.ChangeShapes Go.WideShapes Go.ChangeAt Go.RowKit

def cnts (ns : List Int) : Bool := ns.all (fun n => within n 0 1000000)

def countsOk (cs ns : List Int) : Bool := crewOk cs && decide (ns.length = cs.length) && cnts ns && decide (sumI ns ≤ 1000000)

theorem counts_parts {cs ns : List Int} (h : countsOk cs ns = true) : crewOk cs = true ∧ ns.length = cs.length ∧ cnts ns = true ∧ sumI ns ≤ 1000000 := by
  simp only [countsOk, Bool.and_eq_true, decide_eq_true_eq] at h
  exact ⟨h.1.1.1, h.1.1.2, h.1.2, h.2⟩

theorem cnts_small {ns : List Int} (h : cnts ns = true) : Small ns := by
  intro n hn
  simp only [cnts, List.all_eq_true] at h
  have := within_yes (h n hn)
  omega

theorem take_small {ns : List Int} {k : Nat} (h : (ns.take k).all (fun n => within n 0 1000000) = true) : Small (ns.take k) := cnts_small h

theorem take_bound {ns : List Int} {k : Nat} (h : (ns.take k).all (fun n => within n 0 1000000) = true) (hk : k ≤ ns.length) : -1000000000 * (k : Int) ≤ sumI (ns.take k) ∧ sumI (ns.take k) ≤ 1000000000 * (k : Int) := by
  have := (take_small h).part k (by simp; omega)
  rwa [List.take_of_length_le (by simp; omega)] at this

/-- impl.sumOf where no number is great. -/
theorem sumOf_any (a : Option Addr) (len cap : Nat) (xs : List Int) (w : World) (I : Ints w a len xs) (hs : (len : Int) ≤ 1048576) (S : Small xs) :
    Calls Try.prog 46 #[.slice a len cap] w fun e w' => e = .returned (.int .i64 (sumI xs)) ∧ w' = w := by
  have HI : Hid (Ints w a len xs) := I
  have HS : Hid (Small xs) := S
  clear I S
  go_enter Try.func46, Try.ntmps46
  go_wp2_with fail
  go_loop [3, 5, 8] (fun t _ i => ∃ k : Nat, ∃ s : Int, k ≤ len ∧ i = .int .i64 k ∧ t = .int .i64 s ∧ Hid (s = sumI (xs.take k))) (fun _ _ i => len - (intOf i).toNat)
  case atStart => exact ⟨0, 0, Nat.zero_le _, rfl, rfl, by show _ = _; simp [sumI]⟩
  case round =>
    obtain ⟨k, s, hk, rfl, rfl, E⟩ := hrel
    by_cases hlt : k < len
    · obtain ⟨hl, h0 | ⟨b, off, rfl, hb, hc⟩⟩ := HI.out
      · omega
      obtain ⟨x, hx⟩ : ∃ x, x = xs.getD k 0 := ⟨_, rfl⟩
      have c1 := hc k hlt
      rw [← hx] at c1
      have bx := HS.out.get k
      rw [← hx] at bx
      have bs := HS.out.part k (by omega)
      rw [← E.out] at bs
      have X : Hid (x = xs.getD k 0) := hx
      have hlt' : (k : Int) < (len : Int) := by omega
      clear hc hx
      go_wp2_with fail
      go_round
      case rel => exact ⟨k + 1, s + x, by omega, by go_num, rfl, by show _ = _; rw [sumI_step (by omega), E.out, X.out]⟩
      case measure => simp [intOf]; omega
    · have hlt' : ¬ (k : Int) < (len : Int) := by omega
      go_wp2_with fail
      go_ret
      have hl := HI.out.1
      have e := E.out
      rw [List.take_of_length_le (by omega)] at e
      exact ⟨by rw [← e]; rfl, rfl⟩

theorem countOk_any (n : Int) (w : World) :
    Calls Try.prog 45 #[.int .i64 n] w fun e w' => e = .returned (.bool (within n 0 1000000)) ∧ w' = w := by
  cases h : within n 0 1000000
  · by_cases h1 : 0 ≤ n
    · have h2 : ¬ n ≤ 1000000 := by rcases within_no h with h | h <;> omega
      have hd : decide (n ≤ 1000000) = false := by simp; omega
      clear h
      go_enter Try.func45, Try.ntmps45
      go_wp2_with fail
      go_ret
      exact ⟨rfl, rfl⟩
    · have hd : decide (0 ≤ n) = false := by simp; omega
      clear h
      go_enter Try.func45, Try.ntmps45
      go_wp2_with fail
      go_ret
      exact ⟨rfl, rfl⟩
  · obtain ⟨h1, h2⟩ := within_yes h
    clear h
    go_enter Try.func45, Try.ntmps45
    go_wp2_with fail
    go_ret
    exact ⟨rfl, rfl⟩

theorem counts_no {cs ns : List Int} {k : Nat} (h : k < ns.length) (hp : within (ns.getD k 0) 0 1000000 = false) : countsOk cs ns = false := by
  rw [countsOk, cnts, all_not h hp]
  simp

theorem counts_end {cs ns : List Int} (hc : crewOk cs = true) (hl : ns.length = cs.length) (ha : cnts ns = true) : countsOk cs ns = decide (sumI ns ≤ 1000000) := by
  simp [countsOk, hc, hl, ha]

/-- spec.CountsOk at every two slices. -/
theorem specCounts (a : Option Addr) (len cap : Nat) (cs : List Int) (a' : Option Addr) (len' cap' : Nat) (ns : List Int) (w : World) (I : Ints w a len cs) (J : Ints w a' len' ns) (hs : (len : Int) ≤ 1048576) :
    Calls Try.prog 29 #[.slice a len cap, .slice a' len' cap'] w fun e w' => e = .returned (.bool (countsOk cs ns)) ∧ w' = w := by
  have HI : Hid (Ints w a len cs) := I
  have HJ : Hid (Ints w a' len' ns) := J
  have hl := I.1
  have hl' := J.1
  clear I J
  cases hc : crewOk cs
  · have e : countsOk cs ns = false := by simp [countsOk, hc]
    rw [e]
    have HC : Hid (crewOk cs = false) := hc
    clear hc e
    go_enter Try.func29, Try.ntmps29
    go_wp2_with fail
    refine (specCrewOk a len cap cs _ HI.out hs).mono ?_
    rw [HC.out]
    rintro e w' ⟨rfl, rfl⟩
    go_wp2_with fail
    go_ret
    exact ⟨rfl, rfl⟩
  · have HC : Hid (crewOk cs = true) := hc
    have hs24 : (len : Int) ≤ 24 := by have := crew_len hc; omega
    by_cases hll : len' = len
    · have hne : ((len' : Int) != (len : Int)) = false := by simp [hll]
      have HL : Hid (len' = len) := hll
      have hs24' : (len' : Int) ≤ 24 := by omega
      have LL : Hid (ns.length = cs.length ∧ ns.length = len') := ⟨by omega, by omega⟩
      clear hc hl hl' hll
      go_enter Try.func29, Try.ntmps29
      go_wp2_with fail
      refine (specCrewOk a len cap cs _ HI.out hs).mono ?_
      rw [HC.out]
      rintro e w' ⟨rfl, rfl⟩
      go_wp2_with fail
      go_loop [5, 6] (fun t i => ∃ k : Nat, ∃ s : Int, k ≤ len' ∧ i = .int .i64 k ∧ t = .int .i64 s ∧ Hid (s = sumI (ns.take k)) ∧ Hid ((ns.take k).all (fun n => within n 0 1000000) = true)) (fun _ i => len' - (intOf i).toNat)
      case atStart => exact ⟨0, 0, Nat.zero_le _, rfl, rfl, by show _ = _; simp [sumI], by show _ = _; simp⟩
      case round =>
        obtain ⟨k, s, hk, rfl, rfl, E, A⟩ := hrel
        by_cases hlt : k < len'
        · obtain ⟨hl, h0 | ⟨b, off, rfl, hb, hc⟩⟩ := HJ.out
          · omega
          obtain ⟨x, hx⟩ : ∃ x, x = ns.getD k 0 := ⟨_, rfl⟩
          have c1 := hc k hlt
          rw [← hx] at c1
          have bs := take_bound A.out (by omega)
          rw [← E.out] at bs
          have X : Hid (x = ns.getD k 0) := hx
          have hlt' : (k : Int) < (len' : Int) := by omega
          clear hc hx hl
          go_wp2_with fail
          refine (in_any x _ _ _).mono ?_
          rintro e w' ⟨rfl, rfl⟩
          cases hw : within x 0 1000000
          · go_wp2_with fail
            go_ret
            have : countsOk cs ns = false := counts_no (k := k) (by have := LL.out; omega) (by rw [← X.out]; exact hw)
            exact ⟨by rw [this]; rfl, rfl⟩
          · have bx := within_yes hw
            have HW : Hid (within x 0 1000000 = true) := hw
            clear hw
            go_wp2_with fail
            go_round
            case rel => exact ⟨k + 1, s + x, by omega, by go_num, rfl, by show _ = _; rw [sumI_step (by have := LL.out; omega), E.out, X.out], all_step (by have := LL.out; omega) A.out (by rw [← X.out]; exact HW.out)⟩
            case measure => simp [intOf]; omega
        · have hlt' : ¬ (k : Int) < (len' : Int) := by omega
          go_wp2_with fail
          go_ret
          have hl := LL.out
          have e := E.out
          have h := A.out
          rw [List.take_of_length_le (by omega)] at e h
          exact ⟨by rw [counts_end HC.out hl.1 h, ← e]; rfl, rfl⟩
    · have hne : ((len' : Int) != (len : Int)) = true := by simp; omega
      have e : countsOk cs ns = false := by
        have : ¬ ns.length = cs.length := by omega
        simp [countsOk, this]
      rw [e]
      clear hc e
      go_enter Try.func29, Try.ntmps29
      go_wp2_with fail
      refine (specCrewOk a len cap cs _ HI.out hs).mono ?_
      rw [HC.out]
      rintro e w' ⟨rfl, rfl⟩
      go_wp2_with fail
      go_ret
      exact ⟨rfl, rfl⟩

/-- impl.CountsOk at every two slices. -/
theorem implCounts (a : Option Addr) (len cap : Nat) (cs : List Int) (a' : Option Addr) (len' cap' : Nat) (ns : List Int) (w : World) (I : Ints w a len cs) (J : Ints w a' len' ns) :
    Calls Try.prog 26 #[.slice a len cap, .slice a' len' cap'] w fun e w' => e = .returned (.bool (countsOk cs ns)) ∧ w' = w := by
  have HI : Hid (Ints w a len cs) := I
  have HJ : Hid (Ints w a' len' ns) := J
  have hl := I.1
  have hl' := J.1
  clear I J
  cases hc : crewOk cs
  · have e : countsOk cs ns = false := by simp [countsOk, hc]
    rw [e]
    have HC : Hid (crewOk cs = false) := hc
    clear hc e
    go_enter Try.func26, Try.ntmps26
    go_wp2_with fail
    refine (implCrewOk a len cap cs _ HI.out).mono ?_
    rw [HC.out]
    rintro e w' ⟨rfl, rfl⟩
    go_wp2_with fail
    go_ret
    exact ⟨rfl, rfl⟩
  · have HC : Hid (crewOk cs = true) := hc
    have hs24 : (len : Int) ≤ 24 := by have := crew_len hc; omega
    by_cases hll : len' = len
    · have hne : ((len' : Int) != (len : Int)) = false := by simp [hll]
      have hs24' : (len' : Int) ≤ 24 := by omega
      have LL : Hid (ns.length = cs.length ∧ ns.length = len') := ⟨by omega, by omega⟩
      clear hc hl hl' hll
      go_enter Try.func26, Try.ntmps26
      go_wp2_with fail
      refine (implCrewOk a len cap cs _ HI.out).mono ?_
      rw [HC.out]
      rintro e w' ⟨rfl, rfl⟩
      go_wp2_with fail
      go_loop [6, 19] (fun _ i => ∃ k : Nat, k ≤ len' ∧ i = .int .i64 k ∧ Hid ((ns.take k).all (fun n => within n 0 1000000) = true)) (fun _ i => len' - (intOf i).toNat)
      case atStart => exact ⟨0, Nat.zero_le _, rfl, by show _ = _; simp⟩
      case round =>
        obtain ⟨k, hk, rfl, A⟩ := hrel
        by_cases hlt : k < len'
        · obtain ⟨hl, h0 | ⟨b, off, rfl, hb, hc⟩⟩ := HJ.out
          · omega
          obtain ⟨x, hx⟩ : ∃ x, x = ns.getD k 0 := ⟨_, rfl⟩
          have c1 := hc k hlt
          rw [← hx] at c1
          have X : Hid (x = ns.getD k 0) := hx
          have hlt' : (k : Int) < (len' : Int) := by omega
          clear hc hx hl
          go_wp2_with fail
          refine (countOk_any x _).mono ?_
          rintro e w' ⟨rfl, rfl⟩
          cases hw : within x 0 1000000
          · go_wp2_with fail
            go_ret
            have : countsOk cs ns = false := counts_no (k := k) (by have := LL.out; omega) (by rw [← X.out]; exact hw)
            exact ⟨by rw [this]; rfl, rfl⟩
          · have HW : Hid (within x 0 1000000 = true) := hw
            clear hw
            go_wp2_with fail
            go_round
            case rel => exact ⟨k + 1, by omega, by go_num, all_step (by have := LL.out; omega) A.out (by rw [← X.out]; exact HW.out)⟩
            case measure => simp [intOf]; omega
        · have hlt' : ¬ (k : Int) < (len' : Int) := by omega
          have hA : Hid (cnts ns = true) := by
            have h := A.out
            have hl := LL.out
            rw [List.take_of_length_le (by omega)] at h
            exact h
          go_wp2_with fail
          refine (sumOf_any a' len' cap' ns _ HJ.out (by omega) (cnts_small hA.out)).mono ?_
          rintro e w' ⟨rfl, rfl⟩
          go_wp2_with fail
          go_ret
          exact ⟨by rw [counts_end HC.out LL.out.1 hA.out]; rfl, rfl⟩
    · have hne : ((len' : Int) != (len : Int)) = true := by simp; omega
      have e : countsOk cs ns = false := by
        have : ¬ ns.length = cs.length := by omega
        simp [countsOk, this]
      rw [e]
      clear hc e
      go_enter Try.func26, Try.ntmps26
      go_wp2_with fail
      refine (implCrewOk a len cap cs _ HI.out).mono ?_
      rw [HC.out]
      rintro e w' ⟨rfl, rfl⟩
      go_wp2_with fail
      go_ret
      exact ⟨rfl, rfl⟩

def turnsOf (cs ns : List Int) : Int := if countsOk cs ns then sumI ns else -1

end Go.Proofs.Ytlmlgidfgjejpaa.Crew
