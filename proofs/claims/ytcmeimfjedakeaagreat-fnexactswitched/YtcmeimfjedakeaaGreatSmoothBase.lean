/-
  The richest: is a Smooth right. spec's and impl's answer alike at every two slices.
-/
import Derived.Test.YtcmeimfjedakeaaGreatCrewBase
import Derived.Handy
namespace Go.Proofs.YtcmeimfjedakeaaGreat.Crew
open Go.ChangeShapes Go.WideShapes Go.ChangeAt Go.RowKit

abbrev sm (x y : Value) : Value := .agg #[x, y]

def richs (rs : List Int) : Bool := rs.all (fun n => within n (-100000000) 100000000)

def smoothOk (cs rs : List Int) : Bool := crewOk cs && decide (rs.length = cs.length) && richs rs && decide (sumI rs = 0)

theorem smooth_parts {cs rs : List Int} (h : smoothOk cs rs = true) : crewOk cs = true ∧ rs.length = cs.length ∧ richs rs = true ∧ sumI rs = 0 := by
  simp only [smoothOk, Bool.and_eq_true, decide_eq_true_eq] at h
  exact ⟨h.1.1.1, h.1.1.2, h.1.2, h.2⟩

theorem richs_small {rs : List Int} (h : richs rs = true) : Small rs := by
  intro n hn
  simp only [richs, List.all_eq_true] at h
  have := within_yes (h n hn)
  omega

theorem richs_mem {rs : List Int} (h : richs rs = true) {n : Int} (hn : n ∈ rs) : -100000000 ≤ n ∧ n ≤ 100000000 := by
  simp only [richs, List.all_eq_true] at h
  exact within_yes (h n hn)

theorem richs_get {rs : List Int} (h : richs rs = true) (k : Nat) : -100000000 ≤ rs.getD k 0 ∧ rs.getD k 0 ≤ 100000000 := by
  by_cases hk : k < rs.length
  · have := richs_mem h (List.getElem_mem hk)
    simpa [List.getD, hk] using this
  · simp [List.getD, List.getElem?_eq_none (Nat.le_of_not_lt hk)]

theorem richOk_any (n : Int) (w : World) :
    Calls Tryz.prog 218 #[.int .i64 n] w fun e w' => e = .returned (.bool (within n (-100000000) 100000000)) ∧ w' = w := by
  cases h : within n (-100000000) 100000000
  · by_cases h1 : -100000000 ≤ n
    · have h2 : ¬ n ≤ 100000000 := by rcases within_no h with h | h <;> omega
      have hd : decide (n ≤ 100000000) = false := by simp; omega
      clear h
      go_enter Tryz.func218, Tryz.ntmps218
      go_wp2_with fail
      go_ret
      exact ⟨rfl, rfl⟩
    · have hd : decide (-100000000 ≤ n) = false := by simp; omega
      clear h
      go_enter Tryz.func218, Tryz.ntmps218
      go_wp2_with fail
      go_ret
      exact ⟨rfl, rfl⟩
  · obtain ⟨h1, h2⟩ := within_yes h
    clear h
    go_enter Tryz.func218, Tryz.ntmps218
    go_wp2_with fail
    go_ret
    exact ⟨rfl, rfl⟩

theorem specSteps_any (n : Int) (w : World) :
    Calls Tryz.prog 169 #[.int .i64 n] w fun e w' => e = .returned (.bool (within n 0 3000)) ∧ w' = w := by
  go_enter Tryz.func169, Tryz.ntmps169
  go_wp2_with fail
  refine (in_any _ _ _ _).mono ?_
  rintro e w' ⟨rfl, rfl⟩
  go_wp2_with fail
  go_ret
  exact ⟨rfl, rfl⟩

theorem smooth_no {cs rs : List Int} {k : Nat} (h : k < rs.length) (hp : within (rs.getD k 0) (-100000000) 100000000 = false) : smoothOk cs rs = false := by
  rw [smoothOk, richs, all_not h hp]
  simp

theorem smooth_end {cs rs : List Int} (hc : crewOk cs = true) (hl : rs.length = cs.length) (ha : richs rs = true) : smoothOk cs rs = decide (sumI rs = 0) := by
  simp [smoothOk, hc, hl, ha]

theorem Ints.alloc {w : World} {a : Option Addr} {len : Nat} {xs : List Int} (h : Ints w a len xs) (o : Obj) : Ints (w.alloc o) a len xs := h.other (World.grownBy_alloc w o none) (by simp)

/-- spec.SmoothOk at every two slices. -/
theorem specSmoothX (a : Option Addr) (len cap : Nat) (cs : List Int) (a' : Option Addr) (len' cap' : Nat) (rs : List Int) (w : World) (I : Ints w a len cs) (J : Ints w a' len' rs) (hs : (len : Int) ≤ 1048576) :
    Calls Tryz.prog 143 #[sm (.slice a len cap) (.slice a' len' cap')] w fun e w' => e = .returned (.bool (smoothOk cs rs)) ∧ w' = w.alloc (.cells #[.slice a len cap, .slice a' len' cap'] 29) := by
  have HI : Hid (Ints (w.alloc (.cells #[.slice a len cap, .slice a' len' cap'] 29)) a len cs) := I.alloc _
  have HJ : Hid (Ints (w.alloc (.cells #[.slice a len cap, .slice a' len' cap'] 29)) a' len' rs) := J.alloc _
  have hl := I.1
  have hl' := J.1
  clear I J
  cases hc : crewOk cs
  · have e : smoothOk cs rs = false := by simp [smoothOk, hc]
    rw [e]
    have HC : Hid (crewOk cs = false) := hc
    clear hc e
    go_enter Tryz.func143, Tryz.ntmps143
    go_wp2_with fail
    refine (specCrewOk a len cap cs _ HI.out hs).mono ?_
    rw [HC.out]
    rintro e w' ⟨rfl, rfl⟩
    go_wp2_with fail
    go_ret
    exact ⟨rfl, rfl⟩
  · have HC : Hid (crewOk cs = true) := hc
    have hs24 : (len : Int) ≤ 24 := by have := crew_len hc; omega
    by_cases hll : len' = len
    · have hne : ((len' : Int) != (len : Int)) = false := by simp [hll]
      have HL : Hid (len' = len) := hll
      have hs24' : (len' : Int) ≤ 24 := by omega
      have LL : Hid (rs.length = cs.length ∧ rs.length = len') := ⟨by omega, by omega⟩
      clear hc hl hl' hll
      go_enter Tryz.func143, Tryz.ntmps143
      go_wp2_with fail
      refine (specCrewOk a len cap cs _ HI.out hs).mono ?_
      rw [HC.out]
      rintro e w' ⟨rfl, rfl⟩
      go_wp2_with fail
      go_loop [3] (fun i => ∃ k : Nat, k ≤ len' ∧ i = .int .i64 k ∧ Hid ((rs.take k).all (fun n => within n (-100000000) 100000000) = true)) (fun i => len' - (intOf i).toNat)
      case atStart => exact ⟨0, Nat.zero_le _, rfl, by show _ = _; simp⟩
      case round =>
        obtain ⟨k, hk, rfl, A⟩ := hrel
        by_cases hlt : k < len'
        · obtain ⟨hl, h0 | ⟨b, off, rfl, hb, hc⟩⟩ := HJ.out
          · omega
          obtain ⟨x, hx⟩ : ∃ x, x = rs.getD k 0 := ⟨_, rfl⟩
          have c1 := hc k hlt
          rw [← hx] at c1
          have X : Hid (x = rs.getD k 0) := hx
          have hlt' : (k : Int) < (len' : Int) := by omega
          clear hc hx hl
          go_wp2_with fail
          refine (in_any x _ _ _).mono ?_
          rintro e w' ⟨rfl, rfl⟩
          cases hw : within x (-100000000) 100000000
          · go_wp2_with fail
            go_ret
            have : smoothOk cs rs = false := smooth_no (k := k) (by have := LL.out; omega) (by rw [← X.out]; exact hw)
            exact ⟨by rw [this]; rfl, rfl⟩
          · have HW : Hid (within x (-100000000) 100000000 = true) := hw
            clear hw
            go_wp2_with fail
            go_round
            case rel => exact ⟨k + 1, by omega, by go_num, all_step (by have := LL.out; omega) A.out (by rw [← X.out]; exact HW.out)⟩
            case measure => simp [intOf]; omega
        · have hlt' : ¬ (k : Int) < (len' : Int) := by omega
          have hA : Hid (richs rs = true) := by
            have h := A.out
            rw [List.take_of_length_le (by have := LL.out; omega)] at h
            exact h
          go_wp2_with fail
          refine (sum_any a' len' cap' rs _ HJ.out (by omega) (richs_small hA.out)).mono ?_
          rintro e w' ⟨rfl, rfl⟩
          go_wp2_with fail
          go_ret
          exact ⟨by rw [smooth_end HC.out LL.out.1 hA.out]; simp [BEq.beq], rfl⟩
    · have hne : ((len' : Int) != (len : Int)) = true := by simp; omega
      have e : smoothOk cs rs = false := by
        have : ¬ rs.length = cs.length := by omega
        simp [smoothOk, this]
      rw [e]
      clear hc e
      go_enter Tryz.func143, Tryz.ntmps143
      go_wp2_with fail
      refine (specCrewOk a len cap cs _ HI.out hs).mono ?_
      rw [HC.out]
      rintro e w' ⟨rfl, rfl⟩
      go_wp2_with fail
      go_ret
      exact ⟨rfl, rfl⟩

/-- impl.SmoothOk at every two slices. -/
theorem implSmoothX (a : Option Addr) (len cap : Nat) (cs : List Int) (a' : Option Addr) (len' cap' : Nat) (rs : List Int) (w : World) (I : Ints w a len cs) (J : Ints w a' len' rs) :
    Calls Tryz.prog 217 #[sm (.slice a len cap) (.slice a' len' cap')] w fun e w' => e = .returned (.bool (smoothOk cs rs)) ∧ w' = w.alloc (.cells #[.slice a len cap, .slice a' len' cap'] 29) := by
  have HI : Hid (Ints (w.alloc (.cells #[.slice a len cap, .slice a' len' cap'] 29)) a len cs) := I.alloc _
  have HJ : Hid (Ints (w.alloc (.cells #[.slice a len cap, .slice a' len' cap'] 29)) a' len' rs) := J.alloc _
  have hl := I.1
  have hl' := J.1
  clear I J
  cases hc : crewOk cs
  · have e : smoothOk cs rs = false := by simp [smoothOk, hc]
    rw [e]
    have HC : Hid (crewOk cs = false) := hc
    clear hc e
    go_enter Tryz.func217, Tryz.ntmps217
    go_wp2_with fail
    refine (implCrewOk a len cap cs _ HI.out).mono ?_
    rw [HC.out]
    rintro e w' ⟨rfl, rfl⟩
    go_wp2_with fail
    go_ret
    exact ⟨rfl, rfl⟩
  · have HC : Hid (crewOk cs = true) := hc
    have hs24 : (len : Int) ≤ 24 := by have := crew_len hc; omega
    by_cases hll : len' = len
    · have hne : ((len' : Int) != (len : Int)) = false := by simp [hll]
      have hs24' : (len' : Int) ≤ 24 := by omega
      have LL : Hid (rs.length = cs.length ∧ rs.length = len') := ⟨by omega, by omega⟩
      clear hc hl hl' hll
      go_enter Tryz.func217, Tryz.ntmps217
      go_wp2_with fail
      refine (implCrewOk a len cap cs _ HI.out).mono ?_
      rw [HC.out]
      rintro e w' ⟨rfl, rfl⟩
      go_wp2_with fail
      go_loop [4, 21] (fun _ i => ∃ k : Nat, k ≤ len' ∧ i = .int .i64 k ∧ Hid ((rs.take k).all (fun n => within n (-100000000) 100000000) = true)) (fun _ i => len' - (intOf i).toNat)
      case atStart => exact ⟨0, Nat.zero_le _, rfl, by show _ = _; simp⟩
      case round =>
        obtain ⟨k, hk, rfl, A⟩ := hrel
        by_cases hlt : k < len'
        · obtain ⟨hl, h0 | ⟨b, off, rfl, hb, hc⟩⟩ := HJ.out
          · omega
          obtain ⟨x, hx⟩ : ∃ x, x = rs.getD k 0 := ⟨_, rfl⟩
          have c1 := hc k hlt
          rw [← hx] at c1
          have X : Hid (x = rs.getD k 0) := hx
          have hlt' : (k : Int) < (len' : Int) := by omega
          clear hc hx hl
          go_wp2_with fail
          refine (richOk_any x _).mono ?_
          rintro e w' ⟨rfl, rfl⟩
          cases hw : within x (-100000000) 100000000
          · go_wp2_with fail
            go_ret
            have : smoothOk cs rs = false := smooth_no (k := k) (by have := LL.out; omega) (by rw [← X.out]; exact hw)
            exact ⟨by rw [this]; rfl, rfl⟩
          · have HW : Hid (within x (-100000000) 100000000 = true) := hw
            clear hw
            go_wp2_with fail
            go_round
            case rel => exact ⟨k + 1, by omega, by go_num, all_step (by have := LL.out; omega) A.out (by rw [← X.out]; exact HW.out)⟩
            case measure => simp [intOf]; omega
        · have hlt' : ¬ (k : Int) < (len' : Int) := by omega
          have hA : Hid (richs rs = true) := by
            have h := A.out
            rw [List.take_of_length_le (by have := LL.out; omega)] at h
            exact h
          go_wp2_with fail
          refine (sumOf_any a' len' cap' rs _ HJ.out (by omega) (richs_small hA.out)).mono ?_
          rintro e w' ⟨rfl, rfl⟩
          go_wp2_with fail
          go_ret
          exact ⟨by rw [smooth_end HC.out LL.out.1 hA.out]; simp [BEq.beq], rfl⟩
    · have hne : ((len' : Int) != (len : Int)) = true := by simp; omega
      have e : smoothOk cs rs = false := by
        have : ¬ rs.length = cs.length := by omega
        simp [smoothOk, this]
      rw [e]
      clear hc e
      go_enter Tryz.func217, Tryz.ntmps217
      go_wp2_with fail
      refine (implCrewOk a len cap cs _ HI.out).mono ?_
      rw [HC.out]
      rintro e w' ⟨rfl, rfl⟩
      go_wp2_with fail
      go_ret
      exact ⟨rfl, rfl⟩

theorem specSmooth (a : Option Addr) (len cap : Nat) (cs : List Int) (a' : Option Addr) (len' cap' : Nat) (rs : List Int) (w : World) (I : Ints w a len cs) (J : Ints w a' len' rs) (hs : (len : Int) ≤ 1048576) :
    Calls Tryz.prog 143 #[sm (.slice a len cap) (.slice a' len' cap')] w fun e w' => e = .returned (.bool (smoothOk cs rs)) ∧ Below w.heap.size w w' :=
  (specSmoothX a len cap cs a' len' cap' rs w I J hs).mono fun _ _ ⟨h, h'⟩ => ⟨h, by rw [h']; exact (Below.refl _ w).alloc (Nat.le_refl _) _⟩

theorem implSmooth (a : Option Addr) (len cap : Nat) (cs : List Int) (a' : Option Addr) (len' cap' : Nat) (rs : List Int) (w : World) (I : Ints w a len cs) (J : Ints w a' len' rs) :
    Calls Tryz.prog 217 #[sm (.slice a len cap) (.slice a' len' cap')] w fun e w' => e = .returned (.bool (smoothOk cs rs)) ∧ Below w.heap.size w w' :=
  (implSmoothX a len cap cs a' len' cap' rs w I J).mono fun _ _ ⟨h, h'⟩ => ⟨h, by rw [h']; exact (Below.refl _ w).alloc (Nat.le_refl _) _⟩

end Go.Proofs.YtcmeimfjedakeaaGreat.Crew
