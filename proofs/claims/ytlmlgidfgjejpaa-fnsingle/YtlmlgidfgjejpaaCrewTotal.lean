/-
  All weights together: spec.l2Sum, spec.TotalOf and impl.TotalOf.
-/
import Derived.Test.YtlmlgidfgjejpaaCrewBase
namespace Go.Proofs.Ytlmlgidfgjejpaa.Crew
open Go.ChangeShapes Go.WideShapes Go.ChangeAt Go.RowKit

/-- All together. -/
def sumI : List Int → Int
  | [] => 0
  | x :: r => x + sumI r

theorem sumI_append (xs ys : List Int) : sumI (xs ++ ys) = sumI xs + sumI ys := by
  induction xs with
  | nil => simp [sumI]
  | cons x r ih => simp only [List.cons_append, sumI, ih]; omega

theorem sumI_step {xs : List Int} {k : Nat} (h : k < xs.length) : sumI (xs.take (k + 1)) = sumI (xs.take k) + xs.getD k 0 := by
  rw [List.take_succ_eq_append_getElem h, sumI_append]
  simp [sumI, List.getD, h]

theorem sumI_bound (xs : List Int) (h : ∀ n ∈ xs, -1000000000 ≤ n ∧ n ≤ 1000000000) : -1000000000 * (xs.length : Int) ≤ sumI xs ∧ sumI xs ≤ 1000000000 * (xs.length : Int) := by
  induction xs with
  | nil => simp [sumI]
  | cons x r ih =>
    have h1 := h x (by simp)
    have h2 := ih (fun n hn => h n (by simp [hn]))
    simp only [sumI, List.length_cons]
    omega

/-- Each number is small enough that no sum of a slice passes 64 bits. -/
def Small (xs : List Int) : Prop := ∀ n ∈ xs, -1000000000 ≤ n ∧ n ≤ 1000000000

theorem Small.get {xs : List Int} (h : Small xs) (k : Nat) : -1000000000 ≤ xs.getD k 0 ∧ xs.getD k 0 ≤ 1000000000 := by
  by_cases hk : k < xs.length
  · have := h xs[k] (List.getElem_mem hk)
    simpa [List.getD, hk] using this
  · simp [List.getD, List.getElem?_eq_none (Nat.le_of_not_lt hk)]

theorem Small.part {xs : List Int} (h : Small xs) (k : Nat) (hk : k ≤ xs.length) : -1000000000 * (k : Int) ≤ sumI (xs.take k) ∧ sumI (xs.take k) ≤ 1000000000 * (k : Int) := by
  have := sumI_bound (xs.take k) (fun n hn => h n (List.mem_of_mem_take hn))
  rwa [List.length_take, Nat.min_eq_left hk] at this

theorem crew_small {xs : List Int} (h : crewOk xs = true) : Small xs := by
  intro n hn
  simp only [crewOk, Bool.and_eq_true, List.all_eq_true] at h
  have := within_yes (h.2 n hn)
  omega

theorem crew_len {xs : List Int} (h : crewOk xs = true) : 1 ≤ xs.length ∧ xs.length ≤ 24 := by
  simp only [crewOk, Bool.and_eq_true] at h
  have := within_yes h.1
  omega

theorem crew_mem {xs : List Int} (h : crewOk xs = true) {n : Int} (hn : n ∈ xs) : 1 ≤ n ∧ n ≤ 1000000 := by
  simp only [crewOk, Bool.and_eq_true, List.all_eq_true] at h
  exact within_yes (h.2 n hn)

/-- spec.l2Sum where no number is great. -/
theorem sum_any (a : Option Addr) (len cap : Nat) (xs : List Int) (w : World) (I : Ints w a len xs) (hs : (len : Int) ≤ 1048576) (S : Small xs) :
    Calls Try.prog 25 #[.slice a len cap] w fun e w' => e = .returned (.int .i64 (sumI xs)) ∧ w' = w := by
  have HI : Hid (Ints w a len xs) := I
  have HS : Hid (Small xs) := S
  clear I S
  go_enter Try.func25, Try.ntmps25
  go_wp2_with fail
  go_loop [3, 4] (fun t i => ∃ k : Nat, ∃ s : Int, k ≤ len ∧ i = .int .i64 k ∧ t = .int .i64 s ∧ Hid (s = sumI (xs.take k))) (fun _ i => len - (intOf i).toNat)
  case atStart => exact ⟨0, 0, Nat.zero_le _, rfl, rfl, by show _ = _; simp [sumI]⟩
  case round =>
    obtain ⟨k, s, hk, rfl, rfl, E⟩ := hrel
    by_cases hlt : k < len
    · obtain ⟨hl, h0 | ⟨b, off, rfl, hb, hc⟩⟩ := HI.out
      · omega
      obtain ⟨x, hx⟩ : ∃ x, x = xs.getD k 0 := ⟨_, rfl⟩
      have c1 := hc k hlt
      rw [← hx] at c1
      have bx := HS.out.get k
      rw [← hx] at bx
      have bs := HS.out.part k (by omega)
      rw [← E.out] at bs
      have X : Hid (x = xs.getD k 0) := hx
      have hlt' : (k : Int) < (len : Int) := by omega
      clear hc hx
      go_wp2_with fail
      go_round
      case rel => exact ⟨k + 1, s + x, by omega, by go_num, rfl, by show _ = _; rw [sumI_step (by omega), E.out, X.out]⟩
      case measure => simp [intOf]; omega
    · have hlt' : ¬ (k : Int) < (len : Int) := by omega
      go_wp2_with fail
      go_ret
      have hl := HI.out.1
      have e := E.out
      rw [List.take_of_length_le (by omega)] at e
      exact ⟨by rw [← e]; rfl, rfl⟩

def totalOf (xs : List Int) : Int := if crewOk xs then sumI xs else -1

/-- spec.TotalOf at every slice. -/
theorem specTotal (a : Option Addr) (len cap : Nat) (xs : List Int) (w : World) (I : Ints w a len xs) (hs : (len : Int) ≤ 1048576) :
    Calls Try.prog 10 #[.slice a len cap] w fun e w' => e = .returned (.int .i64 (totalOf xs)) ∧ w' = w := by
  have HI : Hid (Ints w a len xs) := I
  clear I
  cases hc : crewOk xs
  · have e : totalOf xs = -1 := by simp [totalOf, hc]
    rw [e]
    have HC : Hid (crewOk xs = false) := hc
    clear hc e
    go_enter Try.func10, Try.ntmps10
    go_wp2_with fail
    refine (specCrewOk a len cap xs _ HI.out hs).mono ?_
    rw [HC.out]
    rintro e w' ⟨rfl, rfl⟩
    go_wp2_with fail
    go_ret
    exact ⟨rfl, rfl⟩
  · have e : totalOf xs = sumI xs := by simp [totalOf, hc]
    have S := crew_small hc
    rw [e]
    have HC : Hid (crewOk xs = true) := hc
    clear hc e
    go_enter Try.func10, Try.ntmps10
    go_wp2_with fail
    refine (specCrewOk a len cap xs _ HI.out hs).mono ?_
    rw [HC.out]
    rintro e w' ⟨rfl, rfl⟩
    go_wp2_with fail
    refine (sum_any a len cap xs _ HI.out hs S).mono ?_
    rintro e w' ⟨rfl, rfl⟩
    go_wp2_with fail
    go_ret
    exact ⟨rfl, rfl⟩

/-- impl.TotalOf at every slice. -/
theorem implTotal (a : Option Addr) (len cap : Nat) (xs : List Int) (w : World) (I : Ints w a len xs) :
    Calls Try.prog 49 #[.slice a len cap] w fun e w' => e = .returned (.int .i64 (totalOf xs)) ∧ w' = w := by
  have HI : Hid (Ints w a len xs) := I
  have hl := I.1
  clear I
  cases hc : crewOk xs
  · have e : totalOf xs = -1 := by simp [totalOf, hc]
    rw [e]
    have HC : Hid (crewOk xs = false) := hc
    clear hc e
    go_enter Try.func49, Try.ntmps49
    go_wp2_with fail
    refine (implCrewOk a len cap xs _ HI.out).mono ?_
    rw [HC.out]
    rintro e w' ⟨rfl, rfl⟩
    go_wp2_with fail
    go_ret
    exact ⟨rfl, rfl⟩
  · have e : totalOf xs = sumI xs := by simp [totalOf, hc]
    have HS : Hid (Small xs) := crew_small hc
    have hs : (len : Int) ≤ 24 := by have := crew_len hc; omega
    rw [e]
    have HL : Hid (xs.length = len) := hl
    have HC : Hid (crewOk xs = true) := hc
    clear hc e hl
    go_enter Try.func49, Try.ntmps49
    go_wp2_with fail
    refine (implCrewOk a len cap xs _ HI.out).mono ?_
    rw [HC.out]
    rintro e w' ⟨rfl, rfl⟩
    go_wp2_with fail
    go_loop [3, 5, 11] (fun t _ i => ∃ k : Nat, ∃ s : Int, k ≤ len ∧ i = .int .i64 k ∧ t = .int .i64 s ∧ Hid (s = sumI (xs.take k))) (fun _ _ i => len - (intOf i).toNat)
    case atStart => exact ⟨0, 0, Nat.zero_le _, rfl, rfl, by show _ = _; simp [sumI]⟩
    case round =>
      obtain ⟨k, s, hk, rfl, rfl, E⟩ := hrel
      by_cases hlt : k < len
      · obtain ⟨hl, h0 | ⟨b, off, rfl, hb, hc⟩⟩ := HI.out
        · omega
        obtain ⟨x, hx⟩ : ∃ x, x = xs.getD k 0 := ⟨_, rfl⟩
        have c1 := hc k hlt
        rw [← hx] at c1
        have bx := HS.out.get k
        rw [← hx] at bx
        have bs := HS.out.part k (by omega)
        rw [← E.out] at bs
        have X : Hid (x = xs.getD k 0) := hx
        have hlt' : (k : Int) < (len : Int) := by omega
        clear hc hx hl
        go_wp2_with fail
        go_round
        case rel => exact ⟨k + 1, s + x, by omega, by go_num, rfl, by show _ = _; rw [sumI_step (by have := HL.out; omega), E.out, X.out]⟩
        case measure => simp [intOf]; omega
      · have hlt' : ¬ (k : Int) < (len : Int) := by omega
        go_wp2_with fail
        go_ret
        have hl := HL.out
        have e := E.out
        rw [List.take_of_length_le (by omega)] at e
        exact ⟨by rw [← e]; rfl, rfl⟩

end Go.Proofs.Ytlmlgidfgjejpaa.Crew
