/-
  Crews: is one right, and its weights together. spec's and impl's answer alike at every argument.
-/
import Derived.Test.YtlmlgidfgjejpaaInBase
import Derived.Test.YtlmlgidfgjejpaaIntsBase
namespace Go.Proofs.Ytlmlgidfgjejpaa.Crew
open Go.ChangeShapes Go.WideShapes Go.ChangeAt Go.RowKit

def crewOk (xs : List Int) : Bool := within xs.length 1 24 && xs.all (fun n => within n 1 1000000)

theorem specWeight_any (n : Int) (w : World) :
    Calls Try.prog 42 #[.int .i64 n] w fun e w' => e = .returned (.bool (within n 1 1000000)) ∧ w' = w := by
  go_enter Try.func42, Try.ntmps42
  go_wp2_with fail
  refine (in_any _ _ _ _).mono ?_
  rintro e w' ⟨rfl, rfl⟩
  go_wp2_with fail
  go_ret
  exact ⟨rfl, rfl⟩

theorem implWeight_any (n : Int) (w : World) :
    Calls Try.prog 58 #[.int .i64 n] w fun e w' => e = .returned (.bool (within n 1 1000000)) ∧ w' = w := by
  cases h : within n 1 1000000
  · by_cases h1 : 1 ≤ n
    · have h2 : ¬ n ≤ 1000000 := by rcases within_no h with h | h <;> omega
      have hd : decide (n ≤ 1000000) = false := by simp; omega
      clear h
      go_enter Try.func58, Try.ntmps58
      go_wp2_with fail
      go_ret
      exact ⟨rfl, rfl⟩
    · have hd : decide (1 ≤ n) = false := by simp; omega
      clear h
      go_enter Try.func58, Try.ntmps58
      go_wp2_with fail
      go_ret
      exact ⟨rfl, rfl⟩
  · obtain ⟨h1, h2⟩ := within_yes h
    clear h
    go_enter Try.func58, Try.ntmps58
    go_wp2_with fail
    go_ret
    exact ⟨rfl, rfl⟩

theorem all_step {xs : List Int} {p : Int → Bool} {k : Nat} (h : k < xs.length) (ha : (xs.take k).all p = true) (hp : p (xs.getD k 0) = true) : (xs.take (k + 1)).all p = true := by
  rw [List.take_succ_eq_append_getElem h, List.all_append, ha]
  simp [List.getD, h] at hp
  simp [hp]

theorem all_not {xs : List Int} {p : Int → Bool} {k : Nat} (h : k < xs.length) (hp : p (xs.getD k 0) = false) : xs.all p = false := by
  simp [List.getD, h] at hp
  simp only [List.all_eq_false]
  exact ⟨xs[k], List.getElem_mem h, by simp [hp]⟩

/-- spec.CrewOk at every slice. -/
theorem specCrewOk (a : Option Addr) (len cap : Nat) (xs : List Int) (w : World) (I : Ints w a len xs) (hs : (len : Int) ≤ 1048576) :
    Calls Try.prog 24 #[.slice a len cap] w fun e w' => e = .returned (.bool (crewOk xs)) ∧ w' = w := by
  have HI : Hid (Ints w a len xs) := I
  clear I
  go_enter Try.func24, Try.ntmps24
  go_wp2_with fail
  go_loop [3] (fun i => ∃ k : Nat, k ≤ len ∧ i = .int .i64 k ∧ Hid ((xs.take k).all (fun n => within n 1 1000000) = true)) (fun i => len - (intOf i).toNat)
  case atStart => exact ⟨0, Nat.zero_le _, rfl, by show _ = _; simp⟩
  case round =>
    obtain ⟨k, hk, rfl, E⟩ := hrel
    by_cases hlt : k < len
    · obtain ⟨hl, h0 | ⟨b, off, rfl, hb, hc⟩⟩ := HI.out
      · omega
      obtain ⟨x, hx⟩ : ∃ x, x = xs.getD k 0 := ⟨_, rfl⟩
      have c1 := hc k hlt
      rw [← hx] at c1
      have X : Hid (x = xs.getD k 0) := hx
      have hlt' : (k : Int) < (len : Int) := by omega
      clear hc hx
      go_wp2_with fail
      refine (specWeight_any x _).mono ?_
      rintro e w' ⟨rfl, rfl⟩
      cases hw : within x 1 1000000
      · go_wp2_with fail
        go_ret
        have : crewOk xs = false := by
          rw [crewOk, all_not (k := k) (by omega) (by rw [← X.out]; exact hw)]; simp
        exact ⟨by rw [this]; rfl, rfl⟩
      · have HW : Hid (within x 1 1000000 = true) := hw
        clear hw
        go_wp2_with fail
        go_round
        case rel => exact ⟨k + 1, by omega, by go_num, all_step (by omega) E.out (by rw [← X.out]; exact HW.out)⟩
        case measure => simp [intOf]; omega
    · have hlt' : ¬ (k : Int) < (len : Int) := by omega
      go_wp2_with fail
      refine (in_any _ _ _ _).mono ?_
      rintro e w' ⟨rfl, rfl⟩
      go_wp2_with fail
      go_ret
      have hl := HI.out.1
      have e := E.out
      rw [List.take_of_length_le (by omega)] at e
      exact ⟨by rw [crewOk, e, Bool.and_true, hl]; rfl, rfl⟩

/-- impl.CrewOk at every slice. -/
theorem implCrewOk (a : Option Addr) (len cap : Nat) (xs : List Int) (w : World) (I : Ints w a len xs) :
    Calls Try.prog 44 #[.slice a len cap] w fun e w' => e = .returned (.bool (crewOk xs)) ∧ w' = w := by
  have HI : Hid (Ints w a len xs) := I
  have hl := I.1
  clear I
  cases h : within (len : Int) 1 24
  · have hc : crewOk xs = false := by rw [crewOk, hl, h]; rfl
    rw [hc]
    rcases within_no h with h | h
    · go_enter Try.func44, Try.ntmps44
      go_wp2_with fail
      go_ret
      exact ⟨rfl, rfl⟩
    · have h' : ¬ (len : Int) < 1 := by omega
      go_enter Try.func44, Try.ntmps44
      go_wp2_with fail
      go_ret
      exact ⟨rfl, rfl⟩
  · obtain ⟨h1, h2⟩ := within_yes h
    have HL : Hid (xs.length = len) := hl
    clear hl h
    have h1' : ¬ (len : Int) < 1 := by omega
    have h2' : ¬ (24 : Int) < (len : Int) := by omega
    have hd : decide ((24 : Int) < (len : Int)) = false := by simp; omega
    go_enter Try.func44, Try.ntmps44
    go_wp2_with fail
    go_loop [4, 15] (fun _ i => ∃ k : Nat, k ≤ len ∧ i = .int .i64 k ∧ Hid ((xs.take k).all (fun n => within n 1 1000000) = true)) (fun _ i => len - (intOf i).toNat)
    case atStart => exact ⟨0, Nat.zero_le _, rfl, by show _ = _; simp⟩
    case round =>
      obtain ⟨k, hk, rfl, E⟩ := hrel
      by_cases hlt : k < len
      · obtain ⟨hl, h0 | ⟨b, off, rfl, hb, hc⟩⟩ := HI.out
        · omega
        obtain ⟨x, hx⟩ : ∃ x, x = xs.getD k 0 := ⟨_, rfl⟩
        have c1 := hc k hlt
        rw [← hx] at c1
        have X : Hid (x = xs.getD k 0) := hx
        have hlt' : (k : Int) < (len : Int) := by omega
        clear hc hx
        go_wp2_with fail
        refine (implWeight_any x _).mono ?_
        rintro e w' ⟨rfl, rfl⟩
        cases hw : within x 1 1000000
        · go_wp2_with fail
          go_ret
          have : crewOk xs = false := by
            rw [crewOk, all_not (k := k) (by omega) (by rw [← X.out]; exact hw)]; simp
          exact ⟨by rw [this]; rfl, rfl⟩
        · have HW : Hid (within x 1 1000000 = true) := hw
          clear hw
          go_wp2_with fail
          go_round
          case rel => exact ⟨k + 1, by omega, by go_num, all_step (by have := HL.out; omega) E.out (by rw [← X.out]; exact HW.out)⟩
          case measure => simp [intOf]; omega
      · have hlt' : ¬ (k : Int) < (len : Int) := by omega
        go_wp2_with fail
        go_ret
        have hl := HL.out
        have e := E.out
        rw [List.take_of_length_le (by omega)] at e
        have hw : within (len : Int) 1 24 = true := by simp [within]; omega
        exact ⟨by rw [crewOk, e, Bool.and_true, hl, hw]; rfl, rfl⟩

end Go.Proofs.Ytlmlgidfgjejpaa.Crew
