/-
  Crews: is one right, and its weights together. spec's and impl's answer alike at every argument.
  All weights together: spec.l2Sum, spec.TotalOf and impl.TotalOf.
  Counts: are they right, and all turns together. spec's and impl's answer alike at every two slices.
-/
import Derived.Test.YtcmeimfjedakeaaGreatInBase
import Derived.Test.YtcmeimfjedakeaaGreatIntsBase
namespace Go.Proofs.YtcmeimfjedakeaaGreat.Crew
open Go.ChangeShapes Go.WideShapes Go.ChangeAt Go.RowKit

def crewOk (xs : List Int) : Bool := within xs.length 1 24 && xs.all (fun n => within n 1 1000000)

theorem specWeight_any (n : Int) (w : World) :
    Calls Tryz.prog 123 #[.int .i64 n] w fun e w' => e = .returned (.bool (within n 1 1000000)) ∧ w' = w := by
  go_enter Tryz.func123, Tryz.ntmps123
  go_wp2_with fail
  refine (in_any _ _ _ _).mono ?_
  rintro e w' ⟨rfl, rfl⟩
  go_wp2_with fail
  go_ret
  exact ⟨rfl, rfl⟩

theorem implWeight_any (n : Int) (w : World) :
    Calls Tryz.prog 134 #[.int .i64 n] w fun e w' => e = .returned (.bool (within n 1 1000000)) ∧ w' = w := by
  cases h : within n 1 1000000
  · by_cases h1 : 1 ≤ n
    · have h2 : ¬ n ≤ 1000000 := by rcases within_no h with h | h <;> omega
      have hd : decide (n ≤ 1000000) = false := by simp; omega
      clear h
      go_enter Tryz.func134, Tryz.ntmps134
      go_wp2_with fail
      go_ret
      exact ⟨rfl, rfl⟩
    · have hd : decide (1 ≤ n) = false := by simp; omega
      clear h
      go_enter Tryz.func134, Tryz.ntmps134
      go_wp2_with fail
      go_ret
      exact ⟨rfl, rfl⟩
  · obtain ⟨h1, h2⟩ := within_yes h
    clear h
    go_enter Tryz.func134, Tryz.ntmps134
    go_wp2_with fail
    go_ret
    exact ⟨rfl, rfl⟩

theorem all_step {xs : List Int} {p : Int → Bool} {k : Nat} (h : k < xs.length) (ha : (xs.take k).all p = true) (hp : p (xs.getD k 0) = true) : (xs.take (k + 1)).all p = true := by
  rw [List.take_succ_eq_append_getElem h, List.all_append, ha]
  simp [List.getD, h] at hp
  simp [hp]

theorem all_not {xs : List Int} {p : Int → Bool} {k : Nat} (h : k < xs.length) (hp : p (xs.getD k 0) = false) : xs.all p = false := by
  simp [List.getD, h] at hp
  simp only [List.all_eq_false]
  exact ⟨xs[k], List.getElem_mem h, by simp [hp]⟩

/-- spec.CrewOk at every slice. -/
theorem specCrewOk (a : Option Addr) (len cap : Nat) (xs : List Int) (w : World) (I : Ints w a len xs) (hs : (len : Int) ≤ 1048576) :
    Calls Tryz.prog 111 #[.slice a len cap] w fun e w' => e = .returned (.bool (crewOk xs)) ∧ w' = w := by
  have HI : Hid (Ints w a len xs) := I
  clear I
  go_enter Tryz.func111, Tryz.ntmps111
  go_wp2_with fail
  go_loop [3] (fun i => ∃ k : Nat, k ≤ len ∧ i = .int .i64 k ∧ Hid ((xs.take k).all (fun n => within n 1 1000000) = true)) (fun i => len - (intOf i).toNat)
  case atStart => exact ⟨0, Nat.zero_le _, rfl, by show _ = _; simp⟩
  case round =>
    obtain ⟨k, hk, rfl, E⟩ := hrel
    by_cases hlt : k < len
    · obtain ⟨hl, h0 | ⟨b, off, rfl, hb, hc⟩⟩ := HI.out
      · omega
      obtain ⟨x, hx⟩ : ∃ x, x = xs.getD k 0 := ⟨_, rfl⟩
      have c1 := hc k hlt
      rw [← hx] at c1
      have X : Hid (x = xs.getD k 0) := hx
      have hlt' : (k : Int) < (len : Int) := by omega
      clear hc hx
      go_wp2_with fail
      refine (specWeight_any x _).mono ?_
      rintro e w' ⟨rfl, rfl⟩
      cases hw : within x 1 1000000
      · go_wp2_with fail
        go_ret
        have : crewOk xs = false := by
          rw [crewOk, all_not (k := k) (by omega) (by rw [← X.out]; exact hw)]; simp
        exact ⟨by rw [this]; rfl, rfl⟩
      · have HW : Hid (within x 1 1000000 = true) := hw
        clear hw
        go_wp2_with fail
        go_round
        case rel => exact ⟨k + 1, by omega, by go_num, all_step (by omega) E.out (by rw [← X.out]; exact HW.out)⟩
        case measure => simp [intOf]; omega
    · have hlt' : ¬ (k : Int) < (len : Int) := by omega
      go_wp2_with fail
      refine (in_any _ _ _ _).mono ?_
      rintro e w' ⟨rfl, rfl⟩
      go_wp2_with fail
      go_ret
      have hl := HI.out.1
      have e := E.out
      rw [List.take_of_length_le (by omega)] at e
      exact ⟨by rw [crewOk, e, Bool.and_true, hl]; rfl, rfl⟩

/-- impl.CrewOk at every slice. -/
theorem implCrewOk (a : Option Addr) (len cap : Nat) (xs : List Int) (w : World) (I : Ints w a len xs) :
    Calls Tryz.prog 212 #[.slice a len cap] w fun e w' => e = .returned (.bool (crewOk xs)) ∧ w' = w := by
  have HI : Hid (Ints w a len xs) := I
  have hl := I.1
  clear I
  cases h : within (len : Int) 1 24
  · have hc : crewOk xs = false := by rw [crewOk, hl, h]; rfl
    rw [hc]
    rcases within_no h with h | h
    · go_enter Tryz.func212, Tryz.ntmps212
      go_wp2_with fail
      go_ret
      exact ⟨rfl, rfl⟩
    · have h' : ¬ (len : Int) < 1 := by omega
      go_enter Tryz.func212, Tryz.ntmps212
      go_wp2_with fail
      go_ret
      exact ⟨rfl, rfl⟩
  · obtain ⟨h1, h2⟩ := within_yes h
    have HL : Hid (xs.length = len) := hl
    clear hl h
    have h1' : ¬ (len : Int) < 1 := by omega
    have h2' : ¬ (24 : Int) < (len : Int) := by omega
    have hd : decide ((24 : Int) < (len : Int)) = false := by simp; omega
    go_enter Tryz.func212, Tryz.ntmps212
    go_wp2_with fail
    go_loop [4, 15] (fun _ i => ∃ k : Nat, k ≤ len ∧ i = .int .i64 k ∧ Hid ((xs.take k).all (fun n => within n 1 1000000) = true)) (fun _ i => len - (intOf i).toNat)
    case atStart => exact ⟨0, Nat.zero_le _, rfl, by show _ = _; simp⟩
    case round =>
      obtain ⟨k, hk, rfl, E⟩ := hrel
      by_cases hlt : k < len
      · obtain ⟨hl, h0 | ⟨b, off, rfl, hb, hc⟩⟩ := HI.out
        · omega
        obtain ⟨x, hx⟩ : ∃ x, x = xs.getD k 0 := ⟨_, rfl⟩
        have c1 := hc k hlt
        rw [← hx] at c1
        have X : Hid (x = xs.getD k 0) := hx
        have hlt' : (k : Int) < (len : Int) := by omega
        clear hc hx
        go_wp2_with fail
        refine (implWeight_any x _).mono ?_
        rintro e w' ⟨rfl, rfl⟩
        cases hw : within x 1 1000000
        · go_wp2_with fail
          go_ret
          have : crewOk xs = false := by
            rw [crewOk, all_not (k := k) (by omega) (by rw [← X.out]; exact hw)]; simp
          exact ⟨by rw [this]; rfl, rfl⟩
        · have HW : Hid (within x 1 1000000 = true) := hw
          clear hw
          go_wp2_with fail
          go_round
          case rel => exact ⟨k + 1, by omega, by go_num, all_step (by have := HL.out; omega) E.out (by rw [← X.out]; exact HW.out)⟩
          case measure => simp [intOf]; omega
      · have hlt' : ¬ (k : Int) < (len : Int) := by omega
        go_wp2_with fail
        go_ret
        have hl := HL.out
        have e := E.out
        rw [List.take_of_length_le (by omega)] at e
        have hw : within (len : Int) 1 24 = true := by simp [within]; omega
        exact ⟨by rw [crewOk, e, Bool.and_true, hl, hw]; rfl, rfl⟩

end Go.Proofs.YtcmeimfjedakeaaGreat.Crew

namespace Go.Proofs.YtcmeimfjedakeaaGreat.Crew
open Go.ChangeShapes Go.WideShapes Go.ChangeAt Go.RowKit

/-- All together. -/
def sumI : List Int → Int
  | [] => 0
  | x :: r => x + sumI r

theorem sumI_append (xs ys : List Int) : sumI (xs ++ ys) = sumI xs + sumI ys := by
  induction xs with
  | nil => simp [sumI]
  | cons x r ih => simp only [List.cons_append, sumI, ih]; omega

theorem sumI_step {xs : List Int} {k : Nat} (h : k < xs.length) : sumI (xs.take (k + 1)) = sumI (xs.take k) + xs.getD k 0 := by
  rw [List.take_succ_eq_append_getElem h, sumI_append]
  simp [sumI, List.getD, h]

theorem sumI_bound (xs : List Int) (h : ∀ n ∈ xs, -1000000000 ≤ n ∧ n ≤ 1000000000) : -1000000000 * (xs.length : Int) ≤ sumI xs ∧ sumI xs ≤ 1000000000 * (xs.length : Int) := by
  induction xs with
  | nil => simp [sumI]
  | cons x r ih =>
    have h1 := h x (by simp)
    have h2 := ih (fun n hn => h n (by simp [hn]))
    simp only [sumI, List.length_cons]
    omega

/-- Each number is small enough that no sum of a slice passes 64 bits. -/
def Small (xs : List Int) : Prop := ∀ n ∈ xs, -1000000000 ≤ n ∧ n ≤ 1000000000

theorem Small.get {xs : List Int} (h : Small xs) (k : Nat) : -1000000000 ≤ xs.getD k 0 ∧ xs.getD k 0 ≤ 1000000000 := by
  by_cases hk : k < xs.length
  · have := h xs[k] (List.getElem_mem hk)
    simpa [List.getD, hk] using this
  · simp [List.getD, List.getElem?_eq_none (Nat.le_of_not_lt hk)]

theorem Small.part {xs : List Int} (h : Small xs) (k : Nat) (hk : k ≤ xs.length) : -1000000000 * (k : Int) ≤ sumI (xs.take k) ∧ sumI (xs.take k) ≤ 1000000000 * (k : Int) := by
  have := sumI_bound (xs.take k) (fun n hn => h n (List.mem_of_mem_take hn))
  rwa [List.length_take, Nat.min_eq_left hk] at this

theorem crew_small {xs : List Int} (h : crewOk xs = true) : Small xs := by
  intro n hn
  simp only [crewOk, Bool.and_eq_true, List.all_eq_true] at h
  have := within_yes (h.2 n hn)
  omega

theorem crew_len {xs : List Int} (h : crewOk xs = true) : 1 ≤ xs.length ∧ xs.length ≤ 24 := by
  simp only [crewOk, Bool.and_eq_true] at h
  have := within_yes h.1
  omega

theorem crew_mem {xs : List Int} (h : crewOk xs = true) {n : Int} (hn : n ∈ xs) : 1 ≤ n ∧ n ≤ 1000000 := by
  simp only [crewOk, Bool.and_eq_true, List.all_eq_true] at h
  exact within_yes (h.2 n hn)

/-- spec.l2Sum where no number is great. -/
theorem sum_any (a : Option Addr) (len cap : Nat) (xs : List Int) (w : World) (I : Ints w a len xs) (hs : (len : Int) ≤ 1048576) (S : Small xs) :
    Calls Tryz.prog 115 #[.slice a len cap] w fun e w' => e = .returned (.int .i64 (sumI xs)) ∧ w' = w := by
  have HI : Hid (Ints w a len xs) := I
  have HS : Hid (Small xs) := S
  clear I S
  go_enter Tryz.func115, Tryz.ntmps115
  go_wp2_with fail
  go_loop [3, 4] (fun t i => ∃ k : Nat, ∃ s : Int, k ≤ len ∧ i = .int .i64 k ∧ t = .int .i64 s ∧ Hid (s = sumI (xs.take k))) (fun _ i => len - (intOf i).toNat)
  case atStart => exact ⟨0, 0, Nat.zero_le _, rfl, rfl, by show _ = _; simp [sumI]⟩
  case round =>
    obtain ⟨k, s, hk, rfl, rfl, E⟩ := hrel
    by_cases hlt : k < len
    · obtain ⟨hl, h0 | ⟨b, off, rfl, hb, hc⟩⟩ := HI.out
      · omega
      obtain ⟨x, hx⟩ : ∃ x, x = xs.getD k 0 := ⟨_, rfl⟩
      have c1 := hc k hlt
      rw [← hx] at c1
      have bx := HS.out.get k
      rw [← hx] at bx
      have bs := HS.out.part k (by omega)
      rw [← E.out] at bs
      have X : Hid (x = xs.getD k 0) := hx
      have hlt' : (k : Int) < (len : Int) := by omega
      clear hc hx
      go_wp2_with fail
      go_round
      case rel => exact ⟨k + 1, s + x, by omega, by go_num, rfl, by show _ = _; rw [sumI_step (by omega), E.out, X.out]⟩
      case measure => simp [intOf]; omega
    · have hlt' : ¬ (k : Int) < (len : Int) := by omega
      go_wp2_with fail
      go_ret
      have hl := HI.out.1
      have e := E.out
      rw [List.take_of_length_le (by omega)] at e
      exact ⟨by rw [← e]; rfl, rfl⟩

def totalOf (xs : List Int) : Int := if crewOk xs then sumI xs else -1

/-- impl.TotalOf at every slice. -/
theorem implTotal (a : Option Addr) (len cap : Nat) (xs : List Int) (w : World) (I : Ints w a len xs) :
    Calls Tryz.prog 238 #[.slice a len cap] w fun e w' => e = .returned (.int .i64 (totalOf xs)) ∧ w' = w := by
  have HI : Hid (Ints w a len xs) := I
  have hl := I.1
  clear I
  cases hc : crewOk xs
  · have e : totalOf xs = -1 := by simp [totalOf, hc]
    rw [e]
    have HC : Hid (crewOk xs = false) := hc
    clear hc e
    go_enter Tryz.func238, Tryz.ntmps238
    go_wp2_with fail
    refine (implCrewOk a len cap xs _ HI.out).mono ?_
    rw [HC.out]
    rintro e w' ⟨rfl, rfl⟩
    go_wp2_with fail
    go_ret
    exact ⟨rfl, rfl⟩
  · have e : totalOf xs = sumI xs := by simp [totalOf, hc]
    have HS : Hid (Small xs) := crew_small hc
    have hs : (len : Int) ≤ 24 := by have := crew_len hc; omega
    rw [e]
    have HL : Hid (xs.length = len) := hl
    have HC : Hid (crewOk xs = true) := hc
    clear hc e hl
    go_enter Tryz.func238, Tryz.ntmps238
    go_wp2_with fail
    refine (implCrewOk a len cap xs _ HI.out).mono ?_
    rw [HC.out]
    rintro e w' ⟨rfl, rfl⟩
    go_wp2_with fail
    go_loop [3, 5, 11] (fun t _ i => ∃ k : Nat, ∃ s : Int, k ≤ len ∧ i = .int .i64 k ∧ t = .int .i64 s ∧ Hid (s = sumI (xs.take k))) (fun _ _ i => len - (intOf i).toNat)
    case atStart => exact ⟨0, 0, Nat.zero_le _, rfl, rfl, by show _ = _; simp [sumI]⟩
    case round =>
      obtain ⟨k, s, hk, rfl, rfl, E⟩ := hrel
      by_cases hlt : k < len
      · obtain ⟨hl, h0 | ⟨b, off, rfl, hb, hc⟩⟩ := HI.out
        · omega
        obtain ⟨x, hx⟩ : ∃ x, x = xs.getD k 0 := ⟨_, rfl⟩
        have c1 := hc k hlt
        rw [← hx] at c1
        have bx := HS.out.get k
        rw [← hx] at bx
        have bs := HS.out.part k (by omega)
        rw [← E.out] at bs
        have X : Hid (x = xs.getD k 0) := hx
        have hlt' : (k : Int) < (len : Int) := by omega
        clear hc hx hl
        go_wp2_with fail
        go_round
        case rel => exact ⟨k + 1, s + x, by omega, by go_num, rfl, by show _ = _; rw [sumI_step (by have := HL.out; omega), E.out, X.out]⟩
        case measure => simp [intOf]; omega
      · have hlt' : ¬ (k : Int) < (len : Int) := by omega
        go_wp2_with fail
        go_ret
        have hl := HL.out
        have e := E.out
        rw [List.take_of_length_le (by omega)] at e
        exact ⟨by rw [← e]; rfl, rfl⟩

end Go.Proofs.YtcmeimfjedakeaaGreat.Crew

namespace Go.Proofs.YtcmeimfjedakeaaGreat.Crew
open Go.ChangeShapes Go.WideShapes Go.ChangeAt Go.RowKit

def cnts (ns : List Int) : Bool := ns.all (fun n => within n 0 1000000)

def countsOk (cs ns : List Int) : Bool := crewOk cs && decide (ns.length = cs.length) && cnts ns && decide (sumI ns ≤ 1000000)

theorem counts_parts {cs ns : List Int} (h : countsOk cs ns = true) : crewOk cs = true ∧ ns.length = cs.length ∧ cnts ns = true ∧ sumI ns ≤ 1000000 := by
  simp only [countsOk, Bool.and_eq_true, decide_eq_true_eq] at h
  exact ⟨h.1.1.1, h.1.1.2, h.1.2, h.2⟩

theorem cnts_small {ns : List Int} (h : cnts ns = true) : Small ns := by
  intro n hn
  simp only [cnts, List.all_eq_true] at h
  have := within_yes (h n hn)
  omega

theorem take_small {ns : List Int} {k : Nat} (h : (ns.take k).all (fun n => within n 0 1000000) = true) : Small (ns.take k) := cnts_small h

theorem take_bound {ns : List Int} {k : Nat} (h : (ns.take k).all (fun n => within n 0 1000000) = true) (hk : k ≤ ns.length) : -1000000000 * (k : Int) ≤ sumI (ns.take k) ∧ sumI (ns.take k) ≤ 1000000000 * (k : Int) := by
  have := (take_small h).part k (by simp; omega)
  rwa [List.take_of_length_le (by simp; omega)] at this

/-- impl.sumOf where no number is great. -/
theorem sumOf_any (a : Option Addr) (len cap : Nat) (xs : List Int) (w : World) (I : Ints w a len xs) (hs : (len : Int) ≤ 1048576) (S : Small xs) :
    Calls Tryz.prog 213 #[.slice a len cap] w fun e w' => e = .returned (.int .i64 (sumI xs)) ∧ w' = w := by
  have HI : Hid (Ints w a len xs) := I
  have HS : Hid (Small xs) := S
  clear I S
  go_enter Tryz.func213, Tryz.ntmps213
  go_wp2_with fail
  go_loop [3, 5, 8] (fun t _ i => ∃ k : Nat, ∃ s : Int, k ≤ len ∧ i = .int .i64 k ∧ t = .int .i64 s ∧ Hid (s = sumI (xs.take k))) (fun _ _ i => len - (intOf i).toNat)
  case atStart => exact ⟨0, 0, Nat.zero_le _, rfl, rfl, by show _ = _; simp [sumI]⟩
  case round =>
    obtain ⟨k, s, hk, rfl, rfl, E⟩ := hrel
    by_cases hlt : k < len
    · obtain ⟨hl, h0 | ⟨b, off, rfl, hb, hc⟩⟩ := HI.out
      · omega
      obtain ⟨x, hx⟩ : ∃ x, x = xs.getD k 0 := ⟨_, rfl⟩
      have c1 := hc k hlt
      rw [← hx] at c1
      have bx := HS.out.get k
      rw [← hx] at bx
      have bs := HS.out.part k (by omega)
      rw [← E.out] at bs
      have X : Hid (x = xs.getD k 0) := hx
      have hlt' : (k : Int) < (len : Int) := by omega
      clear hc hx
      go_wp2_with fail
      go_round
      case rel => exact ⟨k + 1, s + x, by omega, by go_num, rfl, by show _ = _; rw [sumI_step (by omega), E.out, X.out]⟩
      case measure => simp [intOf]; omega
    · have hlt' : ¬ (k : Int) < (len : Int) := by omega
      go_wp2_with fail
      go_ret
      have hl := HI.out.1
      have e := E.out
      rw [List.take_of_length_le (by omega)] at e
      exact ⟨by rw [← e]; rfl, rfl⟩

theorem countOk_any (n : Int) (w : World) :
    Calls Tryz.prog 106 #[.int .i64 n] w fun e w' => e = .returned (.bool (within n 0 1000000)) ∧ w' = w := by
  cases h : within n 0 1000000
  · by_cases h1 : 0 ≤ n
    · have h2 : ¬ n ≤ 1000000 := by rcases within_no h with h | h <;> omega
      have hd : decide (n ≤ 1000000) = false := by simp; omega
      clear h
      go_enter Tryz.func106, Tryz.ntmps106
      go_wp2_with fail
      go_ret
      exact ⟨rfl, rfl⟩
    · have hd : decide (0 ≤ n) = false := by simp; omega
      clear h
      go_enter Tryz.func106, Tryz.ntmps106
      go_wp2_with fail
      go_ret
      exact ⟨rfl, rfl⟩
  · obtain ⟨h1, h2⟩ := within_yes h
    clear h
    go_enter Tryz.func106, Tryz.ntmps106
    go_wp2_with fail
    go_ret
    exact ⟨rfl, rfl⟩

theorem counts_no {cs ns : List Int} {k : Nat} (h : k < ns.length) (hp : within (ns.getD k 0) 0 1000000 = false) : countsOk cs ns = false := by
  rw [countsOk, cnts, all_not h hp]
  simp

theorem counts_end {cs ns : List Int} (hc : crewOk cs = true) (hl : ns.length = cs.length) (ha : cnts ns = true) : countsOk cs ns = decide (sumI ns ≤ 1000000) := by
  simp [countsOk, hc, hl, ha]

/-- spec.CountsOk at every two slices. -/
theorem specCounts (a : Option Addr) (len cap : Nat) (cs : List Int) (a' : Option Addr) (len' cap' : Nat) (ns : List Int) (w : World) (I : Ints w a len cs) (J : Ints w a' len' ns) (hs : (len : Int) ≤ 1048576) :
    Calls Tryz.prog 142 #[.slice a len cap, .slice a' len' cap'] w fun e w' => e = .returned (.bool (countsOk cs ns)) ∧ w' = w := by
  have HI : Hid (Ints w a len cs) := I
  have HJ : Hid (Ints w a' len' ns) := J
  have hl := I.1
  have hl' := J.1
  clear I J
  cases hc : crewOk cs
  · have e : countsOk cs ns = false := by simp [countsOk, hc]
    rw [e]
    have HC : Hid (crewOk cs = false) := hc
    clear hc e
    go_enter Tryz.func142, Tryz.ntmps142
    go_wp2_with fail
    refine (specCrewOk a len cap cs _ HI.out hs).mono ?_
    rw [HC.out]
    rintro e w' ⟨rfl, rfl⟩
    go_wp2_with fail
    go_ret
    exact ⟨rfl, rfl⟩
  · have HC : Hid (crewOk cs = true) := hc
    have hs24 : (len : Int) ≤ 24 := by have := crew_len hc; omega
    by_cases hll : len' = len
    · have hne : ((len' : Int) != (len : Int)) = false := by simp [hll]
      have HL : Hid (len' = len) := hll
      have hs24' : (len' : Int) ≤ 24 := by omega
      have LL : Hid (ns.length = cs.length ∧ ns.length = len') := ⟨by omega, by omega⟩
      clear hc hl hl' hll
      go_enter Tryz.func142, Tryz.ntmps142
      go_wp2_with fail
      refine (specCrewOk a len cap cs _ HI.out hs).mono ?_
      rw [HC.out]
      rintro e w' ⟨rfl, rfl⟩
      go_wp2_with fail
      go_loop [5, 6] (fun t i => ∃ k : Nat, ∃ s : Int, k ≤ len' ∧ i = .int .i64 k ∧ t = .int .i64 s ∧ Hid (s = sumI (ns.take k)) ∧ Hid ((ns.take k).all (fun n => within n 0 1000000) = true)) (fun _ i => len' - (intOf i).toNat)
      case atStart => exact ⟨0, 0, Nat.zero_le _, rfl, rfl, by show _ = _; simp [sumI], by show _ = _; simp⟩
      case round =>
        obtain ⟨k, s, hk, rfl, rfl, E, A⟩ := hrel
        by_cases hlt : k < len'
        · obtain ⟨hl, h0 | ⟨b, off, rfl, hb, hc⟩⟩ := HJ.out
          · omega
          obtain ⟨x, hx⟩ : ∃ x, x = ns.getD k 0 := ⟨_, rfl⟩
          have c1 := hc k hlt
          rw [← hx] at c1
          have bs := take_bound A.out (by omega)
          rw [← E.out] at bs
          have X : Hid (x = ns.getD k 0) := hx
          have hlt' : (k : Int) < (len' : Int) := by omega
          clear hc hx hl
          go_wp2_with fail
          refine (in_any x _ _ _).mono ?_
          rintro e w' ⟨rfl, rfl⟩
          cases hw : within x 0 1000000
          · go_wp2_with fail
            go_ret
            have : countsOk cs ns = false := counts_no (k := k) (by have := LL.out; omega) (by rw [← X.out]; exact hw)
            exact ⟨by rw [this]; rfl, rfl⟩
          · have bx := within_yes hw
            have HW : Hid (within x 0 1000000 = true) := hw
            clear hw
            go_wp2_with fail
            go_round
            case rel => exact ⟨k + 1, s + x, by omega, by go_num, rfl, by show _ = _; rw [sumI_step (by have := LL.out; omega), E.out, X.out], all_step (by have := LL.out; omega) A.out (by rw [← X.out]; exact HW.out)⟩
            case measure => simp [intOf]; omega
        · have hlt' : ¬ (k : Int) < (len' : Int) := by omega
          go_wp2_with fail
          go_ret
          have hl := LL.out
          have e := E.out
          have h := A.out
          rw [List.take_of_length_le (by omega)] at e h
          exact ⟨by rw [counts_end HC.out hl.1 h, ← e]; rfl, rfl⟩
    · have hne : ((len' : Int) != (len : Int)) = true := by simp; omega
      have e : countsOk cs ns = false := by
        have : ¬ ns.length = cs.length := by omega
        simp [countsOk, this]
      rw [e]
      clear hc e
      go_enter Tryz.func142, Tryz.ntmps142
      go_wp2_with fail
      refine (specCrewOk a len cap cs _ HI.out hs).mono ?_
      rw [HC.out]
      rintro e w' ⟨rfl, rfl⟩
      go_wp2_with fail
      go_ret
      exact ⟨rfl, rfl⟩

/-- impl.CountsOk at every two slices. -/
theorem implCounts (a : Option Addr) (len cap : Nat) (cs : List Int) (a' : Option Addr) (len' cap' : Nat) (ns : List Int) (w : World) (I : Ints w a len cs) (J : Ints w a' len' ns) :
    Calls Tryz.prog 211 #[.slice a len cap, .slice a' len' cap'] w fun e w' => e = .returned (.bool (countsOk cs ns)) ∧ w' = w := by
  have HI : Hid (Ints w a len cs) := I
  have HJ : Hid (Ints w a' len' ns) := J
  have hl := I.1
  have hl' := J.1
  clear I J
  cases hc : crewOk cs
  · have e : countsOk cs ns = false := by simp [countsOk, hc]
    rw [e]
    have HC : Hid (crewOk cs = false) := hc
    clear hc e
    go_enter Tryz.func211, Tryz.ntmps211
    go_wp2_with fail
    refine (implCrewOk a len cap cs _ HI.out).mono ?_
    rw [HC.out]
    rintro e w' ⟨rfl, rfl⟩
    go_wp2_with fail
    go_ret
    exact ⟨rfl, rfl⟩
  · have HC : Hid (crewOk cs = true) := hc
    have hs24 : (len : Int) ≤ 24 := by have := crew_len hc; omega
    by_cases hll : len' = len
    · have hne : ((len' : Int) != (len : Int)) = false := by simp [hll]
      have hs24' : (len' : Int) ≤ 24 := by omega
      have LL : Hid (ns.length = cs.length ∧ ns.length = len') := ⟨by omega, by omega⟩
      clear hc hl hl' hll
      go_enter Tryz.func211, Tryz.ntmps211
      go_wp2_with fail
      refine (implCrewOk a len cap cs _ HI.out).mono ?_
      rw [HC.out]
      rintro e w' ⟨rfl, rfl⟩
      go_wp2_with fail
      go_loop [6, 19] (fun _ i => ∃ k : Nat, k ≤ len' ∧ i = .int .i64 k ∧ Hid ((ns.take k).all (fun n => within n 0 1000000) = true)) (fun _ i => len' - (intOf i).toNat)
      case atStart => exact ⟨0, Nat.zero_le _, rfl, by show _ = _; simp⟩
      case round =>
        obtain ⟨k, hk, rfl, A⟩ := hrel
        by_cases hlt : k < len'
        · obtain ⟨hl, h0 | ⟨b, off, rfl, hb, hc⟩⟩ := HJ.out
          · omega
          obtain ⟨x, hx⟩ : ∃ x, x = ns.getD k 0 := ⟨_, rfl⟩
          have c1 := hc k hlt
          rw [← hx] at c1
          have X : Hid (x = ns.getD k 0) := hx
          have hlt' : (k : Int) < (len' : Int) := by omega
          clear hc hx hl
          go_wp2_with fail
          refine (countOk_any x _).mono ?_
          rintro e w' ⟨rfl, rfl⟩
          cases hw : within x 0 1000000
          · go_wp2_with fail
            go_ret
            have : countsOk cs ns = false := counts_no (k := k) (by have := LL.out; omega) (by rw [← X.out]; exact hw)
            exact ⟨by rw [this]; rfl, rfl⟩
          · have HW : Hid (within x 0 1000000 = true) := hw
            clear hw
            go_wp2_with fail
            go_round
            case rel => exact ⟨k + 1, by omega, by go_num, all_step (by have := LL.out; omega) A.out (by rw [← X.out]; exact HW.out)⟩
            case measure => simp [intOf]; omega
        · have hlt' : ¬ (k : Int) < (len' : Int) := by omega
          have hA : Hid (cnts ns = true) := by
            have h := A.out
            have hl := LL.out
            rw [List.take_of_length_le (by omega)] at h
            exact h
          go_wp2_with fail
          refine (sumOf_any a' len' cap' ns _ HJ.out (by omega) (cnts_small hA.out)).mono ?_
          rintro e w' ⟨rfl, rfl⟩
          go_wp2_with fail
          go_ret
          exact ⟨by rw [counts_end HC.out LL.out.1 hA.out]; rfl, rfl⟩
    · have hne : ((len' : Int) != (len : Int)) = true := by simp; omega
      have e : countsOk cs ns = false := by
        have : ¬ ns.length = cs.length := by omega
        simp [countsOk, this]
      rw [e]
      clear hc e
      go_enter Tryz.func211, Tryz.ntmps211
      go_wp2_with fail
      refine (implCrewOk a len cap cs _ HI.out).mono ?_
      rw [HC.out]
      rintro e w' ⟨rfl, rfl⟩
      go_wp2_with fail
      go_ret
      exact ⟨rfl, rfl⟩

def turnsOf (cs ns : List Int) : Int := if countsOk cs ns then sumI ns else -1

end Go.Proofs.YtcmeimfjedakeaaGreat.Crew
