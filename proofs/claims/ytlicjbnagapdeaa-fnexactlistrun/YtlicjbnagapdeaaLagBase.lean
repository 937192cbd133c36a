/-
  Counts: are they right, and all turns together. spec's and impl's answer alike at every two slices.
-/
import Derived.Test.YtlicjbnagapdeaaCrewTotal
namespace Go.Proofs.Ytlicjbnagapdeaa.Crew
open Go.ChangeShapes Go.WideShapes Go.ChangeAt Go.RowKit

def cnts (ns : List Int) : Bool := ns.all (fun n => within n 0 1000000)

def countsOk (cs ns : List Int) : Bool := crewOk cs && decide (ns.length = cs.length) && cnts ns && decide (sumI ns ≤ 1000000)

theorem counts_parts {cs ns : List Int} (h : countsOk cs ns = true) : crewOk cs = true ∧ ns.length = cs.length ∧ cnts ns = true ∧ sumI ns ≤ 1000000 := by
  simp only [countsOk, Bool.and_eq_true, decide_eq_true_eq] at h
  exact ⟨h.1.1.1, h.1.1.2, h.1.2, h.2⟩

theorem cnts_small {ns : List Int} (h : cnts ns = true) : Small ns := by
  intro n hn
  simp only [cnts, List.all_eq_true] at h
  have := within_yes (h n hn)
  omega

theorem take_small {ns : List Int} {k : Nat} (h : (ns.take k).all (fun n => within n 0 1000000) = true) : Small (ns.take k) := cnts_small h

theorem take_bound {ns : List Int} {k : Nat} (h : (ns.take k).all (fun n => within n 0 1000000) = true) (hk : k ≤ ns.length) : -1000000000 * (k : Int) ≤ sumI (ns.take k) ∧ sumI (ns.take k) ≤ 1000000000 * (k : Int) := by
  have := (take_small h).part k (by simp; omega)
  rwa [List.take_of_length_le (by simp; omega)] at this

/-- impl.sumOf where no number is great. -/
theorem sumOf_any (a : Option Addr) (len cap : Nat) (xs : List Int) (w : World) (I : Ints w a len xs) (hs : (len : Int) ≤ 1048576) (S : Small xs) :
    Calls Try.prog 45 #[.slice a len cap] w fun e w' => e = .returned (.int .i64 (sumI xs)) ∧ w' = w := by
  have HI : Hid (Ints w a len xs) := I
  have HS : Hid (Small xs) := S
  clear I S
  go_enter Try.func45, Try.ntmps45
  go_wp2_with fail
  go_loop [3, 5, 8] (fun t _ i => ∃ k : Nat, ∃ s : Int, k ≤ len ∧ i = .int .i64 k ∧ t = .int .i64 s ∧ Hid (s = sumI (xs.take k))) (fun _ _ i => len - (intOf i).toNat)
  case atStart => exact ⟨0, 0, Nat.zero_le _, rfl, rfl, by show _ = _; simp [sumI]⟩
  case round =>
    obtain ⟨k, s, hk, rfl, rfl, E⟩ := hrel
    by_cases hlt : k < len
    · obtain ⟨hl, h0 | ⟨b, off, rfl, hb, hc⟩⟩ := HI.out
      · omega
      obtain ⟨x, hx⟩ : ∃ x, x = xs.getD k 0 := ⟨_, rfl⟩
      have c1 := hc k hlt
      rw [← hx] at c1
      have bx := HS.out.get k
      rw [← hx] at bx
      have bs := HS.out.part k (by omega)
      rw [← E.out] at bs
      have X : Hid (x = xs.getD k 0) := hx
      have hlt' : (k : Int) < (len : Int) := by omega
      clear hc hx
      go_wp2_with fail
      go_round
      case rel => exact ⟨k + 1, s + x, by omega, by go_num, rfl, by show _ = _; rw [sumI_step (by omega), E.out, X.out]⟩
      case measure => simp [intOf]; omega
    · have hlt' : ¬ (k : Int) < (len : Int) := by omega
      go_wp2_with fail
      go_ret
      have hl := HI.out.1
      have e := E.out
      rw [List.take_of_length_le (by omega)] at e
      exact ⟨by rw [← e]; rfl, rfl⟩

theorem counts_no {cs ns : List Int} {k : Nat} (h : k < ns.length) (hp : within (ns.getD k 0) 0 1000000 = false) : countsOk cs ns = false := by
  rw [countsOk, cnts, all_not h hp]
  simp

theorem counts_end {cs ns : List Int} (hc : crewOk cs = true) (hl : ns.length = cs.length) (ha : cnts ns = true) : countsOk cs ns = decide (sumI ns ≤ 1000000) := by
  simp [countsOk, hc, hl, ha]

def turnsOf (cs ns : List Int) : Int := if countsOk cs ns then sumI ns else -1

end Go.Proofs.Ytlicjbnagapdeaa.Crew
