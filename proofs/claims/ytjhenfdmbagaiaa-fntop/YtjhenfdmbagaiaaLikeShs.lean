/-
  laws.likeShares where both read alike.
-/
import Derived.Test.YtjhenfdmbagaiaaShsLaws
namespace Go.Proofs.Ytjhenfdmbagaiaa.Crew
open Go.ChangeShapes Go.WideShapes Go.ChangeAt Go.RowKit

/-- laws.likeShares where both read alike. -/
theorem likeShares_same (a : Option Addr) (la ca : Nat) (ps : List Shr) (b : Option Addr) (lb cb : Nat) (w : World) (I : Shs w a la ps) (J : Shs w b lb ps) (hs : (la : Int) ≤ 1048576) :
    Calls Try.prog 14 #[.slice a la ca, .slice b lb cb] w fun e w' => e = .returned (.bool true) ∧ Below w.heap.size w w' := by
  have hll : la = lb := by have := I.1; have := J.1; omega
  subst hll
  have HI : Hid (Shs w a la ps) := I
  have HJ : Hid (Shs w b la ps) := J
  clear I J
  have hne : ((la : Int) != (la : Int)) = false := by simp
  go_enter Try.func14, Try.ntmps14
  go_wp2_with fail
  go_loopw [5] (fun i wr => ∃ k : Nat, k ≤ la ∧ i = .int .i64 k ∧ Hid (Below w.heap.size w wr)) (fun i _ => la - (intOf i).toNat)
  case atStart => exact ⟨0, Nat.zero_le _, rfl, Below.refl _ _⟩
  case round =>
    obtain ⟨k, hk, rfl, B⟩ := hrel
    by_cases hlt : k < la
    · obtain ⟨hl1, h0 | ⟨b1, off1, rfl, hb1, hc1⟩⟩ := HI.out.kept B.out
      · omega
      obtain ⟨hl2, h0 | ⟨b2, off2, rfl, hb2, hc2⟩⟩ := HJ.out.kept B.out
      · omega
      obtain ⟨x, hx⟩ : ∃ x, x = (ps.getD k (0, 0)).1 := ⟨_, rfl⟩
      obtain ⟨y, hy⟩ : ∃ y, y = (ps.getD k (0, 0)).2 := ⟨_, rfl⟩
      obtain ⟨p0, p1⟩ := hc1 k hlt
      obtain ⟨q0, q1⟩ := hc2 k hlt
      rw [← hx] at p0 q0
      rw [← hy] at p1 q1
      have hlt' : (k : Int) < (la : Int) := by omega
      clear hc1 hc2 hx hy
      go_wp2_with fail
      go_quiet (fail)
      have BZ : Hid (∀ n, Below w.heap.size w (wr.drewN n)) := fun n => below_drewN B.out n
      go_wp2_with fail
      go_roundw
      case rel => exact ⟨k + 1, by omega, by go_num, BZ.out _⟩
      case measure => simp [intOf]; omega
    · have hlt' : ¬ (k : Int) < (la : Int) := by omega
      go_wp2_with fail
      go_ret
      exact ⟨rfl, B.out⟩

end Go.Proofs.Ytjhenfdmbagaiaa.Crew
