/-
  Chains: is a share heavy, and where a chain of its windows ends. spec's answers, at every argument; impl.HeavyOk.
-/
import Derived.Test.YtjhenfdmbagaiaaWinFace
namespace Go.Proofs.Ytjhenfdmbagaiaa.Win
open Go.ChangeShapes Go.WideShapes Go.ChangeAt Go.RowKit Go.Proofs.Ytjhenfdmbagaiaa.Crew

def heavyOk (n d : Int) : Bool := shareOk n d && decide (d ≤ 2 * n) && decide (n < d)

def chainX (n d j : Int) : Int := Ratio.ceilV (dueV n d j) (d - n) d

def chainIn (n d j : Int) : Int := if heavyOk n d then Ratio.ceilV (chainX n d j) d (d - n) else 0

def chainV (n d j : Int) : Int := if turnOk n d j then chainIn n d j else -1

theorem heavy_yes {n d : Int} (h : heavyOk n d = true) : shareOk n d = true ∧ d ≤ 2 * n ∧ n < d := by
  simpa [heavyOk, and_assoc] using h

theorem heavy_mk {n d : Int} (h : shareOk n d = true) (h1 : d ≤ 2 * n) (h2 : n < d) : heavyOk n d = true := by
  simp [heavyOk, h, h1, h2]

theorem heavy_not {n d : Int} (h : shareOk n d = false) : heavyOk n d = false := by simp [heavyOk, h]
theorem heavy_light {n d : Int} (h : ¬ d ≤ 2 * n) : heavyOk n d = false := by simp [heavyOk, h]
theorem heavy_whole {n d : Int} (h : ¬ n < d) : heavyOk n d = false := by simp [heavyOk, h]

theorem chainIn_yes {n d j : Int} (h : heavyOk n d = true) : chainIn n d j = Ratio.ceilV (chainX n d j) d (d - n) := by rw [chainIn, h, if_pos rfl]
theorem chainIn_no {n d j : Int} (h : heavyOk n d = false) : chainIn n d j = 0 := by rw [chainIn, h]; rfl
theorem chainV_yes {n d j : Int} (h : turnOk n d j = true) : chainV n d j = chainIn n d j := by rw [chainV, h, if_pos rfl]
theorem chainV_no {n d j : Int} (h : turnOk n d j = false) : chainV n d j = -1 := by rw [chainV, h]; rfl

theorem implHeavy (n d : Int) (w : World) :
    Calls Try.prog 76 #[sh n d] w fun e w' => e = .returned (.bool (heavyOk n d)) ∧ Below w.heap.size w w' := by
  cases hs : shareOk n d
  · rw [heavy_not hs]
    go_enter Try.func76, Try.ntmps76
    go_wp2_with fail
    refine (implShareOk n d _).mono ?_
    rintro e w1 ⟨rfl, b1⟩
    rw [hs]
    have b1' : Below w.heap.size w w1 := ((Below.refl _ w).alloc (Nat.le_refl _) _).trans (b1.mono (by simp))
    go_wp2_with fail
    go_ret
    exact ⟨rfl, b1'⟩
  · obtain ⟨n1, n2, d2⟩ := share_yes hs
    by_cases h1 : d ≤ 2 * n
    · by_cases h2 : n < d
      · rw [heavy_mk hs h1 h2]
        go_enter Try.func76, Try.ntmps76
        go_wp2_with fail
        refine (implShareOk n d _).mono ?_
        rintro e w1 ⟨rfl, b1⟩
        rw [hs]
        obtain ⟨k0, k1, k2⟩ := box_call b1
        have b1' : Below w.heap.size w w1 := ((Below.refl _ w).alloc (Nat.le_refl _) _).trans (b1.mono (by simp))
        go_wp2_with fail
        go_ret
        exact ⟨rfl, b1'⟩
      · rw [heavy_whole h2]
        have hd : decide (n < d) = false := by simp; omega
        go_enter Try.func76, Try.ntmps76
        go_wp2_with fail
        refine (implShareOk n d _).mono ?_
        rintro e w1 ⟨rfl, b1⟩
        rw [hs]
        obtain ⟨k0, k1, k2⟩ := box_call b1
        have b1' : Below w.heap.size w w1 := ((Below.refl _ w).alloc (Nat.le_refl _) _).trans (b1.mono (by simp))
        go_wp2_with fail
        go_ret
        exact ⟨rfl, b1'⟩
    · rw [heavy_light h1]
      have hd : decide (d ≤ 2 * n) = false := by simp; omega
      go_enter Try.func76, Try.ntmps76
      go_wp2_with fail
      refine (implShareOk n d _).mono ?_
      rintro e w1 ⟨rfl, b1⟩
      rw [hs]
      obtain ⟨k0, k1, k2⟩ := box_call b1
      have b1' : Below w.heap.size w w1 := ((Below.refl _ w).alloc (Nat.le_refl _) _).trans (b1.mono (by simp))
      go_wp2_with fail
      go_ret
      exact ⟨rfl, b1'⟩

end Go.Proofs.Ytjhenfdmbagaiaa.Win
