/-
  The least and the greatest lag: spec's and impl's answer alike at every two slices.
-/
import Derived.Test.YtlmlgidfgjejpaaLagLags
namespace Go.Proofs.Ytlmlgidfgjejpaa.Crew
open Go.ChangeShapes Go.WideShapes Go.ChangeAt Go.RowKit

/-- The i-th. -/
def nth (xs : List Int) (i : Nat) : Int := xs.getD i 0

/-- The least of f 0 to f k. -/
def leastTo (f : Nat → Int) : Nat → Int
  | 0 => f 0
  | k + 1 => min (leastTo f k) (f (k + 1))

/-- The greatest of f 0 to f k. -/
def mostTo (f : Nat → Int) : Nat → Int
  | 0 => f 0
  | k + 1 => max (mostTo f k) (f (k + 1))

theorem leastTo_congr {f g : Nat → Int} {k : Nat} (h : ∀ i, i ≤ k → f i = g i) : leastTo f k = leastTo g k := by
  induction k with
  | zero => exact h 0 (Nat.le_refl _)
  | succ k ih => simp only [leastTo]; rw [ih (fun i hi => h i (by omega)), h (k + 1) (Nat.le_refl _)]

theorem mostTo_congr {f g : Nat → Int} {k : Nat} (h : ∀ i, i ≤ k → f i = g i) : mostTo f k = mostTo g k := by
  induction k with
  | zero => exact h 0 (Nat.le_refl _)
  | succ k ih => simp only [mostTo]; rw [ih (fun i hi => h i (by omega)), h (k + 1) (Nat.le_refl _)]

theorem leastTo_le {f : Nat → Int} {k i : Nat} (h : i ≤ k) : leastTo f k ≤ f i := by
  induction k with
  | zero => have : i = 0 := by omega
            subst this; exact Int.le_refl _
  | succ k ih =>
    simp only [leastTo]
    by_cases hi : i = k + 1
    · subst hi; omega
    · have := ih (by omega); omega

theorem le_mostTo {f : Nat → Int} {k i : Nat} (h : i ≤ k) : f i ≤ mostTo f k := by
  induction k with
  | zero => have : i = 0 := by omega
            subst this; exact Int.le_refl _
  | succ k ih =>
    simp only [mostTo]
    by_cases hi : i = k + 1
    · subst hi; omega
    · have := ih (by omega); omega

theorem lmin_any (a b : Int) (w : World) :
    Calls Try.prog 31 #[.int .i64 a, .int .i64 b] w fun e w' => e = .returned (.int .i64 (min a b)) ∧ w' = w := by
  by_cases h : a < b
  · have e : min a b = a := by omega
    rw [e]
    clear e
    go_enter Try.func31, Try.ntmps31
    go_wp2_with fail
    go_ret
    exact ⟨rfl, rfl⟩
  · have e : min a b = b := by omega
    rw [e]
    clear e
    go_enter Try.func31, Try.ntmps31
    go_wp2_with fail
    go_ret
    exact ⟨rfl, rfl⟩

theorem lmax_any (a b : Int) (w : World) :
    Calls Try.prog 32 #[.int .i64 a, .int .i64 b] w fun e w' => e = .returned (.int .i64 (max a b)) ∧ w' = w := by
  by_cases h : a > b
  · have e : max a b = a := by omega
    rw [e]
    clear e
    go_enter Try.func32, Try.ntmps32
    go_wp2_with fail
    go_ret
    exact ⟨rfl, rfl⟩
  · have e : max a b = b := by omega
    rw [e]
    clear e
    go_enter Try.func32, Try.ntmps32
    go_wp2_with fail
    go_ret
    exact ⟨rfl, rfl⟩

def leastOf (cs ns : List Int) : Int := if countsOk cs ns then leastTo (lagAt cs ns) (cs.length - 1) else 0
def mostOf (cs ns : List Int) : Int := if countsOk cs ns then mostTo (lagAt cs ns) (cs.length - 1) else 0

/-- spec.WorstLag at every two slices. -/
theorem specWorst (a : Option Addr) (len cap : Nat) (cs : List Int) (a' : Option Addr) (len' cap' : Nat) (ns : List Int) (w : World) (I : Ints w a len cs) (J : Ints w a' len' ns) (hs : (len : Int) ≤ 1048576) :
    Calls Try.prog 12 #[.slice a len cap, .slice a' len' cap'] w fun e w' => e = .returned (.tuple #[.int .i64 (leastOf cs ns), .int .i64 (mostOf cs ns)]) ∧ Below w.heap.size w w' := by
  have HI : Hid (Ints w a len cs) := I
  have HJ : Hid (Ints w a' len' ns) := J
  have hl := I.1
  clear I J
  cases hc : countsOk cs ns
  · have e1 : leastOf cs ns = 0 := by simp [leastOf, hc]
    have e2 : mostOf cs ns = 0 := by simp [mostOf, hc]
    rw [e1, e2]
    have HC : Hid (countsOk cs ns = false) := hc
    clear hc e1 e2
    go_enter Try.func12, Try.ntmps12
    go_wp2_with fail
    refine (specCounts a len cap cs a' len' cap' ns _ HI.out HJ.out hs).mono ?_
    rw [HC.out]
    rintro e w' ⟨rfl, rfl⟩
    go_wp2_with fail
    go_ret2
    exact ⟨rfl, Below.refl _ _⟩
  · have e1 : leastOf cs ns = leastTo (lagAt cs ns) (len - 1) := by simp only [leastOf, hc, if_true, hl]
    have e2 : mostOf cs ns = mostTo (lagAt cs ns) (len - 1) := by simp only [mostOf, hc, if_true, hl]
    rw [e1, e2]
    have HC : Hid (countsOk cs ns = true) := hc
    have hb := crew_len (counts_parts hc).1
    have h1 : 1 ≤ len := by omega
    clear hc e1 e2 hl hb
    go_enter Try.func12, Try.ntmps12
    go_wp2_with fail
    refine (specCounts a len cap cs a' len' cap' ns _ HI.out HJ.out hs).mono ?_
    rw [HC.out]
    rintro e wp ⟨rfl, rfl⟩
    go_wp2_with fail
    refine (lag_any a len cap cs a' len' cap' ns 0 _ HI.out HJ.out HC.out (by omega)).mono ?_
    rintro e w1 ⟨rfl, m, rfl⟩
    have B1 : Hid (Below wp.heap.size wp (wp.drewN m)) := below_drewN (Below.refl _ _) _
    generalize wp.drewN m = wx at B1 ⊢
    go_wp2_with fail
    go_loopw [6, 7, 8, 9] (fun l t i _ wr => ∃ k : Nat, ∃ x y : Int, k + 1 ≤ len ∧ i = .int .i64 ((k + 1 : Nat) : Int) ∧ l = .int .i64 x ∧ t = .int .i64 y ∧ Hid (x = leastTo (lagAt cs ns) k) ∧ Hid (y = mostTo (lagAt cs ns) k) ∧ Hid (Below wp.heap.size wp wr)) (fun _ _ i _ _ => len - (intOf i).toNat)
    case atStart => exact ⟨0, _, _, h1, rfl, rfl, rfl, rfl, rfl, B1⟩
    case round =>
      obtain ⟨k, x, y, hk, rfl, rfl, rfl, E1, E2, B2⟩ := hrel
      by_cases hlt : k + 1 < len
      · have hlt' : ((k + 1 : Nat) : Int) < (len : Int) := by omega
        obtain ⟨z, hz⟩ : ∃ z, z = lagAt cs ns (k + 1) := ⟨_, rfl⟩
        have LA := lag_any a len cap cs a' len' cap' ns (k + 1) wr (HI.out.kept B2.out) (HJ.out.kept B2.out) HC.out hlt
        rw [← hz] at LA
        have Z := hid hz
        have HLA := hid LA
        clear LA hz
        go_wp2_with fail
        refine HLA.out.mono ?_
        rintro e w3 ⟨rfl, m', rfl⟩
        have B3 : Hid (Below wp.heap.size wp (wr.drewN m')) := below_drewN B2.out _
        clear HLA B2
        go_wp2_with fail
        refine (lmin_any x z _).mono ?_
        rintro e w4 ⟨rfl, rfl⟩
        go_wp2_with fail
        refine (lmax_any y z _).mono ?_
        rintro e w5 ⟨rfl, rfl⟩
        go_wp2_with fail
        go_roundw
        case rel => exact ⟨k + 1, min x z, max y z, by omega, by go_num, rfl, rfl, by show _ = _; rw [leastTo, E1.out, Z.out], by show _ = _; rw [mostTo, E2.out, Z.out], B3⟩
        case measure => simp [intOf]; omega
      · have hlt' : ¬ ((k + 1 : Nat) : Int) < (len : Int) := by omega
        go_wp2_with fail
        go_ret2
        have e : len - 1 = k := by omega
        exact ⟨by rw [e, ← E1.out, ← E2.out]; rfl, B2.out⟩

end Go.Proofs.Ytlmlgidfgjejpaa.Crew
