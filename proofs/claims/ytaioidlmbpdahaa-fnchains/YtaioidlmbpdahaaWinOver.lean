/-
  impl.Overlaps, at every argument.
-/
import Derived.Test.YtaioidlmbpdahaaWinFace
namespace Go.Proofs.Ytaioidlmbpdahaa.Win
open Go.ChangeShapes Go.WideShapes Go.ChangeAt Go.RowKit Go.Proofs.Ytaioidlmbpdahaa.Crew

theorem up_int (x n : Int) (x0 : 0 ≤ x) (hn : 1 ≤ n) : (x + n - 1) / n = if x % n = 0 then x / n else x / n + 1 := by
  obtain ⟨x, rfl⟩ := Int.eq_ofNat_of_zero_le x0
  obtain ⟨n, rfl⟩ := Int.eq_ofNat_of_zero_le (by omega : 0 ≤ n)
  have e : (x : Int) + (n : Int) - 1 = ((x + n - 1 : Nat) : Int) := by omega
  rw [e, ← Int.natCast_ediv, up_nat x n (by omega), ← Int.natCast_ediv, ← Int.natCast_emod]
  by_cases h : 0 < x % n
  · rw [if_pos h, if_neg (by omega)]; rfl
  · rw [if_neg h, if_pos (by omega)]

theorem over_cmp (n d j : Int) (hn : 1 ≤ n) (x0 : 0 ≤ j * d) : (j * d / n < (j * d + n - 1) / n) ↔ ¬ j * d % n = 0 := by
  rw [up_int _ _ x0 hn]
  by_cases h : j * d % n = 0
  · simp [h]
  · rw [if_neg h]
    constructor
    · intro _; exact h
    · intro _; omega

theorem win_load {w : World} {g : Nat} {j : Int} {t : TypeId} (x : Kin (w.alloc (.cells #[.pointer (some ⟨g, 0, none⟩), .int .i64 j] t))) :
    x.u.cell? ⟨w.heap.size, 0, none⟩ = some (.pointer (some ⟨g, 0, none⟩)) ∧ x.u.cell? ⟨w.heap.size, 1, none⟩ = some (.int .i64 j) := by
  refine ⟨x.cell (by simp) ?_, x.cell (by simp) ?_⟩
  · rw [World.cell?_alloc_at _ _ _ _ rfl]; rfl
  · rw [World.cell?_alloc_at _ _ _ _ rfl]; rfl

end Go.Proofs.Ytaioidlmbpdahaa.Win
