/-
  A line of those that wait: its block, and what its five methods do.
-/
import Derived.Test.YtlmlgidfgjejpaaStrideMath
import Derived.Test.YtlmlgidfgjejpaaSmoothAns
import Derived.Test.YtlmlgidfgjejpaaKin
import Derived.BigRegion
namespace Go.Proofs.Ytlmlgidfgjejpaa.Crew
open Go.ChangeShapes Go.WideShapes Go.ChangeAt Go.RowKit

/-- A cell of a slice that came in. -/
theorem Ints.cell {w : World} {a : Option Addr} {len : Nat} {xs : List Int} (h : Ints w a len xs) {k : Nat} (hk : k < len) : ∃ b off, a = some ⟨b, off, none⟩ ∧ b < w.heap.size ∧ w.cell? ⟨b, off + k, none⟩ = some (.int .i64 (xs.getD k 0)) := by
  obtain ⟨hl, h0 | ⟨b, off, ha, hb, hc⟩⟩ := h
  · omega
  · exact ⟨b, off, ha, hb, hc k hk⟩

end Go.Proofs.Ytlmlgidfgjejpaa.Crew
