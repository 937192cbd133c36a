/-
  append of Shares onto a row of the call's own, from whatever slice, at a step of a region that draws its order.
-/
import Derived.Test.YtjhenfdmbagaiaaGreatShsCopy
import Derived.Deep.RegionLaw
namespace Go.Proofs.YtjhenfdmbagaiaaGreat.Crew
open Go.ChangeShapes Go.WideShapes Go.ChangeAt Go.RowKit

theorem run_append_shs {P : Program} (w : World) (t ty : TypeId) (i : TypeInfo) (ht : P.underlying t = some (.slice 63)) (hi : P.info? 63 = some i) (hz : i.zero = some (.agg #[.int .i64 0, .int .i64 0])) (hsize : i.size = 2) (hby : i.bytes = 16)
    (g cap : Nat) (xs : List Shr) (R : SRow w g cap xs) (ao : Option Addr) (m c : Nat) (ys : List Shr) (I : Shs w ao m ys) (hlen : xs.length + m ≤ 1000000000) :
    ∃ g' cap' w', (Builtin.append_ #[t, t] ty #[.slice (some ⟨g, 0, none⟩) xs.length cap, .slice ao m c]).run P w = .ok (.slice (some ⟨g', 0, none⟩) (xs.length + m) cap') w' ∧ SRow w' g' cap' (xs ++ ys) ∧ w.grownBy w' (some g) ∧ (g' = g ∨ g' = w.heap.size) := by
  cases ao with
  | none =>
    have hm : m = 0 := by
      rcases I.2 with h | ⟨b, off, ha, _⟩
      · exact h
      · cases ha
    subst hm
    have hy : ys = [] := List.eq_nil_of_length_eq_zero I.1
    subst hy
    have hl : xs.length ≤ cap := by obtain ⟨_, _, h, _⟩ := R; exact h
    refine ⟨g, cap, w, ?_, by simpa using R, World.grownBy.refl _ _, .inl rfl⟩
    simp [Builtin.append_, run_underlying ht, sizeOf, typeInfo, hi, Builtin.lenOf, Builtin.firstCells, hl, storeCells]
  | some ad =>
    have hown := R.owns (base := 0) (Nat.zero_le _)
    obtain ⟨v', w', hr, h2, h3, h4, h5⟩ := run_append_own_at (P := P) w 0 t ty 63 i (.agg #[.int .i64 0, .int .i64 0]) 2 16 ht hi hz hsize hby rfl (by decide) _ xs.length _ hown ad m c (flat ys) (by rw [flat_length, I.1]) (Shs.cellsAt I) (flat_one _) (by unfold maxLen; omega) (by omega) (Nat.zero_le _)
    rw [← flat_append] at h2
    rcases h2.2 with ⟨hv, _⟩ | ⟨g', cap', cur, hv, _⟩
    · rw [h4] at hv
      simp at hv
    · subst hv
      have hRr := (srow_of_owns h2).1
      refine ⟨g', cap', w', hr, hRr, h3, ?_⟩
      rcases h5 with h | h
      · simp [Value.ownBlock] at h; exact .inl h
      · simp [Value.ownBlock] at h; exact .inr h

theorem step_append_shs {P : Program} {w : World} {ops : Array Oper} {o : Oper} {a : Act} {K : Act → World → Prop} {Q : Exit → Act → World → Prop} {E : Prop} (hgd : o.guard = none) (s y : Operand) (t : TypeId)
    (ho : o.op = .call { callee := .builtin .append, args := #[s, y], argTypes := #[t, t] })
    (i : TypeInfo) (ht : P.underlying t = some (.slice 63)) (hi : P.info? 63 = some i) (hz : i.zero = some (.agg #[.int .i64 0, .int .i64 0])) (hsize : i.size = 2) (hby : i.bytes = 16)
    (g n cap : Nat) (xs : List Shr) (hs : a.eval s = .slice (some ⟨g, 0, none⟩) n cap) (hn : n = xs.length) (R : SRow w g cap xs) (ao : Option Addr) (m c : Nat) (ys : List Shr) (hy : a.eval y = .slice ao m c) (I : Shs w ao m ys) (hlen : xs.length + m ≤ 1000000000) (H : Nat) (hH : w.heap.size = H)
    (h : ∀ g' cap' w', SRow w' g' cap' (xs ++ ys) → w.grownBy w' (some g) → (g' = g ∨ g' = H) → K (a.put o.dst (.slice (some ⟨g', 0, none⟩) (n + m) cap')) w') :
    if Region.wanted o (yielded ops a.tmps) = true then Oper.wp P o a w K Q else E := by
  have hw : Region.wanted o (yielded ops a.tmps) = true := by simp [Region.wanted, hgd]
  rw [if_pos hw]
  subst hH
  subst hn
  obtain ⟨g', cap', w', hr, h2, h3, h4⟩ := run_append_shs (P := P) w t o.type i ht hi hz hsize hby g cap xs R ao m c ys I hlen
  unfold Oper.wp execOp
  simp only [ho, resolve, invoke, builtin, Sem.run_bind, Sem.run_pure, Result.andThen_ok, List.map_toArray, List.map_cons, List.map_nil, hs, hy, hr]
  exact h g' cap' w' h2 h3 h4

end Go.Proofs.YtjhenfdmbagaiaaGreat.Crew
