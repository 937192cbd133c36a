/-
  append of one number at a step of a region that draws its order.
-/
import Derived.Test.YtlicjbnagapdeaaSmoothAns
import Derived.Deep.RegionLaw
namespace Go.Proofs.Ytlicjbnagapdeaa.Crew
open Go.ChangeShapes Go.WideShapes Go.ChangeAt Go.RowKit

/-- append of one number onto a slice of the call's own, nil or not. -/
theorem run_append_own1 {P : Program} (w : World) (t ty : TypeId) (i : TypeInfo) (ht : P.underlying t = some (.slice 2)) (hi : P.info? 2 = some i) (hz : i.zero = some (.int .i64 0)) (hsize : i.size = 1) (hby : i.bytes = 8)
    (base : Nat) (a : Option Addr) (len cap : Nat) (xs : List Int) (F : Fit w base a len cap xs) (hnil : a = none → cap = 0) (ad : Addr) (c : Nat) (x : Int) (I : Ints w (some ad) 1 [x]) (hlen : len ≤ 1000000) (hb : base ≤ w.heap.size) :
    ∃ g' cap' w', (Builtin.append_ #[t, t] ty #[.slice a len cap, .slice (some ad) 1 c]).run P w = .ok (.slice (some ⟨g', 0, none⟩) (len + 1) cap') w' ∧ Row w' g' cap' (xs ++ [x]) ∧ w.grownBy w' (blk a) ∧ (some g' = blk a ∨ g' = w.heap.size) ∧ base ≤ g' := by
  have hown : w.ownsRow base 2 1 (.slice a len cap) len (xs.map (Value.int .i64)) ∧ (Value.slice a len cap).ownBlock = blk a := by
    obtain ⟨hl, ⟨h0, h1⟩ | ⟨g, rfl, hg, R⟩⟩ := F
    · subst h0 h1
      rw [hnil rfl, List.eq_nil_of_length_eq_zero hl]
      exact ⟨World.ownsRow_nil _ _ _ _, rfl⟩
    · subst hl
      exact ⟨R.owns hg, rfl⟩
  obtain ⟨v', w', hr, h2, h3, h4, h5⟩ := run_append_own_at (P := P) w base t ty 2 i (.int .i64 0) 1 8 ht hi hz hsize hby rfl (by decide) _ len _ hown.1 ad 1 c ([x].map (Value.int .i64)) (by simp) I.cellsAt (ints_oneCell _ _) (by unfold maxLen; omega) (by omega) hb
  rw [← List.map_append] at h2
  rcases h2.2 with ⟨hv, _⟩ | ⟨g', cap', cur, hv, _⟩
  · rw [h4] at hv
    simp at hv
  · subst hv
    have hRr := row_of_owns h2
    rw [hown.2] at h3 h5
    exact ⟨g', cap', w', hr, hRr.1, h3, by simpa [Value.ownBlock] using h5, hRr.2.1⟩

/-- At a step of a region that draws its order. -/
theorem step_append_own1 {P : Program} {w : World} {ops : Array Oper} {o : Oper} {a : Act} {K : Act → World → Prop} {Q : Exit → Act → World → Prop} {E : Prop} (hgd : o.guard = none) (s y : Operand) (t : TypeId)
    (ho : o.op = .call { callee := .builtin .append, args := #[s, y], argTypes := #[t, t] })
    (i : TypeInfo) (ht : P.underlying t = some (.slice 2)) (hi : P.info? 2 = some i) (hz : i.zero = some (.int .i64 0)) (hsize : i.size = 1) (hby : i.bytes = 8)
    (base : Nat) (b : Option Addr) (len cap : Nat) (xs : List Int) (hs : a.eval s = .slice b len cap) (F : Fit w base b len cap xs) (hnil : b = none → cap = 0) (ad : Addr) (c : Nat) (x : Int) (hy : a.eval y = .slice (some ad) 1 c) (I : Ints w (some ad) 1 [x]) (hlen : len ≤ 1000000) (hb : base ≤ w.heap.size) (H : Nat) (hH : w.heap.size = H)
    (h : ∀ g' cap' w', Row w' g' cap' (xs ++ [x]) → w.grownBy w' (blk b) → (some g' = blk b ∨ g' = H) → base ≤ g' → K (a.put o.dst (.slice (some ⟨g', 0, none⟩) (len + 1) cap')) w') :
    if Region.wanted o (yielded ops a.tmps) = true then Oper.wp P o a w K Q else E := by
  have hw : Region.wanted o (yielded ops a.tmps) = true := by simp [Region.wanted, hgd]
  rw [if_pos hw]
  subst hH
  obtain ⟨g', cap', w', hr, h2, h3, h4, h5⟩ := run_append_own1 (P := P) w t o.type i ht hi hz hsize hby base b len cap xs F hnil ad c x I hlen hb
  unfold Oper.wp execOp
  simp only [ho, resolve, invoke, builtin, Sem.run_bind, Sem.run_pure, Result.andThen_ok, List.map_toArray, List.map_cons, List.map_nil, hs, hy, hr]
  exact h g' cap' w' h2 h3 h4 h5

theorem grown_one (w : World) (o : Obj) (row : Option Nat) : w.grownBy (w.alloc o).drew row :=
  have h := World.grownBy_alloc w o row
  ⟨h.os, h.tape, h.output, h.size, h.block⟩

end Go.Proofs.Ytlicjbnagapdeaa.Crew
