/-
  Slices of structs of int64s: make, copy, and append at a step of a region that draws its order.
-/
import Derived.Test.YtfmcnamjhnnimaaRecs
import Derived.Laws.CopyOwn
import Derived.Laws.IdiomCopy
namespace Go.Proofs.Ytfmcnamjhnnimaa.Crew
open Go.ChangeShapes Go.WideShapes Go.ChangeAt Go.RowKit
namespace Rec
variable {α : Type} {K : Rec α}

/-- So many of one kind of struct. -/
theorem row_rep (K : Rec α) (w : World) (n : Nat) (x : α) (hn : (n : Int) ≤ 1048576) : K.row (w.alloc (.cells (K.fl (List.replicate n x)).toArray K.ty)) w.heap.size n (List.replicate n x) := by
  have h := row_new K w (List.replicate n x) (by simp [maxLen]; omega)
  rwa [List.length_replicate] at h

theorem row.drew {w : World} {g cap : Nat} {xs : List α} (h : K.row w g cap xs) : K.row w.drew g cap xs := h.all (below_drewN (Below.refl _ _) 1)

/-- copy onto a row of just that length. -/
theorem run_copy {P : Program} (w : World) (t ty : TypeId) (i : TypeInfo) (ht : P.underlying t = some (.slice K.ty)) (hi : P.info? K.ty = some i) (hsize : i.size = K.n)
    (base : Nat) (w0 : World) (B : Below base w0 w) (g : Nat) (hg : base ≤ g) (zs : List α) (a : Option Addr) (len cap : Nat) (xs : List α) (R : K.row w g len zs) (I : K.sl w a len xs) :
    ∃ w1, (Builtin.copy_ #[t, t] ty #[.slice (some ⟨g, 0, none⟩) len len, .slice a len cap]).run P w = .ok (.int .i64 len) w1 ∧ K.row w1 g len xs ∧ Below base w0 w1 := by
  by_cases h0 : len = 0
  · subst h0
    have hx : xs = [] := List.eq_nil_of_length_eq_zero I.1
    subst hx
    have hl : ∀ (x : Addr), (loadCells x 0).run P w = .ok #[] w := fun x => by simpa using run_loadCells_list (P := P) w x [] (by simp)
    refine ⟨w, ?_, ?_, B⟩
    · cases a <;> simp [Builtin.copy_, run_underlying ht, Builtin.lenOf, Builtin.firstCells, sizeOf, typeInfo, hi, storeCells, hl] <;> rfl
    · obtain ⟨cur, hh, hl', hm, hs, htk⟩ := R
      exact ⟨cur, hh, Nat.zero_le _, hm, hs, by simp [fl]⟩
  · obtain ⟨ad, rfl⟩ : ∃ ad, a = some ad := by
      rcases I.2 with h | ⟨b, off, h, _⟩
      · exact absurd h h0
      · exact ⟨_, h⟩
    obtain ⟨cur, hh, hl', hm, hs, htk⟩ := R
    have hn : (K.fl xs).length = len * K.n := by rw [fl_length, I.1]
    have hl := run_loadCells_list (P := P) w ad (K.fl xs) (sl.cellsAt I)
    have hst := run_storeCells_at P g 0 K.ty (K.fl xs) 0 cur w hh (by rw [hn, hs]; simp) (fl_one K xs)
    rw [hn] at hl
    simp only [Nat.zero_add, List.take_zero, List.nil_append] at hst
    refine ⟨w.setRow g (K.fl xs ++ cur.toList.drop (K.fl xs).length).toArray, ?_, ⟨_, setRow_heap _ _ _ _ _ _ hh, by rw [I.1]; exact Nat.le_refl _, hm, ?_, ?_⟩, below_setRow B hg _⟩
    · simp [Builtin.copy_, run_underlying ht, Builtin.lenOf, Builtin.firstCells, sizeOf, typeInfo, hi, hsize, hl, hst] <;> rfl
    · simp [hn, hs]
    · rw [List.toList_toArray, ← fl_length, List.take_left]

/-- append at a step of a region that draws its order. -/
theorem step_append {P : Program} {w : World} {ops : Array Oper} {o : Oper} {a : Act} {C : Act → World → Prop} {Q : Exit → Act → World → Prop} {E : Prop} (hgd : o.guard = none) (s y : Operand) (t : TypeId)
    (ho : o.op = .call { callee := .builtin .append, args := #[s, y], argTypes := #[t, t] })
    (i : TypeInfo) (zv : Value) (ht : P.underlying t = some (.slice K.ty)) (hi : P.info? K.ty = some i) (hz : i.zero = some zv) (hsize : i.size = K.n) (hby : i.bytes = 8 * K.n) (hzc : zv.cells.size = K.n) (h8 : K.n ≤ 100)
    (g n cap : Nat) (xs : List α) (hs : a.eval s = .slice (some ⟨g, 0, none⟩) n cap) (hn : n = xs.length) (R : K.row w g cap xs) (ao : Option Addr) (m c : Nat) (ys : List α) (hy : a.eval y = .slice ao m c) (I : K.sl w ao m ys) (hlen : xs.length + m ≤ 100000000) (H : Nat) (hH : w.heap.size = H)
    (h : ∀ g' cap' w', K.row w' g' cap' (xs ++ ys) → w.grownBy w' (some g) → (g' = g ∨ g' = H) → C (a.put o.dst (.slice (some ⟨g', 0, none⟩) (n + m) cap')) w') :
    if Region.wanted o (yielded ops a.tmps) = true then Oper.wp P o a w C Q else E := by
  have hw : Region.wanted o (yielded ops a.tmps) = true := by simp [Region.wanted, hgd]
  rw [if_pos hw]
  subst hH
  subst hn
  obtain ⟨g', cap', w', hr, h2, h3, h4⟩ := run_append (P := P) w t o.type i zv ht hi hz hsize hby hzc h8 g cap xs R ao m c ys I hlen
  unfold Oper.wp execOp
  simp only [ho, resolve, invoke, builtin, Sem.run_bind, Sem.run_pure, Result.andThen_ok, List.map_toArray, List.map_cons, List.map_nil, hs, hy, hr]
  exact h g' cap' w' h2 h3 h4

end Rec
end Go.Proofs.Ytfmcnamjhnnimaa.Crew
