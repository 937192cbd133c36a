/-
  append onto a slice of int64 of the call's own: whatever slice is appended, the walk goes on in one way.
-/
import Derived.Test.YtlmlgidfgjejpaaIntsBase
namespace Go.Proofs.Ytlmlgidfgjejpaa.Crew
open Go.ChangeShapes Go.WideShapes Go.ChangeAt Go.RowKit

theorem add_plain (b off i : Nat) : (⟨b, off, none⟩ : Addr).add i = ⟨b, off + i, none⟩ := by
  unfold Addr.add
  split
  · rename_i h; simp_all
  · rfl

theorem Ints.cellsAt {w : World} {ad : Addr} {m : Nat} {ys : List Int} (h : Ints w (some ad) m ys) : ∀ j u, (ys.map (Value.int .i64))[j]? = some u → w.cell? (ad.add j) = some u := by
  intro j u hu
  have hj : j < ys.length := by
    have := (List.getElem?_eq_some_iff.1 hu).1
    simpa using this
  obtain ⟨hl, h0 | ⟨b, off, ha, hb, hc⟩⟩ := h
  · omega
  · obtain rfl := Option.some.inj ha
    rw [add_plain, hc j (by omega), ← hu]
    simp [hj, List.getD]

theorem run_append_ints {P : Program} (w : World) (t ty : TypeId) (i : TypeInfo) (ht : P.underlying t = some (.slice 2)) (hi : P.info? 2 = some i) (hz : i.zero = some (.int .i64 0)) (hsize : i.size = 1) (hby : i.bytes = 8)
    (g cap : Nat) (xs : List Int) (R : Row w g cap xs) (ao : Option Addr) (m c : Nat) (ys : List Int) (I : Ints w ao m ys) (hlen : xs.length + m ≤ 1000000000) :
    ∃ g' cap' w', (Builtin.append_ #[t, t] ty #[.slice (some ⟨g, 0, none⟩) xs.length cap, .slice ao m c]).run P w = .ok (.slice (some ⟨g', 0, none⟩) (xs.length + m) cap') w' ∧ Row w' g' cap' (xs ++ ys) ∧ w.grownBy w' (some g) ∧ (g' = g ∨ g' = w.heap.size) := by
  cases ao with
  | none =>
    have hm : m = 0 := by
      rcases I.2 with h | ⟨b, off, ha, _⟩
      · exact h
      · cases ha
    subst hm
    have hy : ys = [] := List.eq_nil_of_length_eq_zero I.1
    subst hy
    obtain ⟨cur, hh, hl, hm, hs, htk⟩ := R
    refine ⟨g, cap, w, ?_, by simpa using ⟨cur, hh, hl, hm, hs, htk⟩, World.grownBy.refl _ _, .inl rfl⟩
    simp [Builtin.append_, run_underlying ht, sizeOf, typeInfo, hi, Builtin.lenOf, Builtin.firstCells, hl, storeCells]
  | some ad =>
    have hown := R.owns (base := 0) (Nat.zero_le _)
    obtain ⟨v', w', hr, h2, h3, h4, h5⟩ := run_append_own_at (P := P) w 0 t ty 2 i (.int .i64 0) 1 8 ht hi hz hsize hby rfl (by decide) _ xs.length _ hown ad m c (ys.map (Value.int .i64)) (by simp [I.1]) I.cellsAt (ints_oneCell _ _) (by unfold maxLen; omega) (by omega) (Nat.zero_le _)
    rw [← List.map_append] at h2
    rcases h2.2 with ⟨hv, _⟩ | ⟨g', cap', cur, hv, _⟩
    · rw [h4] at hv
      simp at hv
    · subst hv
      have hRr := (row_of_owns h2).1
      refine ⟨g', cap', w', hr, hRr, h3, ?_⟩
      rcases h5 with h | h
      · simp [Value.ownBlock] at h; exact .inl h
      · simp [Value.ownBlock] at h; exact .inr h

/-- At the operation, for the walk. -/
theorem wpList_append_ints {P : Program} {w : World} {ops : Array Oper} {rest : List Oper} {o : Oper} {a : Act} {Q : Exit → Act → World → Prop} (hgd : o.guard = none) (s x : Operand) (t : TypeId)
    (ho : o.op = .call { callee := .builtin .append, args := #[s, x], argTypes := #[t, t] })
    (i : TypeInfo) (ht : P.underlying t = some (.slice 2)) (hi : P.info? 2 = some i) (hz : i.zero = some (.int .i64 0)) (hsize : i.size = 1) (hby : i.bytes = 8)
    (g n cap : Nat) (xs : List Int) (hs : a.eval s = .slice (some ⟨g, 0, none⟩) n cap) (hn : n = xs.length) (R : Row w g cap xs) (ao : Option Addr) (m c : Nat) (ys : List Int) (hx : a.eval x = .slice ao m c) (I : Ints w ao m ys) (hlen : xs.length + m ≤ 1000000000)
    (h : ∀ g' cap' w', Row w' g' cap' (xs ++ ys) → w.grownBy w' (some g) → (g' = g ∨ g' = w.heap.size) → wpList P ops Q rest (a.put o.dst (.slice (some ⟨g', 0, none⟩) (n + m) cap')) w') :
    wpList P ops Q (o :: rest) a w := by
  refine wpList_plain hgd fun K hK => ?_
  subst hn
  obtain ⟨g', cap', w', hr, h2, h3, h4⟩ := run_append_ints (P := P) w t o.type i ht hi hz hsize hby g cap xs R ao m c ys I hlen
  unfold Oper.wp execOp
  simp only [ho, resolve, invoke, builtin, Sem.run_bind, Sem.run_pure, Result.andThen_ok, List.map_toArray, List.map_cons, List.map_nil, hs, hx, hr]
  exact hK _ _ (h g' cap' w' h2 h3 h4)

/-- One number in a new block of its own. -/
theorem ints_one (w : World) (x : Int) (t : TypeId) : Ints (w.alloc (.cells #[.int .i64 x] t)) (some ⟨w.heap.size, 0, none⟩) 1 [x] := by
  refine ⟨rfl, .inr ⟨w.heap.size, 0, rfl, by simp, fun i hi => ?_⟩⟩
  have : i = 0 := by omega
  subst this
  rw [cell_of_row _ w.heap.size _ _ _ _ (heap_alloc_new w _)]
  rfl

/-- What lies from k on. -/
theorem Row.from {w : World} {g cap : Nat} {xs : List Int} (h : Row w g cap xs) (k : Nat) (hk : k ≤ xs.length) (ao : Option Addr) (hao : k < cap → ao = some ⟨g, k, none⟩) : Ints w ao (xs.length - k) (xs.drop k) := by
  refine ⟨by simp, ?_⟩
  by_cases h0 : xs.length - k = 0
  · exact .inl h0
  · have hc : k < cap := by obtain ⟨_, _, hl, _⟩ := h; omega
    refine .inr ⟨g, k, hao hc, h.lt, fun i hi => ?_⟩
    rw [h.cell (j := k + i) (by omega)]
    simp [List.getD]

theorem Row.tail {w : World} {g cap n : Nat} {xs : List Int} (h : Row w g cap xs) (hn : xs.length = n) (k : Nat) (hk : k ≤ n) (ao : Option Addr) (hao : ¬ cap = k → ao = some ⟨g, k, none⟩) : Ints w ao (n - k) (xs.drop k) := by
  subst hn
  exact h.from k hk ao (fun hc => hao (by omega))

theorem row_nil (w : World) : Row (w.alloc (.cells #[] 2)) w.heap.size 0 [] := by simpa using row_new w [] (by simp [maxLen])

theorem Row.alloc {w : World} {g cap : Nat} {xs : List Int} (h : Row w g cap xs) (o : Obj) : Row (w.alloc o) g cap xs := h.other (World.grownBy_alloc w o none) (by simp)

end Go.Proofs.Ytlmlgidfgjejpaa.Crew
