/-
  A slice of tasks (structs of four int64) that came in, as the shell of a proof names it.
-/
import Derived.Test.YtfmcnamjhnnimaaTaskLaws
import Derived.Deep.SlicePairs
namespace Go.Proofs.Ytfmcnamjhnnimaa.Crew
open Go.ChangeShapes Go.WideShapes Go.ChangeAt Go.RowKit Go.Deep

theorem task_cells {w : World} {x : Addr} {len cap : Nat} (hl : len ≤ cap) {X : Nat → Tsk}
    (hc : ∀ i, i < cap → ∀ j, j < 4 → w.cell? (x.add (i * 4 + j)) = some (.int .i64 ((tskR.cs (X i)).getD j 0))) :
    Tsks w (some x) len ((List.range len).map X) := by
  refine ⟨by simp, ?_⟩
  by_cases h0 : len = 0
  · exact .inl h0
  · obtain ⟨b, off, spot⟩ := x
    have c0 := hc 0 (by omega) 0 (by omega)
    have hs : spot = none := by simpa [Addr.add] using World.cell?_spot c0
    subst hs
    have hb : b < w.heap.size := by
      rcases Nat.lt_or_ge b w.heap.size with h | h
      · exact h
      · simp [World.cell?, Addr.add, Array.getElem?_eq_none h] at c0
    refine .inr ⟨b, off, rfl, hb, fun i j hi hj => ?_⟩
    have h := hc i (by omega) j hj
    rw [add_plain] at h
    show w.cell? ⟨b, off + (i * 4 + j), none⟩ = _
    rw [h]
    have hg : ((List.range len).map X).getD i tz = X i := by simp [List.getD, hi]
    show _ = some (Value.int .i64 ((tskR.cs (((List.range len).map X).getD i tz)).getD j 0))
    rw [hg]

theorem open_tasks {H : Type} {enc : TypeId × Value → H} {P : Program} {w : World} {base : Nat} {t e : TypeId} {f0 f1 f2 f3 : Field} {v : Value} {d : DataW H} {ml : List MemPlace}
    (ht : P.underlying t = some (.slice e)) (he : P.underlying e = some (.struct #[f0, f1, f2, f3])) (ce : P.cellsOf e = 4) (o0 : f0.offset = 0) (o1 : f1.offset = 1) (o2 : f2.offset = 2) (o3 : f3.offset = 3)
    (c0 : P.cellsOf f0.type = 1) (c1 : P.cellsOf f1.type = 1) (c2 : P.cellsOf f2.type = 1) (c3 : P.cellsOf f3.type = 1)
    (g0 : P.underlying f0.type = some (.int .i64)) (g1 : P.underlying f1.type = some (.int .i64)) (g2 : P.underlying f2.type = some (.int .i64)) (g3 : P.underlying f3.type = some (.int .i64))
    (hv : ∃ a len cap, v = .slice a len cap) (h : DataW.Trod enc P w base (fun _ => true) true t v d ml) :
    ∃ a len cap ps, v = .slice a len cap ∧ Tsks w a len ps ∧ (len : Int) ≤ 9223372036854775807 := by
  obtain ⟨a, len, cap, rfl⟩ := hv
  obtain ⟨n, hn⟩ := h
  rcases open_slice ht hn with ⟨hcs, _⟩ | ⟨x, l, c, m, k, D, Pl, hcs, hb, hl, hm, hmm, _, hx⟩
  · simp [Value.cells] at hcs
    obtain ⟨rfl, rfl, rfl⟩ := hcs
    exact ⟨none, 0, 0, [], rfl, ⟨rfl, .inl rfl⟩, by omega⟩
  · simp [Value.cells] at hcs
    obtain ⟨rfl, rfl, rfl⟩ := hcs
    simp at hmm
    subst hmm
    have each : ∀ i, i < m → ∃ q : Tsk, ∀ j, j < 4 → w.cell? (x.add (i * 4 + j)) = some (.int .i64 ((tskR.cs q).getD j 0)) := by
      intro i hi
      obtain ⟨cs', h1, h2⟩ := hx i hi
      rw [ce] at h1
      obtain ⟨_, hlen, hcell⟩ := World.cells?_some h1
      obtain ⟨xs, k', hk, hxy, _, hxl, hf⟩ := DataW.trod_struct he h2
      match xs, hxl, cs', hlen with
      | [y0, y1, y2, y3], _, [v0, v1, v2, v3], _ =>
        have t0 := hf 0 f0 rfl
        have t1 := hf 1 f1 rfl
        have t2 := hf 2 f2 rfl
        have t3 := hf 3 f3 rfl
        simp [o0, o1, o2, o3, c0, c1, c2, c3] at t0 t1 t2 t3
        obtain ⟨n0, e0, _⟩ := DataW.trod_int g0 t0
        obtain ⟨n1, e1, _⟩ := DataW.trod_int g1 t1
        obtain ⟨n2, e2, _⟩ := DataW.trod_int g2 t2
        obtain ⟨n3, e3, _⟩ := DataW.trod_int g3 t3
        simp at e0 e1 e2 e3
        refine ⟨⟨n0, n1, n2, n3⟩, fun j hj => ?_⟩
        have ec := hcell j hj
        rw [add_add] at ec
        rw [ec]
        match j, hj with
        | 0, _ => simp [e0]; rfl
        | 1, _ => simp [e1]; rfl
        | 2, _ => simp [e2]; rfl
        | 3, _ => simp [e3]; rfl
    haveI : Inhabited Tsk := ⟨tz⟩
    obtain ⟨q, hq⟩ := choose_lt each
    exact ⟨some x, len, m, _, rfl, task_cells (X := q) hl hq, by unfold maxLen at hm; omega⟩

end Go.Proofs.Ytfmcnamjhnnimaa.Crew
