/-
  A slice of tasks (structs of four int64) that came in, as the shell of a proof names it.
-/
import Derived.Test.YtcmeimfjedakeaaGreatTaskLaws
import Derived.Deep.SlicePairs
import Derived.Test.YtcmeimfjedakeaaGreatShsBase
import Derived.Test.YtcmeimfjedakeaaGreatShopSz
import Derived.Lib.SmallJoins
import Derived.OpenShut
namespace Go.Proofs.YtcmeimfjedakeaaGreat.Crew
open Go.ChangeShapes Go.WideShapes Go.ChangeAt Go.RowKit Go.Deep

theorem task_cells {w : World} {x : Addr} {len cap : Nat} (hl : len ≤ cap) {X : Nat → Tsk}
    (hc : ∀ i, i < cap → ∀ j, j < 4 → w.cell? (x.add (i * 4 + j)) = some (.int .i64 ((tskR.cs (X i)).getD j 0))) :
    Tsks w (some x) len ((List.range len).map X) := by
  refine ⟨by simp, ?_⟩
  by_cases h0 : len = 0
  · exact .inl h0
  · obtain ⟨b, off, spot⟩ := x
    have c0 := hc 0 (by omega) 0 (by omega)
    have hs : spot = none := by simpa [Addr.add] using World.cell?_spot c0
    subst hs
    have hb : b < w.heap.size := by
      rcases Nat.lt_or_ge b w.heap.size with h | h
      · exact h
      · simp [World.cell?, Addr.add, Array.getElem?_eq_none h] at c0
    refine .inr ⟨b, off, rfl, hb, fun i j hi hj => ?_⟩
    have h := hc i (by omega) j hj
    rw [add_plain] at h
    show w.cell? ⟨b, off + (i * 4 + j), none⟩ = _
    rw [h]
    have hg : ((List.range len).map X).getD i tz = X i := by simp [List.getD, hi]
    show _ = some (Value.int .i64 ((tskR.cs (((List.range len).map X).getD i tz)).getD j 0))
    rw [hg]

theorem open_tasks {H : Type} {enc : TypeId × Value → H} {P : Program} {w : World} {base : Nat} {t e : TypeId} {f0 f1 f2 f3 : Field} {v : Value} {d : DataW H} {ml : List MemPlace}
    (ht : P.underlying t = some (.slice e)) (he : P.underlying e = some (.struct #[f0, f1, f2, f3])) (ce : P.cellsOf e = 4) (o0 : f0.offset = 0) (o1 : f1.offset = 1) (o2 : f2.offset = 2) (o3 : f3.offset = 3)
    (c0 : P.cellsOf f0.type = 1) (c1 : P.cellsOf f1.type = 1) (c2 : P.cellsOf f2.type = 1) (c3 : P.cellsOf f3.type = 1)
    (g0 : P.underlying f0.type = some (.int .i64)) (g1 : P.underlying f1.type = some (.int .i64)) (g2 : P.underlying f2.type = some (.int .i64)) (g3 : P.underlying f3.type = some (.int .i64))
    (hv : ∃ a len cap, v = .slice a len cap) (h : DataW.Trod enc P w base (fun _ => true) true t v d ml) :
    ∃ a len cap ps, v = .slice a len cap ∧ Tsks w a len ps ∧ (len : Int) ≤ 9223372036854775807 := by
  obtain ⟨a, len, cap, rfl⟩ := hv
  obtain ⟨n, hn⟩ := h
  rcases open_slice ht hn with ⟨hcs, _⟩ | ⟨x, l, c, m, k, D, Pl, hcs, hb, hl, hm, hmm, _, hx⟩
  · simp [Value.cells] at hcs
    obtain ⟨rfl, rfl, rfl⟩ := hcs
    exact ⟨none, 0, 0, [], rfl, ⟨rfl, .inl rfl⟩, by omega⟩
  · simp [Value.cells] at hcs
    obtain ⟨rfl, rfl, rfl⟩ := hcs
    simp at hmm
    subst hmm
    have each : ∀ i, i < m → ∃ q : Tsk, ∀ j, j < 4 → w.cell? (x.add (i * 4 + j)) = some (.int .i64 ((tskR.cs q).getD j 0)) := by
      intro i hi
      obtain ⟨cs', h1, h2⟩ := hx i hi
      rw [ce] at h1
      obtain ⟨_, hlen, hcell⟩ := World.cells?_some h1
      obtain ⟨xs, k', hk, hxy, _, hxl, hf⟩ := DataW.trod_struct he h2
      match xs, hxl, cs', hlen with
      | [y0, y1, y2, y3], _, [v0, v1, v2, v3], _ =>
        have t0 := hf 0 f0 rfl
        have t1 := hf 1 f1 rfl
        have t2 := hf 2 f2 rfl
        have t3 := hf 3 f3 rfl
        simp [o0, o1, o2, o3, c0, c1, c2, c3] at t0 t1 t2 t3
        obtain ⟨n0, e0, _⟩ := DataW.trod_int g0 t0
        obtain ⟨n1, e1, _⟩ := DataW.trod_int g1 t1
        obtain ⟨n2, e2, _⟩ := DataW.trod_int g2 t2
        obtain ⟨n3, e3, _⟩ := DataW.trod_int g3 t3
        simp at e0 e1 e2 e3
        refine ⟨⟨n0, n1, n2, n3⟩, fun j hj => ?_⟩
        have ec := hcell j hj
        rw [add_add] at ec
        rw [ec]
        match j, hj with
        | 0, _ => simp [e0]; rfl
        | 1, _ => simp [e1]; rfl
        | 2, _ => simp [e2]; rfl
        | 3, _ => simp [e3]; rfl
    haveI : Inhabited Tsk := ⟨tz⟩
    obtain ⟨q, hq⟩ := choose_lt each
    exact ⟨some x, len, m, _, rfl, task_cells (X := q) hl hq, by unfold maxLen at hm; omega⟩

end Go.Proofs.YtcmeimfjedakeaaGreat.Crew

/-
  A slice of structs of two int64 that came in, as the shell of a proof names it.
-/
namespace Go.Proofs.YtcmeimfjedakeaaGreat.Crew
open Go.ChangeShapes Go.WideShapes Go.ChangeAt Go.RowKit Go.Deep

theorem shs_cells {w : World} {x : Addr} {len cap : Nat} (hl : len ≤ cap) {X Y : Nat → Int}
    (hc : ∀ i, i < cap → w.cell? (x.add (i * 2)) = some (.int .i64 (X i)) ∧ w.cell? (x.add (i * 2 + 1)) = some (.int .i64 (Y i))) :
    Shs w (some x) len ((List.range len).map fun i => (X i, Y i)) := by
  refine ⟨by simp, ?_⟩
  by_cases h0 : len = 0
  · exact .inl h0
  · obtain ⟨b, off, spot⟩ := x
    have c0 := (hc 0 (by omega)).1
    have hs : spot = none := by simpa [Addr.add] using World.cell?_spot c0
    subst hs
    have hb : b < w.heap.size := by
      rcases Nat.lt_or_ge b w.heap.size with h | h
      · exact h
      · simp [World.cell?, Addr.add, Array.getElem?_eq_none h] at c0
    refine .inr ⟨b, off, rfl, hb, fun i hi => ?_⟩
    obtain ⟨h1, h2⟩ := hc i (by omega)
    rw [add_plain] at h1 h2
    rw [Nat.add_assoc, h1, h2]
    simp [List.getD, hi]

theorem open_shares {H : Type} {enc : TypeId × Value → H} {P : Program} {w : World} {base : Nat} {t e : TypeId} {f0 f1 : Field} {v : Value} {d : DataW H} {ml : List MemPlace}
    (ht : P.underlying t = some (.slice e)) (he : P.underlying e = some (.struct #[f0, f1])) (ce : P.cellsOf e = 2) (o0 : f0.offset = 0) (o1 : f1.offset = 1) (c0 : P.cellsOf f0.type = 1) (c1 : P.cellsOf f1.type = 1)
    (g0 : P.underlying f0.type = some (.int .i64)) (g1 : P.underlying f1.type = some (.int .i64)) (hv : ∃ a len cap, v = .slice a len cap) (h : DataW.Trod enc P w base (fun _ => true) true t v d ml) :
    ∃ a len cap ps, v = .slice a len cap ∧ Shs w a len ps ∧ (len : Int) ≤ 9223372036854775807 := by
  obtain ⟨a, len, cap, rfl⟩ := hv
  obtain ⟨n, hn⟩ := h
  rcases open_slice_pairs ht he ce o0 o1 c0 c1 hn with ⟨hcs, _⟩ | ⟨x, l, c, m, k, V0, V1, D0, D1, P0, P1, hcs, _, hl, hm, hmm, _, hc⟩
  · simp [Value.cells] at hcs
    obtain ⟨rfl, rfl, rfl⟩ := hcs
    exact ⟨none, 0, 0, [], rfl, ⟨rfl, .inl rfl⟩, by omega⟩
  · simp [Value.cells] at hcs
    obtain ⟨rfl, rfl, rfl⟩ := hcs
    simp at hmm
    subst hmm
    have each : ∀ i, i < m → ∃ q : Int × Int, w.cell? (x.add (i * 2)) = some (.int .i64 q.1) ∧ w.cell? (x.add (i * 2 + 1)) = some (.int .i64 q.2) := by
      intro i hi
      obtain ⟨h1, h2, h3, h4⟩ := hc i hi
      obtain ⟨n0, e0, _⟩ := DataW.trod_int g0 h3
      obtain ⟨n1, e1, _⟩ := DataW.trod_int g1 h4
      simp at e0 e1
      exact ⟨(n0, n1), by rw [h1, e0], by rw [h2, e1]⟩
    obtain ⟨q, hq⟩ := choose_lt each
    exact ⟨some x, len, m, _, rfl, shs_cells (X := fun i => (q i).1) (Y := fun i => (q i).2) hl hq, by unfold maxLen at hm; omega⟩

/-- The same of a struct's field. -/
theorem open_shares_cell {H : Type} {enc : TypeId × Value → H} {P : Program} {w : World} {base : Nat} {t e : TypeId} {f0 f1 : Field} {v : Value} {x : DataW H × List MemPlace} {n : Nat}
    (ht : P.underlying t = some (.slice e)) (he : P.underlying e = some (.struct #[f0, f1])) (ce : P.cellsOf e = 2) (o0 : f0.offset = 0) (o1 : f1.offset = 1) (c0 : P.cellsOf f0.type = 1) (c1 : P.cellsOf f1.type = 1)
    (g0 : P.underlying f0.type = some (.int .i64)) (g1 : P.underlying f1.type = some (.int .i64)) (hn : DataW.trod enc P w base (fun _ => true) true n t [v] = some x) :
    ∃ a len cap ps, v = .slice a len cap ∧ Shs w a len ps ∧ (len : Int) ≤ 9223372036854775807 := by
  rcases open_slice_pairs ht he ce o0 o1 c0 c1 hn with ⟨hcs, _⟩ | ⟨y, l, c, m, k, V0, V1, D0, D1, P0, P1, hcs, _, hl, hm, hmm, _, hc⟩
  · simp at hcs
    exact ⟨none, 0, 0, [], hcs, ⟨rfl, .inl rfl⟩, by omega⟩
  · simp at hcs hmm
    subst hcs hmm
    have each : ∀ i, i < m → ∃ q : Int × Int, w.cell? (y.add (i * 2)) = some (.int .i64 q.1) ∧ w.cell? (y.add (i * 2 + 1)) = some (.int .i64 q.2) := by
      intro i hi
      obtain ⟨h1, h2, h3, h4⟩ := hc i hi
      obtain ⟨n0, e0, _⟩ := DataW.trod_int g0 h3
      obtain ⟨n1, e1, _⟩ := DataW.trod_int g1 h4
      simp at e0 e1
      exact ⟨(n0, n1), by rw [h1, e0], by rw [h2, e1]⟩
    obtain ⟨q, hq⟩ := choose_lt each
    exact ⟨some y, l, m, _, rfl, shs_cells (X := fun i => (q i).1) (Y := fun i => (q i).2) hl hq, by unfold maxLen at hm; omega⟩

end Go.Proofs.YtcmeimfjedakeaaGreat.Crew

/-
  A Shop by value that came in, as the shell of a proof names it. (Written by wip/tools/gen_shopopen.py.)
-/
namespace Go.Proofs.YtcmeimfjedakeaaGreat.Crew
open Go.ChangeShapes Go.WideShapes Go.ChangeAt Go.RowKit Go.Deep Go.Joins

theorem open_ints_cell {H : Type} {enc : TypeId × Value → H} {P : Program} {w : World} {base : Nat} {t e : TypeId} {v : Value} {z : DataW H × List MemPlace} {n : Nat}
    (ht : P.underlying t = some (.slice e)) (he : P.underlying e = some (.int .i64)) (hc : P.cellsOf e = 1) (hn : DataW.trod enc P w base (fun _ => true) true n t [v] = some z) :
    ∃ a len cap xs, v = .slice a len cap ∧ Ints w a len xs ∧ (len : Int) ≤ 9223372036854775807 := by
  rcases open_ints ht he hc hn with ⟨hcs, _⟩ | ⟨x, l, c, zs, hcs, _, hl, hm, hz, _, hcell, hw⟩
  · simp at hcs
    exact ⟨none, 0, 0, [], hcs, ⟨rfl, .inl rfl⟩, by omega⟩
  · simp at hcs hz
    subst hcs
    obtain ⟨xs, I, _⟩ := ints_of (w := w) (a := some x) (len := l) (cap := c) (zs := zs) (.inr ⟨x, rfl, hl, hm, hz, hcell, hw⟩)
    exact ⟨some x, l, c, xs, rfl, I, by unfold maxLen at hm; omega⟩

set_option maxRecDepth 100000 in
theorem open_tasks_cell {H : Type} {enc : TypeId × Value → H} {P : Program} {w : World} {base : Nat} {t e : TypeId} {f0 f1 f2 f3 : Field} {v : Value} {z : DataW H × List MemPlace} {n : Nat}
    (ht : P.underlying t = some (.slice e)) (he : P.underlying e = some (.struct #[f0, f1, f2, f3])) (ce : P.cellsOf e = 4) (o0 : f0.offset = 0) (o1 : f1.offset = 1) (o2 : f2.offset = 2) (o3 : f3.offset = 3)
    (c0 : P.cellsOf f0.type = 1) (c1 : P.cellsOf f1.type = 1) (c2 : P.cellsOf f2.type = 1) (c3 : P.cellsOf f3.type = 1)
    (g0 : P.underlying f0.type = some (.int .i64)) (g1 : P.underlying f1.type = some (.int .i64)) (g2 : P.underlying f2.type = some (.int .i64)) (g3 : P.underlying f3.type = some (.int .i64))
    (hn : DataW.trod enc P w base (fun _ => true) true n t [v] = some z) :
    ∃ a len cap ps, v = .slice a len cap ∧ Tsks w a len ps ∧ (len : Int) ≤ 9223372036854775807 := by
  rcases open_slice ht hn with ⟨hcs, _⟩ | ⟨x, l, c, m, k, D, Pl, hcs, hb, hl, hm, hmm, _, hx⟩
  · simp at hcs
    exact ⟨none, 0, 0, [], hcs, ⟨rfl, .inl rfl⟩, by omega⟩
  · simp at hcs hmm
    subst hcs hmm
    have each : ∀ i, i < m → ∃ q : Tsk, ∀ j, j < 4 → w.cell? (x.add (i * 4 + j)) = some (.int .i64 ((tskR.cs q).getD j 0)) := by
      intro i hi
      obtain ⟨cs', h1, h2⟩ := hx i hi
      rw [ce] at h1
      obtain ⟨_, hlen, hcell⟩ := World.cells?_some h1
      obtain ⟨xs, k', hk, hxy, _, hxl, hf⟩ := DataW.trod_struct he h2
      match xs, hxl, cs', hlen with
      | [y0, y1, y2, y3], _, [v0, v1, v2, v3], _ =>
        have t0 := hf 0 f0 rfl
        have t1 := hf 1 f1 rfl
        have t2 := hf 2 f2 rfl
        have t3 := hf 3 f3 rfl
        simp [o0, o1, o2, o3, c0, c1, c2, c3] at t0 t1 t2 t3
        obtain ⟨n0, e0, _⟩ := DataW.trod_int g0 t0
        obtain ⟨n1, e1, _⟩ := DataW.trod_int g1 t1
        obtain ⟨n2, e2, _⟩ := DataW.trod_int g2 t2
        obtain ⟨n3, e3, _⟩ := DataW.trod_int g3 t3
        simp at e0 e1 e2 e3
        refine ⟨⟨n0, n1, n2, n3⟩, fun j hj => ?_⟩
        have ec := hcell j hj
        rw [add_add] at ec
        rw [ec]
        match j, hj with
        | 0, _ => simp [e0]; rfl
        | 1, _ => simp [e1]; rfl
        | 2, _ => simp [e2]; rfl
        | 3, _ => simp [e3]; rfl
    haveI : Inhabited Tsk := ⟨tz⟩
    obtain ⟨q, hq⟩ := choose_lt each
    exact ⟨some x, l, m, _, rfl, task_cells (X := q) hl hq, by unfold maxLen at hm; omega⟩

theorem cells17 {cs : Array Value} (h : cs.size = 17) : ∃ c0 c1 c2 c3 c4 c5 c6 c7 c8 c9 c10 c11 c12 c13 c14 c15 c16 : Value, cs = #[c0, c1, c2, c3, c4, c5, c6, c7, c8, c9, c10, c11, c12, c13, c14, c15, c16] := by
  obtain ⟨l⟩ := cs
  match l, h with
  | [c0, c1, c2, c3, c4, c5, c6, c7, c8, c9, c10, c11, c12, c13, c14, c15, c16], _ => exact ⟨c0, c1, c2, c3, c4, c5, c6, c7, c8, c9, c10, c11, c12, c13, c14, c15, c16, rfl⟩

set_option maxRecDepth 100000 in
set_option maxHeartbeats 4000000 in
theorem open_shop {H : Type} {enc : TypeId × Value → H} {W : World} {b0 : Nat} {v : Value} {d : DataW H} {p : List MemPlace} (hval : Value.okWide Tryz.prog W .any b0 50 v) (h : DataW.Trod enc Tryz.prog W 0 (fun _ => true) true 50 v d p) :
    ∃ (L : LT) (dd : SD), v = sv L dd ∧ Rd W L dd ∧ Lens L := by
  obtain ⟨cs, rfl, hsz⟩ := okWide_struct Tryz.underlying50 hval
  obtain ⟨c0, c1, c2, c3, c4, c5, c6, c7, c8, c9, c10, c11, c12, c13, c14, c15, c16, rfl⟩ := cells17 (hsz.trans (by kernel_rfl))
  obtain ⟨fuel, hf⟩ := h
  obtain ⟨xs, k, _, _, _, hl, hF⟩ := DataW.trod_struct Tryz.underlying50 hf
  match xs, hl with
  | [y0, y1, y2, y3, y4, y5, y6, y7, y8, y9], _ =>
    have t0 := hF 0 _ rfl
    have t1 := hF 1 _ rfl
    have t2 := hF 2 _ rfl
    have t3 := hF 3 _ rfl
    have t4 := hF 4 _ rfl
    have t5 := hF 5 _ rfl
    have t6 := hF 6 _ rfl
    have t7 := hF 7 _ rfl
    have t8 := hF 8 _ rfl
    have t9 := hF 9 _ rfl
    have s0 : DataW.trod enc Tryz.prog W 0 (fun _ => true) true k 2 [c0] = some y0 := t0
    have s1 : DataW.trod enc Tryz.prog W 0 (fun _ => true) true k 2 [c1] = some y1 := t1
    have s2 : DataW.trod enc Tryz.prog W 0 (fun _ => true) true k 43 [c2] = some y2 := t2
    have s3 : DataW.trod enc Tryz.prog W 0 (fun _ => true) true k 27 [c3] = some y3 := t3
    have s4 : DataW.trod enc Tryz.prog W 0 (fun _ => true) true k 27 [c4] = some y4 := t4
    have s5 : DataW.trod enc Tryz.prog W 0 (fun _ => true) true k 27 [c5] = some y5 := t5
    have s6 : DataW.trod enc Tryz.prog W 0 (fun _ => true) true k 44 [c6, c7] = some y6 := t6
    have s7 : DataW.trod enc Tryz.prog W 0 (fun _ => true) true k 45 [c8, c9, c10, c11] = some y7 := t7
    have s8 : DataW.trod enc Tryz.prog W 0 (fun _ => true) true k 48 [c12, c13, c14, c15] = some y8 := t8
    have s9 : DataW.trod enc Tryz.prog W 0 (fun _ => true) true k 2 [c16] = some y9 := t9
    clear t0 t1 t2 t3 t4 t5 t6 t7 t8 t9
    obtain ⟨xa, ka, _, _, _, la, Fa⟩ := DataW.trod_struct Tryz.underlying44 s6
    obtain ⟨za0, za1, rfl⟩ : ∃ za0 za1, xa = [za0, za1] := by
      match xa, la with
      | [za0, za1], _ => exact ⟨za0, za1, rfl⟩
    have r6 : DataW.trod enc Tryz.prog W 0 (fun _ => true) true ka 27 [c6] = some za0 := Fa 0 _ rfl
    have r7 : DataW.trod enc Tryz.prog W 0 (fun _ => true) true ka 27 [c7] = some za1 := Fa 1 _ rfl
    obtain ⟨xb, kb, _, _, _, lb, Fb⟩ := DataW.trod_struct Tryz.underlying45 s7
    obtain ⟨zb0, zb1, zb2, zb3, rfl⟩ : ∃ zb0 zb1 zb2 zb3, xb = [zb0, zb1, zb2, zb3] := by
      match xb, lb with
      | [zb0, zb1, zb2, zb3], _ => exact ⟨zb0, zb1, zb2, zb3, rfl⟩
    have r8 : DataW.trod enc Tryz.prog W 0 (fun _ => true) true kb 27 [c8] = some zb0 := Fb 0 _ rfl
    have r9 : DataW.trod enc Tryz.prog W 0 (fun _ => true) true kb 27 [c9] = some zb1 := Fb 1 _ rfl
    have r10 : DataW.trod enc Tryz.prog W 0 (fun _ => true) true kb 2 [c10] = some zb2 := Fb 2 _ rfl
    have r11 : DataW.trod enc Tryz.prog W 0 (fun _ => true) true kb 2 [c11] = some zb3 := Fb 3 _ rfl
    obtain ⟨xe, ke, _, _, _, le, Fe⟩ := DataW.trod_struct Tryz.underlying48 s8
    obtain ⟨ze0, ze1, ze2, ze3, rfl⟩ : ∃ ze0 ze1 ze2 ze3, xe = [ze0, ze1, ze2, ze3] := by
      match xe, le with
      | [ze0, ze1, ze2, ze3], _ => exact ⟨ze0, ze1, ze2, ze3, rfl⟩
    have r12 : DataW.trod enc Tryz.prog W 0 (fun _ => true) true ke 46 [c12] = some ze0 := Fe 0 _ rfl
    have r13 : DataW.trod enc Tryz.prog W 0 (fun _ => true) true ke 27 [c13] = some ze1 := Fe 1 _ rfl
    have r14 : DataW.trod enc Tryz.prog W 0 (fun _ => true) true ke 2 [c14] = some ze2 := Fe 2 _ rfl
    have r15 : DataW.trod enc Tryz.prog W 0 (fun _ => true) true ke 2 [c15] = some ze3 := Fe 3 _ rfl
    obtain ⟨n0, e0, _⟩ := DataW.trod_int Tryz.underlying2 s0
    simp at e0
    subst e0
    obtain ⟨n1, e1, _⟩ := DataW.trod_int Tryz.underlying2 s1
    simp at e1
    subst e1
    obtain ⟨a2, l2, q2, d2, rfl, I2, m2⟩ := open_tasks_cell Tryz.underlying43 Tryz.underlying131 (by kernel_rfl) rfl rfl rfl rfl (by kernel_rfl) (by kernel_rfl) (by kernel_rfl) (by kernel_rfl) Tryz.underlying2 Tryz.underlying2 Tryz.underlying2 Tryz.underlying2 s2
    obtain ⟨a3, l3, q3, d3, rfl, I3, m3⟩ := open_ints_cell Tryz.underlying27 Tryz.underlying2 (by kernel_rfl) s3
    obtain ⟨a4, l4, q4, d4, rfl, I4, m4⟩ := open_ints_cell Tryz.underlying27 Tryz.underlying2 (by kernel_rfl) s4
    obtain ⟨a5, l5, q5, d5, rfl, I5, m5⟩ := open_ints_cell Tryz.underlying27 Tryz.underlying2 (by kernel_rfl) s5
    obtain ⟨a6, l6, q6, d6, rfl, I6, m6⟩ := open_ints_cell Tryz.underlying27 Tryz.underlying2 (by kernel_rfl) r6
    obtain ⟨a7, l7, q7, d7, rfl, I7, m7⟩ := open_ints_cell Tryz.underlying27 Tryz.underlying2 (by kernel_rfl) r7
    obtain ⟨a8, l8, q8, d8, rfl, I8, m8⟩ := open_ints_cell Tryz.underlying27 Tryz.underlying2 (by kernel_rfl) r8
    obtain ⟨a9, l9, q9, d9, rfl, I9, m9⟩ := open_ints_cell Tryz.underlying27 Tryz.underlying2 (by kernel_rfl) r9
    obtain ⟨n10, e10, _⟩ := DataW.trod_int Tryz.underlying2 r10
    simp at e10
    subst e10
    obtain ⟨n11, e11, _⟩ := DataW.trod_int Tryz.underlying2 r11
    simp at e11
    subst e11
    obtain ⟨a12, l12, q12, d12, rfl, I12, m12⟩ := open_shares_cell Tryz.underlying46 Tryz.underlying155 (by kernel_rfl) rfl rfl (by kernel_rfl) (by kernel_rfl) Tryz.underlying2 Tryz.underlying2 r12
    obtain ⟨a13, l13, q13, d13, rfl, I13, m13⟩ := open_ints_cell Tryz.underlying27 Tryz.underlying2 (by kernel_rfl) r13
    obtain ⟨n14, e14, _⟩ := DataW.trod_int Tryz.underlying2 r14
    simp at e14
    subst e14
    obtain ⟨n15, e15, _⟩ := DataW.trod_int Tryz.underlying2 r15
    simp at e15
    subst e15
    obtain ⟨n16, e16, _⟩ := DataW.trod_int Tryz.underlying2 s9
    simp at e16
    subst e16
    refine ⟨⟨⟨a2, l2, q2⟩, ⟨a3, l3, q3⟩, ⟨a4, l4, q4⟩, ⟨a5, l5, q5⟩, ⟨a6, l6, q6⟩, ⟨a7, l7, q7⟩, ⟨a8, l8, q8⟩, ⟨a9, l9, q9⟩, ⟨a12, l12, q12⟩, ⟨a13, l13, q13⟩⟩, ⟨n0, n1, d2, d3, d4, d5, d6, d7, d8, d9, n10, n11, d12, d13, n14, n15, n16⟩, rfl, ⟨I2, I3, I4, I5, I6, I7, I8, I9, I12, I13⟩, ?_⟩
    intro x hx
    simp only [List.mem_cons, List.not_mem_nil, or_false] at hx
    rcases hx with rfl | rfl | rfl | rfl | rfl | rfl | rfl | rfl | rfl | rfl <;> assumption

end Go.Proofs.YtcmeimfjedakeaaGreat.Crew
