/-
  Slices of int64: what one reads as ('Ints'), one that lies at the head of a block of its own ('Row'), and how both stay where other blocks are written.
-/
import Derived.Test.YtlmlgidfgjejpaaRows
import Derived.WalkKit
import Derived.ProofKit
import Derived.OpenShut
import Derived.Below
import Derived.Deep.QuietTactic
import Derived.BigQuiet
import Derived.Maps.RangeWalk
import Derived.Maps.AppendAt
namespace Go.Proofs.Ytlmlgidfgjejpaa.Crew
open Go.ChangeShapes Go.WideShapes Go.ChangeAt Go.RowKit

/-- The slice at a, of len numbers, reads as xs. -/
def Ints (w : World) (a : Option Addr) (len : Nat) (xs : List Int) : Prop :=
  xs.length = len ∧ (len = 0 ∨ ∃ b off, a = some ⟨b, off, none⟩ ∧ b < w.heap.size ∧ ∀ i, i < len → w.cell? ⟨b, off + i, none⟩ = some (.int .i64 (xs.getD i 0)))

theorem Ints.kept {w w' : World} {a : Option Addr} {len : Nat} {xs : List Int} (h : Ints w a len xs) (g : Below w.heap.size w w') : Ints w' a len xs := by
  refine ⟨h.1, ?_⟩
  rcases h.2 with h | ⟨b, off, ha, hlt, hc⟩
  · exact .inl h
  · exact .inr ⟨b, off, ha, Nat.lt_of_lt_of_le hlt g.size, fun i hi => by rw [g.cell (p := ⟨b, off + i, none⟩) hlt]; exact hc i hi⟩

/-- Where another block alone is written. -/
theorem Ints.other {w w' : World} {a : Option Addr} {len : Nat} {xs : List Int} {row : Option Nat} (h : Ints w a len xs) (g : w.grownBy w' row) (hne : ∀ b off sp, a = some ⟨b, off, sp⟩ → some b ≠ row) : Ints w' a len xs := by
  refine ⟨h.1, ?_⟩
  rcases h.2 with h | ⟨b, off, ha, hlt, hc⟩
  · exact .inl h
  · exact .inr ⟨b, off, ha, Nat.lt_of_lt_of_le hlt g.size, fun i hi => by rw [World.cell?_of_block (g.block b hlt (hne _ _ _ ha))]; exact hc i hi⟩

/-- Block g is a row of the call's own, room for cap numbers, the first of which are xs. -/
def Row (w : World) (g cap : Nat) (xs : List Int) : Prop :=
  ∃ cur : Array Value, w.heap[g]? = some (.cells cur 2 (0, 0)) ∧ xs.length ≤ cap ∧ cap ≤ maxLen ∧ cur.size = cap ∧ cur.toList.take xs.length = xs.map (Value.int .i64)

theorem Row.lt {w : World} {g cap : Nat} {xs : List Int} (h : Row w g cap xs) : g < w.heap.size := by
  obtain ⟨cur, hb, _⟩ := h
  exact (Array.getElem?_eq_some_iff.1 hb).1

theorem Row.owns {w : World} {g cap : Nat} {xs : List Int} (h : Row w g cap xs) {base : Nat} (hb : base ≤ g) : w.ownsRow base 2 1 (.slice (some ⟨g, 0, none⟩) xs.length cap) xs.length (xs.map (Value.int .i64)) := by
  obtain ⟨cur, hh, hl, hm, hs, ht⟩ := h
  exact ⟨by simp, .inr ⟨g, cap, cur, rfl, hb, hh, hl, hm, by simpa using hs, by simpa using ht⟩⟩

theorem row_of_owns {w : World} {base g n cap : Nat} {xs : List Int} (h : w.ownsRow base 2 1 (.slice (some ⟨g, 0, none⟩) n cap) n (xs.map (Value.int .i64))) : Row w g cap xs ∧ base ≤ g ∧ xs.length = n := by
  obtain ⟨h1, h2⟩ := h
  have hn : xs.length = n := by simpa using h1
  rcases h2 with ⟨h', _⟩ | ⟨g', cap', cur, h', hb, hg, hl, hm, hs, ht⟩
  · simp at h'
  · simp only [Value.slice.injEq, Option.some.injEq, Addr.mk.injEq, and_true, true_and] at h'
    obtain ⟨rfl, rfl⟩ := h'
    exact ⟨⟨cur, hg, by omega, hm, by simpa using hs, by rw [hn]; simpa using ht⟩, hb, hn⟩

theorem Row.cell {w : World} {g cap : Nat} {xs : List Int} (h : Row w g cap xs) {j : Nat} (hj : j < xs.length) : w.cell? ⟨g, j, none⟩ = some (.int .i64 (xs.getD j 0)) := by
  obtain ⟨cur, hh, hl, hm, hs, ht⟩ := h
  rw [cell_of_row w g j cur _ (0, 0) hh]
  have h1 : (cur.toList.take xs.length)[j]? = cur[j]? := by rw [List.getElem?_take, if_pos hj]; simp
  rw [← h1, ht]
  simp [hj, List.getD]

theorem Row.frozen {w : World} {g cap : Nat} {xs : List Int} (h : Row w g cap xs) (j : Nat) : w.frozen? ⟨g, j, none⟩ = false := by
  obtain ⟨cur, hh, _⟩ := h
  exact frozen_of_row w g j cur _ hh

theorem Row.ints {w : World} {g cap : Nat} {xs : List Int} (h : Row w g cap xs) : Ints w (some ⟨g, 0, none⟩) xs.length xs :=
  ⟨rfl, .inr ⟨g, 0, rfl, h.lt, fun i hi => by rw [Nat.zero_add]; exact h.cell hi⟩⟩

theorem Row.kept {w w' : World} {g cap : Nat} {xs : List Int} {B : Nat} (h : Row w g cap xs) (b : Below B w w') (hg : g < B) : Row w' g cap xs := by
  obtain ⟨cur, hh, r⟩ := h
  exact ⟨cur, by rw [b.block g hg]; exact hh, r⟩

theorem Row.all {w w' : World} {g cap : Nat} {xs : List Int} (h : Row w g cap xs) (b : Below w.heap.size w w') : Row w' g cap xs := h.kept b h.lt

theorem Row.other {w w' : World} {g cap : Nat} {xs : List Int} {row : Option Nat} (h : Row w g cap xs) (b : w.grownBy w' row) (hne : some g ≠ row) : Row w' g cap xs := by
  have := h.lt
  obtain ⟨cur, hh, r⟩ := h
  exact ⟨cur, by rw [b.block g this hne]; exact hh, r⟩

theorem Row.set {w : World} {g cap : Nat} {xs : List Int} (h : Row w g cap xs) (j : Nat) (v : Int) : Row (w.setCell ⟨g, j, none⟩ (.int .i64 v)) g cap (xs.set j v) := by
  obtain ⟨cur, hh, hl, hm, hs, ht⟩ := h
  refine ⟨cur.setIfInBounds j (.int .i64 v), heap_setCell_same w g j cur _ _ hh, by simpa using hl, hm, by simpa using hs, ?_⟩
  rw [Array.toList_setIfInBounds, List.length_set, List.take_set, ht, List.map_set]

theorem grown_at (w : World) (g j : Nat) (v : Value) : w.grownBy (w.setCell ⟨g, j, none⟩ v) (some g) :=
  ⟨rfl, rfl, rfl, by simp, fun i _ hne => heap_setCell_other w ⟨g, j, none⟩ i v (fun e => hne (by simp at e; rw [e]))⟩

theorem Row.cut {w : World} {g cap : Nat} {xs : List Int} (h : Row w g cap xs) (k : Nat) : Row w g cap (xs.take k) := by
  obtain ⟨cur, hh, hl, hm, hs, ht⟩ := h
  refine ⟨cur, hh, by simp; omega, hm, hs, ?_⟩
  rw [List.length_take, ← List.take_take, ht, List.map_take]

theorem row_new (w : World) (xs : List Int) (hm : xs.length ≤ maxLen) : Row (w.alloc (.cells (xs.map (Value.int .i64)).toArray 2)) w.heap.size xs.length xs :=
  ⟨_, heap_alloc_new w _, Nat.le_refl _, hm, by simp, List.take_of_length_le (by simp)⟩

theorem below_drewN {B : Nat} {w w' : World} (h : Below B w w') (n : Nat) : Below B w (w'.drewN n) := by
  induction n with
  | zero => exact h
  | succ n ih => exact ih.drew

theorem row_drewN {w : World} {g cap : Nat} {xs : List Int} (h : Row w g cap xs) (n : Nat) : Row (w.drewN n) g cap xs :=
  h.all (below_drewN (Below.refl _ _) n)

theorem ints_drewN {w : World} {a : Option Addr} {len : Nat} {xs : List Int} (h : Ints w a len xs) (n : Nat) : Ints (w.drewN n) a len xs :=
  h.kept (below_drewN (Below.refl _ _) n)

theorem info_int : (Try.prog.info? 2).map (fun i => (i.zero, i.size, i.bytes)) = some (some (.int .i64 0), 1, 8) := by kernel_rfl

theorem made_zero (n : Nat) : (madeCells #[.int .i64 0] n).toList = (List.replicate n (0 : Int)).map (Value.int .i64) := by
  rw [toList_madeCells_one]
  simp

/-- A slice of int64 that came in, as the shell of a proof names it. -/
theorem ints_of {w : World} {a : Option Addr} {len cap : Nat} {zs : List Int}
    (h : (a = none ∧ len = 0 ∧ cap = 0 ∧ zs = []) ∨ ∃ x, a = some x ∧ len ≤ cap ∧ cap ≤ maxLen ∧ zs.length = cap ∧ (∀ i, i < zs.length → w.cell? (x.add i) = some (.int .i64 (zs.getD i 0))) ∧ ∀ n ∈ zs, (Lit.int .i64 n).wf = true) :
    ∃ xs, Ints w a len xs ∧ ∀ n ∈ xs, -9223372036854775808 ≤ n ∧ n ≤ 9223372036854775807 := by
  rcases h with ⟨_, h, _, _⟩ | ⟨x, rfl, hl, _, hz, hc, hw⟩
  · exact ⟨[], ⟨by simp [h], .inl h⟩, by simp⟩
  · refine ⟨zs.take len, ⟨by simp; omega, ?_⟩, fun n hn => by simpa [Lit.wf, IntKind.min, IntKind.max, IntKind.signed, IntKind.bits] using hw _ (List.mem_of_mem_take hn)⟩
    by_cases h0 : len = 0
    · exact .inl h0
    · obtain ⟨b, off, spot⟩ := x
      have c0 := hc 0 (by omega)
      have hs : spot = none := by simpa [Addr.add] using World.cell?_spot c0
      subst hs
      have hb : b < w.heap.size := by
        rcases Nat.lt_or_ge b w.heap.size with h | h
        · exact h
        · simp [World.cell?, Addr.add, Array.getElem?_eq_none h] at c0
      refine .inr ⟨b, off, rfl, hb, fun i hi => ?_⟩
      have ha : (⟨b, off, none⟩ : Addr).add i = ⟨b, off + i, none⟩ := by
        unfold Addr.add
        split
        · rename_i h; simp_all
        · rfl
      rw [← ha, hc i (by omega)]
      simp [List.getD, hi]

end Go.Proofs.Ytlmlgidfgjejpaa.Crew
