/-
  Slices of Shares, two cells an element: what one reads as ('Shs'), one that lies at the head of a block of its own ('SRow'), and how both stay where other blocks are written.
-/
import Derived.Test.YtcmeimfjedakeaaGreatIntsBase
import Derived.Test.YtcmeimfjedakeaaGreatWinBase
namespace Go.Proofs.YtcmeimfjedakeaaGreat.Crew
open Go.ChangeShapes Go.WideShapes Go.ChangeAt Go.RowKit

/-- A Share: Num and Den. -/
abbrev Shr := Int × Int

/-- The slice at a, of len Shares, reads as ps. -/
def Shs (w : World) (a : Option Addr) (len : Nat) (ps : List Shr) : Prop :=
  ps.length = len ∧ (len = 0 ∨ ∃ b off, a = some ⟨b, off, none⟩ ∧ b < w.heap.size ∧ ∀ i, i < len → w.cell? ⟨b, off + i * 2, none⟩ = some (.int .i64 (ps.getD i (0, 0)).1) ∧ w.cell? ⟨b, off + i * 2 + 1, none⟩ = some (.int .i64 (ps.getD i (0, 0)).2))

theorem Shs.kept {w w' : World} {a : Option Addr} {len : Nat} {ps : List Shr} (h : Shs w a len ps) (g : Below w.heap.size w w') : Shs w' a len ps := by
  refine ⟨h.1, ?_⟩
  rcases h.2 with h | ⟨b, off, ha, hlt, hc⟩
  · exact .inl h
  · exact .inr ⟨b, off, ha, Nat.lt_of_lt_of_le hlt g.size, fun i hi => by rw [g.cell (p := ⟨b, off + i * 2, none⟩) hlt, g.cell (p := ⟨b, off + i * 2 + 1, none⟩) hlt]; exact hc i hi⟩

theorem Shs.other {w w' : World} {a : Option Addr} {len : Nat} {ps : List Shr} {row : Option Nat} (h : Shs w a len ps) (g : w.grownBy w' row) (hne : ∀ b off sp, a = some ⟨b, off, sp⟩ → some b ≠ row) : Shs w' a len ps := by
  refine ⟨h.1, ?_⟩
  rcases h.2 with h | ⟨b, off, ha, hlt, hc⟩
  · exact .inl h
  · exact .inr ⟨b, off, ha, Nat.lt_of_lt_of_le hlt g.size, fun i hi => ⟨(World.cell?_of_block (a := ⟨b, off + i * 2, none⟩) (g.block b hlt (hne _ _ _ ha))).trans (hc i hi).1, (World.cell?_of_block (a := ⟨b, off + i * 2 + 1, none⟩) (g.block b hlt (hne _ _ _ ha))).trans (hc i hi).2⟩⟩

theorem shs_drewN {w : World} {a : Option Addr} {len : Nat} {ps : List Shr} (h : Shs w a len ps) (n : Nat) : Shs (w.drewN n) a len ps :=
  h.kept (below_drewN (Below.refl _ _) n)

/-- The cells of some Shares. -/
def flat (ps : List Shr) : List Value := ps.flatMap fun p => [.int .i64 p.1, .int .i64 p.2]

theorem flat_nil : flat [] = [] := rfl

theorem flat_cons (p : Shr) (ps : List Shr) : flat (p :: ps) = .int .i64 p.1 :: .int .i64 p.2 :: flat ps := by simp [flat]

theorem flat_append (ps qs : List Shr) : flat (ps ++ qs) = flat ps ++ flat qs := by simp [flat]

theorem flat_length (ps : List Shr) : (flat ps).length = ps.length * 2 := by
  induction ps with
  | nil => rfl
  | cons p ps ih => rw [flat_cons]; simp [ih]; omega

theorem flat_get0 : ∀ (ps : List Shr) (i : Nat), i < ps.length → (flat ps)[i * 2]? = some (.int .i64 (ps.getD i (0, 0)).1) := by
  intro ps
  induction ps with
  | nil => intro i h; simp at h
  | cons p ps ih =>
    intro i h
    cases i with
    | zero => simp [flat_cons]
    | succ i =>
      rw [flat_cons, show (i + 1) * 2 = i * 2 + 1 + 1 by omega, List.getElem?_cons_succ, List.getElem?_cons_succ, ih i (by simpa using h)]
      simp

theorem flat_get1 : ∀ (ps : List Shr) (i : Nat), i < ps.length → (flat ps)[i * 2 + 1]? = some (.int .i64 (ps.getD i (0, 0)).2) := by
  intro ps
  induction ps with
  | nil => intro i h; simp at h
  | cons p ps ih =>
    intro i h
    cases i with
    | zero => simp [flat_cons]
    | succ i =>
      rw [flat_cons, show (i + 1) * 2 + 1 = (i * 2 + 1) + 1 + 1 by omega, List.getElem?_cons_succ, List.getElem?_cons_succ, ih i (by simpa using h)]
      simp

theorem flat_set0 : ∀ (ps : List Shr) (i : Nat) (v : Int), (flat ps).set (i * 2) (.int .i64 v) = flat (ps.set i (v, (ps.getD i (0, 0)).2)) := by
  intro ps
  induction ps with
  | nil => intro i v; simp [flat]
  | cons p ps ih =>
    intro i v
    cases i with
    | zero => simp [flat_cons]
    | succ i => rw [flat_cons, show (i + 1) * 2 = i * 2 + 1 + 1 by omega, List.set_cons_succ, List.set_cons_succ, ih, List.set_cons_succ, flat_cons]; simp

theorem flat_set1 : ∀ (ps : List Shr) (i : Nat) (v : Int), (flat ps).set (i * 2 + 1) (.int .i64 v) = flat (ps.set i ((ps.getD i (0, 0)).1, v)) := by
  intro ps
  induction ps with
  | nil => intro i v; simp [flat]
  | cons p ps ih =>
    intro i v
    cases i with
    | zero => simp [flat_cons]
    | succ i => rw [flat_cons, show (i + 1) * 2 + 1 = (i * 2 + 1) + 1 + 1 by omega, List.set_cons_succ, List.set_cons_succ, ih, List.set_cons_succ, flat_cons]; simp

theorem flat_zeros (n : Nat) : flat (List.replicate n (0, 0)) = List.replicate (n * 2) (.int .i64 0) := by
  induction n with
  | zero => rfl
  | succ n ih => rw [List.replicate_succ, flat_cons, ih, show (n + 1) * 2 = n * 2 + 1 + 1 by omega, List.replicate_succ, List.replicate_succ]

/-- Block g is a row of the call's own, room for cap Shares, the first of which are ps. -/
def SRow (w : World) (g cap : Nat) (ps : List Shr) : Prop :=
  ∃ cur : Array Value, w.heap[g]? = some (.cells cur 122 (0, 0)) ∧ ps.length ≤ cap ∧ cap ≤ maxLen ∧ cur.size = cap * 2 ∧ cur.toList.take (ps.length * 2) = flat ps

theorem SRow.lt {w : World} {g cap : Nat} {ps : List Shr} (h : SRow w g cap ps) : g < w.heap.size := by
  obtain ⟨cur, hb, _⟩ := h
  exact (Array.getElem?_eq_some_iff.1 hb).1

theorem SRow.owns {w : World} {g cap : Nat} {ps : List Shr} (h : SRow w g cap ps) {base : Nat} (hb : base ≤ g) : w.ownsRow base 122 2 (.slice (some ⟨g, 0, none⟩) ps.length cap) ps.length (flat ps) := by
  obtain ⟨cur, hh, hl, hm, hs, ht⟩ := h
  exact ⟨flat_length ps, .inr ⟨g, cap, cur, rfl, hb, hh, hl, hm, hs, ht⟩⟩

theorem srow_of_owns {w : World} {base g n cap : Nat} {ps : List Shr} (h : w.ownsRow base 122 2 (.slice (some ⟨g, 0, none⟩) n cap) n (flat ps)) : SRow w g cap ps ∧ base ≤ g ∧ ps.length = n := by
  obtain ⟨h1, h2⟩ := h
  have hn : ps.length = n := by rw [flat_length] at h1; omega
  rcases h2 with ⟨h', _⟩ | ⟨g', cap', cur, h', hb, hg, hl, hm, hs, ht⟩
  · simp at h'
  · simp only [Value.slice.injEq, Option.some.injEq, Addr.mk.injEq, and_true, true_and] at h'
    obtain ⟨rfl, rfl⟩ := h'
    exact ⟨⟨cur, hg, by omega, hm, hs, by rw [hn]; exact ht⟩, hb, hn⟩

theorem SRow.at {w : World} {g cap : Nat} {ps : List Shr} (h : SRow w g cap ps) {j : Nat} (hj : j < ps.length * 2) : w.cell? ⟨g, j, none⟩ = (flat ps)[j]? := by
  obtain ⟨cur, hh, hl, hm, hs, ht⟩ := h
  rw [cell_of_row w g j cur _ (0, 0) hh, ← ht, List.getElem?_take, if_pos hj]
  simp

theorem SRow.c0 {w : World} {g cap : Nat} {ps : List Shr} (h : SRow w g cap ps) {j : Nat} (hj : j < ps.length) : w.cell? ⟨g, j * 2, none⟩ = some (.int .i64 (ps.getD j (0, 0)).1) := by
  rw [h.at (by omega), flat_get0 ps j hj]

theorem SRow.c1 {w : World} {g cap : Nat} {ps : List Shr} (h : SRow w g cap ps) {j : Nat} (hj : j < ps.length) : w.cell? ⟨g, j * 2 + 1, none⟩ = some (.int .i64 (ps.getD j (0, 0)).2) := by
  rw [h.at (by omega), flat_get1 ps j hj]

theorem SRow.frozen {w : World} {g cap : Nat} {ps : List Shr} (h : SRow w g cap ps) (j : Nat) : w.frozen? ⟨g, j, none⟩ = false := by
  obtain ⟨cur, hh, _⟩ := h
  exact frozen_of_row w g j cur _ hh

theorem SRow.shs {w : World} {g cap : Nat} {ps : List Shr} (h : SRow w g cap ps) : Shs w (some ⟨g, 0, none⟩) ps.length ps :=
  ⟨rfl, .inr ⟨g, 0, rfl, h.lt, fun i hi => by rw [Nat.zero_add]; exact ⟨h.c0 hi, h.c1 hi⟩⟩⟩

theorem SRow.kept {w w' : World} {g cap : Nat} {ps : List Shr} {B : Nat} (h : SRow w g cap ps) (b : Below B w w') (hg : g < B) : SRow w' g cap ps := by
  obtain ⟨cur, hh, r⟩ := h
  exact ⟨cur, by rw [b.block g hg]; exact hh, r⟩

theorem SRow.all {w w' : World} {g cap : Nat} {ps : List Shr} (h : SRow w g cap ps) (b : Below w.heap.size w w') : SRow w' g cap ps := h.kept b h.lt

theorem SRow.other {w w' : World} {g cap : Nat} {ps : List Shr} {row : Option Nat} (h : SRow w g cap ps) (b : w.grownBy w' row) (hne : some g ≠ row) : SRow w' g cap ps := by
  have := h.lt
  obtain ⟨cur, hh, r⟩ := h
  exact ⟨cur, by rw [b.block g this hne]; exact hh, r⟩

theorem SRow.set0 {w : World} {g cap : Nat} {ps : List Shr} (h : SRow w g cap ps) (j : Nat) (v : Int) : SRow (w.setCell ⟨g, j * 2, none⟩ (.int .i64 v)) g cap (ps.set j (v, (ps.getD j (0, 0)).2)) := by
  obtain ⟨cur, hh, hl, hm, hs, ht⟩ := h
  refine ⟨cur.setIfInBounds (j * 2) (.int .i64 v), heap_setCell_same w g (j * 2) cur _ _ hh, by simpa using hl, hm, by simpa using hs, ?_⟩
  rw [Array.toList_setIfInBounds, List.length_set, List.take_set, ht, flat_set0]

theorem SRow.set1 {w : World} {g cap : Nat} {ps : List Shr} (h : SRow w g cap ps) (j : Nat) (v : Int) : SRow (w.setCell ⟨g, j * 2 + 1, none⟩ (.int .i64 v)) g cap (ps.set j ((ps.getD j (0, 0)).1, v)) := by
  obtain ⟨cur, hh, hl, hm, hs, ht⟩ := h
  refine ⟨cur.setIfInBounds (j * 2 + 1) (.int .i64 v), heap_setCell_same w g (j * 2 + 1) cur _ _ hh, by simpa using hl, hm, by simpa using hs, ?_⟩
  rw [Array.toList_setIfInBounds, List.length_set, List.take_set, ht, flat_set1]

theorem SRow.set {w : World} {g cap : Nat} {ps : List Shr} (h : SRow w g cap ps) (j : Nat) (x y : Int) : SRow ((w.setCell ⟨g, j * 2, none⟩ (.int .i64 x)).setCell ⟨g, j * 2 + 1, none⟩ (.int .i64 y)) g cap (ps.set j (x, y)) := by
  have h2 := (h.set0 j x).set1 j y
  have e : (ps.set j (x, (ps.getD j (0, 0)).2)).set j (((ps.set j (x, (ps.getD j (0, 0)).2)).getD j (0, 0)).1, y) = ps.set j (x, y) := by
    rw [List.set_set]
    by_cases hj : j < ps.length
    · simp [List.getD, hj]
    · rw [List.set_eq_of_length_le (by omega), List.set_eq_of_length_le (by omega)]
  rw [e] at h2
  exact h2

theorem grown_two (w : World) (g i j : Nat) (u v : Value) : w.grownBy ((w.setCell ⟨g, i, none⟩ u).setCell ⟨g, j, none⟩ v) (some g) :=
  (grown_at w g i u).trans (grown_at _ g j v)

theorem srow_new (w : World) (ps : List Shr) (hm : ps.length ≤ maxLen) : SRow (w.alloc (.cells (flat ps).toArray 122)) w.heap.size ps.length ps :=
  ⟨_, heap_alloc_new w _, Nat.le_refl _, hm, by simp [flat_length], List.take_of_length_le (by simp [flat_length])⟩

theorem srow_nil (w : World) : SRow (w.alloc (.cells #[] 122)) w.heap.size 0 [] := by simpa [flat] using srow_new w [] (by simp [maxLen])

theorem srow_drewN {w : World} {g cap : Nat} {ps : List Shr} (h : SRow w g cap ps) (n : Nat) : SRow (w.drewN n) g cap ps :=
  h.all (below_drewN (Below.refl _ _) n)

theorem info_shr : (Tryz.prog.info? 122).map (fun i => (i.zero, i.size, i.bytes)) = some (some (.agg #[.int .i64 0, .int .i64 0]), 2, 16) := by kernel_rfl

theorem made_shares (n : Nat) : (madeCells #[.int .i64 0, .int .i64 0] (n * 2)).toList = flat (List.replicate n (0, 0)) := by
  rw [flat_zeros, List.eq_replicate_iff]
  refine ⟨by simp [madeCells], fun b hb => ?_⟩
  simp only [madeCells, Array.toList_map, List.mem_map] at hb
  obtain ⟨a, _, rfl⟩ := hb
  have : a % 2 = 0 ∨ a % 2 = 1 := by omega
  rcases this with h | h <;> simp [h]

theorem shs_take_step {ps : List Shr} {k : Nat} (h : k < ps.length) : (ps.take k ++ List.replicate (ps.length - k) (0, 0)).set k (ps.getD k (0, 0)) = ps.take (k + 1) ++ List.replicate (ps.length - (k + 1)) (0, 0) := by
  rw [show ps.length - k = (ps.length - (k + 1)) + 1 by omega, List.replicate_succ, List.set_append_right _ _ (by simp; omega), List.length_take, show k - min k ps.length = 0 by omega, List.set_cons_zero, List.take_succ_eq_append_getElem h]
  rw [show ps.getD k (0, 0) = ps[k] by simp [List.getD, h], List.append_assoc]
  rfl

theorem shs_take_same {xs ys : List Shr} {k : Nat} (h : xs.take k = ys.take k) (hx : k < xs.length) (hy : k < ys.length) (he : xs.getD k (0, 0) = ys.getD k (0, 0)) : xs.take (k + 1) = ys.take (k + 1) := by
  rw [List.take_succ_eq_append_getElem hx, List.take_succ_eq_append_getElem hy, h]
  simp [List.getD, hx, hy] at he
  rw [he]

end Go.Proofs.YtcmeimfjedakeaaGreat.Crew
