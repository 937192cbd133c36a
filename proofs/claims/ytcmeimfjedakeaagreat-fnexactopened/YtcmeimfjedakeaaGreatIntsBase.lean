/-
  Slices of int64: what one reads as ('Ints'), one that lies at the head of a block of its own ('Row'), and how both stay where other blocks are written.
  What the exact laws do with slices of int64: copy one, hold two against each other, mark one and look whether the marks are held.
  append onto a slice of int64 of the call's own: whatever slice is appended, the walk goes on in one way.
  laws.likeInts: are two slices of int64 alike.
-/
import Derived.Test.YtcmeimfjedakeaaGreatRows
import Derived.WalkKit
import Derived.ProofKit
import Derived.OpenShut
import Derived.Below
import Derived.Deep.QuietTactic
import Derived.BigQuiet
import Derived.Maps.RangeWalk
import Derived.Maps.AppendAt
namespace Go.Proofs.YtcmeimfjedakeaaGreat.Crew
open Go.ChangeShapes Go.WideShapes Go.ChangeAt Go.RowKit

/-- The slice at a, of len numbers, reads as xs. -/
def Ints (w : World) (a : Option Addr) (len : Nat) (xs : List Int) : Prop :=
  xs.length = len ∧ (len = 0 ∨ ∃ b off, a = some ⟨b, off, none⟩ ∧ b < w.heap.size ∧ ∀ i, i < len → w.cell? ⟨b, off + i, none⟩ = some (.int .i64 (xs.getD i 0)))

theorem Ints.kept {w w' : World} {a : Option Addr} {len : Nat} {xs : List Int} (h : Ints w a len xs) (g : Below w.heap.size w w') : Ints w' a len xs := by
  refine ⟨h.1, ?_⟩
  rcases h.2 with h | ⟨b, off, ha, hlt, hc⟩
  · exact .inl h
  · exact .inr ⟨b, off, ha, Nat.lt_of_lt_of_le hlt g.size, fun i hi => by rw [g.cell (p := ⟨b, off + i, none⟩) hlt]; exact hc i hi⟩

/-- Where another block alone is written. -/
theorem Ints.other {w w' : World} {a : Option Addr} {len : Nat} {xs : List Int} {row : Option Nat} (h : Ints w a len xs) (g : w.grownBy w' row) (hne : ∀ b off sp, a = some ⟨b, off, sp⟩ → some b ≠ row) : Ints w' a len xs := by
  refine ⟨h.1, ?_⟩
  rcases h.2 with h | ⟨b, off, ha, hlt, hc⟩
  · exact .inl h
  · exact .inr ⟨b, off, ha, Nat.lt_of_lt_of_le hlt g.size, fun i hi => by rw [World.cell?_of_block (g.block b hlt (hne _ _ _ ha))]; exact hc i hi⟩

/-- Block g is a row of the call's own, room for cap numbers, the first of which are xs. -/
def Row (w : World) (g cap : Nat) (xs : List Int) : Prop :=
  ∃ cur : Array Value, w.heap[g]? = some (.cells cur 2 (0, 0)) ∧ xs.length ≤ cap ∧ cap ≤ maxLen ∧ cur.size = cap ∧ cur.toList.take xs.length = xs.map (Value.int .i64)

theorem Row.lt {w : World} {g cap : Nat} {xs : List Int} (h : Row w g cap xs) : g < w.heap.size := by
  obtain ⟨cur, hb, _⟩ := h
  exact (Array.getElem?_eq_some_iff.1 hb).1

theorem Row.owns {w : World} {g cap : Nat} {xs : List Int} (h : Row w g cap xs) {base : Nat} (hb : base ≤ g) : w.ownsRow base 2 1 (.slice (some ⟨g, 0, none⟩) xs.length cap) xs.length (xs.map (Value.int .i64)) := by
  obtain ⟨cur, hh, hl, hm, hs, ht⟩ := h
  exact ⟨by simp, .inr ⟨g, cap, cur, rfl, hb, hh, hl, hm, by simpa using hs, by simpa using ht⟩⟩

theorem row_of_owns {w : World} {base g n cap : Nat} {xs : List Int} (h : w.ownsRow base 2 1 (.slice (some ⟨g, 0, none⟩) n cap) n (xs.map (Value.int .i64))) : Row w g cap xs ∧ base ≤ g ∧ xs.length = n := by
  obtain ⟨h1, h2⟩ := h
  have hn : xs.length = n := by simpa using h1
  rcases h2 with ⟨h', _⟩ | ⟨g', cap', cur, h', hb, hg, hl, hm, hs, ht⟩
  · simp at h'
  · simp only [Value.slice.injEq, Option.some.injEq, Addr.mk.injEq, and_true, true_and] at h'
    obtain ⟨rfl, rfl⟩ := h'
    exact ⟨⟨cur, hg, by omega, hm, by simpa using hs, by rw [hn]; simpa using ht⟩, hb, hn⟩

theorem Row.cell {w : World} {g cap : Nat} {xs : List Int} (h : Row w g cap xs) {j : Nat} (hj : j < xs.length) : w.cell? ⟨g, j, none⟩ = some (.int .i64 (xs.getD j 0)) := by
  obtain ⟨cur, hh, hl, hm, hs, ht⟩ := h
  rw [cell_of_row w g j cur _ (0, 0) hh]
  have h1 : (cur.toList.take xs.length)[j]? = cur[j]? := by rw [List.getElem?_take, if_pos hj]; simp
  rw [← h1, ht]
  simp [hj, List.getD]

theorem Row.frozen {w : World} {g cap : Nat} {xs : List Int} (h : Row w g cap xs) (j : Nat) : w.frozen? ⟨g, j, none⟩ = false := by
  obtain ⟨cur, hh, _⟩ := h
  exact frozen_of_row w g j cur _ hh

theorem Row.ints {w : World} {g cap : Nat} {xs : List Int} (h : Row w g cap xs) : Ints w (some ⟨g, 0, none⟩) xs.length xs :=
  ⟨rfl, .inr ⟨g, 0, rfl, h.lt, fun i hi => by rw [Nat.zero_add]; exact h.cell hi⟩⟩

theorem Row.kept {w w' : World} {g cap : Nat} {xs : List Int} {B : Nat} (h : Row w g cap xs) (b : Below B w w') (hg : g < B) : Row w' g cap xs := by
  obtain ⟨cur, hh, r⟩ := h
  exact ⟨cur, by rw [b.block g hg]; exact hh, r⟩

theorem Row.all {w w' : World} {g cap : Nat} {xs : List Int} (h : Row w g cap xs) (b : Below w.heap.size w w') : Row w' g cap xs := h.kept b h.lt

theorem Row.other {w w' : World} {g cap : Nat} {xs : List Int} {row : Option Nat} (h : Row w g cap xs) (b : w.grownBy w' row) (hne : some g ≠ row) : Row w' g cap xs := by
  have := h.lt
  obtain ⟨cur, hh, r⟩ := h
  exact ⟨cur, by rw [b.block g this hne]; exact hh, r⟩

theorem Row.set {w : World} {g cap : Nat} {xs : List Int} (h : Row w g cap xs) (j : Nat) (v : Int) : Row (w.setCell ⟨g, j, none⟩ (.int .i64 v)) g cap (xs.set j v) := by
  obtain ⟨cur, hh, hl, hm, hs, ht⟩ := h
  refine ⟨cur.setIfInBounds j (.int .i64 v), heap_setCell_same w g j cur _ _ hh, by simpa using hl, hm, by simpa using hs, ?_⟩
  rw [Array.toList_setIfInBounds, List.length_set, List.take_set, ht, List.map_set]

theorem grown_at (w : World) (g j : Nat) (v : Value) : w.grownBy (w.setCell ⟨g, j, none⟩ v) (some g) :=
  ⟨rfl, rfl, rfl, by simp, fun i _ hne => heap_setCell_other w ⟨g, j, none⟩ i v (fun e => hne (by simp at e; rw [e]))⟩

theorem Row.cut {w : World} {g cap : Nat} {xs : List Int} (h : Row w g cap xs) (k : Nat) : Row w g cap (xs.take k) := by
  obtain ⟨cur, hh, hl, hm, hs, ht⟩ := h
  refine ⟨cur, hh, by simp; omega, hm, hs, ?_⟩
  rw [List.length_take, ← List.take_take, ht, List.map_take]

theorem row_new (w : World) (xs : List Int) (hm : xs.length ≤ maxLen) : Row (w.alloc (.cells (xs.map (Value.int .i64)).toArray 2)) w.heap.size xs.length xs :=
  ⟨_, heap_alloc_new w _, Nat.le_refl _, hm, by simp, List.take_of_length_le (by simp)⟩

theorem below_drewN {B : Nat} {w w' : World} (h : Below B w w') (n : Nat) : Below B w (w'.drewN n) := by
  induction n with
  | zero => exact h
  | succ n ih => exact ih.drew

theorem row_drewN {w : World} {g cap : Nat} {xs : List Int} (h : Row w g cap xs) (n : Nat) : Row (w.drewN n) g cap xs :=
  h.all (below_drewN (Below.refl _ _) n)

theorem ints_drewN {w : World} {a : Option Addr} {len : Nat} {xs : List Int} (h : Ints w a len xs) (n : Nat) : Ints (w.drewN n) a len xs :=
  h.kept (below_drewN (Below.refl _ _) n)

theorem info_int : (Tryz.prog.info? 2).map (fun i => (i.zero, i.size, i.bytes)) = some (some (.int .i64 0), 1, 8) := by kernel_rfl

theorem made_zero (n : Nat) : (madeCells #[.int .i64 0] n).toList = (List.replicate n (0 : Int)).map (Value.int .i64) := by
  rw [toList_madeCells_one]
  simp

/-- A slice of int64 that came in, as the shell of a proof names it. -/
theorem ints_of {w : World} {a : Option Addr} {len cap : Nat} {zs : List Int}
    (h : (a = none ∧ len = 0 ∧ cap = 0 ∧ zs = []) ∨ ∃ x, a = some x ∧ len ≤ cap ∧ cap ≤ maxLen ∧ zs.length = cap ∧ (∀ i, i < zs.length → w.cell? (x.add i) = some (.int .i64 (zs.getD i 0))) ∧ ∀ n ∈ zs, (Lit.int .i64 n).wf = true) :
    ∃ xs, Ints w a len xs ∧ ∀ n ∈ xs, -9223372036854775808 ≤ n ∧ n ≤ 9223372036854775807 := by
  rcases h with ⟨_, h, _, _⟩ | ⟨x, rfl, hl, _, hz, hc, hw⟩
  · exact ⟨[], ⟨by simp [h], .inl h⟩, by simp⟩
  · refine ⟨zs.take len, ⟨by simp; omega, ?_⟩, fun n hn => by simpa [Lit.wf, IntKind.min, IntKind.max, IntKind.signed, IntKind.bits] using hw _ (List.mem_of_mem_take hn)⟩
    by_cases h0 : len = 0
    · exact .inl h0
    · obtain ⟨b, off, spot⟩ := x
      have c0 := hc 0 (by omega)
      have hs : spot = none := by simpa [Addr.add] using World.cell?_spot c0
      subst hs
      have hb : b < w.heap.size := by
        rcases Nat.lt_or_ge b w.heap.size with h | h
        · exact h
        · simp [World.cell?, Addr.add, Array.getElem?_eq_none h] at c0
      refine .inr ⟨b, off, rfl, hb, fun i hi => ?_⟩
      have ha : (⟨b, off, none⟩ : Addr).add i = ⟨b, off + i, none⟩ := by
        unfold Addr.add
        split
        · rename_i h; simp_all
        · rfl
      rw [← ha, hc i (by omega)]
      simp [List.getD, hi]

end Go.Proofs.YtcmeimfjedakeaaGreat.Crew

namespace Go.Proofs.YtcmeimfjedakeaaGreat.Crew
open Go.ChangeShapes Go.WideShapes Go.ChangeAt Go.RowKit

theorem take_step {xs : List Int} {k : Nat} (h : k < xs.length) : (xs.take k ++ List.replicate (xs.length - k) 0).set k (xs.getD k 0) = xs.take (k + 1) ++ List.replicate (xs.length - (k + 1)) 0 := by
  rw [show xs.length - k = (xs.length - (k + 1)) + 1 by omega, List.replicate_succ, List.set_append_right _ _ (by simp; omega), List.length_take, show k - min k xs.length = 0 by omega, List.set_cons_zero, List.take_succ_eq_append_getElem h]
  rw [show xs.getD k 0 = xs[k] by simp [List.getD, h], List.append_assoc]
  rfl

/-- laws.toInt64S: a copy, in a block of its own. -/
theorem toInts_any (a : Option Addr) (len cap : Nat) (xs : List Int) (w : World) (I : Ints w a len xs) (hs : (len : Int) ≤ 1048576) :
    Calls Tryz.prog 61 #[.slice a len cap] w fun e w' => e = .returned (.slice (some ⟨w.heap.size, 0, none⟩) len len) ∧ Row w' w.heap.size len xs ∧ Below w.heap.size w w' := by
  obtain ⟨i0, hi, hz0, hz1, hz2⟩ := info_parts info_int
  have HI : Hid (Ints w a len xs) := I
  clear I
  go_enter Tryz.func61, Tryz.ntmps61
  go_wp2_with (at_make; refine wpList_make_full _ rfl (.tmp 6) (.tmp 6) 27 rfl w.heap.size 2 i0 (.int .i64 0) 1 Tryz.underlying27 hi hz0 hz1 _ _ _ _ len rfl rfl rfl rfl (by rw [hz2]; omega) (by unfold maxLen; omega) (Nat.le_refl _) ?_)
  intro w1 hown hgrow
  rw [made_zero] at hown
  have R0 : Hid (Row w1 w.heap.size len (List.replicate len 0)) := (row_of_owns hown).1
  have B0 : Hid (Below w.heap.size w w1) := (Below.refl _ w).grown hgrow (Nat.le_refl _) (fun k h => by cases h)
  clear hown hgrow hi hz0 hz1 hz2
  go_wp2_with fail
  go_loopw [4] (fun i wr => ∃ k : Nat, k ≤ len ∧ i = .int .i64 k ∧ Hid (Row wr w.heap.size len (xs.take k ++ List.replicate (len - k) 0)) ∧ Hid (Below w.heap.size w wr)) (fun i _ => len - (intOf i).toNat)
  case atStart => exact ⟨0, Nat.zero_le _, rfl, by simpa using R0, B0⟩
  case round =>
    obtain ⟨k, hk, rfl, R, B⟩ := hrel
    by_cases hlt : k < len
    · obtain ⟨hl, h0 | ⟨b, off, rfl, hb, hc⟩⟩ := HI.out.kept B.out
      · omega
      · obtain ⟨z, hz⟩ : ∃ z, z = xs.getD k 0 := ⟨_, rfl⟩
        have c0 := hc k hlt
        rw [← hz] at c0
        have Z : Hid (z = xs.getD k 0) := hz
        clear hz
        have f0 := R.out.frozen k
        obtain ⟨y, c1⟩ : ∃ y, wr.cell? ⟨w.heap.size, k, none⟩ = some (.int .i64 y) := ⟨_, R.out.cell (j := k) (by simp; omega)⟩
        have hlt' : (k : Int) < (len : Int) := by omega
        clear hc
        go_wp2_with fail
        go_roundw
        case rel =>
          refine ⟨k + 1, by omega, by go_num, ?_, ?_⟩
          · have := R.out.set k z
            rw [Z.out, ← hl, take_step (by omega), hl, ← Z.out] at this
            exact this
          · exact B.out.setCell (Nat.le_refl _) _
        case measure => simp [intOf]; omega
    · have hlt' : ¬ (k : Int) < (len : Int) := by omega
      go_wp2_with fail
      go_ret
      have e : k = len := by omega
      subst e
      have := R.out
      simp [List.take_of_length_le (show xs.length ≤ k by have := HI.out.1; omega)] at this
      exact ⟨rfl, this, B.out⟩

theorem take_same {xs ys : List Int} {k : Nat} (h : xs.take k = ys.take k) (hx : k < xs.length) (hy : k < ys.length) (he : xs.getD k 0 = ys.getD k 0) : xs.take (k + 1) = ys.take (k + 1) := by
  rw [List.take_succ_eq_append_getElem hx, List.take_succ_eq_append_getElem hy, h]
  simp [List.getD, hx, hy] at he
  rw [he]

theorem not_same {xs ys : List Int} {k : Nat} (he : ¬ xs.getD k 0 = ys.getD k 0) : decide (xs = ys) = false := by
  apply decide_eq_false
  intro h
  rw [h] at he
  exact he rfl

theorem lens_differ {xs ys : List Int} (he : ¬ xs.length = ys.length) : decide (xs = ys) = false := by
  apply decide_eq_false
  intro h
  rw [h] at he
  exact he rfl

/-- laws.eqInt64S: are the two alike. -/
theorem eqInts_any (a : Option Addr) (la ca : Nat) (xs : List Int) (b : Option Addr) (lb cb : Nat) (ys : List Int) (w : World) (I : Ints w a la xs) (J : Ints w b lb ys) (hs : (la : Int) ≤ 1048576) :
    Calls Tryz.prog 66 #[.slice a la ca, .slice b lb cb] w fun e w' => e = .returned (.bool (decide (xs = ys))) ∧ Below w.heap.size w w' := by
  have HI : Hid (Ints w a la xs) := I
  have HJ : Hid (Ints w b lb ys) := J
  clear I J
  by_cases hll : la = lb
  · subst hll
    have hne : ((la : Int) != (la : Int)) = false := by simp
    go_enter Tryz.func66, Tryz.ntmps66
    go_wp2_with fail
    go_loopw [5] (fun i wr => ∃ k : Nat, k ≤ la ∧ i = .int .i64 k ∧ Hid (xs.take k = ys.take k) ∧ Hid (Below w.heap.size w wr)) (fun i _ => la - (intOf i).toNat)
    case atStart => exact ⟨0, Nat.zero_le _, rfl, by show _ = _; simp, Below.refl _ _⟩
    case round =>
      obtain ⟨k, hk, rfl, E, B⟩ := hrel
      by_cases hlt : k < la
      · obtain ⟨hl1, h0 | ⟨b1, off1, rfl, hb1, hc1⟩⟩ := HI.out.kept B.out
        · omega
        obtain ⟨hl2, h0 | ⟨b2, off2, rfl, hb2, hc2⟩⟩ := HJ.out.kept B.out
        · omega
        obtain ⟨x, hx⟩ : ∃ x, x = xs.getD k 0 := ⟨_, rfl⟩
        obtain ⟨y, hy⟩ : ∃ y, y = ys.getD k 0 := ⟨_, rfl⟩
        have c1 := hc1 k hlt
        have c2 := hc2 k hlt
        rw [← hx] at c1
        rw [← hy] at c2
        have X : Hid (x = xs.getD k 0) := hx
        have Y : Hid (y = ys.getD k 0) := hy
        have hlt' : (k : Int) < (la : Int) := by omega
        clear hc1 hc2 hx hy
        by_cases hxy : x = y
        · have XY : Hid (x = y) := hxy
          have hn : (x != y) = false := by simp [hxy]
          clear hxy
          go_wp2_with fail
          go_quiet (fail)
          go_wp2_with fail
          go_roundw
          case rel => exact ⟨k + 1, by omega, by go_num, take_same E.out (by omega) (by omega) (by rw [← X.out, ← Y.out]; exact XY.out), below_drewN B.out _⟩
          case measure => simp [intOf]; omega
        · have hn : (x != y) = true := by simp [hxy]
          have XY : Hid (decide (xs = ys) = false) := not_same (k := k) (by rw [← X.out, ← Y.out]; exact hxy)
          clear hxy
          go_wp2_with fail
          go_quiet (fail)
          go_wp2_with fail
          go_ret
          exact ⟨by rw [XY.out]; rfl, below_drewN B.out _⟩
      · have hlt' : ¬ (k : Int) < (la : Int) := by omega
        go_wp2_with fail
        go_ret
        have e := E.out
        rw [List.take_of_length_le (by have := HI.out.1; omega), List.take_of_length_le (by have := HJ.out.1; omega)] at e
        exact ⟨by rw [decide_eq_true e]; rfl, B.out⟩
  · have hne : ((la : Int) != (lb : Int)) = true := by simp; omega
    have XY : Hid (decide (xs = ys) = false) := lens_differ (by have := HI.out.1; have := HJ.out.1; omega)
    go_enter Tryz.func66, Tryz.ntmps66
    go_wp2_with fail
    go_ret
    exact ⟨by rw [XY.out]; rfl, Below.refl _ _⟩

/-- laws.eqInt64S where both read alike. -/
theorem eqInts_same (a : Option Addr) (la ca : Nat) (xs : List Int) (b : Option Addr) (lb cb : Nat) (w : World) (I : Ints w a la xs) (J : Ints w b lb xs) (hs : (la : Int) ≤ 1048576) :
    Calls Tryz.prog 66 #[.slice a la ca, .slice b lb cb] w fun e w' => e = .returned (.bool true) ∧ Below w.heap.size w w' := by
  refine (eqInts_any a la ca xs b lb cb xs w I J hs).mono ?_
  rintro e w' ⟨rfl, B⟩
  exact ⟨by simp, B⟩

/-- The numbers from k on, n of them. -/
def marks (k : Int) (n : Nat) : List Int := (List.range n).map (fun i : Nat => k + (i : Int))
theorem marks_length (k : Int) (n : Nat) : (marks k n).length = n := by simp [marks]
theorem marks_get (k : Int) (n i : Nat) (h : i < n) : (marks k n).getD i 0 = k + i := by simp [marks, List.getD, h]
theorem marks_step (k : Int) (n : Nat) (xs : List Int) (h : n < xs.length) : (marks k n ++ xs.drop n).set n (k + n) = marks k (n + 1) ++ xs.drop (n + 1) := by
  have e : marks k (n + 1) = marks k n ++ [k + n] := by simp [marks, List.range_succ]
  rw [List.set_append_right _ _ (by rw [marks_length]; omega), marks_length, Nat.sub_self, List.drop_eq_getElem_cons h, List.set_cons_zero, e, List.append_assoc]
  rfl

/-- laws.markInt64S: it writes the numbers from k on into the row. -/
theorem markInts_any (g cap : Nat) (xs : List Int) (k : Int) (w : World) (R : Row w g cap xs) (hs : (xs.length : Int) ≤ 1048576) (hk0 : 0 ≤ k) (hk1 : k ≤ 1000000000000) :
    Calls Tryz.prog 71 #[.slice (some ⟨g, 0, none⟩) xs.length cap, .int .i64 k] w fun e w' => e = .returned (.int .i64 (k + xs.length)) ∧ Row w' g cap (marks k xs.length) ∧ w.grownBy w' (some g) := by
  have HR : Hid (Row w g cap xs) := R
  clear R
  obtain ⟨len, hlen⟩ : ∃ len, len = xs.length := ⟨_, rfl⟩
  rw [← hlen] at hs ⊢
  have HL : Hid (len = xs.length) := hlen
  clear hlen
  go_enter Tryz.func71, Tryz.ntmps71
  go_wp2_with fail
  go_loopw [1, 5] (fun q i wr => ∃ n : Nat, n ≤ len ∧ i = .int .i64 n ∧ q = .int .i64 (k + n) ∧ Hid (Row wr g cap (marks k n ++ xs.drop n)) ∧ Hid (w.grownBy wr (some g))) (fun _ i _ => len - (intOf i).toNat)
  case atStart => exact ⟨0, Nat.zero_le _, rfl, by simp, by simpa [marks] using HR, World.grownBy.refl _ _⟩
  case round =>
    obtain ⟨n, hn, rfl, rfl, R, G⟩ := hrel
    by_cases hlt : n < len
    · have hlt' : (n : Int) < (len : Int) := by omega
      have f0 := R.out.frozen n
      obtain ⟨y, c1⟩ : ∃ y, wr.cell? ⟨g, n, none⟩ = some (.int .i64 y) := ⟨_, R.out.cell (j := n) (by have := HL.out; simp [marks_length]; omega)⟩
      go_wp2_with fail
      go_roundw
      case rel =>
        refine ⟨n + 1, by omega, by go_num, by go_num, ?_, ?_⟩
        · have := R.out.set n (k + n)
          rw [marks_step k n xs (by have := HL.out; omega)] at this
          exact this
        · exact G.out.trans (grown_at _ _ _ _)
      case measure => simp [intOf]; omega
    · have hlt' : ¬ (n : Int) < (len : Int) := by omega
      go_wp2_with fail
      go_ret
      have e : n = len := by omega
      subst e
      have := R.out
      rw [List.drop_eq_nil_of_le (by have := HL.out; omega), List.append_nil] at this
      exact ⟨rfl, this, G.out⟩

/-- laws.heldInt64S where the marks are held. -/
theorem heldInts_any (a : Option Addr) (len cap : Nat) (k : Int) (w : World) (I : Ints w a len (marks k len)) (hs : (len : Int) ≤ 1048576) (hk0 : 0 ≤ k) (hk1 : k ≤ 1000000000000) :
    Calls Tryz.prog 76 #[.slice a len cap, .int .i64 k] w fun e w' => e = .returned (.int .i64 (k + len)) ∧ Below w.heap.size w w' := by
  have HI : Hid (Ints w a len (marks k len)) := I
  clear I
  go_enter Tryz.func76, Tryz.ntmps76
  go_wp2_with fail
  go_loop [1, 5] (fun q i => ∃ n : Nat, n ≤ len ∧ i = .int .i64 n ∧ q = .int .i64 (k + n)) (fun _ i => len - (intOf i).toNat)
  case atStart => exact ⟨0, Nat.zero_le _, rfl, by simp⟩
  case round =>
    obtain ⟨n, hn, rfl, rfl⟩ := hrel
    by_cases hlt : n < len
    · obtain ⟨hl1, h0 | ⟨b1, off1, rfl, hb1, hc1⟩⟩ := HI.out
      · omega
      have hlt' : (n : Int) < (len : Int) := by omega
      have c1 := hc1 n hlt
      rw [marks_get k len n hlt] at c1
      have hne : (k + (n : Int) != k + (n : Int)) = false := by simp
      clear hc1
      go_wp2_with fail
      go_round
      case rel => exact ⟨n + 1, by omega, by go_num, by go_num⟩
      case measure => simp [intOf]; omega
    · have hlt' : ¬ (n : Int) < (len : Int) := by omega
      go_wp2_with fail
      go_ret
      have e : n = len := by omega
      subst e
      exact ⟨rfl, Below.refl _ _⟩

end Go.Proofs.YtcmeimfjedakeaaGreat.Crew

namespace Go.Proofs.YtcmeimfjedakeaaGreat.Crew
open Go.ChangeShapes Go.WideShapes Go.ChangeAt Go.RowKit

theorem add_plain (b off i : Nat) : (⟨b, off, none⟩ : Addr).add i = ⟨b, off + i, none⟩ := by
  unfold Addr.add
  split
  · rename_i h; simp_all
  · rfl

theorem Ints.cellsAt {w : World} {ad : Addr} {m : Nat} {ys : List Int} (h : Ints w (some ad) m ys) : ∀ j u, (ys.map (Value.int .i64))[j]? = some u → w.cell? (ad.add j) = some u := by
  intro j u hu
  have hj : j < ys.length := by
    have := (List.getElem?_eq_some_iff.1 hu).1
    simpa using this
  obtain ⟨hl, h0 | ⟨b, off, ha, hb, hc⟩⟩ := h
  · omega
  · obtain rfl := Option.some.inj ha
    rw [add_plain, hc j (by omega), ← hu]
    simp [hj, List.getD]

theorem run_append_ints {P : Program} (w : World) (t ty : TypeId) (i : TypeInfo) (ht : P.underlying t = some (.slice 2)) (hi : P.info? 2 = some i) (hz : i.zero = some (.int .i64 0)) (hsize : i.size = 1) (hby : i.bytes = 8)
    (g cap : Nat) (xs : List Int) (R : Row w g cap xs) (ao : Option Addr) (m c : Nat) (ys : List Int) (I : Ints w ao m ys) (hlen : xs.length + m ≤ 1000000000) :
    ∃ g' cap' w', (Builtin.append_ #[t, t] ty #[.slice (some ⟨g, 0, none⟩) xs.length cap, .slice ao m c]).run P w = .ok (.slice (some ⟨g', 0, none⟩) (xs.length + m) cap') w' ∧ Row w' g' cap' (xs ++ ys) ∧ w.grownBy w' (some g) ∧ (g' = g ∨ g' = w.heap.size) := by
  cases ao with
  | none =>
    have hm : m = 0 := by
      rcases I.2 with h | ⟨b, off, ha, _⟩
      · exact h
      · cases ha
    subst hm
    have hy : ys = [] := List.eq_nil_of_length_eq_zero I.1
    subst hy
    obtain ⟨cur, hh, hl, hm, hs, htk⟩ := R
    refine ⟨g, cap, w, ?_, by simpa using ⟨cur, hh, hl, hm, hs, htk⟩, World.grownBy.refl _ _, .inl rfl⟩
    simp [Builtin.append_, run_underlying ht, sizeOf, typeInfo, hi, Builtin.lenOf, Builtin.firstCells, hl, storeCells]
  | some ad =>
    have hown := R.owns (base := 0) (Nat.zero_le _)
    obtain ⟨v', w', hr, h2, h3, h4, h5⟩ := run_append_own_at (P := P) w 0 t ty 2 i (.int .i64 0) 1 8 ht hi hz hsize hby rfl (by decide) _ xs.length _ hown ad m c (ys.map (Value.int .i64)) (by simp [I.1]) I.cellsAt (ints_oneCell _ _) (by unfold maxLen; omega) (by omega) (Nat.zero_le _)
    rw [← List.map_append] at h2
    rcases h2.2 with ⟨hv, _⟩ | ⟨g', cap', cur, hv, _⟩
    · rw [h4] at hv
      simp at hv
    · subst hv
      have hRr := (row_of_owns h2).1
      refine ⟨g', cap', w', hr, hRr, h3, ?_⟩
      rcases h5 with h | h
      · simp [Value.ownBlock] at h; exact .inl h
      · simp [Value.ownBlock] at h; exact .inr h

/-- At the operation, for the walk. -/
theorem wpList_append_ints {P : Program} {w : World} {ops : Array Oper} {rest : List Oper} {o : Oper} {a : Act} {Q : Exit → Act → World → Prop} (hgd : o.guard = none) (s x : Operand) (t : TypeId)
    (ho : o.op = .call { callee := .builtin .append, args := #[s, x], argTypes := #[t, t] })
    (i : TypeInfo) (ht : P.underlying t = some (.slice 2)) (hi : P.info? 2 = some i) (hz : i.zero = some (.int .i64 0)) (hsize : i.size = 1) (hby : i.bytes = 8)
    (g n cap : Nat) (xs : List Int) (hs : a.eval s = .slice (some ⟨g, 0, none⟩) n cap) (hn : n = xs.length) (R : Row w g cap xs) (ao : Option Addr) (m c : Nat) (ys : List Int) (hx : a.eval x = .slice ao m c) (I : Ints w ao m ys) (hlen : xs.length + m ≤ 1000000000)
    (h : ∀ g' cap' w', Row w' g' cap' (xs ++ ys) → w.grownBy w' (some g) → (g' = g ∨ g' = w.heap.size) → wpList P ops Q rest (a.put o.dst (.slice (some ⟨g', 0, none⟩) (n + m) cap')) w') :
    wpList P ops Q (o :: rest) a w := by
  refine wpList_plain hgd fun K hK => ?_
  subst hn
  obtain ⟨g', cap', w', hr, h2, h3, h4⟩ := run_append_ints (P := P) w t o.type i ht hi hz hsize hby g cap xs R ao m c ys I hlen
  unfold Oper.wp execOp
  simp only [ho, resolve, invoke, builtin, Sem.run_bind, Sem.run_pure, Result.andThen_ok, List.map_toArray, List.map_cons, List.map_nil, hs, hx, hr]
  exact hK _ _ (h g' cap' w' h2 h3 h4)

/-- One number in a new block of its own. -/
theorem ints_one (w : World) (x : Int) (t : TypeId) : Ints (w.alloc (.cells #[.int .i64 x] t)) (some ⟨w.heap.size, 0, none⟩) 1 [x] := by
  refine ⟨rfl, .inr ⟨w.heap.size, 0, rfl, by simp, fun i hi => ?_⟩⟩
  have : i = 0 := by omega
  subst this
  rw [cell_of_row _ w.heap.size _ _ _ _ (heap_alloc_new w _)]
  rfl

/-- What lies from k on. -/
theorem Row.from {w : World} {g cap : Nat} {xs : List Int} (h : Row w g cap xs) (k : Nat) (hk : k ≤ xs.length) (ao : Option Addr) (hao : k < cap → ao = some ⟨g, k, none⟩) : Ints w ao (xs.length - k) (xs.drop k) := by
  refine ⟨by simp, ?_⟩
  by_cases h0 : xs.length - k = 0
  · exact .inl h0
  · have hc : k < cap := by obtain ⟨_, _, hl, _⟩ := h; omega
    refine .inr ⟨g, k, hao hc, h.lt, fun i hi => ?_⟩
    rw [h.cell (j := k + i) (by omega)]
    simp [List.getD]

theorem Row.tail {w : World} {g cap n : Nat} {xs : List Int} (h : Row w g cap xs) (hn : xs.length = n) (k : Nat) (hk : k ≤ n) (ao : Option Addr) (hao : ¬ cap = k → ao = some ⟨g, k, none⟩) : Ints w ao (n - k) (xs.drop k) := by
  subst hn
  exact h.from k hk ao (fun hc => hao (by omega))

theorem row_nil (w : World) : Row (w.alloc (.cells #[] 2)) w.heap.size 0 [] := by simpa using row_new w [] (by simp [maxLen])

theorem Row.alloc {w : World} {g cap : Nat} {xs : List Int} (h : Row w g cap xs) (o : Obj) : Row (w.alloc o) g cap xs := h.other (World.grownBy_alloc w o none) (by simp)

end Go.Proofs.YtcmeimfjedakeaaGreat.Crew

namespace Go.Proofs.YtcmeimfjedakeaaGreat.Crew
open Go.ChangeShapes Go.WideShapes Go.ChangeAt Go.RowKit

/-- laws.likeInts: are the two alike. -/
theorem likeInts_any (a : Option Addr) (la ca : Nat) (xs : List Int) (b : Option Addr) (lb cb : Nat) (ys : List Int) (w : World) (I : Ints w a la xs) (J : Ints w b lb ys) (hs : (la : Int) ≤ 1048576) :
    Calls Tryz.prog 36 #[.slice a la ca, .slice b lb cb] w fun e w' => e = .returned (.bool (decide (xs = ys))) ∧ Below w.heap.size w w' := by
  have HI : Hid (Ints w a la xs) := I
  have HJ : Hid (Ints w b lb ys) := J
  clear I J
  by_cases hll : la = lb
  · subst hll
    have hne : ((la : Int) != (la : Int)) = false := by simp
    go_enter Tryz.func36, Tryz.ntmps36
    go_wp2_with fail
    go_loopw [5] (fun i wr => ∃ k : Nat, k ≤ la ∧ i = .int .i64 k ∧ Hid (xs.take k = ys.take k) ∧ Hid (Below w.heap.size w wr)) (fun i _ => la - (intOf i).toNat)
    case atStart => exact ⟨0, Nat.zero_le _, rfl, by show _ = _; simp, Below.refl _ _⟩
    case round =>
      obtain ⟨k, hk, rfl, E, B⟩ := hrel
      by_cases hlt : k < la
      · obtain ⟨hl1, h0 | ⟨b1, off1, rfl, hb1, hc1⟩⟩ := HI.out.kept B.out
        · omega
        obtain ⟨hl2, h0 | ⟨b2, off2, rfl, hb2, hc2⟩⟩ := HJ.out.kept B.out
        · omega
        obtain ⟨x, hx⟩ : ∃ x, x = xs.getD k 0 := ⟨_, rfl⟩
        obtain ⟨y, hy⟩ : ∃ y, y = ys.getD k 0 := ⟨_, rfl⟩
        have c1 := hc1 k hlt
        have c2 := hc2 k hlt
        rw [← hx] at c1
        rw [← hy] at c2
        have X : Hid (x = xs.getD k 0) := hx
        have Y : Hid (y = ys.getD k 0) := hy
        have hlt' : (k : Int) < (la : Int) := by omega
        clear hc1 hc2 hx hy
        by_cases hxy : x = y
        · have XY : Hid (x = y) := hxy
          have hn : (x != y) = false := by simp [hxy]
          clear hxy
          go_wp2_with fail
          go_quiet (fail)
          go_wp2_with fail
          go_roundw
          case rel => exact ⟨k + 1, by omega, by go_num, take_same E.out (by omega) (by omega) (by rw [← X.out, ← Y.out]; exact XY.out), below_drewN B.out _⟩
          case measure => simp [intOf]; omega
        · have hn : (x != y) = true := by simp [hxy]
          have XY : Hid (decide (xs = ys) = false) := not_same (k := k) (by rw [← X.out, ← Y.out]; exact hxy)
          clear hxy
          go_wp2_with fail
          go_quiet (fail)
          go_wp2_with fail
          go_ret
          exact ⟨by rw [XY.out]; rfl, below_drewN B.out _⟩
      · have hlt' : ¬ (k : Int) < (la : Int) := by omega
        go_wp2_with fail
        go_ret
        have e := E.out
        rw [List.take_of_length_le (by have := HI.out.1; omega), List.take_of_length_le (by have := HJ.out.1; omega)] at e
        exact ⟨by rw [decide_eq_true e]; rfl, B.out⟩
  · have hne : ((la : Int) != (lb : Int)) = true := by simp; omega
    have XY : Hid (decide (xs = ys) = false) := lens_differ (by have := HI.out.1; have := HJ.out.1; omega)
    go_enter Tryz.func36, Tryz.ntmps36
    go_wp2_with fail
    go_ret
    exact ⟨by rw [XY.out]; rfl, Below.refl _ _⟩

/-- laws.likeInts where both read alike. -/
theorem likeInts_same (a : Option Addr) (la ca : Nat) (xs : List Int) (b : Option Addr) (lb cb : Nat) (w : World) (I : Ints w a la xs) (J : Ints w b lb xs) (hs : (la : Int) ≤ 1048576) :
    Calls Tryz.prog 36 #[.slice a la ca, .slice b lb cb] w fun e w' => e = .returned (.bool true) ∧ Below w.heap.size w w' := by
  refine (likeInts_any a la ca xs b lb cb xs w I J hs).mono ?_
  rintro e w' ⟨rfl, B⟩
  exact ⟨by simp, B⟩

end Go.Proofs.YtcmeimfjedakeaaGreat.Crew
