/-
  Copies of slices of Shares; a new Many: impl.NewMany.
-/
import Derived.Test.YtjhenfdmbagaiaaGreatManyBase
import Derived.Laws.CopyOwn
import Derived.Laws.IdiomCopy
import Derived.Deep.RegionHeld3
import Derived.Deep.CutRange
namespace Go.Proofs.YtjhenfdmbagaiaaGreat.Crew
open Go.ChangeShapes Go.WideShapes Go.ChangeAt Go.RowKit

/-- So many zero Shares in a block. -/
def zerosS (n : Nat) : Array Value := (flat (List.replicate n (0, 0))).toArray

theorem made_shs (n : Nat) (hn : (n : Int) ≤ 1048576) (w : World) : (Instr.makeSlice 24 (.int .i64 n) (.int .i64 n)).run Tryz.prog w = .ok (.slice (some ⟨w.heap.size, 0, none⟩) n n) (w.alloc (.cells (zerosS n) 63)) := by
  obtain ⟨i0, hi, hz0, hz1, hz2⟩ := info_parts info_shr
  have h := run_make (P := Tryz.prog) w 24 63 i0 (.agg #[.int .i64 0, .int .i64 0]) Tryz.underlying24 hi hz0 .i64 .i64 n n (by omega) (by omega) (by rw [hz2]; omega) (by omega)
  rw [h, hz1]
  have e : madeCells (Value.agg #[.int .i64 0, .int .i64 0]).cells (n * 2) = zerosS n := by
    apply Array.ext'
    rw [zerosS, List.toList_toArray]
    exact made_shares n
  simp only [Int.toNat_natCast]
  rw [e]

theorem srow_zeros (w : World) (n : Nat) (hn : (n : Int) ≤ 1048576) : SRow (w.alloc (.cells (zerosS n) 63)) w.heap.size n (List.replicate n (0, 0)) := by
  have := srow_new w (List.replicate n (0, 0)) (by simp [maxLen]; omega)
  rwa [List.length_replicate] at this

theorem size_two : (Tryz.prog.info? 63).map (·.size) = some 2 := by kernel_rfl

theorem flat_one (ps : List Shr) : ∀ v ∈ flat ps, v.oneCell' = true := by
  intro v hv
  simp only [flat, List.mem_flatMap, List.mem_cons, List.not_mem_nil, or_false] at hv
  obtain ⟨p, _, h | h⟩ := hv <;> subst h <;> rfl

theorem Shs.cellsAt {w : World} {ad : Addr} {m : Nat} {ps : List Shr} (h : Shs w (some ad) m ps) : ∀ j u, (flat ps)[j]? = some u → w.cell? (ad.add j) = some u := by
  intro j u hj
  have hl := h.1
  have hlt : j < (flat ps).length := by
    by_cases hh : j < (flat ps).length
    · exact hh
    · rw [List.getElem?_eq_none (by omega)] at hj; cases hj
  rw [flat_length] at hlt
  rcases h.2 with h0 | ⟨b, off, e, hb, hc⟩
  · omega
  · cases e
    have hadd : (⟨b, off, none⟩ : Addr).add j = ⟨b, off + j, none⟩ := by unfold Addr.add; split <;> simp_all
    rw [hadd]
    have h2 : j / 2 < ps.length := by omega
    obtain ⟨c0, c1⟩ := hc (j / 2) (by omega)
    rcases Nat.mod_two_eq_zero_or_one j with hm | hm
    · have e : j = j / 2 * 2 := by omega
      rw [e, flat_get0 ps _ h2] at hj
      cases hj
      rw [e]
      have e2 : j / 2 * 2 / 2 = j / 2 := by omega
      rw [e2]
      exact c0
    · have e : j = j / 2 * 2 + 1 := by omega
      rw [e, flat_get1 ps _ h2] at hj
      cases hj
      rw [e]
      have e2 : (j / 2 * 2 + 1) / 2 = j / 2 := by omega
      rw [e2]
      exact c1

/-- What copy does with elements of two cells. -/
theorem copy_pairs (w : World) (g dLen dCap : Nat) (a : Addr) (sLen sCap : Nat) (cur : Array Value) (t : TypeId) (cs : List Value) (ty : TypeId) (m : Nat)
    (hg : w.heap[g]? = some (.cells cur t (0, 0))) (hm : m = Nat.min sLen dLen) (hn : cs.length = m * 2)
    (hsrc : ∀ j v, cs[j]? = some v → w.cell? (a.add j) = some v) (hfit : cs.length ≤ cur.size) (h1 : ∀ v ∈ cs, v.oneCell' = true) :
    (Builtin.copy_ #[24, 24] ty #[.slice (some ⟨g, 0, none⟩) dLen dCap, .slice (some a) sLen sCap]).run Tryz.prog w =
      .ok (goInt m) (w.setRow g (cs ++ cur.toList.drop cs.length).toArray) := by
  have hl := run_loadCells_list (P := Tryz.prog) w a cs hsrc
  have hst := run_storeCells_at Tryz.prog g 0 t cs 0 cur w hg (by simpa using hfit) h1
  have hs := size_two
  cases hq : Tryz.prog.info? 63 with
  | none => simp [hq] at hs
  | some i =>
    have hi : i.size = 2 := by simpa [hq] using hs
    rw [hn] at hl
    simp only [Nat.zero_add, List.take_zero, List.nil_append] at hst
    simp [Builtin.copy_, run_underlying Tryz.underlying24, Builtin.lenOf, Builtin.firstCells, sizeOf, typeInfo, hq, hi, ← hm, hl, hst]

theorem copy_pairs0 (w : World) (d a : Option Addr) (dLen dCap sLen sCap : Nat) (ty : TypeId) (hn : Nat.min sLen dLen = 0) :
    (Builtin.copy_ #[24, 24] ty #[.slice d dLen dCap, .slice a sLen sCap]).run Tryz.prog w = .ok (goInt 0) w := by
  have hs := size_two
  cases hq : Tryz.prog.info? 63 with
  | none => simp [hq] at hs
  | some i =>
    have hl : ∀ (x : Addr), (loadCells x 0).run Tryz.prog w = .ok #[] w := fun x => by simpa using run_loadCells_list (P := Tryz.prog) w x [] (by simp)
    cases d <;> cases a <;> simp [Builtin.copy_, run_underlying Tryz.underlying24, Builtin.lenOf, Builtin.firstCells, sizeOf, typeInfo, hq, hn, storeCells, hl]

theorem copyS_run (a : Option Addr) (len cap : Nat) (ps : List Shr) (w : World) (I : Shs w a len ps) (hs : (len : Int) ≤ 1048576) :
    ∃ w1, (Builtin.copy_ #[24, 24] 3 #[.slice (some ⟨w.heap.size, 0, none⟩) len len, .slice a len cap]).run Tryz.prog (w.alloc (.cells (zerosS len) 63)) = .ok (.int .i64 len) w1 ∧ SRow w1 w.heap.size len ps ∧ Below w.heap.size w w1 := by
  have B0 : Below w.heap.size w (w.alloc (.cells (zerosS len) 63)) := below_new _ _
  have J := I.alloc (.cells (zerosS len) 63)
  obtain ⟨hl, h0 | ⟨b, off, rfl, hb, hc⟩⟩ := I
  · subst h0
    have hx : ps = [] := List.eq_nil_of_length_eq_zero hl
    subst hx
    exact ⟨_, copy_pairs0 _ _ _ _ _ _ _ _ rfl, srow_zeros w 0 (by omega), B0⟩
  · have hg : (w.alloc (.cells (zerosS len) 63)).heap[w.heap.size]? = some (.cells (zerosS len) 63 (0, 0)) := heap_alloc_new w _
    have hz : (zerosS len).size = len * 2 := by simp [zerosS, flat_length]
    have hr := copy_pairs (w.alloc (.cells (zerosS len) 63)) w.heap.size len len ⟨b, off, none⟩ len cap (zerosS len) 63 (flat ps) 3 len hg (Nat.min_self len).symm (by rw [flat_length, hl]) J.cellsAt (by rw [flat_length, hz, hl]; exact Nat.le_refl _) (flat_one ps)
    refine ⟨_, hr, ⟨_, setRow_heap _ _ _ _ _ _ hg, by omega, by simp [maxLen]; omega, ?_, ?_⟩, below_setRow B0 (Nat.le_refl _) _⟩
    · simp [flat_length, hl, zerosS]
    · have e : ps.length * 2 = (flat ps).length := (flat_length ps).symm
      rw [List.toList_toArray, e, List.take_left]

/-- impl.copied over Shares: a copy in a block of its own. -/
theorem copiedS_any (a : Option Addr) (len cap : Nat) (ps : List Shr) (w : World) (I : Shs w a len ps) (hs : (len : Int) ≤ 1048576) :
    Calls Tryz.prog 39 #[.slice a len cap] w fun e w' => e = .returned (.slice (some ⟨w.heap.size, 0, none⟩) len len) ∧ SRow w' w.heap.size len ps ∧ Below w.heap.size w w' := by
  have hm := made_shs len hs w
  obtain ⟨w1, hc, R1, B1⟩ := copyS_run a len cap ps w I hs
  have H1 : Hid (SRow w1 w.heap.size len ps ∧ Below w.heap.size w w1) := ⟨R1, B1⟩
  clear I R1 B1
  go_enter Tryz.func39, Tryz.ntmps39
  go_wp2_with fail
  go_ret
  exact ⟨rfl, H1.out⟩

end Go.Proofs.YtjhenfdmbagaiaaGreat.Crew

namespace Go.Proofs.YtjhenfdmbagaiaaGreat.Crew
open Go.ChangeShapes Go.WideShapes Go.ChangeAt Go.RowKit

/-- What NewMany answers. -/
def nmS (ps : List Shr) (q : Int) : List Shr := if fitsOn ps q then ps else []

def nmN (ps : List Shr) (q : Int) : List Int := if fitsOn ps q then List.replicate ps.length 0 else []

def nmQ (ps : List Shr) (q : Int) : Int := if fitsOn ps q then q else 0

theorem nm_yes {ps : List Shr} {q : Int} (h : fitsOn ps q = true) : nmS ps q = ps ∧ nmN ps q = List.replicate ps.length 0 ∧ nmQ ps q = q := by simp [nmS, nmN, nmQ, h]

theorem nm_no {ps : List Shr} {q : Int} (h : fitsOn ps q = false) : nmS ps q = [] ∧ nmN ps q = [] ∧ nmQ ps q = 0 := by simp [nmS, nmN, nmQ, h]

theorem nm_len (ps : List Shr) (q : Int) : (nmS ps q).length ≤ 24 ∧ (nmN ps q).length ≤ 24 := by
  cases h : fitsOn ps q
  · rw [(nm_no h).1, (nm_no h).2.1]; simp
  · rw [(nm_yes h).1, (nm_yes h).2.1]
    have := fits_len h
    simp; omega

theorem mapart_none (d : Option Addr) : Apart none d := fun x y hx => by cases hx

end Go.Proofs.YtjhenfdmbagaiaaGreat.Crew
