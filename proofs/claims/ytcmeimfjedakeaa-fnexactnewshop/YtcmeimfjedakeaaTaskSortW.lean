/-
  Slices of structs of int64s: make, copy, and append at a step of a region that draws its order.
-/
import Derived.Test.YtcmeimfjedakeaaRecs
import Derived.Laws.CopyOwn
import Derived.Laws.IdiomCopy
import Derived.Test.YtcmeimfjedakeaaTaskOkI
import Derived.Test.YtcmeimfjedakeaaTaskMake
namespace Go.Proofs.Ytcmeimfjedakeaa.Crew
open Go.ChangeShapes Go.WideShapes Go.ChangeAt Go.RowKit
namespace Rec
variable {α : Type} {K : Rec α}

/-- So many of one kind of struct. -/
theorem row_rep (K : Rec α) (w : World) (n : Nat) (x : α) (hn : (n : Int) ≤ 1048576) : K.row (w.alloc (.cells (K.fl (List.replicate n x)).toArray K.ty)) w.heap.size n (List.replicate n x) := by
  have h := row_new K w (List.replicate n x) (by simp [maxLen]; omega)
  rwa [List.length_replicate] at h

theorem row.drew {w : World} {g cap : Nat} {xs : List α} (h : K.row w g cap xs) : K.row w.drew g cap xs := h.all (below_drewN (Below.refl _ _) 1)

/-- copy onto a row of just that length. -/
theorem run_copy {P : Program} (w : World) (t ty : TypeId) (i : TypeInfo) (ht : P.underlying t = some (.slice K.ty)) (hi : P.info? K.ty = some i) (hsize : i.size = K.n)
    (base : Nat) (w0 : World) (B : Below base w0 w) (g : Nat) (hg : base ≤ g) (zs : List α) (a : Option Addr) (len cap : Nat) (xs : List α) (R : K.row w g len zs) (I : K.sl w a len xs) :
    ∃ w1, (Builtin.copy_ #[t, t] ty #[.slice (some ⟨g, 0, none⟩) len len, .slice a len cap]).run P w = .ok (.int .i64 len) w1 ∧ K.row w1 g len xs ∧ Below base w0 w1 := by
  by_cases h0 : len = 0
  · subst h0
    have hx : xs = [] := List.eq_nil_of_length_eq_zero I.1
    subst hx
    have hl : ∀ (x : Addr), (loadCells x 0).run P w = .ok #[] w := fun x => by simpa using run_loadCells_list (P := P) w x [] (by simp)
    refine ⟨w, ?_, ?_, B⟩
    · cases a <;> simp [Builtin.copy_, run_underlying ht, Builtin.lenOf, Builtin.firstCells, sizeOf, typeInfo, hi, storeCells, hl] <;> rfl
    · obtain ⟨cur, hh, hl', hm, hs, htk⟩ := R
      exact ⟨cur, hh, Nat.zero_le _, hm, hs, by simp [fl]⟩
  · obtain ⟨ad, rfl⟩ : ∃ ad, a = some ad := by
      rcases I.2 with h | ⟨b, off, h, _⟩
      · exact absurd h h0
      · exact ⟨_, h⟩
    obtain ⟨cur, hh, hl', hm, hs, htk⟩ := R
    have hn : (K.fl xs).length = len * K.n := by rw [fl_length, I.1]
    have hl := run_loadCells_list (P := P) w ad (K.fl xs) (sl.cellsAt I)
    have hst := run_storeCells_at P g 0 K.ty (K.fl xs) 0 cur w hh (by rw [hn, hs]; simp) (fl_one K xs)
    rw [hn] at hl
    simp only [Nat.zero_add, List.take_zero, List.nil_append] at hst
    refine ⟨w.setRow g (K.fl xs ++ cur.toList.drop (K.fl xs).length).toArray, ?_, ⟨_, setRow_heap _ _ _ _ _ _ hh, by rw [I.1]; exact Nat.le_refl _, hm, ?_, ?_⟩, below_setRow B hg _⟩
    · simp [Builtin.copy_, run_underlying ht, Builtin.lenOf, Builtin.firstCells, sizeOf, typeInfo, hi, hsize, hl, hst] <;> rfl
    · simp [hn, hs]
    · rw [List.toList_toArray, ← fl_length, List.take_left]

/-- append at a step of a region that draws its order. -/
theorem step_append {P : Program} {w : World} {ops : Array Oper} {o : Oper} {a : Act} {C : Act → World → Prop} {Q : Exit → Act → World → Prop} {E : Prop} (hgd : o.guard = none) (s y : Operand) (t : TypeId)
    (ho : o.op = .call { callee := .builtin .append, args := #[s, y], argTypes := #[t, t] })
    (i : TypeInfo) (zv : Value) (ht : P.underlying t = some (.slice K.ty)) (hi : P.info? K.ty = some i) (hz : i.zero = some zv) (hsize : i.size = K.n) (hby : i.bytes = 8 * K.n) (hzc : zv.cells.size = K.n) (h8 : K.n ≤ 100)
    (g n cap : Nat) (xs : List α) (hs : a.eval s = .slice (some ⟨g, 0, none⟩) n cap) (hn : n = xs.length) (R : K.row w g cap xs) (ao : Option Addr) (m c : Nat) (ys : List α) (hy : a.eval y = .slice ao m c) (I : K.sl w ao m ys) (hlen : xs.length + m ≤ 100000000) (H : Nat) (hH : w.heap.size = H)
    (h : ∀ g' cap' w', K.row w' g' cap' (xs ++ ys) → w.grownBy w' (some g) → (g' = g ∨ g' = H) → C (a.put o.dst (.slice (some ⟨g', 0, none⟩) (n + m) cap')) w') :
    if Region.wanted o (yielded ops a.tmps) = true then Oper.wp P o a w C Q else E := by
  have hw : Region.wanted o (yielded ops a.tmps) = true := by simp [Region.wanted, hgd]
  rw [if_pos hw]
  subst hH
  subst hn
  obtain ⟨g', cap', w', hr, h2, h3, h4⟩ := run_append (P := P) w t o.type i zv ht hi hz hsize hby hzc h8 g cap xs R ao m c ys I hlen
  unfold Oper.wp execOp
  simp only [ho, resolve, invoke, builtin, Sem.run_bind, Sem.run_pure, Result.andThen_ok, List.map_toArray, List.map_cons, List.map_nil, hs, hy, hr]
  exact h g' cap' w' h2 h3 h4

end Rec
end Go.Proofs.Ytcmeimfjedakeaa.Crew

/-
  impl's tasks: a copy, a list as it is, the sort by Id.
-/
namespace Go.Proofs.Ytcmeimfjedakeaa.Crew
open Go.ChangeShapes Go.WideShapes Go.ChangeAt Go.RowKit

theorem made_tsks (n : Nat) (hn : (n : Int) ≤ 1048576) (w : World) : (Instr.makeSlice 35 (.int .i64 n) (.int .i64 n)).run Try.prog w = .ok (.slice (some ⟨w.heap.size, 0, none⟩) n n) (w.alloc (.cells (tskR.fl (List.replicate n tz)).toArray 84)) := by
  obtain ⟨i0, hi, hz0, hz1, hz2⟩ := info_parts info_task
  have h := run_make (P := Try.prog) w 35 84 i0 (.agg #[.int .i64 0, .int .i64 0, .int .i64 0, .int .i64 0]) Try.underlying35 hi hz0 .i64 .i64 n n (by omega) (by omega) (by rw [hz2]; omega) (by omega)
  rw [h, hz1]
  have e : madeCells (Value.agg #[.int .i64 0, .int .i64 0, .int .i64 0, .int .i64 0]).cells (n * 4) = (tskR.fl (List.replicate n tz)).toArray := by
    apply Array.ext'
    rw [List.toList_toArray]
    exact made_tasks n
  simp only [Int.toNat_natCast]
  rw [e]

/-- Where one of that Id is put among the first k. -/
def posT (id : Int) (out : List Tsk) : Nat → Nat
  | 0 => 0
  | k + 1 => if id < (out.getD k tz).i then posT id out k else k + 1

def insT (out : List Tsk) (x : Tsk) : List Tsk := out.take (posT x.i out out.length) ++ x :: out.drop (posT x.i out out.length)

/-- The first k of them, sorted. -/
def sortT (L : List Tsk) : Nat → List Tsk
  | 0 => []
  | k + 1 => insT (sortT L k) (L.getD k tz)

theorem posT_le (id : Int) (out : List Tsk) (k : Nat) : posT id out k ≤ k := by
  induction k with
  | zero => exact Nat.le_refl _
  | succ k ih =>
    rw [posT]
    split <;> omega

theorem insT_len (out : List Tsk) (x : Tsk) : (insT out x).length = out.length + 1 := by
  have := posT_le x.i out out.length
  rw [insT, List.length_append, List.length_cons, List.length_take, List.length_drop]
  omega

theorem sortT_len (L : List Tsk) (k : Nat) : (sortT L k).length = k := by
  induction k with
  | zero => rfl
  | succ k ih => rw [sortT, insT_len, ih]

theorem posT_down {id : Int} {out : List Tsk} {k : Nat} (h0 : 0 < k) (h : id < (out.getD (k - 1) tz).i) : posT id out k = posT id out (k - 1) := by
  obtain ⟨m, rfl⟩ : ∃ m, k = m + 1 := ⟨k - 1, by omega⟩
  rw [Nat.add_sub_cancel] at h ⊢
  rw [posT, if_pos h]

theorem posT_stop {id : Int} {out : List Tsk} {k : Nat} (h : k = 0 ∨ ¬ id < (out.getD (k - 1) tz).i) : posT id out k = k := by
  cases k with
  | zero => rfl
  | succ m =>
    rcases h with h | h
    · omega
    · rw [Nat.add_sub_cancel] at h
      rw [posT, if_neg h]

theorem tsk_shift {out zs : List Tsk} {t : Nat} {j : Tsk} (h0 : 0 < t) (h1 : t ≤ out.length) :
    (out.take t ++ j :: (out.drop t ++ zs)).set t (out.getD (t - 1) tz) = out.take (t - 1) ++ out.getD (t - 1) tz :: (out.drop (t - 1) ++ zs) := by
  rw [List.set_append_right _ _ (by simp; omega), List.length_take, show t - min t out.length = 0 by omega, List.set_cons_zero]
  obtain ⟨m, rfl⟩ : ∃ m, t = m + 1 := ⟨t - 1, by omega⟩
  have hm : m < out.length := by omega
  rw [Nat.add_sub_cancel, show out.getD m tz = out[m] by simp [List.getD, hm], List.take_succ_eq_append_getElem hm, List.drop_eq_getElem_cons hm, List.append_assoc]
  rfl

theorem tsk_place {out zs : List Tsk} {t : Nat} {j x : Tsk} (h1 : t ≤ out.length) :
    (out.take t ++ j :: (out.drop t ++ zs)).set t x = out.take t ++ x :: (out.drop t ++ zs) := by
  rw [List.set_append_right _ _ (by simp; omega), List.length_take, show t - min t out.length = 0 by omega, List.set_cons_zero]

theorem tsk_read {out zs : List Tsk} {t : Nat} {j : Tsk} (h0 : 0 < t) (h1 : t ≤ out.length) : (out.take t ++ j :: (out.drop t ++ zs)).getD (t - 1) tz = out.getD (t - 1) tz := by
  simp only [List.getD, List.getElem?_append]
  rw [if_pos (by simp; omega), List.getElem?_take, if_pos (by omega)]

theorem tsk_rowlen {out zs : List Tsk} {t : Nat} {j : Tsk} (h1 : t ≤ out.length) : (out.take t ++ j :: (out.drop t ++ zs)).length = out.length + 1 + zs.length := by
  simp; omega

theorem tsk_start {out : List Tsk} {n k : Nat} (hk : k < n) (hl : out.length = k) : out ++ List.replicate (n - k) tz = out.take k ++ tz :: (out.drop k ++ List.replicate (n - (k + 1)) tz) := by
  rw [show n - k = (n - (k + 1)) + 1 by omega, List.replicate_succ, List.take_of_length_le (by omega), List.drop_eq_nil_of_le (by omega)]
  rfl

/-- The end of a round: the new one has been put in. -/
theorem tsk_put {out L : List Tsk} {len k t : Nat} {j x : Tsk} (ho : out = sortT L k) (hx : x = L.getD k tz) (ht : t ≤ k) (hp : posT x.i out k = t) :
    (out.take t ++ j :: (out.drop t ++ List.replicate (len - (k + 1)) tz)).set t x = sortT L (k + 1) ++ List.replicate (len - (k + 1)) tz := by
  have hl : out.length = k := by rw [ho]; exact sortT_len L k
  rw [tsk_place (by omega), sortT, insT, ← ho, ← hx, hl, hp, List.append_assoc]
  rfl

end Go.Proofs.Ytcmeimfjedakeaa.Crew

/-
  impl.sortedBy over tasks, by Id.
-/
namespace Go.Proofs.Ytcmeimfjedakeaa.Crew
open Go.ChangeShapes Go.WideShapes Go.ChangeAt Go.RowKit

theorem TBox.past {w w' : World} {b g : Nat} {x : Tsk} (h : TBox w b x) (k : w.grownBy w' (some g)) (hb : b ≠ g) : TBox w' b x := by
  have hg : some b ≠ some g := by simpa using hb
  exact ⟨Nat.lt_of_lt_of_le h.1 k.size, k.cell h.2.1 hg, k.cell h.2.2.1 hg, k.cell h.2.2.2.1 hg, k.cell h.2.2.2.2 hg⟩

end Go.Proofs.Ytcmeimfjedakeaa.Crew
