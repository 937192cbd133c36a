/-
  Slices of structs of int64s: make, copy, and append at a step of a region that draws its order.
-/
import Derived.Test.YtcmeimfjedakeaaGreatRecs
import Derived.Laws.CopyOwn
import Derived.Laws.IdiomCopy
import Derived.Test.YtcmeimfjedakeaaGreatTaskOkI
import Derived.Test.YtcmeimfjedakeaaGreatTaskMake
namespace Go.Proofs.YtcmeimfjedakeaaGreat.Crew
open Go.ChangeShapes Go.WideShapes Go.ChangeAt Go.RowKit
namespace Rec
variable {α : Type} {K : Rec α}

/-- So many of one kind of struct. -/
theorem row_rep (K : Rec α) (w : World) (n : Nat) (x : α) (hn : (n : Int) ≤ 1048576) : K.row (w.alloc (.cells (K.fl (List.replicate n x)).toArray K.ty)) w.heap.size n (List.replicate n x) := by
  have h := row_new K w (List.replicate n x) (by simp [maxLen]; omega)
  rwa [List.length_replicate] at h

theorem row.drew {w : World} {g cap : Nat} {xs : List α} (h : K.row w g cap xs) : K.row w.drew g cap xs := h.all (below_drewN (Below.refl _ _) 1)

/-- copy onto a row of just that length. -/
theorem run_copy {P : Program} (w : World) (t ty : TypeId) (i : TypeInfo) (ht : P.underlying t = some (.slice K.ty)) (hi : P.info? K.ty = some i) (hsize : i.size = K.n)
    (base : Nat) (w0 : World) (B : Below base w0 w) (g : Nat) (hg : base ≤ g) (zs : List α) (a : Option Addr) (len cap : Nat) (xs : List α) (R : K.row w g len zs) (I : K.sl w a len xs) :
    ∃ w1, (Builtin.copy_ #[t, t] ty #[.slice (some ⟨g, 0, none⟩) len len, .slice a len cap]).run P w = .ok (.int .i64 len) w1 ∧ K.row w1 g len xs ∧ Below base w0 w1 := by
  by_cases h0 : len = 0
  · subst h0
    have hx : xs = [] := List.eq_nil_of_length_eq_zero I.1
    subst hx
    have hl : ∀ (x : Addr), (loadCells x 0).run P w = .ok #[] w := fun x => by simpa using run_loadCells_list (P := P) w x [] (by simp)
    refine ⟨w, ?_, ?_, B⟩
    · cases a <;> simp [Builtin.copy_, run_underlying ht, Builtin.lenOf, Builtin.firstCells, sizeOf, typeInfo, hi, storeCells, hl] <;> rfl
    · obtain ⟨cur, hh, hl', hm, hs, htk⟩ := R
      exact ⟨cur, hh, Nat.zero_le _, hm, hs, by simp [fl]⟩
  · obtain ⟨ad, rfl⟩ : ∃ ad, a = some ad := by
      rcases I.2 with h | ⟨b, off, h, _⟩
      · exact absurd h h0
      · exact ⟨_, h⟩
    obtain ⟨cur, hh, hl', hm, hs, htk⟩ := R
    have hn : (K.fl xs).length = len * K.n := by rw [fl_length, I.1]
    have hl := run_loadCells_list (P := P) w ad (K.fl xs) (sl.cellsAt I)
    have hst := run_storeCells_at P g 0 K.ty (K.fl xs) 0 cur w hh (by rw [hn, hs]; simp) (fl_one K xs)
    rw [hn] at hl
    simp only [Nat.zero_add, List.take_zero, List.nil_append] at hst
    refine ⟨w.setRow g (K.fl xs ++ cur.toList.drop (K.fl xs).length).toArray, ?_, ⟨_, setRow_heap _ _ _ _ _ _ hh, by rw [I.1]; exact Nat.le_refl _, hm, ?_, ?_⟩, below_setRow B hg _⟩
    · simp [Builtin.copy_, run_underlying ht, Builtin.lenOf, Builtin.firstCells, sizeOf, typeInfo, hi, hsize, hl, hst] <;> rfl
    · simp [hn, hs]
    · rw [List.toList_toArray, ← fl_length, List.take_left]

/-- append at a step of a region that draws its order. -/
theorem step_append {P : Program} {w : World} {ops : Array Oper} {o : Oper} {a : Act} {C : Act → World → Prop} {Q : Exit → Act → World → Prop} {E : Prop} (hgd : o.guard = none) (s y : Operand) (t : TypeId)
    (ho : o.op = .call { callee := .builtin .append, args := #[s, y], argTypes := #[t, t] })
    (i : TypeInfo) (zv : Value) (ht : P.underlying t = some (.slice K.ty)) (hi : P.info? K.ty = some i) (hz : i.zero = some zv) (hsize : i.size = K.n) (hby : i.bytes = 8 * K.n) (hzc : zv.cells.size = K.n) (h8 : K.n ≤ 100)
    (g n cap : Nat) (xs : List α) (hs : a.eval s = .slice (some ⟨g, 0, none⟩) n cap) (hn : n = xs.length) (R : K.row w g cap xs) (ao : Option Addr) (m c : Nat) (ys : List α) (hy : a.eval y = .slice ao m c) (I : K.sl w ao m ys) (hlen : xs.length + m ≤ 100000000) (H : Nat) (hH : w.heap.size = H)
    (h : ∀ g' cap' w', K.row w' g' cap' (xs ++ ys) → w.grownBy w' (some g) → (g' = g ∨ g' = H) → C (a.put o.dst (.slice (some ⟨g', 0, none⟩) (n + m) cap')) w') :
    if Region.wanted o (yielded ops a.tmps) = true then Oper.wp P o a w C Q else E := by
  have hw : Region.wanted o (yielded ops a.tmps) = true := by simp [Region.wanted, hgd]
  rw [if_pos hw]
  subst hH
  subst hn
  obtain ⟨g', cap', w', hr, h2, h3, h4⟩ := run_append (P := P) w t o.type i zv ht hi hz hsize hby hzc h8 g cap xs R ao m c ys I hlen
  unfold Oper.wp execOp
  simp only [ho, resolve, invoke, builtin, Sem.run_bind, Sem.run_pure, Result.andThen_ok, List.map_toArray, List.map_cons, List.map_nil, hs, hy, hr]
  exact h g' cap' w' h2 h3 h4

end Rec
end Go.Proofs.YtcmeimfjedakeaaGreat.Crew

/-
  impl's tasks: a copy, a list as it is, the sort by Id.
-/
namespace Go.Proofs.YtcmeimfjedakeaaGreat.Crew
open Go.ChangeShapes Go.WideShapes Go.ChangeAt Go.RowKit

theorem made_tsks (n : Nat) (hn : (n : Int) ≤ 1048576) (w : World) : (Instr.makeSlice 26 (.int .i64 n) (.int .i64 n)).run Tryz.prog w = .ok (.slice (some ⟨w.heap.size, 0, none⟩) n n) (w.alloc (.cells (tskR.fl (List.replicate n tz)).toArray 73)) := by
  obtain ⟨i0, hi, hz0, hz1, hz2⟩ := info_parts info_task
  have h := run_make (P := Tryz.prog) w 26 73 i0 (.agg #[.int .i64 0, .int .i64 0, .int .i64 0, .int .i64 0]) Tryz.underlying26 hi hz0 .i64 .i64 n n (by omega) (by omega) (by rw [hz2]; omega) (by omega)
  rw [h, hz1]
  have e : madeCells (Value.agg #[.int .i64 0, .int .i64 0, .int .i64 0, .int .i64 0]).cells (n * 4) = (tskR.fl (List.replicate n tz)).toArray := by
    apply Array.ext'
    rw [List.toList_toArray]
    exact made_tasks n
  simp only [Int.toNat_natCast]
  rw [e]

set_option maxRecDepth 100000 in
/-- impl.copied over tasks: a copy in a block of its own. -/
theorem copiedT_any (a : Option Addr) (len cap : Nat) (ps : List Tsk) (w : World) (I : Tsks w a len ps) (hs : (len : Int) ≤ 1048576) :
    Calls Tryz.prog 41 #[.slice a len cap] w fun e w' => e = .returned (.slice (some ⟨w.heap.size, 0, none⟩) len len) ∧ TRow w' w.heap.size len ps ∧ Below w.heap.size w w' := by
  obtain ⟨i0, hi, hz0, hz1, hz2⟩ := info_parts info_task
  have hm := made_tsks len hs w
  obtain ⟨w1, hc, R1, B1⟩ := Rec.run_copy (P := Tryz.prog) (w.alloc (.cells (tskR.fl (List.replicate len tz)).toArray 73)) 26 3 i0 Tryz.underlying26 hi hz1 w.heap.size w (below_new _ _) w.heap.size (Nat.le_refl _) (List.replicate len tz) a len cap ps (Rec.row_rep tskR w len tz hs) (I.kept (below_new _ _))
  have H1 : Hid (TRow w1 w.heap.size len ps ∧ Below w.heap.size w w1) := ⟨R1, B1⟩
  clear I R1 B1 hi hz0 hz1 hz2
  go_enter Tryz.func41, Tryz.ntmps41
  go_wp2_with fail
  go_ret
  exact ⟨rfl, H1.out⟩

/-- impl.asItIs. -/
theorem implAsIs (a : Option Addr) (len cap : Nat) (ps : List Tsk) (w : World) (I : Tsks w a len ps) (hs : (len : Int) ≤ 1048576) :
    Calls Tryz.prog 126 #[.slice a len cap] w fun e w' => ∃ g n c : Nat, e = .returned (.slice (some ⟨g, 0, none⟩) n c) ∧ TFit w' w.heap.size (some ⟨g, 0, none⟩) n c (asIs ps) ∧ Below w.heap.size w w' := by
  have HI : Hid (Tsks w a len ps) := I
  clear I
  cases hk : tasksOk ps
  · have HK : Hid (tasksOk ps = false) := hk
    have e : asIs ps = [] := by rw [asIs, hk]; rfl
    rw [e]
    clear hk e
    go_enter Tryz.func126, Tryz.ntmps126
    go_wp2_with fail
    refine (implTasksOk a len cap ps _ HI.out hs).mono ?_
    rw [HK.out]
    rintro e w1 ⟨rfl, B1⟩
    have H1 : Hid (Below w.heap.size w w1) := B1
    clear B1
    go_wp2_with fail
    go_ret
    exact ⟨w1.heap.size, 0, 0, rfl, (Rec.row_nil tskR w1).fit H1.out.size rfl, H1.out.alloc H1.out.size _⟩
  · have HK : Hid (tasksOk ps = true) := hk
    have e : asIs ps = ps := by rw [asIs, hk]; rfl
    rw [e]
    clear hk e
    go_enter Tryz.func126, Tryz.ntmps126
    go_wp2_with fail
    refine (implTasksOk a len cap ps _ HI.out hs).mono ?_
    rw [HK.out]
    rintro e w1 ⟨rfl, B1⟩
    have H1 : Hid (Below w.heap.size w w1) := B1
    clear B1
    go_wp2_with fail
    refine (copiedT_any a len cap ps _ (HI.out.kept H1.out) hs).mono ?_
    rintro e w2 ⟨rfl, R2, B2⟩
    have H2 : Hid (TRow w2 w1.heap.size len ps ∧ w.heap.size ≤ w1.heap.size ∧ Below w.heap.size w w2) := ⟨R2, H1.out.size, below_call H1.out H1.out.size B2⟩
    clear R2 B2
    go_wp2_with fail
    go_ret
    exact ⟨w1.heap.size, len, len, rfl, H2.out.1.fit H2.out.2.1 HI.out.1, H2.out.2.2⟩

/-- Where one of that Id is put among the first k. -/
def posT (id : Int) (out : List Tsk) : Nat → Nat
  | 0 => 0
  | k + 1 => if id < (out.getD k tz).i then posT id out k else k + 1

def insT (out : List Tsk) (x : Tsk) : List Tsk := out.take (posT x.i out out.length) ++ x :: out.drop (posT x.i out out.length)

/-- The first k of them, sorted. -/
def sortT (L : List Tsk) : Nat → List Tsk
  | 0 => []
  | k + 1 => insT (sortT L k) (L.getD k tz)

theorem posT_le (id : Int) (out : List Tsk) (k : Nat) : posT id out k ≤ k := by
  induction k with
  | zero => exact Nat.le_refl _
  | succ k ih =>
    rw [posT]
    split <;> omega

theorem insT_len (out : List Tsk) (x : Tsk) : (insT out x).length = out.length + 1 := by
  have := posT_le x.i out out.length
  rw [insT, List.length_append, List.length_cons, List.length_take, List.length_drop]
  omega

theorem sortT_len (L : List Tsk) (k : Nat) : (sortT L k).length = k := by
  induction k with
  | zero => rfl
  | succ k ih => rw [sortT, insT_len, ih]

theorem posT_down {id : Int} {out : List Tsk} {k : Nat} (h0 : 0 < k) (h : id < (out.getD (k - 1) tz).i) : posT id out k = posT id out (k - 1) := by
  obtain ⟨m, rfl⟩ : ∃ m, k = m + 1 := ⟨k - 1, by omega⟩
  rw [Nat.add_sub_cancel] at h ⊢
  rw [posT, if_pos h]

theorem posT_stop {id : Int} {out : List Tsk} {k : Nat} (h : k = 0 ∨ ¬ id < (out.getD (k - 1) tz).i) : posT id out k = k := by
  cases k with
  | zero => rfl
  | succ m =>
    rcases h with h | h
    · omega
    · rw [Nat.add_sub_cancel] at h
      rw [posT, if_neg h]

theorem tsk_shift {out zs : List Tsk} {t : Nat} {j : Tsk} (h0 : 0 < t) (h1 : t ≤ out.length) :
    (out.take t ++ j :: (out.drop t ++ zs)).set t (out.getD (t - 1) tz) = out.take (t - 1) ++ out.getD (t - 1) tz :: (out.drop (t - 1) ++ zs) := by
  rw [List.set_append_right _ _ (by simp; omega), List.length_take, show t - min t out.length = 0 by omega, List.set_cons_zero]
  obtain ⟨m, rfl⟩ : ∃ m, t = m + 1 := ⟨t - 1, by omega⟩
  have hm : m < out.length := by omega
  rw [Nat.add_sub_cancel, show out.getD m tz = out[m] by simp [List.getD, hm], List.take_succ_eq_append_getElem hm, List.drop_eq_getElem_cons hm, List.append_assoc]
  rfl

theorem tsk_place {out zs : List Tsk} {t : Nat} {j x : Tsk} (h1 : t ≤ out.length) :
    (out.take t ++ j :: (out.drop t ++ zs)).set t x = out.take t ++ x :: (out.drop t ++ zs) := by
  rw [List.set_append_right _ _ (by simp; omega), List.length_take, show t - min t out.length = 0 by omega, List.set_cons_zero]

theorem tsk_read {out zs : List Tsk} {t : Nat} {j : Tsk} (h0 : 0 < t) (h1 : t ≤ out.length) : (out.take t ++ j :: (out.drop t ++ zs)).getD (t - 1) tz = out.getD (t - 1) tz := by
  simp only [List.getD, List.getElem?_append]
  rw [if_pos (by simp; omega), List.getElem?_take, if_pos (by omega)]

theorem tsk_rowlen {out zs : List Tsk} {t : Nat} {j : Tsk} (h1 : t ≤ out.length) : (out.take t ++ j :: (out.drop t ++ zs)).length = out.length + 1 + zs.length := by
  simp; omega

theorem tsk_start {out : List Tsk} {n k : Nat} (hk : k < n) (hl : out.length = k) : out ++ List.replicate (n - k) tz = out.take k ++ tz :: (out.drop k ++ List.replicate (n - (k + 1)) tz) := by
  rw [show n - k = (n - (k + 1)) + 1 by omega, List.replicate_succ, List.take_of_length_le (by omega), List.drop_eq_nil_of_le (by omega)]
  rfl

/-- The end of a round: the new one has been put in. -/
theorem tsk_put {out L : List Tsk} {len k t : Nat} {j x : Tsk} (ho : out = sortT L k) (hx : x = L.getD k tz) (ht : t ≤ k) (hp : posT x.i out k = t) :
    (out.take t ++ j :: (out.drop t ++ List.replicate (len - (k + 1)) tz)).set t x = sortT L (k + 1) ++ List.replicate (len - (k + 1)) tz := by
  have hl : out.length = k := by rw [ho]; exact sortT_len L k
  rw [tsk_place (by omega), sortT, insT, ← ho, ← hx, hl, hp, List.append_assoc]
  rfl

/-- The closure of impl.Created. -/
theorem lessT_any (i v s h i' v' s' h' : Int) (w : World) :
    Calls Tryz.prog 129 #[tk i v s h, tk i' v' s' h'] w fun e w' => e = .returned (.bool (decide (i < i'))) ∧ Below w.heap.size w w' := by
  by_cases hl : i < i'
  · have hd : decide (i < i') = true := decide_eq_true hl
    rw [hd]
    go_enter Tryz.func129, Tryz.ntmps129
    go_wp2_with fail
    go_ret
    refine ⟨rfl, ?_⟩
    go_grown
  · have hd : decide (i < i') = false := decide_eq_false hl
    rw [hd]
    go_enter Tryz.func129, Tryz.ntmps129
    go_wp2_with fail
    go_ret
    refine ⟨rfl, ?_⟩
    go_grown

end Go.Proofs.YtcmeimfjedakeaaGreat.Crew

/-
  impl.sortedBy over tasks, by Id.
-/
namespace Go.Proofs.YtcmeimfjedakeaaGreat.Crew
open Go.ChangeShapes Go.WideShapes Go.ChangeAt Go.RowKit

theorem TBox.past {w w' : World} {b g : Nat} {x : Tsk} (h : TBox w b x) (k : w.grownBy w' (some g)) (hb : b ≠ g) : TBox w' b x := by
  have hg : some b ≠ some g := by simpa using hb
  exact ⟨Nat.lt_of_lt_of_le h.1 k.size, k.cell h.2.1 hg, k.cell h.2.2.1 hg, k.cell h.2.2.2.1 hg, k.cell h.2.2.2.2 hg⟩

set_option maxRecDepth 100000 in
set_option maxHeartbeats 4000000 in
/-- impl.sortedBy[impl.Task] with the closure of impl.Created. -/
theorem sortedT_any (a : Option Addr) (len cap : Nat) (L : List Tsk) (w : World) (I : Tsks w a len L) (hs : (len : Int) ≤ 1048576) :
    Calls Tryz.prog 128 #[.slice a len cap, .func (.func 129) #[] #[]] w fun e w' => e = .returned (.slice (some ⟨w.heap.size, 0, none⟩) len len) ∧ TRow w' w.heap.size len (sortT L len) ∧ Below w.heap.size w w' := by
  have HI : Hid (Tsks w a len L) := I
  have HL : Hid (L.length = len) := I.1
  have hm := made_tsks len hs w
  have R0 : Hid (TRow (w.alloc (.cells (tskR.fl (List.replicate len tz)).toArray 73)) w.heap.size len (List.replicate len tz) ∧ Below w.heap.size w (w.alloc (.cells (tskR.fl (List.replicate len tz)).toArray 73))) := ⟨Rec.row_rep tskR w len tz hs, below_new _ _⟩
  clear I
  go_enter Tryz.func128, Tryz.ntmps128
  go_wp2_with fail
  generalize w.alloc (.cells (tskR.fl (List.replicate len tz)).toArray 73) = wa at R0 ⊢
  clear hm
  go_loopw [6, 7, 8, 14] (fun _ _ _ i wr => ∃ k : Nat, k ≤ len ∧ i = .int .i64 k ∧ Hid (TRow wr w.heap.size len (sortT L k ++ List.replicate (len - k) tz)) ∧ Hid (Below w.heap.size w wr)) (fun _ _ _ i _ => len - (intOf i).toNat)
  case atStart => exact ⟨0, Nat.zero_le _, rfl, R0.out.1, R0.out.2⟩
  case round =>
    obtain ⟨k, hk, rfl, R, B⟩ := hrel
    by_cases hlt : k < len
    · obtain ⟨_, h0 | ⟨b, off, rfl, hb, hc⟩⟩ := tsks_parts (HI.out.kept B.out)
      · omega
      obtain ⟨x, hx⟩ : ∃ x, x = L.getD k tz := ⟨_, rfl⟩
      obtain ⟨c0, c1, c2, c3⟩ := hc k hlt
      rw [← hx] at c0 c1 c2 c3
      have hlt' : (k : Int) < (len : Int) := by omega
      have X : Hid (x = L.getD k tz) := hx
      obtain ⟨out, hout⟩ : ∃ out, out = sortT L k := ⟨_, rfl⟩
      have ho : out.length = k := by rw [hout]; exact sortT_len L k
      have OUT : Hid (out = sortT L k ∧ out.length = k) := ⟨hout, ho⟩
      have R' : Hid (TRow wr w.heap.size len (out.take k ++ tz :: (out.drop k ++ List.replicate (len - (k + 1)) tz))) := by
        have := R.out
        rw [← hout, tsk_start hlt ho] at this
        exact this
      clear hc hx R hout ho
      obtain ⟨xi, xw, xs, xh⟩ := x
      simp only at c0 c1 c2 c3
      have hsz : w.heap.size < wr.heap.size := R'.out.lt
      go_wp2_with fail
      obtain ⟨W, hW⟩ : ∃ W, W = wr.alloc (.cells #[.int .i64 xi, .int .i64 xw, .int .i64 xs, .int .i64 xh] 73) := ⟨_, rfl⟩
      have BX : Hid (TBox W wr.heap.size ⟨xi, xw, xs, xh⟩) := by rw [hW]; exact tbox_new wr xi xw xs xh
      have BW : Hid (Below w.heap.size w W) := by rw [hW]; exact below_call B.out B.out.size (below_new _ _)
      have RW : Hid (TRow W w.heap.size len (out.take k ++ tz :: (out.drop k ++ List.replicate (len - (k + 1)) tz))) := by rw [hW]; exact R'.out.alloc _
      rw [← hW]
      obtain ⟨bt, hbt⟩ : ∃ bt, bt = wr.heap.size := ⟨_, rfl⟩
      rw [← hbt] at BX ⊢
      have hne : ¬ bt = w.heap.size := by omega
      have HNE : Hid (bt ≠ w.heap.size ∧ bt ≠ w.heap.size) := ⟨hne, hne⟩
      clear hW hbt hb c0 c1 c2 c3 hne
      go_wp2_with fail
      go_loopw [8] (fun i wq => ∃ t : Nat, t ≤ k ∧ i = .int .i64 t ∧ Hid (∃ j, TRow wq w.heap.size len (out.take t ++ j :: (out.drop t ++ List.replicate (len - (k + 1)) tz))) ∧ Hid (Below w.heap.size w wq) ∧ Hid (TBox wq bt ⟨xi, xw, xs, xh⟩) ∧ Hid (posT xi out k = posT xi out t)) (fun i _ => (intOf i).toNat)
      case atStart => exact ⟨k, Nat.le_refl _, rfl, ⟨tz, RW.out⟩, BW, BX, rfl⟩
      case round =>
        obtain ⟨t, ht, rfl, RJ, BQ, TB, PQ⟩ := hrel
        obtain ⟨j, RJ'⟩ := RJ.out
        have RK : Hid (TRow wr w.heap.size len (out.take t ++ j :: (out.drop t ++ List.replicate (len - (k + 1)) tz))) := RJ'
        have hlen : t < (out.take t ++ j :: (out.drop t ++ List.replicate (len - (k + 1)) tz)).length := by rw [tsk_rowlen (by have := OUT.out.2; omega)]; have := OUT.out.2; omega
        clear RJ RJ'
        have y0 : ∀ z : Kin wr, z.u.cell? ⟨bt, 0, none⟩ = some (.int .i64 xi) := fun z => z.cell TB.out.1 TB.out.2.1
        have y1 : ∀ z : Kin wr, z.u.cell? ⟨bt, 1, none⟩ = some (.int .i64 xw) := fun z => z.cell TB.out.1 TB.out.2.2.1
        have y2 : ∀ z : Kin wr, z.u.cell? ⟨bt, 2, none⟩ = some (.int .i64 xs) := fun z => z.cell TB.out.1 TB.out.2.2.2.1
        have y3 : ∀ z : Kin wr, z.u.cell? ⟨bt, 3, none⟩ = some (.int .i64 xh) := fun z => z.cell TB.out.1 TB.out.2.2.2.2
        have nbt := HNE.out.1
        have nbt' := Ne.symm nbt
        by_cases ht0 : t = 0
        · have hd : decide ((0 : Int) < (t : Int)) = false := decide_eq_false (by omega)
          have hdn : decide (0 < t) = false := decide_eq_false (by omega)
          have HT : Hid (t = 0) := ht0
          clear ht0
          go_wp2_with fail
          refine wp_region_kin (by kernel_rfl) (by kernel_rfl) (fun hne => ?_)
          repeat (go_big_quiet_step ((first | (go_at_call 129; exact kin_calls (K1.out _)))))
          refine wpQuiet_nil ?_
          rintro _ ⟨z, rfl⟩
          have BZ : Hid (Below wr.heap.size wr z.u) := z.b
          generalize z.u = wz at BZ ⊢
          have RZ : Hid (TRow wz w.heap.size len (out.take t ++ j :: (out.drop t ++ List.replicate (len - (k + 1)) tz))) := RK.out.all BZ.out
          have TZ : Hid (TBox wz bt ⟨xi, xw, xs, xh⟩) := TB.out.all BZ.out
          have BW2 : Hid (Below w.heap.size w wz) := below_call BQ.out BQ.out.size BZ.out
          have z0 := TZ.out.2.1
          have z1 := TZ.out.2.2.1
          have z2 := TZ.out.2.2.2.1
          have z3 := TZ.out.2.2.2.2
          simp only at z0 z1 z2 z3
          clear y0 y1 y2 y3 hne
          have f0 := RZ.out.frozen (t * 4)
          have f1 := RZ.out.frozen (t * 4 + 1)
          have f2 := RZ.out.frozen (t * 4 + 2)
          have f3 := RZ.out.frozen (t * 4 + 3)
          obtain ⟨q0, q1, q2, q3⟩ := TRow.c RZ.out (i := t) (hlen)
          generalize ((out.take t ++ j :: (out.drop t ++ List.replicate (len - (k + 1)) tz)).getD t tz).i = u0 at q0
          generalize ((out.take t ++ j :: (out.drop t ++ List.replicate (len - (k + 1)) tz)).getD t tz).w = u1 at q1
          generalize ((out.take t ++ j :: (out.drop t ++ List.replicate (len - (k + 1)) tz)).getD t tz).s = u2 at q2
          generalize ((out.take t ++ j :: (out.drop t ++ List.replicate (len - (k + 1)) tz)).getD t tz).h = u3 at q3
          clear hd hdn
          go_wp2_with fail
          go_roundw
          case rel =>
            refine ⟨k + 1, by omega, by go_num, ?_, ?_⟩
            · have := TRow.put RZ.out t xi xw xs xh
              rw [tsk_put OUT.out.1 X.out ht (by show posT xi out k = t; rw [PQ.out]; exact posT_stop (.inl HT.out))] at this
              exact this
            · exact BW2.out.grown (TRow.sets t _ _ _ _) BW2.out.size (fun j hj => by cases hj; exact Nat.le_refl _)
          case measure => simp [intOf]; omega
        · have ht1 : 0 < t := by omega
          have hti : (0 : Int) < (t : Int) := by omega
          have hd : decide ((0 : Int) < (t : Int)) = true := decide_eq_true hti
          have hr2 := tsk_read (out := out) (zs := List.replicate (len - (k + 1)) tz) (t := t) (j := j) ht1 (by have := OUT.out.2; omega)
          obtain ⟨d0, d1, d2, d3⟩ := TRow.c RK.out (i := t - 1) (by omega)
          rw [hr2] at d0 d1 d2 d3
          obtain ⟨y, hy⟩ : ∃ y, y = out.getD (t - 1) tz := ⟨_, rfl⟩
          rw [← hy] at d0 d1 d2 d3
          have HY : Hid (y = out.getD (t - 1) tz) := hy
          clear hy hr2
          obtain ⟨yi, yw, ys, yh⟩ := y
          simp only at d0 d1 d2 d3
          have hgl := RK.out.lt
          have x0 : ∀ z : Kin wr, z.u.cell? ⟨w.heap.size, (t - 1) * 4, none⟩ = some (.int .i64 yi) := fun z => z.cell hgl d0
          have x1 : ∀ z : Kin wr, z.u.cell? ⟨w.heap.size, (t - 1) * 4 + 1, none⟩ = some (.int .i64 yw) := fun z => z.cell hgl d1
          have x2 : ∀ z : Kin wr, z.u.cell? ⟨w.heap.size, (t - 1) * 4 + 2, none⟩ = some (.int .i64 ys) := fun z => z.cell hgl d2
          have x3 : ∀ z : Kin wr, z.u.cell? ⟨w.heap.size, (t - 1) * 4 + 3, none⟩ = some (.int .i64 yh) := fun z => z.cell hgl d3
          clear d0 d1 d2 d3
          obtain ⟨p, hp⟩ : ∃ p, p = decide (xi < yi) := ⟨_, rfl⟩
          have K1 : Hid (∀ u : World, Calls Tryz.prog 129 #[tk xi xw xs xh, tk yi yw ys yh] u fun e w' => e = .returned (.bool p) ∧ Below u.heap.size u w') := fun u => by rw [hp]; exact lessT_any _ _ _ _ _ _ _ _ u
          have HP : Hid (p = decide (xi < yi)) := hp
          clear hp
          cases p
          · go_wp2_with fail
            refine wp_region_kin (by kernel_rfl) (by kernel_rfl) (fun hne => ?_)
            repeat (go_big_quiet_step ((first | (go_at_call 129; exact kin_calls (K1.out _)))))
            refine wpQuiet_nil ?_
            rintro _ ⟨z, rfl⟩
            have BZ : Hid (Below wr.heap.size wr z.u) := z.b
            generalize z.u = wz at BZ ⊢
            have RZ : Hid (TRow wz w.heap.size len (out.take t ++ j :: (out.drop t ++ List.replicate (len - (k + 1)) tz))) := RK.out.all BZ.out
            have TZ : Hid (TBox wz bt ⟨xi, xw, xs, xh⟩) := TB.out.all BZ.out
            have BW2 : Hid (Below w.heap.size w wz) := below_call BQ.out BQ.out.size BZ.out
            have z0 := TZ.out.2.1
            have z1 := TZ.out.2.2.1
            have z2 := TZ.out.2.2.2.1
            have z3 := TZ.out.2.2.2.2
            simp only at z0 z1 z2 z3
            clear y0 y1 y2 y3 x0 x1 x2 x3 K1 hne
            have f0 := RZ.out.frozen (t * 4)
            have f1 := RZ.out.frozen (t * 4 + 1)
            have f2 := RZ.out.frozen (t * 4 + 2)
            have f3 := RZ.out.frozen (t * 4 + 3)
            obtain ⟨q0, q1, q2, q3⟩ := TRow.c RZ.out (i := t) (hlen)
            generalize ((out.take t ++ j :: (out.drop t ++ List.replicate (len - (k + 1)) tz)).getD t tz).i = u0 at q0
            generalize ((out.take t ++ j :: (out.drop t ++ List.replicate (len - (k + 1)) tz)).getD t tz).w = u1 at q1
            generalize ((out.take t ++ j :: (out.drop t ++ List.replicate (len - (k + 1)) tz)).getD t tz).s = u2 at q2
            generalize ((out.take t ++ j :: (out.drop t ++ List.replicate (len - (k + 1)) tz)).getD t tz).h = u3 at q3
            clear hd
            go_wp2_with fail
            go_roundw
            case rel =>
              refine ⟨k + 1, by omega, by go_num, ?_, ?_⟩
              · have := TRow.put RZ.out t xi xw xs xh
                rw [tsk_put OUT.out.1 X.out ht (by show posT xi out k = t; rw [PQ.out]; exact posT_stop (.inr (by rw [← HY.out]; simpa using HP.out)))] at this
                exact this
              · exact BW2.out.grown (TRow.sets t _ _ _ _) BW2.out.size (fun j hj => by cases hj; exact Nat.le_refl _)
            case measure => simp [intOf]; omega
          · go_wp2_with fail
            refine wp_region_kin (by kernel_rfl) (by kernel_rfl) (fun hne => ?_)
            repeat (go_big_quiet_step ((first | (go_at_call 129; exact kin_calls (K1.out _)))))
            refine wpQuiet_nil ?_
            rintro _ ⟨z, rfl⟩
            have BZ : Hid (Below wr.heap.size wr z.u) := z.b
            generalize z.u = wz at BZ ⊢
            have RZ : Hid (TRow wz w.heap.size len (out.take t ++ j :: (out.drop t ++ List.replicate (len - (k + 1)) tz))) := RK.out.all BZ.out
            have TZ : Hid (TBox wz bt ⟨xi, xw, xs, xh⟩) := TB.out.all BZ.out
            have BW2 : Hid (Below w.heap.size w wz) := below_call BQ.out BQ.out.size BZ.out
            have z0 := TZ.out.2.1
            have z1 := TZ.out.2.2.1
            have z2 := TZ.out.2.2.2.1
            have z3 := TZ.out.2.2.2.2
            simp only at z0 z1 z2 z3
            have d0 := (BZ.out.cell (p := ⟨w.heap.size, (t - 1) * 4, none⟩) hgl).trans (x0 ⟨wr, Below.refl _ _⟩)
            have d1 := (BZ.out.cell (p := ⟨w.heap.size, (t - 1) * 4 + 1, none⟩) hgl).trans (x1 ⟨wr, Below.refl _ _⟩)
            have d2 := (BZ.out.cell (p := ⟨w.heap.size, (t - 1) * 4 + 2, none⟩) hgl).trans (x2 ⟨wr, Below.refl _ _⟩)
            have d3 := (BZ.out.cell (p := ⟨w.heap.size, (t - 1) * 4 + 3, none⟩) hgl).trans (x3 ⟨wr, Below.refl _ _⟩)
            clear y0 y1 y2 y3 x0 x1 x2 x3 K1 hne
            have f0 := RZ.out.frozen (t * 4)
            have f1 := RZ.out.frozen (t * 4 + 1)
            have f2 := RZ.out.frozen (t * 4 + 2)
            have f3 := RZ.out.frozen (t * 4 + 3)
            obtain ⟨q0, q1, q2, q3⟩ := TRow.c RZ.out (i := t) (hlen)
            generalize ((out.take t ++ j :: (out.drop t ++ List.replicate (len - (k + 1)) tz)).getD t tz).i = u0 at q0
            generalize ((out.take t ++ j :: (out.drop t ++ List.replicate (len - (k + 1)) tz)).getD t tz).w = u1 at q1
            generalize ((out.take t ++ j :: (out.drop t ++ List.replicate (len - (k + 1)) tz)).getD t tz).s = u2 at q2
            generalize ((out.take t ++ j :: (out.drop t ++ List.replicate (len - (k + 1)) tz)).getD t tz).h = u3 at q3
            go_wp2_with fail
            go_roundw
            case rel =>
              refine ⟨t - 1, by omega, by go_num, ⟨⟨yi, yw, ys, yh⟩, ?_⟩, ?_, TZ.out.past (TRow.sets t _ _ _ _) nbt, ?_⟩
              · have := TRow.put RZ.out t yi yw ys yh
                rw [HY.out, tsk_shift ht1 (by have := OUT.out.2; omega), ← HY.out] at this
                exact this
              · exact BW2.out.grown (TRow.sets t _ _ _ _) BW2.out.size (fun j hj => by cases hj; exact Nat.le_refl _)
              · show _ = _
                rw [PQ.out]
                exact posT_down ht1 (by rw [← HY.out]; simpa using HP.out)
            case measure => simp [intOf]; omega
    · have hlt' : ¬ (k : Int) < (len : Int) := by omega
      go_wp2_with fail
      go_ret
      have e : k = len := by omega
      subst e
      have := R.out
      rw [Nat.sub_self, List.replicate_zero, List.append_nil] at this
      exact ⟨rfl, this, B.out⟩

end Go.Proofs.YtcmeimfjedakeaaGreat.Crew
