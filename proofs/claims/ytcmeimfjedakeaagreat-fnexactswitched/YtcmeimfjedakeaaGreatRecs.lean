/-
  Slices of structs of int64s, whatever the struct ('Rec'): what one reads as ('sl'), one that lies at the head of a block of its own ('row'), one that is empty or lies so ('fit'), how they stay where other blocks are written, append.
-/
import Derived.Test.YtcmeimfjedakeaaGreatIntsBase
import Derived.Test.YtcmeimfjedakeaaGreatSmoothAns
namespace Go.Proofs.YtcmeimfjedakeaaGreat.Crew
open Go.ChangeShapes Go.WideShapes Go.ChangeAt Go.RowKit

/-- A struct of n int64s. -/
structure Rec (α : Type) where
  n : Nat
  cs : α → List Int
  len : ∀ x, (cs x).length = n
  pos : 0 < n
  ty : TypeId
  z : α
  put : α → Nat → Int → α
  cs_put : ∀ x j v, cs (put x j v) = (cs x).set j v

namespace Rec
variable {α : Type} (K : Rec α)

def one (x : α) : List Value := (K.cs x).map (Value.int .i64)

theorem one_len (x : α) : (K.one x).length = K.n := by rw [one, List.length_map, K.len]

theorem one_get {x : α} {j : Nat} (hj : j < K.n) : (K.one x)[j]? = some (.int .i64 ((K.cs x).getD j 0)) := by
  have h : j < (K.cs x).length := by rw [K.len]; exact hj
  rw [one, List.getElem?_map, List.getElem?_eq_getElem h, List.getD_eq_getElem?_getD, List.getElem?_eq_getElem h]
  rfl

def fl (xs : List α) : List Value := xs.flatMap K.one

theorem fl_nil : K.fl [] = [] := rfl

theorem fl_cons (x : α) (xs : List α) : K.fl (x :: xs) = K.one x ++ K.fl xs := by simp [fl]

theorem fl_append (xs ys : List α) : K.fl (xs ++ ys) = K.fl xs ++ K.fl ys := by simp [fl]

theorem fl_length (xs : List α) : (K.fl xs).length = xs.length * K.n := by
  induction xs with
  | nil => simp [fl]
  | cons x xs ih => rw [fl_cons, List.length_append, one_len, ih, List.length_cons, Nat.succ_mul]; omega

theorem fl_get {xs : List α} {i j : Nat} (hi : i < xs.length) (hj : j < K.n) : (K.fl xs)[i * K.n + j]? = some (.int .i64 ((K.cs (xs.getD i K.z)).getD j 0)) := by
  induction xs generalizing i with
  | nil => simp at hi
  | cons x xs ih =>
    rw [fl_cons]
    cases i with
    | zero =>
      rw [Nat.zero_mul, Nat.zero_add, List.getElem?_append_left (by rw [one_len]; exact hj), one_get K hj]
      rfl
    | succ i =>
      have e : (i + 1) * K.n + j = K.n + (i * K.n + j) := by rw [Nat.succ_mul]; omega
      rw [e, List.getElem?_append_right (by rw [one_len]; omega), one_len, Nat.add_sub_cancel_left, ih (by simpa using hi), List.getD_cons_succ]

theorem one_set {x : α} {j : Nat} (v : Int) : (K.one x).set j (.int .i64 v) = K.one (K.put x j v) := by
  rw [one, one, K.cs_put, List.map_set]

theorem fl_set {xs : List α} {i j : Nat} (hj : j < K.n) (v : Int) : (K.fl xs).set (i * K.n + j) (.int .i64 v) = K.fl (xs.set i (K.put (xs.getD i K.z) j v)) := by
  induction xs generalizing i with
  | nil => simp [fl]
  | cons x xs ih =>
    cases i with
    | zero =>
      rw [Nat.zero_mul, Nat.zero_add, fl_cons, List.set_append_left _ _ (by rw [one_len]; exact hj), one_set, List.set_cons_zero, fl_cons]
      rfl
    | succ i =>
      have e : (i + 1) * K.n + j = K.n + (i * K.n + j) := by rw [Nat.succ_mul]; omega
      rw [e, fl_cons, List.set_append_right _ _ (by rw [one_len]; omega), one_len, Nat.add_sub_cancel_left, ih, List.set_cons_succ, fl_cons]
      rfl

theorem fl_one (xs : List α) : ∀ v ∈ K.fl xs, v.oneCell' = true := by
  intro v hv
  simp only [fl, one, List.mem_flatMap, List.mem_map] at hv
  obtain ⟨_, _, x, _, rfl⟩ := hv
  rfl

/-- The slice at a, of len structs, reads as xs. -/
def sl (w : World) (a : Option Addr) (len : Nat) (xs : List α) : Prop :=
  xs.length = len ∧ (len = 0 ∨ ∃ b off, a = some ⟨b, off, none⟩ ∧ b < w.heap.size ∧ ∀ i j, i < len → j < K.n → w.cell? ⟨b, off + (i * K.n + j), none⟩ = some (.int .i64 ((K.cs (xs.getD i K.z)).getD j 0)))

variable {K}

theorem sl.kept {w w' : World} {a : Option Addr} {len : Nat} {xs : List α} (h : K.sl w a len xs) (g : Below w.heap.size w w') : K.sl w' a len xs := by
  refine ⟨h.1, ?_⟩
  rcases h.2 with h | ⟨b, off, ha, hlt, hc⟩
  · exact .inl h
  · exact .inr ⟨b, off, ha, Nat.lt_of_lt_of_le hlt g.size, fun i j hi hj => by rw [g.cell (p := ⟨b, off + (i * K.n + j), none⟩) hlt]; exact hc i j hi hj⟩

theorem sl.cellsAt {w : World} {ad : Addr} {m : Nat} {xs : List α} (h : K.sl w (some ad) m xs) : ∀ j u, (K.fl xs)[j]? = some u → w.cell? (ad.add j) = some u := by
  intro j u hu
  have hl : j < xs.length * K.n := by
    have := (List.getElem?_eq_some_iff.1 hu).1
    rwa [fl_length] at this
  have hm := h.1
  have hn := K.pos
  have hi : j / K.n < xs.length := Nat.div_lt_of_lt_mul (by rw [Nat.mul_comm]; exact hl)
  have hj : j % K.n < K.n := Nat.mod_lt _ hn
  have e : j / K.n * K.n + j % K.n = j := by rw [Nat.mul_comm]; exact Nat.div_add_mod j K.n
  rcases h.2 with h0 | ⟨b, off, ha, hb, hc⟩
  · rw [hm, h0, Nat.zero_mul] at hl
    omega
  · obtain rfl := Option.some.inj ha
    have h1 := fl_get K hi hj
    rw [e] at h1
    rw [h1] at hu
    have h2 := hc _ _ (by rw [← hm]; exact hi) hj
    rw [e] at h2
    rw [add_plain, h2]
    exact hu

variable (K) in
/-- Block g is a row of the call's own, room for cap structs, the first of which are xs. -/
def row (w : World) (g cap : Nat) (xs : List α) : Prop :=
  ∃ cur : Array Value, w.heap[g]? = some (.cells cur K.ty (0, 0)) ∧ xs.length ≤ cap ∧ cap ≤ maxLen ∧ cur.size = cap * K.n ∧ cur.toList.take (xs.length * K.n) = K.fl xs

theorem row.lt {w : World} {g cap : Nat} {xs : List α} (h : K.row w g cap xs) : g < w.heap.size := by
  obtain ⟨cur, hb, _⟩ := h
  exact (Array.getElem?_eq_some_iff.1 hb).1

theorem row.owns {w : World} {g cap : Nat} {xs : List α} (h : K.row w g cap xs) {base : Nat} (hb : base ≤ g) : w.ownsRow base K.ty K.n (.slice (some ⟨g, 0, none⟩) xs.length cap) xs.length (K.fl xs) := by
  obtain ⟨cur, hh, hl, hm, hs, ht⟩ := h
  exact ⟨fl_length K xs, .inr ⟨g, cap, cur, rfl, hb, hh, hl, hm, hs, ht⟩⟩

theorem row_of_owns {w : World} {base g n cap : Nat} {xs : List α} (h : w.ownsRow base K.ty K.n (.slice (some ⟨g, 0, none⟩) n cap) n (K.fl xs)) : K.row w g cap xs ∧ base ≤ g ∧ xs.length = n := by
  obtain ⟨h1, h2⟩ := h
  have hn : xs.length = n := by rw [fl_length] at h1; exact Nat.eq_of_mul_eq_mul_right K.pos h1
  rcases h2 with ⟨h', _⟩ | ⟨g', cap', cur, h', hb, hg, hl, hm, hs, ht⟩
  · simp at h'
  · simp only [Value.slice.injEq, Option.some.injEq, Addr.mk.injEq, and_true, true_and] at h'
    obtain ⟨rfl, rfl⟩ := h'
    exact ⟨⟨cur, hg, by omega, hm, hs, by rw [hn]; exact ht⟩, hb, hn⟩

theorem lt_fl {i j : Nat} {xs : List α} (hi : i < xs.length) (hj : j < K.n) : i * K.n + j < xs.length * K.n := by
  have h : (i + 1) * K.n ≤ xs.length * K.n := Nat.mul_le_mul_right _ hi
  rw [Nat.succ_mul] at h
  omega

theorem row.cell {w : World} {g cap : Nat} {xs : List α} (h : K.row w g cap xs) {i j : Nat} (hi : i < xs.length) (hj : j < K.n) : w.cell? ⟨g, i * K.n + j, none⟩ = some (.int .i64 ((K.cs (xs.getD i K.z)).getD j 0)) := by
  obtain ⟨cur, hh, hl, hm, hs, ht⟩ := h
  have h1 := fl_get K hi hj
  rw [cell_of_row w g _ cur _ (0, 0) hh]
  rw [← ht, List.getElem?_take, if_pos (lt_fl hi hj)] at h1
  simpa using h1

theorem row.frozen {w : World} {g cap : Nat} {xs : List α} (h : K.row w g cap xs) (j : Nat) : w.frozen? ⟨g, j, none⟩ = false := by
  obtain ⟨cur, hh, _⟩ := h
  exact frozen_of_row w g j cur _ hh

theorem row.sl {w : World} {g cap : Nat} {xs : List α} (h : K.row w g cap xs) : K.sl w (some ⟨g, 0, none⟩) xs.length xs :=
  ⟨rfl, .inr ⟨g, 0, rfl, h.lt, fun i j hi hj => by rw [Nat.zero_add]; exact h.cell hi hj⟩⟩

theorem row.still {w w' : World} {g cap : Nat} {xs : List α} (h : K.row w g cap xs) (e : w'.heap[g]? = w.heap[g]?) : K.row w' g cap xs := by
  obtain ⟨cur, hh, r⟩ := h
  exact ⟨cur, by rw [e]; exact hh, r⟩

theorem row.all {w w' : World} {g cap : Nat} {xs : List α} (h : K.row w g cap xs) (b : Below w.heap.size w w') : K.row w' g cap xs := h.still (b.block g h.lt)

theorem row.other {w w' : World} {g cap : Nat} {xs : List α} {r : Option Nat} (h : K.row w g cap xs) (b : w.grownBy w' r) (hne : some g ≠ r) : K.row w' g cap xs := h.still (b.block g h.lt hne)

theorem row.alloc {w : World} {g cap : Nat} {xs : List α} (h : K.row w g cap xs) (o : Obj) : K.row (w.alloc o) g cap xs := h.all (below_new w o)

theorem row.past {w : World} {g cap b j : Nat} {xs : List α} (h : K.row w g cap xs) (hb : g ≠ b) (v : Value) : K.row (w.setCell ⟨b, j, none⟩ v) g cap xs := h.other (grown_at w b j v) (by simpa using hb)

theorem row.drewN {w : World} {g cap : Nat} {xs : List α} (h : K.row w g cap xs) (n : Nat) : K.row (w.drewN n) g cap xs := h.all (below_drewN (Below.refl _ _) n)

theorem row.cut {w : World} {g cap : Nat} {xs : List α} (h : K.row w g cap xs) (k : Nat) : K.row w g cap (xs.take k) := by
  obtain ⟨cur, hh, hl, hm, hs, ht⟩ := h
  refine ⟨cur, hh, by simp; omega, hm, hs, ?_⟩
  by_cases hk : k ≤ xs.length
  · have e : K.fl xs = K.fl (xs.take k) ++ K.fl (xs.drop k) := by rw [← fl_append, List.take_append_drop]
    have e2 : cur.toList.take (k * K.n) = (K.fl xs).take (k * K.n) := by
      rw [← ht, List.take_take, Nat.min_eq_left (Nat.mul_le_mul_right _ hk)]
    rw [List.length_take, Nat.min_eq_left hk, e2, e, List.take_left' (by rw [fl_length, List.length_take, Nat.min_eq_left hk])]
  · have e : xs.take k = xs := List.take_of_length_le (by omega)
    rw [e]
    exact ht

/-- What lies from k on. -/
theorem row.tail {w : World} {g cap : Nat} {xs : List α} (h : K.row w g cap xs) (k : Nat) (hk : k ≤ xs.length) (ao : Option Addr) (hao : k < cap → ao = some ⟨g, k * K.n, none⟩) : K.sl w ao (xs.length - k) (xs.drop k) := by
  refine ⟨List.length_drop, ?_⟩
  by_cases e : k = xs.length
  · exact .inl (by omega)
  · have hc : xs.length ≤ cap := by obtain ⟨_, _, hl, _⟩ := h; exact hl
    refine .inr ⟨g, k * K.n, hao (by omega), h.lt, fun i j hi hj => ?_⟩
    have h1 := h.cell (i := k + i) (j := j) (by omega) hj
    rw [show k * K.n + (i * K.n + j) = (k + i) * K.n + j by rw [Nat.add_mul]; omega, h1]
    congr 4
    rw [List.getD_eq_getElem?_getD, List.getD_eq_getElem?_getD, List.getElem?_drop]

/-- A field of one of them is written. -/
theorem row.set {w : World} {g cap : Nat} {xs : List α} (h : K.row w g cap xs) (i : Nat) {j : Nat} (hj : j < K.n) (v : Int) : K.row (w.setCell ⟨g, i * K.n + j, none⟩ (.int .i64 v)) g cap (xs.set i (K.put (xs.getD i K.z) j v)) := by
  obtain ⟨cur, hh, hl, hm, hs, ht⟩ := h
  refine ⟨cur.setIfInBounds (i * K.n + j) (.int .i64 v), heap_setCell_same w g (i * K.n + j) cur _ _ hh, by simpa using hl, hm, by simpa using hs, ?_⟩
  rw [Array.toList_setIfInBounds, List.length_set, List.take_set, ht, fl_set K hj]

variable (K) in
theorem row_new (w : World) (xs : List α) (hm : xs.length ≤ maxLen) : K.row (w.alloc (.cells (K.fl xs).toArray K.ty)) w.heap.size xs.length xs :=
  ⟨_, heap_alloc_new w _, Nat.le_refl _, hm, by simp [fl_length], List.take_of_length_le (by simp [fl_length])⟩

variable (K) in
theorem row_nil (w : World) : K.row (w.alloc (.cells #[] K.ty)) w.heap.size 0 [] := by simpa [fl] using row_new K w [] (by simp [maxLen])

variable (K) in
/-- One struct, in a block of its own. -/
theorem row_one (w : World) (x : α) : K.row (w.alloc (.cells (K.one x).toArray K.ty)) w.heap.size 1 [x] := by
  have h := row_new K w [x] (by simp [maxLen])
  rw [fl_cons, fl_nil, List.append_nil] at h
  exact h

/-- A slice that is empty, or lies at the head of a block of the call's own. -/
def fit (K : Rec α) (w : World) (base : Nat) (a : Option Addr) (len cap : Nat) (xs : List α) : Prop :=
  xs.length = len ∧ ((len = 0 ∧ a = none) ∨ ∃ g, a = some ⟨g, 0, none⟩ ∧ base ≤ g ∧ K.row w g cap xs)

theorem fit_nil (w : World) (base : Nat) : K.fit w base none 0 0 [] := ⟨rfl, .inl ⟨rfl, rfl⟩⟩

theorem row.fit {w : World} {g cap : Nat} {xs : List α} (h : K.row w g cap xs) {base : Nat} (hb : base ≤ g) {len : Nat} (hl : xs.length = len) : K.fit w base (some ⟨g, 0, none⟩) len cap xs := ⟨hl, .inr ⟨g, rfl, hb, h⟩⟩

theorem fit.sl {w : World} {base : Nat} {a : Option Addr} {len cap : Nat} {xs : List α} (h : K.fit w base a len cap xs) : K.sl w a len xs := by
  obtain ⟨hl, ⟨h0, _⟩ | ⟨g, rfl, _, R⟩⟩ := h
  · exact ⟨hl, .inl h0⟩
  · rw [← hl]; exact R.sl

theorem fit.still {w w' : World} {base : Nat} {a : Option Addr} {len cap : Nat} {xs : List α} (h : K.fit w base a len cap xs) (hs : ∀ x, a = some x → w'.heap[x.block]? = w.heap[x.block]?) : K.fit w' base a len cap xs := by
  obtain ⟨hl, ⟨h0, h1⟩ | ⟨b, rfl, hb', R⟩⟩ := h
  · exact ⟨hl, .inl ⟨h0, h1⟩⟩
  · exact ⟨hl, .inr ⟨b, rfl, hb', R.still (hs _ rfl)⟩⟩

theorem fit.ge {w : World} {base : Nat} {a : Option Addr} {len cap : Nat} {xs : List α} (h : K.fit w base a len cap xs) {x : Addr} (hx : a = some x) : base ≤ x.block ∧ x.block < w.heap.size := by
  obtain ⟨hl, ⟨_, h1⟩ | ⟨b, h1, hb', R⟩⟩ := h
  · rw [h1] at hx; cases hx
  · rw [h1] at hx; cases hx; exact ⟨hb', R.lt⟩

theorem fit.all {w w' : World} {base : Nat} {a : Option Addr} {len cap : Nat} {xs : List α} (h : K.fit w base a len cap xs) (g : Below w.heap.size w w') : K.fit w' base a len cap xs := h.still (fun _ hx => g.block _ (h.ge hx).2)

theorem fit.other {w w' : World} {base : Nat} {a : Option Addr} {len cap : Nat} {xs : List α} {r : Option Nat} (h : K.fit w base a len cap xs) (g : w.grownBy w' r) (hb : ∀ x, a = some x → some x.block ≠ r) : K.fit w' base a len cap xs := h.still (fun x hx => g.block _ (h.ge hx).2 (hb x hx))

theorem fit.mono {w : World} {base base' : Nat} {a : Option Addr} {len cap : Nat} {xs : List α} (h : K.fit w base a len cap xs) (hb : base' ≤ base) : K.fit w base' a len cap xs := by
  obtain ⟨hl, ⟨h0, h1⟩ | ⟨b, rfl, hb', R⟩⟩ := h
  · exact ⟨hl, .inl ⟨h0, h1⟩⟩
  · exact ⟨hl, .inr ⟨b, rfl, by omega, R⟩⟩

/-- append onto a row of the call's own, from whatever slice. -/
theorem run_append {P : Program} (w : World) (t ty : TypeId) (i : TypeInfo) (zv : Value) (ht : P.underlying t = some (.slice K.ty)) (hi : P.info? K.ty = some i) (hz : i.zero = some zv) (hsize : i.size = K.n) (hby : i.bytes = 8 * K.n) (hzc : zv.cells.size = K.n) (h8 : K.n ≤ 100)
    (g cap : Nat) (xs : List α) (R : K.row w g cap xs) (ao : Option Addr) (m c : Nat) (ys : List α) (I : K.sl w ao m ys) (hlen : xs.length + m ≤ 100000000) :
    ∃ g' cap' w', (Builtin.append_ #[t, t] ty #[.slice (some ⟨g, 0, none⟩) xs.length cap, .slice ao m c]).run P w = .ok (.slice (some ⟨g', 0, none⟩) (xs.length + m) cap') w' ∧ K.row w' g' cap' (xs ++ ys) ∧ w.grownBy w' (some g) ∧ (g' = g ∨ g' = w.heap.size) := by
  cases ao with
  | none =>
    have hm : m = 0 := by
      rcases I.2 with h | ⟨b, off, ha, _⟩
      · exact h
      · cases ha
    subst hm
    have hy : ys = [] := List.eq_nil_of_length_eq_zero I.1
    subst hy
    have hl : xs.length ≤ cap := by obtain ⟨_, _, h, _⟩ := R; exact h
    refine ⟨g, cap, w, ?_, by simpa using R, World.grownBy.refl _ _, .inl rfl⟩
    simp [Builtin.append_, run_underlying ht, sizeOf, typeInfo, hi, Builtin.lenOf, Builtin.firstCells, hl, storeCells]
  | some ad =>
    have hown := R.owns (base := 0) (Nat.zero_le _)
    obtain ⟨v', w', hr, h2, h3, h4, h5⟩ := run_append_own_at (P := P) w 0 t ty K.ty i zv K.n (8 * K.n) ht hi hz hsize hby hzc K.pos _ xs.length _ hown ad m c (K.fl ys) (by rw [fl_length, I.1]) (sl.cellsAt I) (fl_one K _) (by unfold maxLen; omega) (by
      have h1 : (xs.length + m) * (8 * K.n) ≤ 100000000 * (8 * 100) := Nat.mul_le_mul hlen (by omega)
      omega) (Nat.zero_le _)
    rw [← fl_append] at h2
    rcases h2.2 with ⟨hv, _⟩ | ⟨g', cap', cur, hv, _⟩
    · rw [h4] at hv
      simp at hv
    · subst hv
      have hRr := (row_of_owns h2).1
      refine ⟨g', cap', w', hr, hRr, h3, ?_⟩
      rcases h5 with h | h
      · simp [Value.ownBlock] at h; exact .inl h
      · simp [Value.ownBlock] at h; exact .inr h

/-- At the operation, for the walk. -/
theorem wpList_append {P : Program} {w : World} {ops : Array Oper} {rest : List Oper} {o : Oper} {a : Act} {Q : Exit → Act → World → Prop} (hgd : o.guard = none) (s x : Operand) (t : TypeId)
    (ho : o.op = .call { callee := .builtin .append, args := #[s, x], argTypes := #[t, t] })
    (i : TypeInfo) (zv : Value) (ht : P.underlying t = some (.slice K.ty)) (hi : P.info? K.ty = some i) (hz : i.zero = some zv) (hsize : i.size = K.n) (hby : i.bytes = 8 * K.n) (hzc : zv.cells.size = K.n) (h8 : K.n ≤ 100)
    (g n cap : Nat) (xs : List α) (hs : a.eval s = .slice (some ⟨g, 0, none⟩) n cap) (hn : n = xs.length) (R : K.row w g cap xs) (ao : Option Addr) (m c : Nat) (ys : List α) (hx : a.eval x = .slice ao m c) (I : K.sl w ao m ys) (hlen : xs.length + m ≤ 100000000)
    (h : ∀ g' cap' w', K.row w' g' cap' (xs ++ ys) → w.grownBy w' (some g) → (g' = g ∨ g' = w.heap.size) → wpList P ops Q rest (a.put o.dst (.slice (some ⟨g', 0, none⟩) (n + m) cap')) w') :
    wpList P ops Q (o :: rest) a w := by
  refine wpList_plain hgd fun K' hK => ?_
  subst hn
  obtain ⟨g', cap', w', hr, h2, h3, h4⟩ := run_append (P := P) w t o.type i zv ht hi hz hsize hby hzc h8 g cap xs R ao m c ys I hlen
  unfold Oper.wp execOp
  simp only [ho, resolve, invoke, builtin, Sem.run_bind, Sem.run_pure, Result.andThen_ok, List.map_toArray, List.map_cons, List.map_nil, hs, hx, hr]
  exact hK _ _ (h g' cap' w' h2 h3 h4)

end Rec

end Go.Proofs.YtcmeimfjedakeaaGreat.Crew
