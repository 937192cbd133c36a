/-
  A Smooth that was answered and lies in a variable: its block, its two slices in blocks of the call's own, between two bounds; and what a store between other bounds leaves of it.
-/
import Derived.Test.YtjhenfdmbagaiaaGreatLawSmoothOk
import Derived.Test.YtjhenfdmbagaiaaGreatSmoothCopy
namespace Go.Proofs.YtjhenfdmbagaiaaGreat.Crew
open Go.ChangeShapes Go.WideShapes Go.ChangeAt Go.RowKit

/-- The slice lies below s. -/
def Under (s : Nat) (a : Option Addr) : Prop := ∀ x, a = some x → x.block < s

theorem Fit.under {w : World} {base : Nat} {a : Option Addr} {len cap : Nat} {xs : List Int} (h : Fit w base a len cap xs) : Under w.heap.size a := fun _ hx => (h.ge hx).2

theorem Fit.still {w w' : World} {base : Nat} {a : Option Addr} {len cap : Nat} {xs : List Int} (h : Fit w base a len cap xs) (hs : ∀ x, a = some x → w'.heap[x.block]? = w.heap[x.block]?) : Fit w' base a len cap xs := by
  obtain ⟨hl, ⟨h0, h1⟩ | ⟨b, rfl, hb', R⟩⟩ := h
  · exact ⟨hl, .inl ⟨h0, h1⟩⟩
  · obtain ⟨cur, hh, r⟩ := R
    exact ⟨hl, .inr ⟨b, rfl, hb', cur, by rw [hs _ rfl]; exact hh, r⟩⟩

/-- From w to w' nothing was written but between lo and hi, and new blocks. -/
structure Wr (lo hi : Nat) (w w' : World) : Prop where
  size : w.heap.size ≤ w'.heap.size
  block : ∀ i, i < w.heap.size → i < lo ∨ hi ≤ i → w'.heap[i]? = w.heap[i]?
  below : ∀ B v, Below B v w → B ≤ lo → B ≤ w.heap.size → Below B v w'

theorem wr_row {w w' : World} {g : Nat} (h : w.grownBy w' (some g)) : Wr g (g + 1) w w' :=
  ⟨h.size, fun i hi hd => h.block i hi (by simp; omega), fun B v hb hl hs => hb.grown h hs (fun k hk => by cases hk; exact hl)⟩

theorem wr_blk {w w' : World} {lo hi : Nat} {a : Option Addr} (h : w.grownBy w' (blk a)) (ha : ∀ x, a = some x → lo ≤ x.block ∧ x.block < hi) : Wr lo hi w w' :=
  ⟨h.size, fun i hi' hd => h.block i hi' (by
    cases a with
    | none => simp [blk]
    | some x => have := ha x rfl; simp [blk]; omega), fun B v hb hl hs => hb.grown h hs (fun k hk => by
    cases a with
    | none => cases hk
    | some x => have h1 := ha x rfl; have h2 : x.block = k := Option.some.inj hk; omega)⟩

theorem Wr.trans {w w1 w2 : World} {lo hi : Nat} (h : Wr lo hi w w1) (k : Wr lo hi w1 w2) : Wr lo hi w w2 :=
  ⟨Nat.le_trans h.size k.size, fun i hi' hd => (k.block i (Nat.lt_of_lt_of_le hi' h.size) hd).trans (h.block i hi' hd), fun B v hb hl hs => k.below B v (h.below B v hb hl hs) hl (Nat.le_trans hs h.size)⟩

theorem Row.wr {w w' : World} {g cap lo hi : Nat} {xs : List Int} (h : Row w g cap xs) (k : Wr lo hi w w') (hd : g < lo ∨ hi ≤ g) : Row w' g cap xs := by
  have hl := h.lt
  obtain ⟨cur, hh, r⟩ := h
  exact ⟨cur, by rw [k.block g hl hd]; exact hh, r⟩

theorem Two.wr {w w' : World} {b lo hi : Nat} {x y : Value} (h : Two w b x y) (k : Wr lo hi w w') (hd : b < lo ∨ hi ≤ b) : Two w' b x y :=
  ⟨Nat.lt_of_lt_of_le h.1 k.size, (World.cell?_of_block (k.block b h.1 hd)).trans h.2.1, (World.cell?_of_block (k.block b h.1 hd)).trans h.2.2⟩

/-- A slice that was answered, between two bounds. -/
structure Sl (w : World) (lo hi : Nat) (a : Option Addr) (len cap : Nat) (xs : List Int) : Prop where
  fit : Fit w lo a len cap xs
  under : Under hi a
  top : hi ≤ w.heap.size

theorem Sl.all {w w' : World} {lo hi : Nat} {a : Option Addr} {len cap : Nat} {xs : List Int} (h : Sl w lo hi a len cap xs) (k : Below w.heap.size w w') : Sl w' lo hi a len cap xs :=
  ⟨h.fit.all k, h.under, Nat.le_trans h.top k.size⟩

theorem Sl.wr {w w' : World} {lo hi l2 h2 : Nat} {a : Option Addr} {len cap : Nat} {xs : List Int} (h : Sl w lo hi a len cap xs) (k : Wr l2 h2 w w') (hd : hi ≤ l2 ∨ h2 ≤ lo) : Sl w' lo hi a len cap xs :=
  ⟨h.fit.still (fun x hx => k.block _ (h.fit.ge hx).2 (by have := (h.fit.ge hx).1; have := h.under x hx; omega)), h.under, Nat.le_trans h.top k.size⟩

theorem Sl.range {w : World} {lo hi : Nat} {a : Option Addr} {len cap : Nat} {xs : List Int} (h : Sl w lo hi a len cap xs) : ∀ x, a = some x → lo ≤ x.block ∧ x.block < hi := fun x hx => ⟨(h.fit.ge hx).1, h.under x hx⟩

theorem Fit.sl {w : World} {lo : Nat} {a : Option Addr} {len cap : Nat} {xs : List Int} (h : Fit w lo a len cap xs) : Sl w lo w.heap.size a len cap xs := ⟨h, h.under, Nat.le_refl _⟩

theorem newC_len (cs : List Int) : (newC cs).length ≤ 24 := by
  cases h : crewOk cs
  · rw [newC_no h]; simp
  · rw [newC_yes h]; exact (crew_len h).2

theorem newR_len (cs : List Int) : (newR cs).length ≤ 24 := by
  cases h : crewOk cs
  · rw [newR_no h]; simp
  · rw [newR_yes h]; simp; exact (crew_len h).2

/-- The four cells of a List, whatever its type. -/
structure Four (w : World) (b : Nat) (x y : Value) (t p : Int) : Prop where
  lt : b < w.heap.size
  c0 : w.cell? ⟨b, 0, none⟩ = some x
  c1 : w.cell? ⟨b, 1, none⟩ = some y
  c2 : w.cell? ⟨b, 2, none⟩ = some (.int .i64 t)
  c3 : w.cell? ⟨b, 3, none⟩ = some (.int .i64 p)

theorem Four.all {w w' : World} {b : Nat} {x y : Value} {t p : Int} (h : Four w b x y t p) (g : Below w.heap.size w w') : Four w' b x y t p :=
  ⟨Nat.lt_of_lt_of_le h.1 g.size, (g.cell (p := ⟨b, 0, none⟩) h.1).trans h.2, (g.cell (p := ⟨b, 1, none⟩) h.1).trans h.3, (g.cell (p := ⟨b, 2, none⟩) h.1).trans h.4, (g.cell (p := ⟨b, 3, none⟩) h.1).trans h.5⟩

theorem Four.same {w w' : World} {b : Nat} {x y : Value} {t p : Int} (h : Four w b x y t p) (hs : w.heap.size ≤ w'.heap.size) (e : w'.heap[b]? = w.heap[b]?) : Four w' b x y t p :=
  ⟨Nat.lt_of_lt_of_le h.1 hs, (World.cell?_of_block e).trans h.2, (World.cell?_of_block e).trans h.3, (World.cell?_of_block e).trans h.4, (World.cell?_of_block e).trans h.5⟩

theorem Four.other {w w' : World} {b : Nat} {x y : Value} {t p : Int} {row : Option Nat} (h : Four w b x y t p) (g : w.grownBy w' row) (hb : some b ≠ row) : Four w' b x y t p := h.same g.size (g.block b h.1 hb)

theorem Four.alloc {w : World} {b : Nat} {x y : Value} {t p : Int} (h : Four w b x y t p) (o : Obj) : Four (w.alloc o) b x y t p := h.other (World.grownBy_alloc w o none) (by simp)

theorem Four.wr {w w' : World} {b lo hi : Nat} {x y : Value} {t p : Int} (h : Four w b x y t p) (k : Wr lo hi w w') (hd : b < lo ∨ hi ≤ b) : Four w' b x y t p := h.same k.size (k.block b h.1 hd)

theorem Four.drew {w : World} {b : Nat} {x y : Value} {t p : Int} (h : Four w b x y t p) : Four w.drew b x y t p := ⟨h.1, h.2, h.3, h.4, h.5⟩

theorem four_new (w : World) (x y : Value) (t p : Int) (ty : TypeId) : Four (w.alloc (.cells #[x, y, .int .i64 t, .int .i64 p] ty)) w.heap.size x y t p :=
  ⟨by simp, cell_pair (heap_alloc_new w (.cells #[x, y, .int .i64 t, .int .i64 p] ty)) 0, cell_pair (heap_alloc_new w (.cells #[x, y, .int .i64 t, .int .i64 p] ty)) 1, cell_pair (heap_alloc_new w (.cells #[x, y, .int .i64 t, .int .i64 p] ty)) 2, cell_pair (heap_alloc_new w (.cells #[x, y, .int .i64 t, .int .i64 p] ty)) 3⟩

theorem Four.past {w : World} {b b' j : Nat} {x y : Value} {t p : Int} (h : Four w b x y t p) (hb : b ≠ b') (v : Value) : Four (w.setCell ⟨b', j, none⟩ v) b x y t p := h.other (grown_at w b' j v) (by simpa using hb)

end Go.Proofs.YtjhenfdmbagaiaaGreat.Crew
