/-
  A Smooth that was answered and lies in a variable: its block, its two slices in blocks of the call's own, between two bounds; and what a store between other bounds leaves of it.
-/
import Derived.Test.YtlmlgidfgjejpaaLawSmoothOk
import Derived.Test.YtlmlgidfgjejpaaSmoothCopy
namespace Go.Proofs.Ytlmlgidfgjejpaa.Crew
open Go.ChangeShapes Go.WideShapes Go.ChangeAt Go.RowKit

/-- The slice lies below s. -/
def Under (s : Nat) (a : Option Addr) : Prop := ∀ x, a = some x → x.block < s

theorem Fit.under {w : World} {base : Nat} {a : Option Addr} {len cap : Nat} {xs : List Int} (h : Fit w base a len cap xs) : Under w.heap.size a := fun _ hx => (h.ge hx).2

theorem Fit.still {w w' : World} {base : Nat} {a : Option Addr} {len cap : Nat} {xs : List Int} (h : Fit w base a len cap xs) (hs : ∀ x, a = some x → w'.heap[x.block]? = w.heap[x.block]?) : Fit w' base a len cap xs := by
  obtain ⟨hl, ⟨h0, h1⟩ | ⟨b, rfl, hb', R⟩⟩ := h
  · exact ⟨hl, .inl ⟨h0, h1⟩⟩
  · obtain ⟨cur, hh, r⟩ := R
    exact ⟨hl, .inr ⟨b, rfl, hb', cur, by rw [hs _ rfl]; exact hh, r⟩⟩

/-- From w to w' nothing was written but between lo and hi, and new blocks. -/
structure Wr (lo hi : Nat) (w w' : World) : Prop where
  size : w.heap.size ≤ w'.heap.size
  block : ∀ i, i < w.heap.size → i < lo ∨ hi ≤ i → w'.heap[i]? = w.heap[i]?
  below : ∀ B v, Below B v w → B ≤ lo → B ≤ w.heap.size → Below B v w'

theorem wr_row {w w' : World} {g : Nat} (h : w.grownBy w' (some g)) : Wr g (g + 1) w w' :=
  ⟨h.size, fun i hi hd => h.block i hi (by simp; omega), fun B v hb hl hs => hb.grown h hs (fun k hk => by cases hk; exact hl)⟩

theorem wr_blk {w w' : World} {lo hi : Nat} {a : Option Addr} (h : w.grownBy w' (blk a)) (ha : ∀ x, a = some x → lo ≤ x.block ∧ x.block < hi) : Wr lo hi w w' :=
  ⟨h.size, fun i hi' hd => h.block i hi' (by
    cases a with
    | none => simp [blk]
    | some x => have := ha x rfl; simp [blk]; omega), fun B v hb hl hs => hb.grown h hs (fun k hk => by
    cases a with
    | none => cases hk
    | some x => have h1 := ha x rfl; have h2 : x.block = k := Option.some.inj hk; omega)⟩

theorem Wr.trans {w w1 w2 : World} {lo hi : Nat} (h : Wr lo hi w w1) (k : Wr lo hi w1 w2) : Wr lo hi w w2 :=
  ⟨Nat.le_trans h.size k.size, fun i hi' hd => (k.block i (Nat.lt_of_lt_of_le hi' h.size) hd).trans (h.block i hi' hd), fun B v hb hl hs => k.below B v (h.below B v hb hl hs) hl (Nat.le_trans hs h.size)⟩

theorem Row.wr {w w' : World} {g cap lo hi : Nat} {xs : List Int} (h : Row w g cap xs) (k : Wr lo hi w w') (hd : g < lo ∨ hi ≤ g) : Row w' g cap xs := by
  have hl := h.lt
  obtain ⟨cur, hh, r⟩ := h
  exact ⟨cur, by rw [k.block g hl hd]; exact hh, r⟩

theorem Two.wr {w w' : World} {b lo hi : Nat} {x y : Value} (h : Two w b x y) (k : Wr lo hi w w') (hd : b < lo ∨ hi ≤ b) : Two w' b x y :=
  ⟨Nat.lt_of_lt_of_le h.1 k.size, (World.cell?_of_block (k.block b h.1 hd)).trans h.2.1, (World.cell?_of_block (k.block b h.1 hd)).trans h.2.2⟩

/-- A slice that was answered, between two bounds. -/
structure Sl (w : World) (lo hi : Nat) (a : Option Addr) (len cap : Nat) (xs : List Int) : Prop where
  fit : Fit w lo a len cap xs
  under : Under hi a
  top : hi ≤ w.heap.size

theorem Sl.all {w w' : World} {lo hi : Nat} {a : Option Addr} {len cap : Nat} {xs : List Int} (h : Sl w lo hi a len cap xs) (k : Below w.heap.size w w') : Sl w' lo hi a len cap xs :=
  ⟨h.fit.all k, h.under, Nat.le_trans h.top k.size⟩

theorem Sl.wr {w w' : World} {lo hi l2 h2 : Nat} {a : Option Addr} {len cap : Nat} {xs : List Int} (h : Sl w lo hi a len cap xs) (k : Wr l2 h2 w w') (hd : hi ≤ l2 ∨ h2 ≤ lo) : Sl w' lo hi a len cap xs :=
  ⟨h.fit.still (fun x hx => k.block _ (h.fit.ge hx).2 (by have := (h.fit.ge hx).1; have := h.under x hx; omega)), h.under, Nat.le_trans h.top k.size⟩

theorem Sl.range {w : World} {lo hi : Nat} {a : Option Addr} {len cap : Nat} {xs : List Int} (h : Sl w lo hi a len cap xs) : ∀ x, a = some x → lo ≤ x.block ∧ x.block < hi := fun x hx => ⟨(h.fit.ge hx).1, h.under x hx⟩

theorem Fit.sl {w : World} {lo : Nat} {a : Option Addr} {len cap : Nat} {xs : List Int} (h : Fit w lo a len cap xs) : Sl w lo w.heap.size a len cap xs := ⟨h, h.under, Nat.le_refl _⟩

theorem newC_len (cs : List Int) : (newC cs).length ≤ 24 := by
  cases h : crewOk cs
  · rw [newC_no h]; simp
  · rw [newC_yes h]; exact (crew_len h).2

theorem newR_len (cs : List Int) : (newR cs).length ≤ 24 := by
  cases h : crewOk cs
  · rw [newR_no h]; simp
  · rw [newR_yes h]; simp; exact (crew_len h).2

end Go.Proofs.Ytlmlgidfgjejpaa.Crew
