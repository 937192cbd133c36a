/-
  A Smooth in a block: two slices side by side.
  What the exact laws do with a Smooth: its size, a copy, held against another one, marked, the marks held.
-/
import Derived.Test.YtfmcnamjhnnimaaSmoothBase
import Derived.Test.YtfmcnamjhnnimaaIntsBase
namespace Go.Proofs.Ytfmcnamjhnnimaa.Crew
open Go.ChangeShapes Go.WideShapes Go.ChangeAt Go.RowKit

theorem cell_pair {w : World} {b : Nat} {vs : Array Value} {t : TypeId} (h : w.heap[b]? = some (.cells vs t (0, 0))) (j : Nat) : w.cell? ⟨b, j, none⟩ = vs[j]? := by
  rw [cell_of_row w b j vs t (0, 0) h]

theorem Row.past {w : World} {g cap b j : Nat} {xs : List Int} (h : Row w g cap xs) (hb : g ≠ b) (v : Value) : Row (w.setCell ⟨b, j, none⟩ v) g cap xs := h.other (grown_at w b j v) (by simpa using hb)

/-- What a call leaves below: a store into a block of its own. -/
theorem below_set {B b j : Nat} {w w1 : World} (h : Below B w w1) (hb : B ≤ b) (v : Value) : Below B w (w1.setCell ⟨b, j, none⟩ v) := h.setCell (p := ⟨b, j, none⟩) hb v

/-- Behind a callee that leaves all as it was. -/
theorem below_call {B : Nat} {w w1 w2 : World} (h : Below B w w1) (hB : B ≤ w1.heap.size) (h2 : Below w1.heap.size w1 w2) : Below B w w2 := h.trans (h2.mono hB)

theorem below_new (w : World) (o : Obj) : Below w.heap.size w (w.alloc o) := (Below.refl _ w).alloc (Nat.le_refl _) _

end Go.Proofs.Ytfmcnamjhnnimaa.Crew

namespace Go.Proofs.Ytfmcnamjhnnimaa.Crew
open Go.ChangeShapes Go.WideShapes Go.ChangeAt Go.RowKit

/-- What came in stays where a block of the call's own is written. -/
theorem ints_set {B b j : Nat} {w w1 : World} {a : Option Addr} {len : Nat} {xs : List Int} (_ : Ints w1 a len xs) (I : Ints w a len xs) (h : Below B w w1) (hb : B ≤ b) (hB : w.heap.size ≤ B) (v : Value) : Ints (w1.setCell ⟨b, j, none⟩ v) a len xs :=
  I.kept ((below_set h hb v).mono hB)

/-- A slice that is empty, or lies at the head of a block of the call's own. -/
def Fit (w : World) (base : Nat) (a : Option Addr) (len cap : Nat) (xs : List Int) : Prop :=
  xs.length = len ∧ ((len = 0 ∧ a = none) ∨ ∃ g, a = some ⟨g, 0, none⟩ ∧ base ≤ g ∧ Row w g cap xs)

theorem fit_nil (w : World) (base : Nat) : Fit w base none 0 0 [] := ⟨rfl, .inl ⟨rfl, rfl⟩⟩

theorem Row.fit {w : World} {g cap : Nat} {xs : List Int} (h : Row w g cap xs) {base : Nat} (hb : base ≤ g) {len : Nat} (hl : xs.length = len) : Fit w base (some ⟨g, 0, none⟩) len cap xs := ⟨hl, .inr ⟨g, rfl, hb, h⟩⟩

theorem Fit.ints {w : World} {base : Nat} {a : Option Addr} {len cap : Nat} {xs : List Int} (h : Fit w base a len cap xs) : Ints w a len xs := by
  obtain ⟨hl, ⟨h0, _⟩ | ⟨g, rfl, _, R⟩⟩ := h
  · exact ⟨hl, .inl h0⟩
  · rw [← hl]; exact R.ints

theorem Fit.other {w w' : World} {base : Nat} {a : Option Addr} {len cap : Nat} {xs : List Int} {row : Option Nat} (h : Fit w base a len cap xs) (g : w.grownBy w' row) (hb : ∀ x, a = some x → some x.block ≠ row) : Fit w' base a len cap xs := by
  obtain ⟨hl, ⟨h0, h1⟩ | ⟨b, rfl, hb', R⟩⟩ := h
  · exact ⟨hl, .inl ⟨h0, h1⟩⟩
  · exact ⟨hl, .inr ⟨b, rfl, hb', R.other g (hb _ rfl)⟩⟩

theorem Fit.all {w w' : World} {base : Nat} {a : Option Addr} {len cap : Nat} {xs : List Int} (h : Fit w base a len cap xs) (g : Below w.heap.size w w') : Fit w' base a len cap xs := by
  obtain ⟨hl, ⟨h0, h1⟩ | ⟨b, rfl, hb', R⟩⟩ := h
  · exact ⟨hl, .inl ⟨h0, h1⟩⟩
  · exact ⟨hl, .inr ⟨b, rfl, hb', R.all g⟩⟩

theorem Fit.mono {w : World} {base base' : Nat} {a : Option Addr} {len cap : Nat} {xs : List Int} (h : Fit w base a len cap xs) (hb : base' ≤ base) : Fit w base' a len cap xs := by
  obtain ⟨hl, ⟨h0, h1⟩ | ⟨b, rfl, hb', R⟩⟩ := h
  · exact ⟨hl, .inl ⟨h0, h1⟩⟩
  · exact ⟨hl, .inr ⟨b, rfl, by omega, R⟩⟩

theorem Fit.ge {w : World} {base : Nat} {a : Option Addr} {len cap : Nat} {xs : List Int} (h : Fit w base a len cap xs) {x : Addr} (hx : a = some x) : base ≤ x.block ∧ x.block < w.heap.size := by
  obtain ⟨hl, ⟨_, h1⟩ | ⟨b, h1, hb', R⟩⟩ := h
  · rw [h1] at hx; cases hx
  · rw [h1] at hx; cases hx; exact ⟨hb', R.lt⟩

/-- The block of a slice. -/
def blk (a : Option Addr) : Option Nat := a.map (·.block)

theorem blk_some (x : Addr) : blk (some x) = some x.block := rfl

/-- Two slices lie in two blocks. -/
def Apart (a b : Option Addr) : Prop := ∀ x y, a = some x → b = some y → x.block ≠ y.block

theorem Apart.symm {a b : Option Addr} (h : Apart a b) : Apart b a := fun x y hx hy e => h y x hy hx e.symm

theorem apart_none (b : Option Addr) : Apart none b := fun x y hx => by cases hx

theorem Apart.ne {a b : Option Addr} (h : Apart a b) {x : Addr} (hx : a = some x) : some x.block ≠ blk b := by
  intro e
  cases b with
  | none => cases e
  | some y => rw [blk_some] at e; exact h x y hx rfl (Option.some.inj e)

theorem apart_below {w : World} {base : Nat} {a b : Option Addr} {la ca : Nat} {xs : List Int} (h : Fit w base a la ca xs) (hb : ∀ y, b = some y → y.block < base) : Apart a b := by
  intro x y hx hy e
  have h1 := (h.ge hx).1
  have h2 := hb y hy
  omega

theorem marks_nil (k : Int) : marks k 0 = [] := rfl

/-- laws.markInt64S at a slice of the call's own. -/
theorem markFit (base : Nat) (a : Option Addr) (len cap : Nat) (xs : List Int) (k : Int) (w : World) (F : Fit w base a len cap xs) (hs : (len : Int) ≤ 1048576) (hk0 : 0 ≤ k) (hk1 : k ≤ 1000000000000) :
    Calls Try.prog 21 #[.slice a len cap, .int .i64 k] w fun e w' => e = .returned (.int .i64 (k + len)) ∧ Fit w' base a len cap (marks k len) ∧ w.grownBy w' (blk a) := by
  obtain ⟨hl, ⟨h0, h1⟩ | ⟨g, rfl, hb, R⟩⟩ := F
  · subst h0 h1
    go_enter Try.func21, Try.ntmps21
    go_wp2_with fail
    go_loop [1, 5] (fun q i => q = .int .i64 k ∧ i = .int .i64 0) (fun _ _ => 0)
    case atStart => exact ⟨rfl, rfl⟩
    case round =>
      obtain ⟨rfl, rfl⟩ := hrel
      go_wp2_with fail
      go_ret
      exact ⟨by simp, ⟨rfl, .inl ⟨rfl, rfl⟩⟩, World.grownBy.refl _ _⟩
  · subst hl
    refine (markInts_any g cap xs k w R hs hk0 hk1).mono ?_
    rintro e w' ⟨rfl, R', G⟩
    exact ⟨rfl, R'.fit hb (marks_length _ _), G⟩

end Go.Proofs.Ytfmcnamjhnnimaa.Crew
