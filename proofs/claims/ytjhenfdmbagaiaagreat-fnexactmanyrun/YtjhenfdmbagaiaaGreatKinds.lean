/-
  What an answer reads as, in which blocks it lies, what it holds once it is marked: one shape for all types, so that an exact law's text can be written by a program (wip/tools/genlaw7.py).
-/
import Derived.Test.YtjhenfdmbagaiaaGreatSmoothAns
namespace Go.Proofs.YtjhenfdmbagaiaaGreat.Crew
open Go.ChangeShapes Go.WideShapes Go.ChangeAt Go.RowKit

/-- Some blocks. -/
abbrev Bs := Nat → Prop

/-- No block of both. -/
def Dj (S T : Bs) : Prop := ∀ j, S j → ¬ T j

theorem Dj.symm {S T : Bs} (h : Dj S T) : Dj T S := fun j ht hs => h j hs ht

/-- Nothing that was there is written but in some blocks. -/
structure Chg (X : Bs) (w w' : World) : Prop where
  os : w'.os = w.os
  tape : w'.tape = w.tape
  output : w'.output = w.output
  size : w.heap.size ≤ w'.heap.size
  block : ∀ j, j < w.heap.size → ¬ X j → w'.heap[j]? = w.heap[j]?

theorem Chg.refl (X : Bs) (w : World) : Chg X w w := ⟨rfl, rfl, rfl, Nat.le_refl _, fun _ _ _ => rfl⟩

theorem Chg.trans {X : Bs} {a b c : World} (h : Chg X a b) (k : Chg X b c) : Chg X a c :=
  ⟨k.os.trans h.os, k.tape.trans h.tape, k.output.trans h.output, Nat.le_trans h.size k.size, fun j hj hx => (k.block j (Nat.lt_of_lt_of_le hj h.size) hx).trans (h.block j hj hx)⟩

theorem Chg.mono {X Y : Bs} {a b : World} (h : Chg X a b) (k : ∀ j, X j → Y j) : Chg Y a b :=
  ⟨h.os, h.tape, h.output, h.size, fun j hj hy => h.block j hj (fun hx => hy (k j hx))⟩

theorem chg_of_below {w w' : World} (h : Below w.heap.size w w') (X : Bs) : Chg X w w' := ⟨h.os, h.tape, h.output, h.size, fun j hj _ => h.block j hj⟩

theorem chg_of_blk {w w' : World} {a : Option Addr} {X : Bs} (h : w.grownBy w' (blk a)) (hx : ∀ x, a = some x → X x.block) : Chg X w w' :=
  ⟨h.os, h.tape, h.output, h.size, fun j hj hn => h.block j hj (fun e => by
    cases a with
    | none => cases e
    | some x => rw [blk_some] at e; exact hn (by rw [Option.some.inj e]; exact hx x rfl))⟩

theorem Chg.under {X : Bs} {B : Nat} {v w w' : World} (k : Chg X w w') (h : Below B v w) (hx : ∀ j, X j → B ≤ j) (hB : B ≤ w.heap.size) : Below B v w' :=
  h.trans ⟨k.os, k.tape, k.output, k.size, fun j hj => k.block j (by omega) (fun e => by have := hx j e; omega)⟩

/-- A variable's cells. -/
def Bx (w : World) (b : Nat) (vs : List Value) : Prop := b < w.heap.size ∧ ∀ i v, vs[i]? = some v → w.cell? ⟨b, i, none⟩ = some v

theorem bx_new (w : World) (vs : Array Value) (ty : TypeId) : Bx (w.alloc (.cells vs ty)) w.heap.size vs.toList :=
  ⟨by simp, fun i v h => by rw [cell_of_row _ w.heap.size _ _ _ _ (heap_alloc_new w _)]; simpa using h⟩

theorem Bx.still {w w' : World} {b : Nat} {vs : List Value} (h : Bx w b vs) (hs : w.heap.size ≤ w'.heap.size) (e : w'.heap[b]? = w.heap[b]?) : Bx w' b vs :=
  ⟨Nat.lt_of_lt_of_le h.1 hs, fun i v hv => by rw [World.cell?_of_block (a := ⟨b, i, none⟩) e]; exact h.2 i v hv⟩

theorem Bx.all {w w' : World} {b : Nat} {vs : List Value} (h : Bx w b vs) (k : Below w.heap.size w w') : Bx w' b vs := h.still k.size (k.block b h.1)

theorem Bx.past {w w' : World} {b : Nat} {vs : List Value} {X : Bs} (h : Bx w b vs) (k : Chg X w w') (hx : ¬ X b) : Bx w' b vs := h.still k.size (k.block b h.1 hx)

theorem Bx.drew {w : World} {b : Nat} {vs : List Value} (h : Bx w b vs) : Bx w.drew b vs := h.all (Below.refl _ _).drew

/-- A kind of value. -/
structure Knd (δ : Type) where
  rep : World → Bs → Value → δ → Prop
  hld : World → Bs → Value → δ → Int → Prop
  slots : δ → Nat
  lt : ∀ {w : World} {S : Bs} {v : Value} {d : δ}, rep w S v d → ∀ j, S j → j < w.heap.size
  still : ∀ {w w' : World} {S : Bs} {v : Value} {d : δ}, rep w S v d → w.heap.size ≤ w'.heap.size → (∀ j, S j → w'.heap[j]? = w.heap[j]?) → rep w' S v d
  hlt : ∀ {w : World} {S : Bs} {v : Value} {d : δ} {k : Int}, hld w S v d k → ∀ j, S j → j < w.heap.size
  hstill : ∀ {w w' : World} {S : Bs} {v : Value} {d : δ} {k : Int}, hld w S v d k → w.heap.size ≤ w'.heap.size → (∀ j, S j → w'.heap[j]? = w.heap[j]?) → hld w' S v d k

section
variable {δ : Type} {K : Knd δ} {w w' : World} {S X : Bs} {v : Value} {d : δ} {k : Int}

theorem Knd.all (h : K.rep w S v d) (b : Below w.heap.size w w') : K.rep w' S v d := K.still h b.size (fun j hj => b.block j (K.lt h j hj))

theorem Knd.past (h : K.rep w S v d) (c : Chg X w w') (n : Dj S X) : K.rep w' S v d := K.still h c.size (fun j hj => c.block j (K.lt h j hj) (n j hj))

theorem Knd.drew (h : K.rep w S v d) : K.rep w.drew S v d := Knd.all h (Below.refl _ _).drew

theorem Knd.hall (h : K.hld w S v d k) (b : Below w.heap.size w w') : K.hld w' S v d k := K.hstill h b.size (fun j hj => b.block j (K.hlt h j hj))

theorem Knd.hpast (h : K.hld w S v d k) (c : Chg X w w') (n : Dj S X) : K.hld w' S v d k := K.hstill h c.size (fun j hj => c.block j (K.hlt h j hj) (n j hj))

theorem Knd.hdrew (h : K.hld w S v d k) : K.hld w.drew S v d k := Knd.hall h (Below.refl _ _).drew

/-- What was there lies apart from what is made new. -/
theorem dj_new (h : K.rep w S v d) {T : Bs} (f : ∀ j, T j → w.heap.size ≤ j) : Dj S T := fun j hs ht => by have := K.lt h j hs; have := f j ht; omega

theorem dj_held (h : K.hld w S v d k) {T : Bs} (f : ∀ j, T j → w.heap.size ≤ j) : Dj S T := fun j hs ht => by have := K.hlt h j hs; have := f j ht; omega

/-- A variable made behind it is none of its blocks. -/
theorem not_new (h : K.rep w S v d) : ¬ S w.heap.size := fun e => Nat.lt_irrefl _ (K.lt h _ e)

end

theorem bx_free {w : World} {b : Nat} {vs : List Value} (h : Bx w b vs) {T : Bs} (f : ∀ j, T j → w.heap.size ≤ j) : ¬ T b := fun e => by have := h.1; have := f b e; omega

/-- Slices of int64. -/
def intsK : Knd (List Int) where
  rep w S v xs := ∃ a len cap, v = .slice a len cap ∧ Fit w 0 a len cap xs ∧ ∀ j, S j ↔ blk a = some j
  hld w S v xs k := ∃ a len cap, v = .slice a len cap ∧ Fit w 0 a len cap (marks k len) ∧ xs.length = len ∧ ∀ j, S j ↔ blk a = some j
  slots xs := xs.length
  lt := by
    rintro w S v d ⟨a, len, cap, rfl, F, hS⟩ j hj
    have := (hS j).1 hj
    cases a with
    | none => cases this
    | some x => rw [blk_some] at this; rw [← Option.some.inj this]; exact (F.ge rfl).2
  still := by
    rintro w w' S v d ⟨a, len, cap, rfl, F, hS⟩ hs he
    exact ⟨a, len, cap, rfl, F.still (fun x hx => he _ ((hS _).2 (by rw [hx]; rfl))), hS⟩
  hlt := by
    rintro w S v d k ⟨a, len, cap, rfl, F, _, hS⟩ j hj
    have := (hS j).1 hj
    cases a with
    | none => cases this
    | some x => rw [blk_some] at this; rw [← Option.some.inj this]; exact (F.ge rfl).2
  hstill := by
    rintro w w' S v d k ⟨a, len, cap, rfl, F, hl, hS⟩ hs he
    exact ⟨a, len, cap, rfl, F.still (fun x hx => he _ ((hS _).2 (by rw [hx]; rfl))), hl, hS⟩

theorem fit_ints {w : World} {base : Nat} {a : Option Addr} {len cap : Nat} {xs : List Int} (F : Fit w base a len cap xs) : intsK.rep w (fun j => blk a = some j) (.slice a len cap) xs := ⟨a, len, cap, rfl, F.mono (Nat.zero_le _), fun _ => Iff.rfl⟩

theorem fit_fresh {w : World} {base : Nat} {a : Option Addr} {len cap : Nat} {xs : List Int} (F : Fit w base a len cap xs) : ∀ j, blk a = some j → base ≤ j := by
  intro j hj
  cases a with
  | none => cases hj
  | some x => rw [blk_some] at hj; rw [← Option.some.inj hj]; exact (F.ge rfl).1

theorem apart_dj {a b : Option Addr} (h : Apart a b) : Dj (fun j => blk a = some j) (fun j => blk b = some j) := by
  intro j h1 h2
  cases a with
  | none => cases h1
  | some x => cases b with
    | none => cases h2
    | some y =>
      rw [blk_some] at h1 h2
      exact h x y rfl rfl ((Option.some.inj h1).trans (Option.some.inj h2).symm)

theorem ints_rd {w : World} {S : Bs} {v : Value} {xs : List Int} (h : intsK.rep w S v xs) : ∃ a len cap, v = .slice a len cap ∧ Ints w a len xs := by
  obtain ⟨a, len, cap, rfl, F, _⟩ := h
  exact ⟨a, len, cap, rfl, F.ints⟩

theorem ints_eq {w : World} {S T : Bs} {u v : Value} {xs : List Int} (h : intsK.rep w S u xs) (k : intsK.rep w T v xs) (hs : (xs.length : Int) ≤ 1048576) :
    Calls Tryz.prog 26 #[u, v] w fun e w' => e = .returned (.bool true) ∧ Below w.heap.size w w' := by
  obtain ⟨a, len, cap, rfl, I⟩ := ints_rd h
  obtain ⟨b, lb, cb, rfl, J⟩ := ints_rd k
  exact eqInts_same a len cap xs b lb cb w I J (by have := I.1; omega)

theorem ints_mark {w : World} {S : Bs} {v : Value} {xs : List Int} (h : intsK.rep w S v xs) (k : Int) (hs : (xs.length : Int) ≤ 1048576) (hk0 : 0 ≤ k) (hk1 : k ≤ 1000000000) :
    Calls Tryz.prog 28 #[v, .int .i64 k] w fun e w' => e = .returned (.int .i64 (k + (intsK.slots xs : Nat))) ∧ intsK.hld w' S v xs k ∧ Chg S w w' := by
  obtain ⟨a, len, cap, rfl, F, hS⟩ := h
  have hl := F.1
  refine (markFit 0 a len cap xs k w F (by omega) hk0 (by omega)).mono ?_
  rintro e w' ⟨rfl, F', G⟩
  refine ⟨by show _ = Ending.returned (.int .i64 (k + (xs.length : Int))); rw [hl], ⟨a, len, cap, rfl, F', hl, hS⟩, chg_of_blk G (fun x hx => (hS _).2 (by rw [hx]; rfl))⟩

theorem ints_held {w : World} {S : Bs} {v : Value} {xs : List Int} {k : Int} (h : intsK.hld w S v xs k) (hs : (xs.length : Int) ≤ 1048576) (hk0 : 0 ≤ k) (hk1 : k ≤ 1000000000) :
    Calls Tryz.prog 30 #[v, .int .i64 k] w fun e w' => e = .returned (.int .i64 (k + (intsK.slots xs : Nat))) ∧ Below w.heap.size w w' := by
  obtain ⟨a, len, cap, rfl, F, hl, hS⟩ := h
  refine (heldInts_any a len cap k w F.ints (by omega) hk0 (by omega)).mono ?_
  rintro e w' ⟨rfl, B⟩
  exact ⟨by show _ = Ending.returned (.int .i64 (k + (xs.length : Int))); rw [hl], B⟩

end Go.Proofs.YtjhenfdmbagaiaaGreat.Crew
