/-
  Several processors: a Many in a block, a slice of Shares of the call's own, and whether a Many is right. spec's and impl's answer alike at every slice of Shares, every slice and two numbers.
-/
import Derived.Test.YtjhenfdmbagaiaaGreatFitsOn
import Derived.Test.YtjhenfdmbagaiaaGreatSmoothAns
import Derived.Test.YtjhenfdmbagaiaaGreatLagLags
import Derived.Deep.RegionWith
import Derived.Deep.QuietTactic
import Derived.BigQuiet
namespace Go.Proofs.YtjhenfdmbagaiaaGreat.Crew
open Go.ChangeShapes Go.WideShapes Go.ChangeAt Go.RowKit

abbrev mv (x y : Value) (t p : Int) : Value := .agg #[x, y, .int .i64 t, .int .i64 p]

/-- The cells of a Many. -/
abbrev mc (x y : Value) (t p : Int) : Array Value := #[x, y, .int .i64 t, .int .i64 p]

/-- Block b holds the Many. -/
def Mny (w : World) (b : Nat) (x y : Value) (t p : Int) : Prop := w.heap[b]? = some (.cells #[x, y, .int .i64 t, .int .i64 p] 27 (0, 0))

theorem Mny.c0 {w : World} {b : Nat} {x y : Value} {t p : Int} (h : Mny w b x y t p) : w.cell? ⟨b, 0, none⟩ = some x := cell_pair h 0

theorem Mny.c1 {w : World} {b : Nat} {x y : Value} {t p : Int} (h : Mny w b x y t p) : w.cell? ⟨b, 1, none⟩ = some y := cell_pair h 1

theorem Mny.c2 {w : World} {b : Nat} {x y : Value} {t p : Int} (h : Mny w b x y t p) : w.cell? ⟨b, 2, none⟩ = some (.int .i64 t) := cell_pair h 2

theorem Mny.c3 {w : World} {b : Nat} {x y : Value} {t p : Int} (h : Mny w b x y t p) : w.cell? ⟨b, 3, none⟩ = some (.int .i64 p) := cell_pair h 3

theorem Mny.fr {w : World} {b : Nat} {x y : Value} {t p : Int} (h : Mny w b x y t p) (j : Nat) : w.frozen? ⟨b, j, none⟩ = false := frozen_of_row w b j _ _ h

theorem Mny.lt {w : World} {b : Nat} {x y : Value} {t p : Int} (h : Mny w b x y t p) : b < w.heap.size := (Array.getElem?_eq_some_iff.1 h).1

theorem mny_new (w : World) (x y : Value) (t p : Int) : Mny (w.alloc (.cells #[x, y, .int .i64 t, .int .i64 p] 27)) w.heap.size x y t p := heap_alloc_new w _

theorem Mny.other {w w' : World} {b : Nat} {x y : Value} {t p : Int} {row : Option Nat} (h : Mny w b x y t p) (g : w.grownBy w' row) (hb : some b ≠ row) : Mny w' b x y t p := by
  unfold Mny
  rw [g.block b h.lt hb]
  exact h

theorem Mny.alloc {w : World} {b : Nat} {x y : Value} {t p : Int} (h : Mny w b x y t p) (o : Obj) : Mny (w.alloc o) b x y t p := h.other (World.grownBy_alloc w o none) (by simp)

theorem Mny.kept {w w' : World} {b B : Nat} {x y : Value} {t p : Int} (h : Mny w b x y t p) (g : Below B w w') (hb : b < B) : Mny w' b x y t p := by
  unfold Mny
  rw [g.block b hb]
  exact h

theorem Mny.all {w w' : World} {b : Nat} {x y : Value} {t p : Int} (h : Mny w b x y t p) (g : Below w.heap.size w w') : Mny w' b x y t p := h.kept g h.lt

theorem Mny.drew {w : World} {b : Nat} {x y : Value} {t p : Int} (h : Mny w b x y t p) : Mny w.drew b x y t p := h

theorem Mny.set0 {w : World} {b : Nat} {x y : Value} {t p : Int} (h : Mny w b x y t p) (v : Value) : Mny (w.setCell ⟨b, 0, none⟩ v) b v y t p := heap_setCell_same w b 0 _ _ _ h

theorem Mny.set1 {w : World} {b : Nat} {x y : Value} {t p : Int} (h : Mny w b x y t p) (v : Value) : Mny (w.setCell ⟨b, 1, none⟩ v) b x v t p := heap_setCell_same w b 1 _ _ _ h

theorem Mny.set2 {w : World} {b : Nat} {x y : Value} {t p : Int} (h : Mny w b x y t p) (n : Int) : Mny (w.setCell ⟨b, 2, none⟩ (.int .i64 n)) b x y n p := heap_setCell_same w b 2 _ _ _ h

theorem Mny.set3 {w : World} {b : Nat} {x y : Value} {t p : Int} (h : Mny w b x y t p) (n : Int) : Mny (w.setCell ⟨b, 3, none⟩ (.int .i64 n)) b x y t n := heap_setCell_same w b 3 _ _ _ h

theorem Mny.past {w : World} {b b' j : Nat} {x y : Value} {t p : Int} (h : Mny w b x y t p) (hb : b ≠ b') (v : Value) : Mny (w.setCell ⟨b', j, none⟩ v) b x y t p := h.other (grown_at w b' j v) (by simpa using hb)

theorem Mny.wr {w w' : World} {b lo hi : Nat} {x y : Value} {t p : Int} (h : Mny w b x y t p) (k : Wr lo hi w w') (hd : b < lo ∨ hi ≤ b) : Mny w' b x y t p := by
  unfold Mny
  rw [k.block b h.lt hd]
  exact h

theorem info_many : (Tryz.prog.info? 27).map (·.size) = some 4 := by kernel_rfl

theorem ret_mny {fn : Func} {q : Tmp} (h : fn.results = #[.cell q 27]) {tmps : Array Value} {w : World} {g : Nat} {x y : Value} {t p : Int} (hp : tmps.getD q undef = .pointer (some ⟨g, 0, none⟩)) (S : Mny w g x y t p) : (results fn tmps).run Tryz.prog w = .ok (mv x y t p) w :=
  results_cell_row h tmps w g _ _ _ _ hp S Tryz.underlying27 rfl info_many

theorem ret_mny2 {fn : Func} {q u : Tmp} (h : fn.results = #[.cell q 27, .tmp u]) {tmps : Array Value} {w : World} {g : Nat} {x y v : Value} {t p : Int} (hp : tmps.getD q undef = .pointer (some ⟨g, 0, none⟩)) (hv : tmps.getD u undef = v) (S : Mny w g x y t p) : (results fn tmps).run Tryz.prog w = .ok (.tuple #[mv x y t p, v]) w := by
  rw [results_cell_tmp h, hp, hv]
  simp [asAddr, run_loadVar_row w g _ 27 _ _ _ S Tryz.underlying27 rfl info_many]

/-- A slice of Shares that is empty, or lies at the head of a block of the call's own. -/
def SFit (w : World) (base : Nat) (a : Option Addr) (len cap : Nat) (ps : List Shr) : Prop :=
  ps.length = len ∧ ((len = 0 ∧ a = none) ∨ ∃ g, a = some ⟨g, 0, none⟩ ∧ base ≤ g ∧ SRow w g cap ps)

theorem sfit_nil (w : World) (base : Nat) : SFit w base none 0 0 [] := ⟨rfl, .inl ⟨rfl, rfl⟩⟩

theorem SRow.fit {w : World} {g cap : Nat} {ps : List Shr} (h : SRow w g cap ps) {base : Nat} (hb : base ≤ g) {len : Nat} (hl : ps.length = len) : SFit w base (some ⟨g, 0, none⟩) len cap ps := ⟨hl, .inr ⟨g, rfl, hb, h⟩⟩

theorem SFit.shs {w : World} {base : Nat} {a : Option Addr} {len cap : Nat} {ps : List Shr} (h : SFit w base a len cap ps) : Shs w a len ps := by
  obtain ⟨hl, ⟨h0, _⟩ | ⟨g, rfl, _, R⟩⟩ := h
  · exact ⟨hl, .inl h0⟩
  · rw [← hl]; exact R.shs

theorem SFit.other {w w' : World} {base : Nat} {a : Option Addr} {len cap : Nat} {ps : List Shr} {row : Option Nat} (h : SFit w base a len cap ps) (g : w.grownBy w' row) (hb : ∀ x, a = some x → some x.block ≠ row) : SFit w' base a len cap ps := by
  obtain ⟨hl, ⟨h0, h1⟩ | ⟨b, rfl, hb', R⟩⟩ := h
  · exact ⟨hl, .inl ⟨h0, h1⟩⟩
  · exact ⟨hl, .inr ⟨b, rfl, hb', R.other g (hb _ rfl)⟩⟩

theorem SFit.all {w w' : World} {base : Nat} {a : Option Addr} {len cap : Nat} {ps : List Shr} (h : SFit w base a len cap ps) (g : Below w.heap.size w w') : SFit w' base a len cap ps := by
  obtain ⟨hl, ⟨h0, h1⟩ | ⟨b, rfl, hb', R⟩⟩ := h
  · exact ⟨hl, .inl ⟨h0, h1⟩⟩
  · exact ⟨hl, .inr ⟨b, rfl, hb', R.all g⟩⟩

theorem SFit.mono {w : World} {base base' : Nat} {a : Option Addr} {len cap : Nat} {ps : List Shr} (h : SFit w base a len cap ps) (hb : base' ≤ base) : SFit w base' a len cap ps := by
  obtain ⟨hl, ⟨h0, h1⟩ | ⟨b, rfl, hb', R⟩⟩ := h
  · exact ⟨hl, .inl ⟨h0, h1⟩⟩
  · exact ⟨hl, .inr ⟨b, rfl, by omega, R⟩⟩

theorem SFit.ge {w : World} {base : Nat} {a : Option Addr} {len cap : Nat} {ps : List Shr} (h : SFit w base a len cap ps) {x : Addr} (hx : a = some x) : base ≤ x.block ∧ x.block < w.heap.size := by
  obtain ⟨hl, ⟨_, h1⟩ | ⟨b, h1, hb', R⟩⟩ := h
  · rw [h1] at hx; cases hx
  · rw [h1] at hx; cases hx; exact ⟨hb', R.lt⟩

theorem SFit.under {w : World} {base : Nat} {a : Option Addr} {len cap : Nat} {ps : List Shr} (h : SFit w base a len cap ps) : Under w.heap.size a := fun _ hx => (h.ge hx).2

theorem SFit.still {w w' : World} {base : Nat} {a : Option Addr} {len cap : Nat} {ps : List Shr} (h : SFit w base a len cap ps) (hs : ∀ x, a = some x → w'.heap[x.block]? = w.heap[x.block]?) : SFit w' base a len cap ps := by
  obtain ⟨hl, ⟨h0, h1⟩ | ⟨b, rfl, hb', R⟩⟩ := h
  · exact ⟨hl, .inl ⟨h0, h1⟩⟩
  · obtain ⟨cur, hh, r⟩ := R
    exact ⟨hl, .inr ⟨b, rfl, hb', cur, by rw [hs _ rfl]; exact hh, r⟩⟩

theorem Shs.alloc {w : World} {a : Option Addr} {len : Nat} {ps : List Shr} (h : Shs w a len ps) (o : Obj) : Shs (w.alloc o) a len ps := h.kept (below_new w o)

theorem Shs.drew {w : World} {a : Option Addr} {len : Nat} {ps : List Shr} (h : Shs w a len ps) : Shs w.drew a len ps := shs_drewN h 1

theorem SRow.alloc {w : World} {g cap : Nat} {ps : List Shr} (h : SRow w g cap ps) (o : Obj) : SRow (w.alloc o) g cap ps := h.all (below_new w o)

theorem SRow.drew {w : World} {g cap : Nat} {ps : List Shr} (h : SRow w g cap ps) : SRow w.drew g cap ps := srow_drewN h 1

theorem SRow.past {w : World} {g cap b j : Nat} {ps : List Shr} (h : SRow w g cap ps) (hb : g ≠ b) (v : Value) : SRow (w.setCell ⟨b, j, none⟩ v) g cap ps := h.other (grown_at w b j v) (by simpa using hb)

theorem SRow.wr {w w' : World} {g cap lo hi : Nat} {ps : List Shr} (h : SRow w g cap ps) (k : Wr lo hi w w') (hd : g < lo ∨ hi ≤ g) : SRow w' g cap ps := by
  have hl := h.lt
  obtain ⟨cur, hh, r⟩ := h
  exact ⟨cur, by rw [k.block g hl hd]; exact hh, r⟩

/-- Whether a Many is right. -/
def manyOk (ps : List Shr) (ns : List Int) (q now : Int) : Bool := fitsOn ps q && decide (ns.length = ps.length) && within now 0 1000000 && cnts ns

theorem many_fits {ps : List Shr} {ns : List Int} {q now : Int} (h : fitsOn ps q = false) : manyOk ps ns q now = false := by simp [manyOk, h]

theorem many_len {ps : List Shr} {ns : List Int} {q now : Int} (h : ¬ ns.length = ps.length) : manyOk ps ns q now = false := by simp [manyOk, h]

theorem many_now {ps : List Shr} {ns : List Int} {q now : Int} (h : within now 0 1000000 = false) : manyOk ps ns q now = false := by simp [manyOk, h]

theorem many_no {ps : List Shr} {ns : List Int} {q now : Int} {k : Nat} (h : k < ns.length) (hp : within (ns.getD k 0) 0 1000000 = false) : manyOk ps ns q now = false := by
  rw [manyOk, cnts, all_not h hp]
  simp

theorem many_end {ps : List Shr} {ns : List Int} {q now : Int} (h1 : fitsOn ps q = true) (h2 : ns.length = ps.length) (h3 : within now 0 1000000 = true) (h4 : cnts ns = true) : manyOk ps ns q now = true := by simp [manyOk, h1, h2, h3, h4]

theorem many_parts {ps : List Shr} {ns : List Int} {q now : Int} (h : manyOk ps ns q now = true) : fitsOn ps q = true ∧ ns.length = ps.length ∧ within now 0 1000000 = true ∧ cnts ns = true := by
  simp only [manyOk, Bool.and_eq_true, decide_eq_true_eq] at h
  exact ⟨h.1.1.1, h.1.1.2, h.1.2, h.2⟩

theorem fits_len {ps : List Shr} {q : Int} (h : fitsOn ps q = true) : ps.length ≤ 24 := by
  by_cases h1 : ps.length ≤ 24
  · exact h1
  · rw [fits_long h1] at h; cases h

theorem cnts_snoc {ns : List Int} {k : Nat} (h : k < ns.length) (h1 : cnts (ns.take k) = true) (h2 : within (ns.getD k 0) 0 1000000 = true) : cnts (ns.take (k + 1)) = true := by
  rw [List.take_succ_eq_append_getElem h, cnts, List.all_append]
  have e : ns.getD k 0 = ns[k] := by simp [List.getD, h]
  rw [e] at h2
  simp only [cnts] at h1
  simp [h1, h2]


end Go.Proofs.YtjhenfdmbagaiaaGreat.Crew
