/-
  Several processors: a Many in a block, a slice of Shares of the call's own, and whether a Many is right. spec's and impl's answer alike at every slice of Shares, every slice and two numbers.
-/
import Derived.Test.YtcmeimfjedakeaaGreatFitsOn
import Derived.Test.YtcmeimfjedakeaaGreatSmoothAns
import Derived.Test.YtcmeimfjedakeaaGreatLagLags
import Derived.Deep.RegionWith
import Derived.Deep.QuietTactic
import Derived.BigQuiet
namespace Go.Proofs.YtcmeimfjedakeaaGreat.Crew
open Go.ChangeShapes Go.WideShapes Go.ChangeAt Go.RowKit

abbrev mv (x y : Value) (t p : Int) : Value := .agg #[x, y, .int .i64 t, .int .i64 p]

/-- The cells of a Many. -/
abbrev mc (x y : Value) (t p : Int) : Array Value := #[x, y, .int .i64 t, .int .i64 p]

/-- Block b holds the Many. -/
def Mny (w : World) (b : Nat) (x y : Value) (t p : Int) : Prop := w.heap[b]? = some (.cells #[x, y, .int .i64 t, .int .i64 p] 34 (0, 0))

theorem Mny.c0 {w : World} {b : Nat} {x y : Value} {t p : Int} (h : Mny w b x y t p) : w.cell? ⟨b, 0, none⟩ = some x := cell_pair h 0

theorem Mny.c1 {w : World} {b : Nat} {x y : Value} {t p : Int} (h : Mny w b x y t p) : w.cell? ⟨b, 1, none⟩ = some y := cell_pair h 1

theorem Mny.c2 {w : World} {b : Nat} {x y : Value} {t p : Int} (h : Mny w b x y t p) : w.cell? ⟨b, 2, none⟩ = some (.int .i64 t) := cell_pair h 2

theorem Mny.c3 {w : World} {b : Nat} {x y : Value} {t p : Int} (h : Mny w b x y t p) : w.cell? ⟨b, 3, none⟩ = some (.int .i64 p) := cell_pair h 3

theorem Mny.fr {w : World} {b : Nat} {x y : Value} {t p : Int} (h : Mny w b x y t p) (j : Nat) : w.frozen? ⟨b, j, none⟩ = false := frozen_of_row w b j _ _ h

theorem Mny.lt {w : World} {b : Nat} {x y : Value} {t p : Int} (h : Mny w b x y t p) : b < w.heap.size := (Array.getElem?_eq_some_iff.1 h).1

theorem mny_new (w : World) (x y : Value) (t p : Int) : Mny (w.alloc (.cells #[x, y, .int .i64 t, .int .i64 p] 34)) w.heap.size x y t p := heap_alloc_new w _

theorem Mny.other {w w' : World} {b : Nat} {x y : Value} {t p : Int} {row : Option Nat} (h : Mny w b x y t p) (g : w.grownBy w' row) (hb : some b ≠ row) : Mny w' b x y t p := by
  unfold Mny
  rw [g.block b h.lt hb]
  exact h

theorem Mny.alloc {w : World} {b : Nat} {x y : Value} {t p : Int} (h : Mny w b x y t p) (o : Obj) : Mny (w.alloc o) b x y t p := h.other (World.grownBy_alloc w o none) (by simp)

theorem Mny.kept {w w' : World} {b B : Nat} {x y : Value} {t p : Int} (h : Mny w b x y t p) (g : Below B w w') (hb : b < B) : Mny w' b x y t p := by
  unfold Mny
  rw [g.block b hb]
  exact h

theorem Mny.all {w w' : World} {b : Nat} {x y : Value} {t p : Int} (h : Mny w b x y t p) (g : Below w.heap.size w w') : Mny w' b x y t p := h.kept g h.lt

theorem Mny.drew {w : World} {b : Nat} {x y : Value} {t p : Int} (h : Mny w b x y t p) : Mny w.drew b x y t p := h

theorem Mny.set0 {w : World} {b : Nat} {x y : Value} {t p : Int} (h : Mny w b x y t p) (v : Value) : Mny (w.setCell ⟨b, 0, none⟩ v) b v y t p := heap_setCell_same w b 0 _ _ _ h

theorem Mny.set1 {w : World} {b : Nat} {x y : Value} {t p : Int} (h : Mny w b x y t p) (v : Value) : Mny (w.setCell ⟨b, 1, none⟩ v) b x v t p := heap_setCell_same w b 1 _ _ _ h

theorem Mny.set2 {w : World} {b : Nat} {x y : Value} {t p : Int} (h : Mny w b x y t p) (n : Int) : Mny (w.setCell ⟨b, 2, none⟩ (.int .i64 n)) b x y n p := heap_setCell_same w b 2 _ _ _ h

theorem Mny.set3 {w : World} {b : Nat} {x y : Value} {t p : Int} (h : Mny w b x y t p) (n : Int) : Mny (w.setCell ⟨b, 3, none⟩ (.int .i64 n)) b x y t n := heap_setCell_same w b 3 _ _ _ h

theorem Mny.past {w : World} {b b' j : Nat} {x y : Value} {t p : Int} (h : Mny w b x y t p) (hb : b ≠ b') (v : Value) : Mny (w.setCell ⟨b', j, none⟩ v) b x y t p := h.other (grown_at w b' j v) (by simpa using hb)

theorem Mny.wr {w w' : World} {b lo hi : Nat} {x y : Value} {t p : Int} (h : Mny w b x y t p) (k : Wr lo hi w w') (hd : b < lo ∨ hi ≤ b) : Mny w' b x y t p := by
  unfold Mny
  rw [k.block b h.lt hd]
  exact h

theorem info_many : (Tryz.prog.info? 34).map (·.size) = some 4 := by kernel_rfl

theorem ret_mny {fn : Func} {q : Tmp} (h : fn.results = #[.cell q 34]) {tmps : Array Value} {w : World} {g : Nat} {x y : Value} {t p : Int} (hp : tmps.getD q undef = .pointer (some ⟨g, 0, none⟩)) (S : Mny w g x y t p) : (results fn tmps).run Tryz.prog w = .ok (mv x y t p) w :=
  results_cell_row h tmps w g _ _ _ _ hp S Tryz.underlying34 rfl info_many

theorem ret_mny2 {fn : Func} {q u : Tmp} (h : fn.results = #[.cell q 34, .tmp u]) {tmps : Array Value} {w : World} {g : Nat} {x y v : Value} {t p : Int} (hp : tmps.getD q undef = .pointer (some ⟨g, 0, none⟩)) (hv : tmps.getD u undef = v) (S : Mny w g x y t p) : (results fn tmps).run Tryz.prog w = .ok (.tuple #[mv x y t p, v]) w := by
  rw [results_cell_tmp h, hp, hv]
  simp [asAddr, run_loadVar_row w g _ 34 _ _ _ S Tryz.underlying34 rfl info_many]

/-- A slice of Shares that is empty, or lies at the head of a block of the call's own. -/
def SFit (w : World) (base : Nat) (a : Option Addr) (len cap : Nat) (ps : List Shr) : Prop :=
  ps.length = len ∧ ((len = 0 ∧ a = none) ∨ ∃ g, a = some ⟨g, 0, none⟩ ∧ base ≤ g ∧ SRow w g cap ps)

theorem sfit_nil (w : World) (base : Nat) : SFit w base none 0 0 [] := ⟨rfl, .inl ⟨rfl, rfl⟩⟩

theorem SRow.fit {w : World} {g cap : Nat} {ps : List Shr} (h : SRow w g cap ps) {base : Nat} (hb : base ≤ g) {len : Nat} (hl : ps.length = len) : SFit w base (some ⟨g, 0, none⟩) len cap ps := ⟨hl, .inr ⟨g, rfl, hb, h⟩⟩

theorem SFit.shs {w : World} {base : Nat} {a : Option Addr} {len cap : Nat} {ps : List Shr} (h : SFit w base a len cap ps) : Shs w a len ps := by
  obtain ⟨hl, ⟨h0, _⟩ | ⟨g, rfl, _, R⟩⟩ := h
  · exact ⟨hl, .inl h0⟩
  · rw [← hl]; exact R.shs

theorem SFit.other {w w' : World} {base : Nat} {a : Option Addr} {len cap : Nat} {ps : List Shr} {row : Option Nat} (h : SFit w base a len cap ps) (g : w.grownBy w' row) (hb : ∀ x, a = some x → some x.block ≠ row) : SFit w' base a len cap ps := by
  obtain ⟨hl, ⟨h0, h1⟩ | ⟨b, rfl, hb', R⟩⟩ := h
  · exact ⟨hl, .inl ⟨h0, h1⟩⟩
  · exact ⟨hl, .inr ⟨b, rfl, hb', R.other g (hb _ rfl)⟩⟩

theorem SFit.all {w w' : World} {base : Nat} {a : Option Addr} {len cap : Nat} {ps : List Shr} (h : SFit w base a len cap ps) (g : Below w.heap.size w w') : SFit w' base a len cap ps := by
  obtain ⟨hl, ⟨h0, h1⟩ | ⟨b, rfl, hb', R⟩⟩ := h
  · exact ⟨hl, .inl ⟨h0, h1⟩⟩
  · exact ⟨hl, .inr ⟨b, rfl, hb', R.all g⟩⟩

theorem SFit.mono {w : World} {base base' : Nat} {a : Option Addr} {len cap : Nat} {ps : List Shr} (h : SFit w base a len cap ps) (hb : base' ≤ base) : SFit w base' a len cap ps := by
  obtain ⟨hl, ⟨h0, h1⟩ | ⟨b, rfl, hb', R⟩⟩ := h
  · exact ⟨hl, .inl ⟨h0, h1⟩⟩
  · exact ⟨hl, .inr ⟨b, rfl, by omega, R⟩⟩

theorem SFit.ge {w : World} {base : Nat} {a : Option Addr} {len cap : Nat} {ps : List Shr} (h : SFit w base a len cap ps) {x : Addr} (hx : a = some x) : base ≤ x.block ∧ x.block < w.heap.size := by
  obtain ⟨hl, ⟨_, h1⟩ | ⟨b, h1, hb', R⟩⟩ := h
  · rw [h1] at hx; cases hx
  · rw [h1] at hx; cases hx; exact ⟨hb', R.lt⟩

theorem SFit.under {w : World} {base : Nat} {a : Option Addr} {len cap : Nat} {ps : List Shr} (h : SFit w base a len cap ps) : Under w.heap.size a := fun _ hx => (h.ge hx).2

theorem SFit.still {w w' : World} {base : Nat} {a : Option Addr} {len cap : Nat} {ps : List Shr} (h : SFit w base a len cap ps) (hs : ∀ x, a = some x → w'.heap[x.block]? = w.heap[x.block]?) : SFit w' base a len cap ps := by
  obtain ⟨hl, ⟨h0, h1⟩ | ⟨b, rfl, hb', R⟩⟩ := h
  · exact ⟨hl, .inl ⟨h0, h1⟩⟩
  · obtain ⟨cur, hh, r⟩ := R
    exact ⟨hl, .inr ⟨b, rfl, hb', cur, by rw [hs _ rfl]; exact hh, r⟩⟩

theorem Shs.alloc {w : World} {a : Option Addr} {len : Nat} {ps : List Shr} (h : Shs w a len ps) (o : Obj) : Shs (w.alloc o) a len ps := h.kept (below_new w o)

theorem Shs.drew {w : World} {a : Option Addr} {len : Nat} {ps : List Shr} (h : Shs w a len ps) : Shs w.drew a len ps := shs_drewN h 1

theorem SRow.alloc {w : World} {g cap : Nat} {ps : List Shr} (h : SRow w g cap ps) (o : Obj) : SRow (w.alloc o) g cap ps := h.all (below_new w o)

theorem SRow.drew {w : World} {g cap : Nat} {ps : List Shr} (h : SRow w g cap ps) : SRow w.drew g cap ps := srow_drewN h 1

theorem SRow.past {w : World} {g cap b j : Nat} {ps : List Shr} (h : SRow w g cap ps) (hb : g ≠ b) (v : Value) : SRow (w.setCell ⟨b, j, none⟩ v) g cap ps := h.other (grown_at w b j v) (by simpa using hb)

theorem SRow.wr {w w' : World} {g cap lo hi : Nat} {ps : List Shr} (h : SRow w g cap ps) (k : Wr lo hi w w') (hd : g < lo ∨ hi ≤ g) : SRow w' g cap ps := by
  have hl := h.lt
  obtain ⟨cur, hh, r⟩ := h
  exact ⟨cur, by rw [k.block g hl hd]; exact hh, r⟩

/-- Whether a Many is right. -/
def manyOk (ps : List Shr) (ns : List Int) (q now : Int) : Bool := fitsOn ps q && decide (ns.length = ps.length) && within now 0 1000000 && cnts ns

theorem many_fits {ps : List Shr} {ns : List Int} {q now : Int} (h : fitsOn ps q = false) : manyOk ps ns q now = false := by simp [manyOk, h]

theorem many_len {ps : List Shr} {ns : List Int} {q now : Int} (h : ¬ ns.length = ps.length) : manyOk ps ns q now = false := by simp [manyOk, h]

theorem many_now {ps : List Shr} {ns : List Int} {q now : Int} (h : within now 0 1000000 = false) : manyOk ps ns q now = false := by simp [manyOk, h]

theorem many_no {ps : List Shr} {ns : List Int} {q now : Int} {k : Nat} (h : k < ns.length) (hp : within (ns.getD k 0) 0 1000000 = false) : manyOk ps ns q now = false := by
  rw [manyOk, cnts, all_not h hp]
  simp

theorem many_end {ps : List Shr} {ns : List Int} {q now : Int} (h1 : fitsOn ps q = true) (h2 : ns.length = ps.length) (h3 : within now 0 1000000 = true) (h4 : cnts ns = true) : manyOk ps ns q now = true := by simp [manyOk, h1, h2, h3, h4]

theorem many_parts {ps : List Shr} {ns : List Int} {q now : Int} (h : manyOk ps ns q now = true) : fitsOn ps q = true ∧ ns.length = ps.length ∧ within now 0 1000000 = true ∧ cnts ns = true := by
  simp only [manyOk, Bool.and_eq_true, decide_eq_true_eq] at h
  exact ⟨h.1.1.1, h.1.1.2, h.1.2, h.2⟩

theorem fits_len {ps : List Shr} {q : Int} (h : fitsOn ps q = true) : ps.length ≤ 24 := by
  by_cases h1 : ps.length ≤ 24
  · exact h1
  · rw [fits_long h1] at h; cases h

theorem cnts_snoc {ns : List Int} {k : Nat} (h : k < ns.length) (h1 : cnts (ns.take k) = true) (h2 : within (ns.getD k 0) 0 1000000 = true) : cnts (ns.take (k + 1)) = true := by
  rw [List.take_succ_eq_append_getElem h, cnts, List.all_append]
  have e : ns.getD k 0 = ns[k] := by simp [List.getD, h]
  rw [e] at h2
  simp only [cnts] at h1
  simp [h1, h2]


end Go.Proofs.YtcmeimfjedakeaaGreat.Crew

/-
  What the exact laws do with a Many: its size, a copy, held against another one, marked, the marks held.
-/
namespace Go.Proofs.YtcmeimfjedakeaaGreat.Crew
open Go.ChangeShapes Go.WideShapes Go.ChangeAt Go.RowKit

theorem Mny.four {w : World} {b : Nat} {x y : Value} {t p : Int} (h : Mny w b x y t p) : Four w b x y t p := ⟨h.lt, h.c0, h.c1, h.c2, h.c3⟩

theorem szMany_no (a : Option Addr) (len cap : Nat) (a' : Option Addr) (len' cap' : Nat) (t p : Int) (w : World) (hm : (len : Int) ≤ 9223372036854775807) (hm' : (len' : Int) ≤ 9223372036854775807) (h : (1048576 : Int) < (len : Int) + (len' : Int)) :
    Calls Tryz.prog 59 #[mv (.slice a len cap) (.slice a' len' cap') t p, .int .i64 1048576] w fun e w' => e = .returned (.int .i64 (-1)) ∧ Below w.heap.size w w' := by
  by_cases h1 : (1048576 : Int) - (len : Int) < 0
  · have E1 : Hid ((1048576 : Int) - (len : Int) < 0) := h1
    go_enter Tryz.func59, Tryz.ntmps59
    go_wp2_with fail
    refine (szShares_no a len cap _ hm (by omega)).mono ?_
    rintro e w1 ⟨rfl, rfl⟩
    go_wp2_with fail
    go_ret
    exact ⟨rfl, (Below.refl _ _).alloc (Nat.le_refl _) _⟩
  · have E1 : Hid (¬ (1048576 : Int) - (len : Int) < 0) := h1
    have E2 : Hid ((1048576 : Int) - (len : Int) - (len' : Int) < 0) := by show _ < _; omega
    have h2 : (1048576 : Int) - (len : Int) - (len' : Int) < 0 := by omega
    have h3 : ¬ (1048576 : Int) < (len : Int) := by omega
    go_enter Tryz.func59, Tryz.ntmps59
    go_wp2_with fail
    refine (szShares_yes a len cap _ (by omega)).mono ?_
    rintro e w1 ⟨rfl, rfl⟩
    go_wp2_with fail
    refine (szInts_any a' len' cap' (1048576 - (len : Int)) _ (by omega) (by omega) hm').mono ?_
    rw [if_pos E2.out]
    rintro e w1 ⟨rfl, rfl⟩
    go_wp2_with fail
    go_ret
    exact ⟨rfl, (Below.refl _ _).alloc (Nat.le_refl _) _⟩

theorem szMany_yes (a : Option Addr) (len cap : Nat) (a' : Option Addr) (len' cap' : Nat) (t p : Int) (w : World) (h : (len : Int) + (len' : Int) ≤ 1048576) :
    Calls Tryz.prog 59 #[mv (.slice a len cap) (.slice a' len' cap') t p, .int .i64 1048576] w fun e w' => e = .returned (.int .i64 (1048576 - (len : Int) - (len' : Int))) ∧ Below w.heap.size w w' := by
  have h1 : ¬ (1048576 : Int) - (len : Int) < 0 := by omega
  have h2 : ¬ (1048576 : Int) - (len : Int) - (len' : Int) < 0 := by omega
  have E1 : Hid (¬ (1048576 : Int) - (len : Int) < 0) := h1
  have E2 : Hid (¬ (1048576 : Int) - (len : Int) - (len' : Int) < 0) := h2
  go_enter Tryz.func59, Tryz.ntmps59
  go_wp2_with fail
  refine (szShares_yes a len cap _ (by omega)).mono ?_
  rintro e w1 ⟨rfl, rfl⟩
  go_wp2_with fail
  refine (szInts_any a' len' cap' (1048576 - (len : Int)) _ (by omega) (by omega) (by omega)).mono ?_
  rw [if_neg (show ¬ (1048576 : Int) - (len : Int) - (len' : Int) < 0 by omega)]
  rintro e w1 ⟨rfl, rfl⟩
  go_wp2_with fail
  go_ret
  exact ⟨rfl, (Below.refl _ _).alloc (Nat.le_refl _) _⟩

/-- The worlds of a copy: the argument in its block, the answer, the copy. -/
structure CopyingM (w0 w : World) (x y : Value) (t p : Int) (u v : Value) (m n : Int) : Prop where
  arg : Four w w0.heap.size x y t p
  ans : Mny w (w0.heap.size + 1) (.slice none 0 0) (.slice none 0 0) 0 0
  cpy : Mny w (w0.heap.size + 2) u v m n
  bel : Below w0.heap.size w0 w

theorem CopyingM.all {w0 w w' : World} {x y : Value} {t p : Int} {u v : Value} {m n : Int} (h : CopyingM w0 w x y t p u v m n) (k : Below w.heap.size w w') : CopyingM w0 w' x y t p u v m n :=
  ⟨h.arg.all k, h.ans.all k, h.cpy.all k, below_call h.bel h.bel.size k⟩

/-- laws.toMany: a copy, in two blocks of its own. -/
theorem toMany_any (a : Option Addr) (len cap : Nat) (xs : List Shr) (a' : Option Addr) (len' cap' : Nat) (ys : List Int) (t p : Int) (w : World) (I : Shs w a len xs) (J : Ints w a' len' ys) (hs : (len : Int) ≤ 1048576) (hs' : (len' : Int) ≤ 1048576) :
    Calls Tryz.prog 64 #[mv (.slice a len cap) (.slice a' len' cap') t p] w fun e w' => ∃ g h : Nat, e = .returned (mv (.slice (some ⟨g, 0, none⟩) len len) (.slice (some ⟨h, 0, none⟩) len' len') t p) ∧ SRow w' g len xs ∧ Row w' h len' ys ∧ w.heap.size ≤ g ∧ w.heap.size ≤ h ∧ g ≠ h ∧ Below w.heap.size w w' := by
  obtain ⟨W0, hW0⟩ : ∃ W0, W0 = ((w.alloc (.cells #[.slice a len cap, .slice a' len' cap', .int .i64 t, .int .i64 p] 48)).alloc (.cells #[.slice none 0 0, .slice none 0 0, .int .i64 0, .int .i64 0] 34)).alloc (.cells #[.slice none 0 0, .slice none 0 0, .int .i64 0, .int .i64 0] 34) := ⟨_, rfl⟩
  have hz : W0.heap.size = w.heap.size + 3 := by rw [hW0]; simp
  have H0 : Hid (CopyingM w W0 (.slice a len cap) (.slice a' len' cap') t p (.slice none 0 0) (.slice none 0 0) 0 0 ∧ Shs W0 a len xs ∧ Ints w a' len' ys) := by
    subst hW0
    refine ⟨⟨((four_new w _ _ t p _).alloc _).alloc _, ?_, ?_, ?_⟩, ((I.alloc _).alloc _).alloc _, J⟩
    · have := (mny_new (w.alloc (.cells #[.slice a len cap, .slice a' len' cap', .int .i64 t, .int .i64 p] 48)) (.slice none 0 0) (.slice none 0 0) 0 0).alloc (.cells #[.slice none 0 0, .slice none 0 0, .int .i64 0, .int .i64 0] 34)
      simpa using this
    · have := mny_new ((w.alloc (.cells #[.slice a len cap, .slice a' len' cap', .int .i64 t, .int .i64 p] 48)).alloc (.cells #[.slice none 0 0, .slice none 0 0, .int .i64 0, .int .i64 0] 34)) (.slice none 0 0) (.slice none 0 0) 0 0
      simpa using this
    · exact (((Below.refl _ w).alloc (Nat.le_refl _) _).alloc (by simp) _).alloc (by simp; omega) _
  clear I J
  go_enter Tryz.func64, Tryz.ntmps64
  go_wp2_with fail
  rw [← hW0]
  clear hW0
  refine (toShares_any a len cap xs _ H0.out.2.1 hs).mono ?_
  rintro e w1 ⟨rfl, R1, B1⟩
  rw [hz] at R1
  rw [hz]
  have H1 : Hid (CopyingM w w1 (.slice a len cap) (.slice a' len' cap') t p (.slice none 0 0) (.slice none 0 0) 0 0 ∧ SRow w1 (w.heap.size + 3) len xs ∧ Ints w a' len' ys) := ⟨H0.out.1.all B1, R1, H0.out.2.2⟩
  clear H0 B1 R1 hz
  have p0 := H1.out.1.cpy.c0
  have p1 := H1.out.1.cpy.c1
  have f0 := H1.out.1.cpy.fr 0
  have f1 := H1.out.1.cpy.fr 1
  have q1 := H1.out.1.arg.c1
  go_wp2_with fail
  clear p0 p1 f0 f1 q1
  have H2 : Hid (CopyingM w (w1.setCell ⟨w.heap.size + 1 + 1, 0, none⟩ (.slice (some ⟨w.heap.size + 3, 0, none⟩) len len)) (.slice a len cap) (.slice a' len' cap') t p (.slice (some ⟨w.heap.size + 3, 0, none⟩) len len) (.slice none 0 0) 0 0 ∧ SRow (w1.setCell ⟨w.heap.size + 1 + 1, 0, none⟩ (.slice (some ⟨w.heap.size + 3, 0, none⟩) len len)) (w.heap.size + 3) len xs ∧ Ints w a' len' ys) :=
    ⟨⟨H1.out.1.arg.past (by omega) _, H1.out.1.ans.past (by omega) _, H1.out.1.cpy.set0 _, below_set H1.out.1.bel (by omega) _⟩, H1.out.2.1.past (by omega) _, H1.out.2.2⟩
  clear H1
  generalize w1.setCell ⟨w.heap.size + 1 + 1, 0, none⟩ (.slice (some ⟨w.heap.size + 3, 0, none⟩) len len) = w2 at *
  have hz2 : w.heap.size + 3 < w2.heap.size := H2.out.2.1.lt
  refine (toInts_any a' len' cap' ys _ (H2.out.2.2.kept H2.out.1.bel) hs').mono ?_
  rintro e w3 ⟨rfl, R3, B3⟩
  generalize w2.heap.size = s at *
  have H3 : Hid (Mny w3 (w.heap.size + 1) (.slice none 0 0) (.slice none 0 0) 0 0 ∧ Mny w3 (w.heap.size + 1 + 1) (.slice (some ⟨w.heap.size + 3, 0, none⟩) len len) (.slice none 0 0) 0 0 ∧ Below w.heap.size w w3 ∧ SRow w3 (w.heap.size + 3) len xs ∧ Row w3 s len' ys) :=
    ⟨H2.out.1.ans.kept B3 (by omega), H2.out.1.cpy.kept B3 (by omega), H2.out.1.bel.trans (B3.mono (by omega)), H2.out.2.1.kept B3 (by omega), R3⟩
  have t2 : w3.cell? ⟨w.heap.size, 2, none⟩ = some (.int .i64 t) := (B3.cell (p := ⟨w.heap.size, 2, none⟩) (by show w.heap.size < s; omega)).trans H2.out.1.arg.c2
  have t3 : w3.cell? ⟨w.heap.size, 3, none⟩ = some (.int .i64 p) := (B3.cell (p := ⟨w.heap.size, 3, none⟩) (by show w.heap.size < s; omega)).trans H2.out.1.arg.c3
  clear H2 B3 R3
  have p0 := H3.out.2.1.c0
  have p1 := H3.out.2.1.c1
  have p2 := H3.out.2.1.c2
  have p3 := H3.out.2.1.c3
  have f0 := H3.out.2.1.fr 0
  have f1 := H3.out.2.1.fr 1
  have f2 := H3.out.2.1.fr 2
  have f3 := H3.out.2.1.fr 3
  have r0 := H3.out.1.c0
  have r1 := H3.out.1.c1
  have r2 := H3.out.1.c2
  have r3 := H3.out.1.c3
  have g0 := H3.out.1.fr 0
  have g1 := H3.out.1.fr 1
  have g2 := H3.out.1.fr 2
  have g3 := H3.out.1.fr 3
  go_wp2_with fail
  clear p0 p1 p2 p3 f0 f1 f2 f3 r0 r1 r2 r3 g0 g1 g2 g3 t2 t3
  refine bodyPost_ret (ret_mny rfl rfl ((((((H3.out.1.past (by omega) _).past (by omega) _).past (by omega) _).set0 _).set1 _).set2 t |>.set3 p)) rfl ⟨_, _, rfl, ?_, ?_, ?_, ?_, ?_, ?_⟩
  · exact ((((((H3.out.2.2.2.1.past (by omega) _).past (by omega) _).past (by omega) _).past (by omega) _).past (by omega) _).past (by omega) _).past (by omega) _
  · exact ((((((H3.out.2.2.2.2.past (by omega) _).past (by omega) _).past (by omega) _).past (by omega) _).past (by omega) _).past (by omega) _).past (by omega) _
  · omega
  · omega
  · omega
  · exact below_set (below_set (below_set (below_set (below_set (below_set (below_set H3.out.2.2.1 (by omega) _) (by omega) _) (by omega) _) (by omega) _) (by omega) _) (by omega) _) (by omega) _

/-- laws.eqMany where both read alike. -/
theorem eqMany_same (a : Option Addr) (len cap : Nat) (a' : Option Addr) (len' cap' : Nat) (b : Option Addr) (lb cb : Nat) (b' : Option Addr) (lb' cb' : Nat) (xs : List Shr) (ys : List Int) (t p : Int) (w : World) (I : Shs w a len xs) (I' : Ints w a' len' ys) (J : Shs w b lb xs) (J' : Ints w b' lb' ys) (hs : (len : Int) ≤ 1048576) (hs' : (len' : Int) ≤ 1048576) :
    Calls Tryz.prog 69 #[mv (.slice a len cap) (.slice a' len' cap') t p, mv (.slice b lb cb) (.slice b' lb' cb') t p] w fun e w' => e = .returned (.bool true) ∧ Below w.heap.size w w' := by
  obtain ⟨W0, hW0⟩ : ∃ W0, W0 = (w.alloc (.cells #[.slice a len cap, .slice a' len' cap', .int .i64 t, .int .i64 p] 34)).alloc (.cells #[.slice b lb cb, .slice b' lb' cb', .int .i64 t, .int .i64 p] 34) := ⟨_, rfl⟩
  have hz : W0.heap.size = w.heap.size + 2 := by rw [hW0]; simp
  have H0 : Hid (Mny W0 w.heap.size (.slice a len cap) (.slice a' len' cap') t p ∧ Mny W0 (w.heap.size + 1) (.slice b lb cb) (.slice b' lb' cb') t p ∧ Below w.heap.size w W0) := by
    subst hW0
    refine ⟨(mny_new _ _ _ _ _).alloc _, ?_, ?_⟩
    · have := mny_new (w.alloc (.cells #[.slice a len cap, .slice a' len' cap', .int .i64 t, .int .i64 p] 34)) (.slice b lb cb) (.slice b' lb' cb') t p
      simpa using this
    · exact ((Below.refl _ w).alloc (Nat.le_refl _) _).alloc (by simp) _
  have HI : Hid (Shs w a len xs ∧ Ints w a' len' ys ∧ Shs w b lb xs ∧ Ints w b' lb' ys) := ⟨I, I', J, J'⟩
  clear I I' J J'
  have n1 : (t != t) = false := by simp
  have n2 : (p != p) = false := by simp
  go_enter Tryz.func69, Tryz.ntmps69
  go_wp2_with fail
  rw [← hW0]
  clear hW0
  refine (eqShares_same a len cap xs b lb cb _ (HI.out.1.kept H0.out.2.2) (HI.out.2.2.1.kept H0.out.2.2) hs).mono ?_
  rintro e w1 ⟨rfl, B1⟩
  have H1 : Hid (Mny w1 w.heap.size (.slice a len cap) (.slice a' len' cap') t p ∧ Mny w1 (w.heap.size + 1) (.slice b lb cb) (.slice b' lb' cb') t p ∧ Below w.heap.size w w1) := ⟨H0.out.1.all B1, H0.out.2.1.all B1, below_call H0.out.2.2 (by omega) B1⟩
  have c0 := H1.out.1.c1
  have c1 := H1.out.2.1.c1
  clear B1
  go_wp2_with fail
  refine (eqInts_same a' len' cap' ys b' lb' cb' _ (HI.out.2.1.kept H1.out.2.2) (HI.out.2.2.2.kept H1.out.2.2) hs').mono ?_
  rintro e w2 ⟨rfl, B2⟩
  have H2 : Hid (Below w.heap.size w w2) := below_call H1.out.2.2 H1.out.2.2.size B2
  clear c0 c1
  have c0 := (H1.out.1.all B2).c2
  have c1 := (H1.out.2.1.all B2).c2
  have c2 := (H1.out.1.all B2).c3
  have c3 := (H1.out.2.1.all B2).c3
  clear B2
  go_wp2_with fail
  go_ret
  exact ⟨rfl, H2.out⟩

/-- laws.markShareS at a slice of the call's own. -/
theorem markSFit (base : Nat) (a : Option Addr) (len cap : Nat) (xs : List Shr) (k : Int) (w : World) (F : SFit w base a len cap xs) (hs : (len : Int) ≤ 1048576) (hk0 : 0 ≤ k) (hk1 : k ≤ 1000000000000) :
    Calls Tryz.prog 121 #[.slice a len cap, .int .i64 k] w fun e w' => e = .returned (.int .i64 (k + 2 * len)) ∧ SFit w' base a len cap (smarks k len) ∧ w.grownBy w' (blk a) := by
  obtain ⟨hl, ⟨h0, h1⟩ | ⟨g, rfl, hb, R⟩⟩ := F
  · subst h0 h1
    go_enter Tryz.func121, Tryz.ntmps121
    go_wp2_with fail
    go_loop [1, 5] (fun q i => q = .int .i64 k ∧ i = .int .i64 0) (fun _ _ => 0)
    case atStart => exact ⟨rfl, rfl⟩
    case round =>
      obtain ⟨rfl, rfl⟩ := hrel
      go_wp2_with fail
      go_ret
      exact ⟨by simp, ⟨by simp [smarks], .inl ⟨rfl, rfl⟩⟩, World.grownBy.refl _ _⟩
  · subst hl
    refine (markShares_any g cap xs k w R hs hk0 hk1).mono ?_
    rintro e w' ⟨he, R', G⟩
    exact ⟨he, ⟨by rw [smarks_length], .inr ⟨g, rfl, hb, R'⟩⟩, G⟩

/-- laws.markMany. -/
theorem markMany_any (base : Nat) (a : Option Addr) (len cap : Nat) (xs : List Shr) (a' : Option Addr) (len' cap' : Nat) (ys : List Int) (t p : Int) (k : Int) (w : World) (F : SFit w base a len cap xs) (F' : Fit w base a' len' cap' ys) (D : Apart a a') (hs : (len : Int) ≤ 1048576) (hs' : (len' : Int) ≤ 1048576) (hk0 : 0 ≤ k) (hk1 : k ≤ 1000000000) :
    Calls Tryz.prog 74 #[mv (.slice a len cap) (.slice a' len' cap') t p, .int .i64 k] w fun e w' => e = .returned (.int .i64 (k + 2 * len + len')) ∧ SFit w' base a len cap (smarks k len) ∧ Fit w' base a' len' cap' (marks (k + 2 * len) len') ∧ ∃ wm, w.grownBy wm (blk a) ∧ wm.grownBy w' (blk a') := by
  have HF : Hid (SFit w base a len cap xs ∧ Fit w base a' len' cap' ys ∧ Apart a a') := ⟨F, F', D⟩
  have n1 : ∀ x, a = some x → x.block < w.heap.size := fun x hx => (F.ge hx).2
  have n2 : ∀ x, a' = some x → x.block < w.heap.size := fun x hx => (F'.ge hx).2
  have N : Hid ((∀ x, a = some x → x.block < w.heap.size) ∧ (∀ x, a' = some x → x.block < w.heap.size)) := ⟨n1, n2⟩
  clear F F' D n1 n2
  go_enter Tryz.func74, Tryz.ntmps74
  go_wp2_with fail
  refine (markSFit base a len cap xs k _ (HF.out.1.other (World.grownBy_alloc _ _ none) (by simp)) hs hk0 (by omega)).mono ?_
  rintro e w1 ⟨rfl, F1, G1⟩
  have P1 : Mny w1 w.heap.size (.slice a len cap) (.slice a' len' cap') t p := (mny_new w _ _ _ _).other G1 (by
    cases a with
    | none => simp [blk]
    | some x => have := N.out.1 x rfl; simp [blk]; omega)
  have H1 : Hid (SFit w1 base a len cap (smarks k len) ∧ Fit w1 base a' len' cap' ys ∧ w.grownBy w1 (blk a)) :=
    ⟨F1, (HF.out.2.1.other (World.grownBy_alloc _ _ none) (by simp)).other G1 (fun x hx => HF.out.2.2.symm.ne hx), (World.grownBy_alloc w _ _).trans G1⟩
  have c1 := P1.c1
  clear F1 G1 P1
  go_wp2_with fail
  refine (markFit base a' len' cap' ys (k + 2 * len) _ H1.out.2.1 hs' (by omega) (by omega)).mono ?_
  rintro e w2 ⟨rfl, F2, G2⟩
  have H2 : Hid (SFit w2 base a len cap (smarks k len) ∧ Fit w2 base a' len' cap' (marks (k + 2 * len) len') ∧ ∃ wm, w.grownBy wm (blk a) ∧ wm.grownBy w2 (blk a')) :=
    ⟨H1.out.1.other G2 (fun x hx => HF.out.2.2.ne hx), F2, w1, H1.out.2.2, G2⟩
  clear F2 G2 c1
  go_wp2_with fail
  go_ret
  exact ⟨rfl, H2.out⟩

/-- laws.heldMany where the marks are held. -/
theorem heldMany_any (a : Option Addr) (len cap : Nat) (a' : Option Addr) (len' cap' : Nat) (t p : Int) (k : Int) (w : World) (I : Shs w a len (smarks k len)) (I' : Ints w a' len' (marks (k + 2 * len) len')) (hs : (len : Int) ≤ 1048576) (hs' : (len' : Int) ≤ 1048576) (hk0 : 0 ≤ k) (hk1 : k ≤ 1000000000) :
    Calls Tryz.prog 79 #[mv (.slice a len cap) (.slice a' len' cap') t p, .int .i64 k] w fun e w' => e = .returned (.int .i64 (k + 2 * len + len')) ∧ Below w.heap.size w w' := by
  have HI : Hid (Shs w a len (smarks k len) ∧ Ints w a' len' (marks (k + 2 * len) len')) := ⟨I, I'⟩
  clear I I'
  have h1 : ¬ (k + 2 * (len : Int)) < 0 := by omega
  have h2 : ¬ (k + 2 * (len : Int) + (len' : Int)) < 0 := by omega
  go_enter Tryz.func79, Tryz.ntmps79
  go_wp2_with fail
  refine (heldShares_any a len cap k _ (HI.out.1.alloc _) hs hk0 (by omega)).mono ?_
  rintro e w1 ⟨rfl, B1⟩
  have H1 : Hid (Below w.heap.size w w1) := below_call ((Below.refl _ w).alloc (Nat.le_refl _) _) (by simp) B1
  have c1 := ((mny_new w (.slice a len cap) (.slice a' len' cap') t p).all B1).c1
  clear B1
  go_wp2_with fail
  refine (heldInts_any a' len' cap' (k + 2 * len) _ (HI.out.2.kept H1.out) hs' (by omega) (by omega)).mono ?_
  rintro e w2 ⟨rfl, B2⟩
  have H2 : Hid (Below w.heap.size w w2) := below_call H1.out H1.out.size B2
  clear B2 c1
  go_wp2_with fail
  go_ret
  exact ⟨rfl, H2.out⟩

end Go.Proofs.YtcmeimfjedakeaaGreat.Crew

/-
  Several processors: impl.ManyOk and spec.ManyOk answer alike, and so do impl.ManyLag and spec.ManyLag.
-/
namespace Go.Proofs.YtcmeimfjedakeaaGreat.Crew
open Go.ChangeShapes Go.WideShapes Go.ChangeAt Go.RowKit

/-- impl.ManyOk. -/
theorem implManyX (a : Option Addr) (len cap : Nat) (ps : List Shr) (a' : Option Addr) (len' cap' : Nat) (ns : List Int) (t p : Int) (w : World) (I : Shs w a len ps) (J : Ints w a' len' ns) (hsz : (len : Int) ≤ 1048576) :
    Calls Tryz.prog 228 #[mv (.slice a len cap) (.slice a' len' cap') t p] w fun e w' => e = .returned (.bool (manyOk ps ns t p)) ∧ Below w.heap.size w w' := by
  have HI : Hid (Shs (w.alloc (.cells (mc (.slice a len cap) (.slice a' len' cap') t p) 34)) a len ps) := I.alloc _
  have HJ : Hid (Ints (w.alloc (.cells (mc (.slice a len cap) (.slice a' len' cap') t p) 34)) a' len' ns) := J.alloc _
  have HQ : Hid (Mny (w.alloc (.cells (mc (.slice a len cap) (.slice a' len' cap') t p) 34)) w.heap.size (.slice a len cap) (.slice a' len' cap') t p) := mny_new _ _ _ _ _
  have HB : Hid (Below w.heap.size w (w.alloc (.cells (mc (.slice a len cap) (.slice a' len' cap') t p) 34))) := below_new _ _
  have hl := I.1
  have hl' := J.1
  clear I J
  cases hc : fitsOn ps t
  · have HC : Hid (fitsOn ps t = false) := hc
    rw [many_fits hc]
    clear hc
    go_enter Tryz.func228, Tryz.ntmps228
    go_wp2_with fail
    refine (implFits a len cap ps t _ HI.out hsz).mono ?_
    rw [HC.out]
    rintro e w1 ⟨rfl, B1⟩
    go_wp2_with fail
    go_ret
    exact ⟨rfl, below_call HB.out HB.out.size B1⟩
  · have HC : Hid (fitsOn ps t = true) := hc
    have hs24 : (len : Int) ≤ 24 := by have := fits_len hc; omega
    by_cases hll : len' = len
    · have hne : ((len' : Int) != (len : Int)) = false := by simp [hll]
      have hs24' : (len' : Int) ≤ 24 := by omega
      cases hw : within p 0 1000000
      · rw [many_now hw]
        have HW : Hid (within p 0 1000000 = false) := hw
        clear hc hw hll
        go_enter Tryz.func228, Tryz.ntmps228
        go_wp2_with fail
        refine (implFits a len cap ps t _ HI.out hsz).mono ?_
        rw [HC.out]
        rintro e w1 ⟨rfl, B1⟩
        have Q1 := HQ.out.all B1
        have r0 := Q1.c0
        have r1 := Q1.c1
        have r3 := Q1.c3
        have HB1 : Hid (Below w.heap.size w w1) := below_call HB.out HB.out.size B1
        clear B1 Q1
        go_wp2_with fail
        refine (countOk_any p _).mono ?_
        rw [HW.out]
        rintro e w' ⟨rfl, rfl⟩
        go_wp2_with fail
        go_ret
        exact ⟨rfl, HB1.out⟩
      · have HW : Hid (within p 0 1000000 = true) := hw
        have LL : Hid (ns.length = ps.length ∧ ns.length = len' ∧ ps.length = len ∧ len' = len) := ⟨by omega, by omega, by omega, hll⟩
        clear hc hl hl' hll hw
        go_enter Tryz.func228, Tryz.ntmps228
        go_wp2_with fail
        refine (implFits a len cap ps t _ HI.out hsz).mono ?_
        rw [HC.out]
        rintro e w1 ⟨rfl, B1⟩
        have Q1 := HQ.out.all B1
        have r0 := Q1.c0
        have r1 := Q1.c1
        have r3 := Q1.c3
        have HQ1 : Hid (Ints w1 a' len' ns ∧ Below w.heap.size w w1) := ⟨HJ.out.kept B1, below_call HB.out HB.out.size B1⟩
        clear B1 Q1 HI HJ HQ HB
        go_wp2_with fail
        refine (countOk_any p _).mono ?_
        rw [HW.out]
        rintro e wq ⟨rfl, rfl⟩
        go_wp2_with fail
        go_loopw [4, 29] (fun _ i wr => ∃ k : Nat, k ≤ len' ∧ i = .int .i64 k ∧ Hid (cnts (ns.take k) = true) ∧ Hid (∃ m, wr = wq.drewN m)) (fun _ i _ => len' - (intOf i).toNat)
        case atStart => exact ⟨0, Nat.zero_le _, rfl, by show _ = _; simp [cnts], 0, rfl⟩
        case round =>
          obtain ⟨k, hk, rfl, A, Q⟩ := hrel
          obtain ⟨m, rfl⟩ := Q.out
          by_cases hlt : k < len'
          · obtain ⟨_, h0 | ⟨b', off', rfl, hb', hcc'⟩⟩ := id HQ1.out.1
            · omega
            obtain ⟨x, hx⟩ : ∃ x, x = ns.getD k 0 := ⟨_, rfl⟩
            have c1 := hcc' k hlt
            rw [← hx] at c1
            have X : Hid (x = ns.getD k 0) := hx
            have hlt' : (k : Int) < (len' : Int) := by omega
            clear hcc' hx
            cases hw : within x 0 1000000
            · have HX : Hid (within x 0 1000000 = false) := hw
              clear hw
              go_wp2_with fail
              refine (countOk_any x _).mono ?_
              rw [HX.out]
              rintro e w' ⟨rfl, rfl⟩
              go_wp2_with fail
              go_ret
              exact ⟨by rw [many_no (k := k) (by have := LL.out; omega) (by rw [← X.out]; exact HX.out)]; rfl, below_drewN HQ1.out.2 _⟩
            · have HX : Hid (within x 0 1000000 = true) := hw
              clear hw
              go_wp2_with fail
              refine (countOk_any x _).mono ?_
              rw [HX.out]
              rintro e w' ⟨rfl, rfl⟩
              go_wp2_with fail
              go_roundw
              case rel => exact ⟨k + 1, by omega, by go_num, by show _ = _; exact cnts_snoc (by have := LL.out; omega) A.out (by rw [← X.out]; exact HX.out), m, rfl⟩
              case measure => simp [intOf]; omega
          · have hlt' : ¬ (k : Int) < (len' : Int) := by omega
            have hA : Hid (cnts ns = true) := by
              have h := A.out
              rwa [List.take_of_length_le (by have := LL.out; omega)] at h
            go_wp2_with fail
            go_ret
            exact ⟨by rw [many_end HC.out LL.out.1 HW.out hA.out]; rfl, below_drewN HQ1.out.2 _⟩
    · have hne : ((len' : Int) != (len : Int)) = true := by simp; omega
      rw [many_len (by omega)]
      clear hc
      go_enter Tryz.func228, Tryz.ntmps228
      go_wp2_with fail
      refine (implFits a len cap ps t _ HI.out hsz).mono ?_
      rw [HC.out]
      rintro e w1 ⟨rfl, B1⟩
      have Q1 := HQ.out.all B1
      have r0 := Q1.c0
      have r1 := Q1.c1
      have HB1 : Hid (Below w.heap.size w w1) := below_call HB.out HB.out.size B1
      clear B1 Q1
      go_wp2_with fail
      go_ret
      exact ⟨rfl, HB1.out⟩

/-- spec.ManyOk. -/
theorem specManyX (a : Option Addr) (len cap : Nat) (ps : List Shr) (a' : Option Addr) (len' cap' : Nat) (ns : List Int) (t p : Int) (w : World) (I : Shs w a len ps) (J : Ints w a' len' ns) (hsz : (len : Int) ≤ 1048576) :
    Calls Tryz.prog 113 #[mv (.slice a len cap) (.slice a' len' cap') t p] w fun e w' => e = .returned (.bool (manyOk ps ns t p)) ∧ Below w.heap.size w w' := by
  have HI : Hid (Shs (w.alloc (.cells (mc (.slice a len cap) (.slice a' len' cap') t p) 34)) a len ps) := I.alloc _
  have HJ : Hid (Ints (w.alloc (.cells (mc (.slice a len cap) (.slice a' len' cap') t p) 34)) a' len' ns) := J.alloc _
  have HQ : Hid (Mny (w.alloc (.cells (mc (.slice a len cap) (.slice a' len' cap') t p) 34)) w.heap.size (.slice a len cap) (.slice a' len' cap') t p) := mny_new _ _ _ _ _
  have HB : Hid (Below w.heap.size w (w.alloc (.cells (mc (.slice a len cap) (.slice a' len' cap') t p) 34))) := below_new _ _
  have hl := I.1
  have hl' := J.1
  clear I J
  cases hc : fitsOn ps t
  · have HC : Hid (fitsOn ps t = false) := hc
    rw [many_fits hc]
    clear hc
    go_enter Tryz.func113, Tryz.ntmps113
    go_wp2_with fail
    refine (specFits a len cap ps t _ HI.out hsz).mono ?_
    rw [HC.out]
    rintro e w1 ⟨rfl, B1⟩
    go_wp2_with fail
    go_ret
    exact ⟨rfl, below_call HB.out HB.out.size B1⟩
  · have HC : Hid (fitsOn ps t = true) := hc
    have hs24 : (len : Int) ≤ 24 := by have := fits_len hc; omega
    by_cases hll : len' = len
    · have hne : ((len' : Int) != (len : Int)) = false := by simp [hll]
      have hs24' : (len' : Int) ≤ 24 := by omega
      cases hw : within p 0 1000000
      · rw [many_now hw]
        have HW : Hid (within p 0 1000000 = false) := hw
        clear hc hw hll
        go_enter Tryz.func113, Tryz.ntmps113
        go_wp2_with fail
        refine (specFits a len cap ps t _ HI.out hsz).mono ?_
        rw [HC.out]
        rintro e w1 ⟨rfl, B1⟩
        have Q1 := HQ.out.all B1
        have r0 := Q1.c0
        have r1 := Q1.c1
        have r3 := Q1.c3
        have HB1 : Hid (Below w.heap.size w w1) := below_call HB.out HB.out.size B1
        clear B1 Q1
        go_wp2_with fail
        refine (in_any p 0 1000000 _).mono ?_
        rw [HW.out]
        rintro e w' ⟨rfl, rfl⟩
        go_wp2_with fail
        go_ret
        exact ⟨rfl, HB1.out⟩
      · have HW : Hid (within p 0 1000000 = true) := hw
        have LL : Hid (ns.length = ps.length ∧ ns.length = len' ∧ ps.length = len ∧ len' = len) := ⟨by omega, by omega, by omega, hll⟩
        clear hc hl hl' hll hw
        go_enter Tryz.func113, Tryz.ntmps113
        go_wp2_with fail
        refine (specFits a len cap ps t _ HI.out hsz).mono ?_
        rw [HC.out]
        rintro e w1 ⟨rfl, B1⟩
        have Q1 := HQ.out.all B1
        have r0 := Q1.c0
        have r1 := Q1.c1
        have r3 := Q1.c3
        have HQ1 : Hid (Ints w1 a' len' ns ∧ Below w.heap.size w w1) := ⟨HJ.out.kept B1, below_call HB.out HB.out.size B1⟩
        clear B1 Q1 HI HJ HQ HB
        go_wp2_with fail
        refine (in_any p 0 1000000 _).mono ?_
        rw [HW.out]
        rintro e wq ⟨rfl, rfl⟩
        go_wp2_with fail
        go_loopw [3] (fun i wr => ∃ k : Nat, k ≤ len' ∧ i = .int .i64 k ∧ Hid (cnts (ns.take k) = true) ∧ Hid (∃ m, wr = wq.drewN m)) (fun i _ => len' - (intOf i).toNat)
        case atStart => exact ⟨0, Nat.zero_le _, rfl, by show _ = _; simp [cnts], 0, rfl⟩
        case round =>
          obtain ⟨k, hk, rfl, A, Q⟩ := hrel
          obtain ⟨m, rfl⟩ := Q.out
          by_cases hlt : k < len'
          · obtain ⟨_, h0 | ⟨b', off', rfl, hb', hcc'⟩⟩ := id HQ1.out.1
            · omega
            obtain ⟨x, hx⟩ : ∃ x, x = ns.getD k 0 := ⟨_, rfl⟩
            have c1 := hcc' k hlt
            rw [← hx] at c1
            have X : Hid (x = ns.getD k 0) := hx
            have hlt' : (k : Int) < (len' : Int) := by omega
            clear hcc' hx
            cases hw : within x 0 1000000
            · have HX : Hid (within x 0 1000000 = false) := hw
              clear hw
              go_wp2_with fail
              refine (in_any x 0 1000000 _).mono ?_
              rw [HX.out]
              rintro e w' ⟨rfl, rfl⟩
              go_wp2_with fail
              go_ret
              exact ⟨by rw [many_no (k := k) (by have := LL.out; omega) (by rw [← X.out]; exact HX.out)]; rfl, below_drewN HQ1.out.2 _⟩
            · have HX : Hid (within x 0 1000000 = true) := hw
              clear hw
              go_wp2_with fail
              refine (in_any x 0 1000000 _).mono ?_
              rw [HX.out]
              rintro e w' ⟨rfl, rfl⟩
              go_wp2_with fail
              go_roundw
              case rel => exact ⟨k + 1, by omega, by go_num, by show _ = _; exact cnts_snoc (by have := LL.out; omega) A.out (by rw [← X.out]; exact HX.out), m, rfl⟩
              case measure => simp [intOf]; omega
          · have hlt' : ¬ (k : Int) < (len' : Int) := by omega
            have hA : Hid (cnts ns = true) := by
              have h := A.out
              rwa [List.take_of_length_le (by have := LL.out; omega)] at h
            go_wp2_with fail
            go_ret
            exact ⟨by rw [many_end HC.out LL.out.1 HW.out hA.out]; rfl, below_drewN HQ1.out.2 _⟩
    · have hne : ((len' : Int) != (len : Int)) = true := by simp; omega
      rw [many_len (by omega)]
      clear hc
      go_enter Tryz.func113, Tryz.ntmps113
      go_wp2_with fail
      refine (specFits a len cap ps t _ HI.out hsz).mono ?_
      rw [HC.out]
      rintro e w1 ⟨rfl, B1⟩
      have Q1 := HQ.out.all B1
      have r0 := Q1.c0
      have r1 := Q1.c1
      have HB1 : Hid (Below w.heap.size w w1) := below_call HB.out HB.out.size B1
      clear B1 Q1
      go_wp2_with fail
      go_ret
      exact ⟨rfl, HB1.out⟩

end Go.Proofs.YtcmeimfjedakeaaGreat.Crew

namespace Go.Proofs.YtcmeimfjedakeaaGreat.Crew
open Go.ChangeShapes Go.WideShapes Go.ChangeAt Go.RowKit

theorem fits_each {ps : List Shr} {q : Int} (h : fitsOn ps q = true) {k : Nat} (hk : k < ps.length) : Win.shareOk (ps.getD k (0, 0)).1 (ps.getD k (0, 0)).2 = true := by
  cases hs : Win.shareOk (ps.getD k (0, 0)).1 (ps.getD k (0, 0)).2
  · exfalso
    have hn : parts ps = none := by
      refine parts_dead (k := k + 1) ?_
      rw [parts_step hk]
      cases hp : parts (ps.take k) with
      | none => rfl
      | some q => exact step_bad hs
    rw [fits_none hn] at h
    cases h
  · rfl

/-- Whether i is one of them, in a Many that is right. -/
def lagIn (ps : List Shr) (ns : List Int) (t p i : Int) : Bool := manyOk ps ns t p && within i 0 ((ps.length : Int) - 1)

def manyLag (ps : List Shr) (ns : List Int) (t p i : Int) : Int :=
  if lagIn ps ns t p i then (ps.getD i.toNat (0, 0)).1 * p - (ps.getD i.toNat (0, 0)).2 * ns.getD i.toNat 0 else 0

theorem lag_no {ps : List Shr} {ns : List Int} {t p i : Int} (h : lagIn ps ns t p i = false) : manyLag ps ns t p i = 0 := by rw [manyLag, h]; rfl

theorem lag_yes {ps : List Shr} {ns : List Int} {t p i : Int} (h : lagIn ps ns t p i = true) : manyLag ps ns t p i = (ps.getD i.toNat (0, 0)).1 * p - (ps.getD i.toNat (0, 0)).2 * ns.getD i.toNat 0 := by rw [manyLag, h]; rfl

theorem share_mul {x d : Int} (hx : 1 ≤ x) (hd : x ≤ 100000000) (h0 : 0 ≤ d) (h1 : d ≤ 1000000) : 0 ≤ x * d ∧ x * d ≤ 100000000000000 := by
  refine ⟨Int.mul_nonneg (by omega) h0, ?_⟩
  have h2 : x * d ≤ 100000000 * 1000000 := Int.mul_le_mul hd h1 h0 (by omega)
  omega

end Go.Proofs.YtcmeimfjedakeaaGreat.Crew
