/-
  A walk down the list: its block, and what its small methods do.
-/
import Derived.Test.YtlicjbnagapdeaaListAns
import Derived.Test.YtlicjbnagapdeaaKin
import Derived.BigRegion
namespace Go.Proofs.Ytlicjbnagapdeaa.Crew
open Go.ChangeShapes Go.WideShapes Go.ChangeAt Go.RowKit

/-- Block b holds the walk. -/
def Wlk (w : World) (b : Nat) (cr hd : Value) (tot tur : Int) (od : Value) (pos : Int) : Prop := w.heap[b]? = some (.cells #[cr, hd, .int .i64 tot, .int .i64 tur, od, .int .i64 pos] 65 (0, 0))

theorem Wlk.lt {w : World} {b : Nat} {cr hd od : Value} {tot tur pos : Int} (h : Wlk w b cr hd tot tur od pos) : b < w.heap.size := (Array.getElem?_eq_some_iff.1 h).1

theorem Wlk.c0 {w : World} {b : Nat} {cr hd od : Value} {tot tur pos : Int} (h : Wlk w b cr hd tot tur od pos) : w.cell? ⟨b, 0, none⟩ = some cr := cell_pair h 0

theorem Wlk.c1 {w : World} {b : Nat} {cr hd od : Value} {tot tur pos : Int} (h : Wlk w b cr hd tot tur od pos) : w.cell? ⟨b, 1, none⟩ = some hd := cell_pair h 1

theorem Wlk.c2 {w : World} {b : Nat} {cr hd od : Value} {tot tur pos : Int} (h : Wlk w b cr hd tot tur od pos) : w.cell? ⟨b, 2, none⟩ = some (.int .i64 tot) := cell_pair h 2

theorem Wlk.c3 {w : World} {b : Nat} {cr hd od : Value} {tot tur pos : Int} (h : Wlk w b cr hd tot tur od pos) : w.cell? ⟨b, 3, none⟩ = some (.int .i64 tur) := cell_pair h 3

theorem Wlk.c4 {w : World} {b : Nat} {cr hd od : Value} {tot tur pos : Int} (h : Wlk w b cr hd tot tur od pos) : w.cell? ⟨b, 4, none⟩ = some od := cell_pair h 4

theorem Wlk.c5 {w : World} {b : Nat} {cr hd od : Value} {tot tur pos : Int} (h : Wlk w b cr hd tot tur od pos) : w.cell? ⟨b, 5, none⟩ = some (.int .i64 pos) := cell_pair h 5

theorem Wlk.fr {w : World} {b : Nat} {cr hd od : Value} {tot tur pos : Int} (h : Wlk w b cr hd tot tur od pos) (j : Nat) : w.frozen? ⟨b, j, none⟩ = false := frozen_of_row w b j _ _ h

theorem Wlk.same {w w' : World} {b : Nat} {cr hd od : Value} {tot tur pos : Int} (h : Wlk w b cr hd tot tur od pos) (e : w'.heap[b]? = w.heap[b]?) : Wlk w' b cr hd tot tur od pos := by
  unfold Wlk
  rw [e]
  exact h

theorem Wlk.all {w w' : World} {b : Nat} {cr hd od : Value} {tot tur pos : Int} (h : Wlk w b cr hd tot tur od pos) (k : Below w.heap.size w w') : Wlk w' b cr hd tot tur od pos := h.same (k.block b h.lt)

theorem Wlk.past {w : World} {b b' j : Nat} {cr hd od : Value} {tot tur pos : Int} (h : Wlk w b cr hd tot tur od pos) (hb : b ≠ b') (v : Value) : Wlk (w.setCell ⟨b', j, none⟩ v) b cr hd tot tur od pos := h.same ((grown_at w b' j v).block b h.lt (by simpa using hb))

theorem Wlk.set1 {w : World} {b : Nat} {cr hd od : Value} {tot tur pos : Int} (h : Wlk w b cr hd tot tur od pos) (v : Value) : Wlk (w.setCell ⟨b, 1, none⟩ v) b cr v tot tur od pos := heap_setCell_same w b 1 _ _ _ h

theorem Wlk.set3 {w : World} {b : Nat} {cr hd od : Value} {tot tur pos : Int} (h : Wlk w b cr hd tot tur od pos) (n : Int) : Wlk (w.setCell ⟨b, 3, none⟩ (.int .i64 n)) b cr hd tot n od pos := heap_setCell_same w b 3 _ _ _ h

theorem Wlk.set5 {w : World} {b : Nat} {cr hd od : Value} {tot tur pos : Int} (h : Wlk w b cr hd tot tur od pos) (n : Int) : Wlk (w.setCell ⟨b, 5, none⟩ (.int .i64 n)) b cr hd tot tur od n := heap_setCell_same w b 5 _ _ _ h

theorem wlk_new (w : World) (cr hd od : Value) (tot tur pos : Int) : Wlk (w.alloc (.cells #[cr, hd, .int .i64 tot, .int .i64 tur, od, .int .i64 pos] 65)) w.heap.size cr hd tot tur od pos := heap_alloc_new w _

/-- Where a walk's parts lie. -/
structure Wl where
  b : Nat
  gC : Nat
  gH : Nat
  gO : Nat
  cO : Nat
  n : Nat

/-- A walk down the list of cs, at s: all of it lies in blocks of the call's own, which began at w0. -/
structure Wk (w0 w : World) (l : Wl) (cs : List Int) (s : Ls) : Prop where
  bel : Below w0.heap.size w0 w
  wlk : Wlk w l.b (.slice (some ⟨l.gC, 0, none⟩) l.n l.n) (.slice (some ⟨l.gH, 0, none⟩) l.n l.n) (sumI cs) s.turns (.slice (some ⟨l.gO, 0, none⟩) l.n l.cO) s.pos
  crew : Row w l.gC l.n cs
  had : Row w l.gH l.n s.had
  ord : Row w l.gO l.cO (byW cs cs.length)
  len : cs.length = l.n
  lob : w0.heap.size ≤ l.b
  loC : w0.heap.size ≤ l.gC
  loH : w0.heap.size ≤ l.gH
  bC : l.b ≠ l.gC
  bH : l.b ≠ l.gH
  bO : l.b ≠ l.gO
  CH : l.gC ≠ l.gH
  HO : l.gH ≠ l.gO

theorem Wk.all {w0 w w' : World} {l : Wl} {cs : List Int} {s : Ls} (h : Wk w0 w l cs s) (k : Below w.heap.size w w') : Wk w0 w' l cs s :=
  ⟨below_call h.bel h.bel.size k, h.wlk.all k, h.crew.all k, h.had.all k, h.ord.all k, h.len, h.lob, h.loC, h.loH, h.bC, h.bH, h.bO, h.CH, h.HO⟩

theorem Wk.drewN {w0 w : World} {l : Wl} {cs : List Int} {s : Ls} (h : Wk w0 w l cs s) (n : Nat) : Wk w0 (w.drewN n) l cs s := h.all (below_drewN (Below.refl _ _) n)

/-- Elsewhere it stands. -/
theorem Wk.go {w0 w : World} {l : Wl} {cs : List Int} {s : Ls} (h : Wk w0 w l cs s) (n : Nat) : Wk w0 (w.setCell ⟨l.b, 5, none⟩ (.int .i64 (n : Int))) l cs ⟨s.had, s.turns, n⟩ :=
  ⟨below_set h.bel h.lob _, h.wlk.set5 _, h.crew.past (Ne.symm h.bC) _, h.had.past (Ne.symm h.bH) _, h.ord.past (Ne.symm h.bO) _, h.len, h.lob, h.loC, h.loH, h.bC, h.bH, h.bO, h.CH, h.HO⟩

/-- A turn is given. -/
theorem Wk.give {w0 w : World} {l : Wl} {cs : List Int} {s : Ls} (h : Wk w0 w l cs s) (j : Nat) (v t : Int) : Wk w0 ((w.setCell ⟨l.gH, j, none⟩ (.int .i64 v)).setCell ⟨l.b, 3, none⟩ (.int .i64 t)) l cs ⟨s.had.set j v, t, s.pos⟩ :=
  ⟨below_set (below_set h.bel h.loH _) h.lob _, (h.wlk.past h.bH _).set3 _, (h.crew.past h.CH _).past (Ne.symm h.bC) _, (h.had.set j v).past (Ne.symm h.bH) _, (h.ord.past (Ne.symm h.HO) _).past (Ne.symm h.bO) _, h.len, h.lob, h.loC, h.loH, h.bC, h.bH, h.bO, h.CH, h.HO⟩

/-- A cycle begins. -/
theorem Wk.begun {w0 w : World} {l : Wl} {cs : List Int} {s : Ls} (h : Wk w0 w l cs s) (hn : (l.n : Int) ≤ 1048576) :
    Wk w0 (((w.setCell ⟨l.b, 1, none⟩ (.slice (some ⟨w.heap.size, 0, none⟩) l.n l.n)).setCell ⟨l.b, 3, none⟩ (.int .i64 0)).alloc (.cells (zeros l.n) 2)) ⟨l.b, l.gC, w.heap.size, l.gO, l.cO, l.n⟩ cs ⟨List.replicate cs.length 0, 0, s.pos⟩ := by
  have Z := row_zeros_at (X := (w.setCell ⟨l.b, 1, none⟩ (.slice (some ⟨w.heap.size, 0, none⟩) l.n l.n)).setCell ⟨l.b, 3, none⟩ (.int .i64 0)) (s := w.heap.size) (by simp) l.n hn
  have lb := h.wlk.lt
  have lC := h.crew.lt
  have lO := h.ord.lt
  refine ⟨(below_set (below_set h.bel h.lob _) h.lob _).alloc (by simp; exact h.bel.size) _, ((h.wlk.set1 _).set3 _).all (below_new _ _), ((h.crew.past (Ne.symm h.bC) _).past (Ne.symm h.bC) _).alloc _, ?_, ((h.ord.past (Ne.symm h.bO) _).past (Ne.symm h.bO) _).alloc _, h.len, h.lob, h.loC, h.bel.size, h.bC, Nat.ne_of_lt lb, h.bO, Nat.ne_of_lt lC, Nat.ne_of_gt lO⟩
  show Row _ w.heap.size l.n (List.replicate cs.length 0)
  rw [h.len]
  exact Z

/-- From w to w' nothing was written but the walk's two blocks, and new ones. -/
structure Mine (b g : Nat) (w w' : World) : Prop where
  size : w.heap.size ≤ w'.heap.size
  block : ∀ i, i < w.heap.size → i ≠ b → i ≠ g → w'.heap[i]? = w.heap[i]?

theorem mine_below {b g : Nat} {w w' : World} (h : Below w.heap.size w w') : Mine b g w w' := ⟨h.size, fun i hi _ _ => h.block i hi⟩

theorem Mine.trans {b g : Nat} {w w1 w2 : World} (h : Mine b g w w1) (k : Mine b g w1 w2) : Mine b g w w2 :=
  ⟨Nat.le_trans h.size k.size, fun i hi h1 h2 => (k.block i (Nat.lt_of_lt_of_le hi h.size) h1 h2).trans (h.block i hi h1 h2)⟩

theorem mine_b {b g j : Nat} {w : World} (v : Value) : Mine b g w (w.setCell ⟨b, j, none⟩ v) := by
  have h := grown_at w b j v
  exact ⟨h.size, fun i hi hb _ => h.block i hi (by simpa using hb)⟩

theorem mine_g {b g j : Nat} {w : World} (v : Value) : Mine b g w (w.setCell ⟨g, j, none⟩ v) := by
  have h := grown_at w g j v
  exact ⟨h.size, fun i hi _ hg => h.block i hi (by simpa using hg)⟩

/-- What lay behind w is written anew, too. -/
theorem Mine.new {b g : Nat} {w w1 w2 : World} (h : Mine b g w w1) (k : Mine b w.heap.size w1 w2) : Mine b g w w2 :=
  ⟨Nat.le_trans h.size k.size, fun i hi h1 h2 => (k.block i (Nat.lt_of_lt_of_le hi h.size) h1 (Nat.ne_of_lt hi)).trans (h.block i hi h1 h2)⟩

theorem Row.mine {w w' : World} {g cap b h : Nat} {xs : List Int} (R : Row w g cap xs) (k : Mine b h w w') (h1 : g ≠ b) (h2 : g ≠ h) : Row w' g cap xs := by
  have hl := R.lt
  obtain ⟨cur, hh, r⟩ := R
  exact ⟨cur, by rw [k.block g hl h1 h2]; exact hh, r⟩

/-- impl's cycle: is it over. -/
theorem isOver_at (w0 : World) (l : Wl) (cs : List Int) (s : Ls) (w : World) (K : Wk w0 w l cs s) :
    Calls Try.prog 61 #[.pointer (some ⟨l.b, 0, none⟩)] w fun e w' => e = .returned (.bool (decide (s.turns = sumI cs))) ∧ ∃ m, w' = w.drewN m := by
  have c2 := K.wlk.c2
  have c3 := K.wlk.c3
  clear K
  generalize sumI cs = t at *
  generalize s.turns = u at *
  go_enter Try.func61, Try.ntmps61
  go_wp2_with fail
  go_quiet (fail)
  go_wp2_with fail
  go_ret
  exact ⟨by simp [BEq.beq], _, rfl⟩

/-- impl's cycle: what is left of one. -/
theorem left_at (w0 : World) (l : Wl) (cs : List Int) (s : Ls) (w : World) (K : Wk w0 w l cs s) (R : Right cs s) (i : Nat) (hi : i < l.n) :
    Calls Try.prog 46 #[.pointer (some ⟨l.b, 0, none⟩), .int .i64 i] w fun e w' => e = .returned (.int .i64 (lef cs s.had i)) ∧ ∃ m, w' = w.drewN m := by
  have c0 := K.wlk.c0
  have c1 := K.wlk.c1
  have hl := K.len
  have hl' := R.len
  have h24 := (crew_len R.crew).2
  have d0 := K.crew.cell (j := i) (by omega)
  have d1 := K.had.cell (j := i) (by omega)
  have b0 := crew_get R.crew i
  have b1 := R.had i (by omega)
  unfold lef
  generalize cs.getD i 0 = x at *
  generalize s.had.getD i 0 = y at *
  have hi' : (i : Int) < (l.n : Int) := by omega
  clear K R hl hl' hi h24
  generalize l.n = n at *
  generalize l.gC = gC at *
  generalize l.gH = gH at *
  generalize l.b = b at *
  go_enter Try.func46, Try.ntmps46
  go_wp2_with fail
  go_quiet (fail)
  go_wp2_with fail
  go_ret
  exact ⟨rfl, _, rfl⟩

theorem mul_small {x y : Int} (h0 : 0 ≤ x) (h1 : x ≤ 1000000) (h2 : 0 ≤ y) (h3 : y ≤ 24000001) : 0 ≤ x * y ∧ x * y ≤ 24000001000000 := by
  refine ⟨Int.mul_nonneg h0 h2, ?_⟩
  have h4 := Int.mul_le_mul h1 h3 h2 (by omega)
  omega

/-- impl's cycle: is one behind, a turn ahead. -/
theorem isBehind_at (w0 : World) (l : Wl) (cs : List Int) (s : Ls) (w : World) (K : Wk w0 w l cs s) (R : Right cs s) (i : Nat) (hi : i < l.n) :
    Calls Try.prog 73 #[.pointer (some ⟨l.b, 0, none⟩), .int .i64 i] w fun e w' => e = .returned (.bool (decide (s.had.getD i 0 * sumI cs < (s.turns + 1) * cs.getD i 0))) ∧ ∃ m, w' = w.drewN m := by
  have c0 := K.wlk.c0
  have c1 := K.wlk.c1
  have c2 := K.wlk.c2
  have c3 := K.wlk.c3
  have hl := K.len
  have hl' := R.len
  have h24 := (crew_len R.crew).2
  have d0 := K.crew.cell (j := i) (by omega)
  have d1 := K.had.cell (j := i) (by omega)
  have b0 := crew_get R.crew i
  have b1 := R.had i (by omega)
  have b2 := R.bounds
  generalize cs.getD i 0 = x at *
  generalize s.had.getD i 0 = y at *
  generalize sumI cs = t at *
  generalize s.turns = u at *
  have m1 := mul_small (x := y) (y := t) b1.1 (by omega) (by omega) (by omega)
  have m2 := mul_small (x := x) (y := u + 1) b0.1 b0.2 (by omega) (by omega)
  rw [Int.mul_comm x] at m2
  have hi' : (i : Int) < (l.n : Int) := by omega
  clear K R hl hl' hi h24
  generalize l.n = n at *
  generalize l.gC = gC at *
  generalize l.gH = gH at *
  generalize l.b = b at *
  go_enter Try.func73, Try.ntmps73
  go_wp2_with fail
  go_quiet (fail)
  go_wp2_with fail
  go_ret
  exact ⟨rfl, _, rfl⟩

/-- impl's cycle: it begins. -/
theorem begin_at (w0 : World) (l : Wl) (cs : List Int) (s : Ls) (w : World) (K : Wk w0 w l cs s) (hn : (l.n : Int) ≤ 1048576) :
    Calls Try.prog 62 #[.pointer (some ⟨l.b, 0, none⟩)] w fun e w' => e = .returned (.tuple #[]) ∧ Wk w0 w' ⟨l.b, l.gC, w.heap.size, l.gO, l.cO, l.n⟩ cs ⟨List.replicate cs.length 0, 0, s.pos⟩ ∧ Mine l.b l.gH w w' := by
  have c0 := K.wlk.c0
  have c1 := K.wlk.c1
  have c3 := K.wlk.c3
  have f1 := K.wlk.fr 1
  have f3 := K.wlk.fr 3
  have lb := K.wlk.lt
  have hm := made_ints l.n hn w
  have H : Hid (Wk w0 (((w.setCell ⟨l.b, 1, none⟩ (.slice (some ⟨w.heap.size, 0, none⟩) l.n l.n)).setCell ⟨l.b, 3, none⟩ (.int .i64 0)).alloc (.cells (zeros l.n) 2)) ⟨l.b, l.gC, w.heap.size, l.gO, l.cO, l.n⟩ cs ⟨List.replicate cs.length 0, 0, s.pos⟩ ∧ Mine l.b l.gH w (((w.setCell ⟨l.b, 1, none⟩ (.slice (some ⟨w.heap.size, 0, none⟩) l.n l.n)).setCell ⟨l.b, 3, none⟩ (.int .i64 0)).alloc (.cells (zeros l.n) 2))) :=
    ⟨K.begun hn, ((mine_b _).trans (mine_b _)).trans (mine_below (below_new _ _))⟩
  clear K
  generalize l.n = n at *
  generalize l.gC = gC at *
  generalize l.gH = gH at *
  generalize l.b = b at *
  generalize s.turns = u at *
  go_enter Try.func62, Try.ntmps62
  go_wp2_with fail
  go_end0
  exact ⟨rfl, H.out⟩

/-- impl's cycle: one has a turn. -/
theorem giveTurn_at (w0 : World) (l : Wl) (cs : List Int) (s : Ls) (w : World) (K : Wk w0 w l cs s) (R : Right cs s) (i : Nat) (hi : i < l.n) :
    Calls Try.prog 63 #[.pointer (some ⟨l.b, 0, none⟩), .int .i64 i] w fun e w' => e = .returned (.tuple #[]) ∧ Wk w0 w' l cs ⟨s.had.set i (s.had.getD i 0 + 1), s.turns + 1, s.pos⟩ ∧ Mine l.b l.gH w w' := by
  have c1 := K.wlk.c1
  have c3 := K.wlk.c3
  have f3 := K.wlk.fr 3
  have hl := K.len
  have hl' := R.len
  have h24 := (crew_len R.crew).2
  have d1 := K.had.cell (j := i) (by omega)
  have e1 := K.had.frozen i
  have b0 := crew_get R.crew i
  have b1 := R.had i (by omega)
  have b2 := R.bounds
  have hne := K.bH
  have H : Hid (Wk w0 ((w.setCell ⟨l.gH, i, none⟩ (.int .i64 (s.had.getD i 0 + 1))).setCell ⟨l.b, 3, none⟩ (.int .i64 (s.turns + 1))) l cs ⟨s.had.set i (s.had.getD i 0 + 1), s.turns + 1, s.pos⟩ ∧ Mine l.b l.gH w ((w.setCell ⟨l.gH, i, none⟩ (.int .i64 (s.had.getD i 0 + 1))).setCell ⟨l.b, 3, none⟩ (.int .i64 (s.turns + 1)))) :=
    ⟨K.give i _ _, (mine_g _).trans (mine_b _)⟩
  have hi' : (i : Int) < (l.n : Int) := by omega
  have d3 : (w.setCell ⟨l.gH, i, none⟩ (.int .i64 (s.had.getD i 0 + 1))).cell? ⟨l.b, 3, none⟩ = some (.int .i64 s.turns) := (K.wlk.past K.bH _).c3
  have d4 : (w.setCell ⟨l.gH, i, none⟩ (.int .i64 (s.had.getD i 0 + 1))).frozen? ⟨l.b, 3, none⟩ = false := (K.wlk.past K.bH _).fr 3
  clear K R hl hl' hi h24
  generalize s.had.getD i 0 = y at *
  generalize s.turns = u at *
  generalize l.n = n at *
  generalize l.gH = gH at *
  generalize l.b = b at *
  have hne2 : ¬ gH = b := Ne.symm hne
  go_enter Try.func63, Try.ntmps63
  go_wp2_with fail
  go_end0
  exact ⟨rfl, H.out⟩

end Go.Proofs.Ytlicjbnagapdeaa.Crew
