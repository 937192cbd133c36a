/-
  impl's ranks: what a turn goes by, falling through from its chain to its overlap to when it is due.
-/
import Derived.Test.YtjhenfdmbagaiaaGreatChainImpl
import Derived.Test.YtjhenfdmbagaiaaGreatRankMath
import Derived.Test.YtjhenfdmbagaiaaGreatDrawBase
namespace Go.Proofs.YtjhenfdmbagaiaaGreat.Win
open Go.ChangeShapes Go.WideShapes Go.ChangeAt Go.RowKit Go.Proofs.YtjhenfdmbagaiaaGreat.Crew

/-- A rank as a value. -/
abbrev rk (a : Int) (o : Bool) (c : Int) : Value := .agg #[.int .i64 a, .bool o, .int .i64 c]

/-- A rank in block b. -/
def Rnk (w : World) (b : Nat) (a : Int) (o : Bool) (c : Int) : Prop := w.heap[b]? = some (.cells #[.int .i64 a, .bool o, .int .i64 c] 106 (0, 0))

theorem Rnk.c0 {w : World} {b : Nat} {a : Int} {o : Bool} {c : Int} (h : Rnk w b a o c) : w.cell? ⟨b, 0, none⟩ = some (.int .i64 a) := Draw.cell_blk h 0
theorem Rnk.c1 {w : World} {b : Nat} {a : Int} {o : Bool} {c : Int} (h : Rnk w b a o c) : w.cell? ⟨b, 1, none⟩ = some (.bool o) := Draw.cell_blk h 1
theorem Rnk.c2 {w : World} {b : Nat} {a : Int} {o : Bool} {c : Int} (h : Rnk w b a o c) : w.cell? ⟨b, 2, none⟩ = some (.int .i64 c) := Draw.cell_blk h 2
theorem Rnk.fr {w : World} {b : Nat} {a : Int} {o : Bool} {c : Int} (h : Rnk w b a o c) (j : Nat) : w.frozen? ⟨b, j, none⟩ = false := frozen_of_row w b j _ _ h
theorem Rnk.lt {w : World} {b : Nat} {a : Int} {o : Bool} {c : Int} (h : Rnk w b a o c) : b < w.heap.size := (Array.getElem?_eq_some_iff.1 h).1

theorem rnk_new (w : World) (a : Int) (o : Bool) (c : Int) : Rnk (w.alloc (.cells #[.int .i64 a, .bool o, .int .i64 c] 106)) w.heap.size a o c := heap_alloc_new w _

theorem Rnk.kept {w w' : World} {B b : Nat} {a : Int} {o : Bool} {c : Int} (h : Rnk w b a o c) (k : Below B w w') (hb : b < B) : Rnk w' b a o c := by
  unfold Rnk
  rw [k.block b hb]
  exact h

theorem Rnk.set0 {w : World} {b : Nat} {a : Int} {o : Bool} {c : Int} (h : Rnk w b a o c) (v : Int) : Rnk (w.setCell ⟨b, 0, none⟩ (.int .i64 v)) b v o c := heap_setCell_same w b 0 _ _ _ h
theorem Rnk.set1 {w : World} {b : Nat} {a : Int} {o : Bool} {c : Int} (h : Rnk w b a o c) (v : Bool) : Rnk (w.setCell ⟨b, 1, none⟩ (.bool v)) b a v c := heap_setCell_same w b 1 _ _ _ h
theorem Rnk.set2 {w : World} {b : Nat} {a : Int} {o : Bool} {c : Int} (h : Rnk w b a o c) (v : Int) : Rnk (w.setCell ⟨b, 2, none⟩ (.int .i64 v)) b a o v := heap_setCell_same w b 2 _ _ _ h

theorem info_rank : (Tryz.prog.info? 106).map (·.size) = some 3 := by kernel_rfl

theorem ret_rank {fn : Func} {q : Tmp} (h : fn.results = #[.cell q 106]) {tmps : Array Value} {w : World} {g : Nat} {a : Int} {o : Bool} {c : Int} (hp : tmps.getD q undef = .pointer (some ⟨g, 0, none⟩)) (S : Rnk w g a o c) : (results fn tmps).run Tryz.prog w = .ok (rk a o c) w :=
  results_cell_row h tmps w g _ _ _ _ hp S Tryz.underlying106 rfl info_rank

/-- What is known while a rank is made: the window in block q, the rank that is answered behind it, the one that is filled behind that. -/
structure Rw (w0 w : World) (g : Nat) (n d j : Int) (a : Int) (o : Bool) (c : Int) : Prop where
  win : Win w w0.heap.size g j
  box : Box w g n d
  res : Rnk w (w0.heap.size + 1) 0 false 0
  var : Rnk w (w0.heap.size + 2) a o c
  bel : Below w0.heap.size w0 w
  hg : g < w0.heap.size

theorem Rw.all {w0 w w' : World} {g : Nat} {n d j : Int} {a : Int} {o : Bool} {c : Int} (h : Rw w0 w g n d j a o c) (k : Below w.heap.size w w') : Rw w0 w' g n d j a o c :=
  ⟨h.win.kept k h.win.1, h.box.kept k h.box.1, h.res.kept k h.res.lt, h.var.kept k h.var.lt, h.bel.trans (k.mono h.bel.size), h.hg⟩

theorem Rw.set0 {w0 w : World} {g : Nat} {n d j : Int} {a : Int} {o : Bool} {c : Int} (h : Rw w0 w g n d j a o c) (v : Int) : Rw w0 (w.setCell ⟨w0.heap.size + 2, 0, none⟩ (.int .i64 v)) g n d j v o c :=
  have k := (Below.refl (w0.heap.size + 2) w).setCell (p := ⟨w0.heap.size + 2, 0, none⟩) (Nat.le_refl _) (.int .i64 v)
  have := h.hg
  ⟨h.win.kept k (by omega), h.box.kept k (by omega), h.res.kept k (by omega), h.var.set0 v, h.bel.trans (k.mono (by omega)), h.hg⟩

theorem Rw.set1 {w0 w : World} {g : Nat} {n d j : Int} {a : Int} {o : Bool} {c : Int} (h : Rw w0 w g n d j a o c) (v : Bool) : Rw w0 (w.setCell ⟨w0.heap.size + 2, 1, none⟩ (.bool v)) g n d j a v c :=
  have k := (Below.refl (w0.heap.size + 2) w).setCell (p := ⟨w0.heap.size + 2, 1, none⟩) (Nat.le_refl _) (.bool v)
  have := h.hg
  ⟨h.win.kept k (by omega), h.box.kept k (by omega), h.res.kept k (by omega), h.var.set1 v, h.bel.trans (k.mono (by omega)), h.hg⟩

theorem Rw.set2 {w0 w : World} {g : Nat} {n d j : Int} {a : Int} {o : Bool} {c : Int} (h : Rw w0 w g n d j a o c) (v : Int) : Rw w0 (w.setCell ⟨w0.heap.size + 2, 2, none⟩ (.int .i64 v)) g n d j a o v :=
  have k := (Below.refl (w0.heap.size + 2) w).setCell (p := ⟨w0.heap.size + 2, 2, none⟩) (Nat.le_refl _) (.int .i64 v)
  have := h.hg
  ⟨h.win.kept k (by omega), h.box.kept k (by omega), h.res.kept k (by omega), h.var.set2 v, h.bel.trans (k.mono (by omega)), h.hg⟩

theorem Rw.done {w0 w : World} {g : Nat} {n d j : Int} {a : Int} {o : Bool} {c : Int} (h : Rw w0 w g n d j a o c) (x y z : Value) : Below w0.heap.size w0 (((w.setCell ⟨w0.heap.size + 1, 0, none⟩ x).setCell ⟨w0.heap.size + 1, 1, none⟩ y).setCell ⟨w0.heap.size + 1, 2, none⟩ z) :=
  ((h.bel.setCell (Nat.le_succ _) _).setCell (Nat.le_succ _) _).setCell (Nat.le_succ _) _

theorem rw_new (w : World) (g : Nat) (n d j : Int) (B : Box w g n d) : Rw w (((w.alloc (.cells #[.pointer (some ⟨g, 0, none⟩), .int .i64 j] 101)).alloc (.cells #[.int .i64 0, .bool false, .int .i64 0] 106)).alloc (.cells #[.int .i64 0, .bool false, .int .i64 0] 106)) g n d j 0 false 0 := by
  have hg := B.1
  have k1 := (Below.refl (w.heap.size + 1) (w.alloc (.cells #[.pointer (some ⟨g, 0, none⟩), .int .i64 j] 101))).alloc (by simp) (.cells #[.int .i64 0, .bool false, .int .i64 0] 106)
  have k2 := k1.alloc (by simp) (.cells #[.int .i64 0, .bool false, .int .i64 0] 106)
  have W : Win (w.alloc (.cells #[.pointer (some ⟨g, 0, none⟩), .int .i64 j] 101)) w.heap.size g j := ⟨by simp, by rw [World.cell?_alloc_at _ _ _ _ rfl]; rfl, by rw [World.cell?_alloc_at _ _ _ _ rfl]; rfl⟩
  refine ⟨W.kept k2 (by omega), (B.alloc _).kept k2 (by omega), ?_, ?_, ?_, hg⟩
  · have h := rnk_new (w.alloc (.cells #[.pointer (some ⟨g, 0, none⟩), .int .i64 j] 101)) 0 false 0
    have e : (w.alloc (.cells #[.pointer (some ⟨g, 0, none⟩), .int .i64 j] 101)).heap.size = w.heap.size + 1 := by simp
    rw [e] at h
    exact h.kept ((Below.refl (w.heap.size + 2) _).alloc (by simp) _) (by omega)
  · have h := rnk_new ((w.alloc (.cells #[.pointer (some ⟨g, 0, none⟩), .int .i64 j] 101)).alloc (.cells #[.int .i64 0, .bool false, .int .i64 0] 106)) 0 false 0
    have e : ((w.alloc (.cells #[.pointer (some ⟨g, 0, none⟩), .int .i64 j] 101)).alloc (.cells #[.int .i64 0, .bool false, .int .i64 0] 106)).heap.size = w.heap.size + 2 := by simp
    rw [e] at h
    exact h
  · exact ((Below.refl _ w).alloc (Nat.le_refl _) _).trans (k2.mono (by omega))

theorem rank_at (n d j : Int) (g : Nat) (h : turnOk n d j = true) (w : World) (B : Box w g n d) :
    Calls Tryz.prog 81 #[.agg #[.pointer (some ⟨g, 0, none⟩), .int .i64 j]] w fun e w' => e = .returned (rk (dueV n d j) (overB n d j) (rankC n d j)) ∧ Below w.heap.size w w' := by
  have H : Hid (turnOk n d j = true) := h
  have R0 := hide (rw_new w g n d j B)
  have hg := B.1
  clear h B
  obtain ⟨p, hp⟩ : ∃ p, p = dueV n d j := ⟨_, rfl⟩
  rw [← hp]
  have DD : Hid (∀ w, Box w g n d → Calls Tryz.prog 96 #[.agg #[.pointer (some ⟨g, 0, none⟩), .int .i64 j]] w fun e w' => e = .returned (.int .i64 p) ∧ Below w.heap.size w w') := by
    intro w B
    have T := turn_yes H.out
    refine (due_at n d j g T.1 T.2.1 T.2.2.1 T.2.2.2.1 T.2.2.2.2 w B).mono ?_
    rintro e w' ⟨rfl, b⟩
    exact ⟨ret_i (by rw [hp, dueV_yes H.out]), b⟩
  clear hp
  cases ho : overB n d j
  · rw [rankC_no ho]
    go_enter Tryz.func81, Tryz.ntmps81
    go_wp2_with fail
    refine (over_at n d j g H.out _ R0.out.box).mono ?_
    rintro e w1 ⟨rfl, b1⟩
    rw [ho]
    have R1 := hide (R0.out.all b1)
    clear b1 R0
    obtain ⟨_, t0, t1⟩ := R1.out.win
    go_wp2_with fail
    refine (DD.out _ R1.out.box).mono ?_
    rintro e w2 ⟨rfl, b2⟩
    have R2 := hide (R1.out.all b2)
    clear b2 R1 t0 t1
    have v0 := R2.out.var.c0
    have v1 := R2.out.var.c1
    have v2 := R2.out.var.c2
    have f0 := R2.out.var.fr 0
    have R3 := hide (R2.out.set0 p)
    have r0 := R3.out.res.c0
    have r1 := R3.out.res.c1
    have r2 := R3.out.res.c2
    have e0 := R3.out.res.fr 0
    have e1 := R3.out.res.fr 1
    have e2 := R3.out.res.fr 2
    go_wp2_with fail
    exact bodyPost_ret (ret_rank rfl rfl (((R3.out.res.set0 _).set1 _).set2 _)) rfl ⟨rfl, R3.out.done _ _ _⟩
  · rw [rankC_yes ho]
    cases hh : heavyOk n d
    · rw [chainIn_no hh]
      go_enter Tryz.func81, Tryz.ntmps81
      go_wp2_with fail
      refine (over_at n d j g H.out _ R0.out.box).mono ?_
      rintro e w1 ⟨rfl, b1⟩
      rw [ho]
      have R1 := hide (R0.out.all b1)
      clear b1 R0
      obtain ⟨_, t0, t1⟩ := R1.out.win
      obtain ⟨_, s0, s1⟩ := R1.out.box
      go_wp2_with fail
      refine (implHeavy n d _).mono ?_
      rintro e w2 ⟨rfl, b2⟩
      rw [hh]
      have R2 := hide (R1.out.all b2)
      clear b2 R1 t0 t1 s0 s1
      obtain ⟨_, t0, t1⟩ := R2.out.win
      have v1 := R2.out.var.c1
      have f1 := R2.out.var.fr 1
      go_wp2_with fail
      have R3 := hide (R2.out.set1 true)
      refine (DD.out _ R3.out.box).mono ?_
      rintro e w4 ⟨rfl, b4⟩
      have R4 := hide (R3.out.all b4)
      clear b4 R3 R2 t0 t1 v1 f1
      have v0 := R4.out.var.c0
      have v1 := R4.out.var.c1
      have v2 := R4.out.var.c2
      have f0 := R4.out.var.fr 0
      have R5 := hide (R4.out.set0 p)
      have r0 := R5.out.res.c0
      have r1 := R5.out.res.c1
      have r2 := R5.out.res.c2
      have e0 := R5.out.res.fr 0
      have e1 := R5.out.res.fr 1
      have e2 := R5.out.res.fr 2
      go_wp2_with fail
      exact bodyPost_ret (ret_rank rfl rfl (((R5.out.res.set0 _).set1 _).set2 _)) rfl ⟨rfl, R5.out.done _ _ _⟩
    · obtain ⟨x, hx⟩ : ∃ x, x = chainIn n d j := ⟨_, rfl⟩
      rw [← hx]
      have CC : Hid (∀ w, Box w g n d → Calls Tryz.prog 95 #[.agg #[.pointer (some ⟨g, 0, none⟩), .int .i64 j]] w fun e w' => e = .returned (.int .i64 x) ∧ Below w.heap.size w w') := by
        rw [hx]
        exact fun w B => chain_at n d j H.out hh g w B
      clear hx
      go_enter Tryz.func81, Tryz.ntmps81
      go_wp2_with fail
      refine (over_at n d j g H.out _ R0.out.box).mono ?_
      rintro e w1 ⟨rfl, b1⟩
      rw [ho]
      have R1 := hide (R0.out.all b1)
      clear b1 R0
      obtain ⟨_, t0, t1⟩ := R1.out.win
      obtain ⟨_, s0, s1⟩ := R1.out.box
      go_wp2_with fail
      refine (implHeavy n d _).mono ?_
      rintro e w2 ⟨rfl, b2⟩
      rw [hh]
      have R2 := hide (R1.out.all b2)
      clear b2 R1 t0 t1 s0 s1
      obtain ⟨_, t0, t1⟩ := R2.out.win
      go_wp2_with fail
      refine (CC.out _ R2.out.box).mono ?_
      rintro e w3 ⟨rfl, b3⟩
      have R3 := hide (R2.out.all b3)
      clear b3 R2 t0 t1
      have v2 := R3.out.var.c2
      have f2 := R3.out.var.fr 2
      have R4 := hide (R3.out.set2 x)
      have v1 := R4.out.var.c1
      have f1 := R4.out.var.fr 1
      have R5 := hide (R4.out.set1 true)
      obtain ⟨_, t0, t1⟩ := R5.out.win
      go_wp2_with fail
      refine (DD.out _ R5.out.box).mono ?_
      rintro e w6 ⟨rfl, b6⟩
      have R6 := hide (R5.out.all b6)
      clear b6 R5 R4 R3 t0 t1 v1 f1 v2 f2
      have v0 := R6.out.var.c0
      have v1 := R6.out.var.c1
      have v2 := R6.out.var.c2
      have f0 := R6.out.var.fr 0
      have R7 := hide (R6.out.set0 p)
      have r0 := R7.out.res.c0
      have r1 := R7.out.res.c1
      have r2 := R7.out.res.c2
      have e0 := R7.out.res.fr 0
      have e1 := R7.out.res.fr 1
      have e2 := R7.out.res.fr 2
      go_wp2_with fail
      exact bodyPost_ret (ret_rank rfl rfl (((R7.out.res.set0 _).set1 _).set2 _)) rfl ⟨rfl, R7.out.done _ _ _⟩

theorem isAhead (a : Int) (o : Bool) (c : Int) (a' : Int) (o' : Bool) (c' : Int) (w : World) :
    Calls Tryz.prog 117 #[rk a o c, rk a' o' c'] w fun e w' => e = .returned (.bool (decide (cmpR a o c a' o' c' = 1))) ∧ Below w.heap.size w w' := by
  by_cases h : a = a'
  · subst h
    rw [cmp_eq]
    cases o <;> cases o'
    · by_cases hc : c' < c
      · have e : decide ((if false && !false then (1 : Int) else if !false && false then -1 else if c' < c then 1 else if c < c' then -1 else 0) = 1) = true := by simp [hc]
        rw [e]
        clear e
        go_enter Tryz.func117, Tryz.ntmps117
        go_wp2_with fail
        go_ret
        refine ⟨rfl, ?_⟩
        go_grown
      · have e : decide ((if false && !false then (1 : Int) else if !false && false then -1 else if c' < c then 1 else if c < c' then -1 else 0) = 1) = false := by simp [hc]; split <;> omega
        rw [e]
        clear e
        have hd : decide (c' < c) = false := by simp; omega
        go_enter Tryz.func117, Tryz.ntmps117
        go_wp2_with fail
        go_ret
        refine ⟨rfl, ?_⟩
        go_grown
    · have e : decide ((if false && !true then (1 : Int) else if !false && true then -1 else if c' < c then 1 else if c < c' then -1 else 0) = 1) = false := by simp
      rw [e]
      clear e
      go_enter Tryz.func117, Tryz.ntmps117
      go_wp2_with fail
      go_ret
      refine ⟨rfl, ?_⟩
      go_grown
    · have e : decide ((if true && !false then (1 : Int) else if !true && false then -1 else if c' < c then 1 else if c < c' then -1 else 0) = 1) = true := by simp
      rw [e]
      clear e
      go_enter Tryz.func117, Tryz.ntmps117
      go_wp2_with fail
      go_ret
      refine ⟨rfl, ?_⟩
      go_grown
    · by_cases hc : c' < c
      · have e : decide ((if true && !true then (1 : Int) else if !true && true then -1 else if c' < c then 1 else if c < c' then -1 else 0) = 1) = true := by simp [hc]
        rw [e]
        clear e
        go_enter Tryz.func117, Tryz.ntmps117
        go_wp2_with fail
        go_ret
        refine ⟨rfl, ?_⟩
        go_grown
      · have e : decide ((if true && !true then (1 : Int) else if !true && true then -1 else if c' < c then 1 else if c < c' then -1 else 0) = 1) = false := by simp [hc]; split <;> omega
        rw [e]
        clear e
        have hd : decide (c' < c) = false := by simp; omega
        go_enter Tryz.func117, Tryz.ntmps117
        go_wp2_with fail
        go_ret
        refine ⟨rfl, ?_⟩
        go_grown
  · by_cases hl : a < a'
    · rw [cmp_due _ _ _ _ hl]
      have e : decide ((1 : Int) = 1) = true := rfl
      rw [e]
      clear e
      go_enter Tryz.func117, Tryz.ntmps117
      go_wp2_with fail
      go_ret
      refine ⟨rfl, ?_⟩
      go_grown
    · rw [cmp_gt _ _ _ _ (by omega)]
      have e : decide ((-1 : Int) = 1) = false := rfl
      rw [e]
      clear e
      have hd : decide (a < a') = false := by simp; omega
      go_enter Tryz.func117, Tryz.ntmps117
      go_wp2_with fail
      go_ret
      refine ⟨rfl, ?_⟩
      go_grown

end Go.Proofs.YtjhenfdmbagaiaaGreat.Win
