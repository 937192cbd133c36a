/-
  impl.AheadOf, at every argument.
-/
import Derived.Test.YtodggdgcbhmjoaaRankImpl
import Derived.Test.YtodggdgcbhmjoaaRankSpec
import Derived.Deep.RegionHeld3
import Derived.Deep.CutRange
namespace Go.Proofs.Ytodggdgcbhmjoaa.Win
open Go.ChangeShapes Go.WideShapes Go.ChangeAt Go.RowKit Go.Proofs.Ytodggdgcbhmjoaa.Crew

theorem ahead_no1 (n d i m e j : Int) (h : turnOk n d i = false) (w : World) :
    Calls Try.prog 16 #[sh n d, .int .i64 i, sh m e, .int .i64 j] w fun r w' => r = .returned (.int .i64 2) ∧ Below w.heap.size w w' := by
  have T0 := hide (tw_new w n d m e 25)
  cases h' : turnOk m e j
  · go_enter Try.func16, Try.ntmps16
    go_wp2_with fail
    refine (windowOf_no n d i h _).mono ?_
    rintro r w1 ⟨rfl, b1⟩
    have T1 := hide ((T0.out.all b1).all ((Below.refl _ _).alloc (Nat.le_refl _) (.cells #[.pointer none, .int .i64 0] 39)))
    clear b1 T0
    obtain ⟨_, c2, c3⟩ := T1.out.two
    go_wp2_with fail
    refine (windowOf_no m e j h' _).mono ?_
    rintro r w2 ⟨rfl, b2⟩
    have T2 := hide (T1.out.all b2)
    clear b2 T1 c2 c3
    go_wp2_with fail
    go_ret
    exact ⟨rfl, T2.out.bel.alloc T2.out.bel.size _⟩
  · go_enter Try.func16, Try.ntmps16
    go_wp2_with fail
    refine (windowOf_no n d i h _).mono ?_
    rintro r w1 ⟨rfl, b1⟩
    have T1 := hide ((T0.out.all b1).all ((Below.refl _ _).alloc (Nat.le_refl _) (.cells #[.pointer none, .int .i64 0] 39)))
    clear b1 T0
    obtain ⟨_, c2, c3⟩ := T1.out.two
    go_wp2_with fail
    refine (windowOf_yes m e j h' _).mono ?_
    rintro r w2 ⟨g, rfl, _, _, b2⟩
    have T2 := hide (T1.out.all b2)
    clear b2 T1 c2 c3
    go_wp2_with fail
    go_ret
    exact ⟨rfl, T2.out.bel.alloc T2.out.bel.size _⟩

theorem ahead_no2 (n d i m e j : Int) (h : turnOk n d i = true) (h' : turnOk m e j = false) (w : World) :
    Calls Try.prog 16 #[sh n d, .int .i64 i, sh m e, .int .i64 j] w fun r w' => r = .returned (.int .i64 2) ∧ Below w.heap.size w w' := by
  have T0 := hide (tw_new w n d m e 25)
  go_enter Try.func16, Try.ntmps16
  go_wp2_with fail
  refine (windowOf_yes n d i h _).mono ?_
  rintro r w1 ⟨g, rfl, _, _, b1⟩
  have T1 := hide ((T0.out.all b1).all ((Below.refl _ _).alloc (Nat.le_refl _) (.cells #[.pointer (some ⟨g, 0, none⟩), .int .i64 i] 39)))
  clear b1 T0
  obtain ⟨_, c2, c3⟩ := T1.out.two
  go_wp2_with fail
  refine (windowOf_no m e j h' _).mono ?_
  rintro r w2 ⟨rfl, b2⟩
  have T2 := hide (T1.out.all b2)
  clear b2 T1 c2 c3
  go_wp2_with fail
  go_ret
  exact ⟨rfl, T2.out.bel.alloc T2.out.bel.size _⟩

/-- Two windows, each with its share. -/
structure Aw (w0 w : World) (b1 g1 b2 g2 : Nat) (n d i m e j : Int) : Prop where
  win1 : Win w b1 g1 i
  win2 : Win w b2 g2 j
  box1 : Box w g1 n d
  box2 : Box w g2 m e
  bel : Below w0.heap.size w0 w

theorem Aw.all {w0 w w' : World} {b1 g1 b2 g2 : Nat} {n d i m e j : Int} (h : Aw w0 w b1 g1 b2 g2 n d i m e j) (k : Below w.heap.size w w') : Aw w0 w' b1 g1 b2 g2 n d i m e j :=
  ⟨h.win1.kept k h.win1.1, h.win2.kept k h.win2.1, h.box1.kept k h.box1.1, h.box2.kept k h.box2.1, h.bel.trans (k.mono h.bel.size)⟩

theorem Aw.alloc {w0 w : World} {b1 g1 b2 g2 : Nat} {n d i m e j : Int} (h : Aw w0 w b1 g1 b2 g2 n d i m e j) (o : Obj) : Aw w0 (w.alloc o) b1 g1 b2 g2 n d i m e j :=
  h.all ((Below.refl _ w).alloc (Nat.le_refl _) o)

theorem Aw.drew {w0 w : World} {b1 g1 b2 g2 : Nat} {n d i m e j : Int} (h : Aw w0 w b1 g1 b2 g2 n d i m e j) : Aw w0 w.drew b1 g1 b2 g2 n d i m e j :=
  h.all (Below.refl _ w).drew

theorem win_new (w : World) (g : Nat) (j : Int) : Win (w.alloc (.cells #[.pointer (some ⟨g, 0, none⟩), .int .i64 j] 39)) w.heap.size g j :=
  ⟨by simp, by rw [World.cell?_alloc_at _ _ _ _ rfl]; rfl, by rw [World.cell?_alloc_at _ _ _ _ rfl]; rfl⟩

/-- A block that is there is none that is made. -/
theorem ne_four {b s : Nat} (h : b < s) : ¬ b = s ∧ ¬ s = b ∧ ¬ b = s + 1 ∧ ¬ s + 1 = b := by omega

/-- A rank of zeros, made ahead of a call. -/
theorem z_one {W v : World} (B : Below (W.alloc (.cells #[.int .i64 0, .bool false, .int .i64 0] 54)).heap.size (W.alloc (.cells #[.int .i64 0, .bool false, .int .i64 0] 54)) v) : Rnk v W.heap.size 0 false 0 := (rnk_new W 0 false 0).kept B (by simp)

theorem z_oneD {W v : World} (B : Below (W.alloc (.cells #[.int .i64 0, .bool false, .int .i64 0] 54)).drew.heap.size (W.alloc (.cells #[.int .i64 0, .bool false, .int .i64 0] 54)).drew v) : Rnk v W.heap.size 0 false 0 := Rnk.kept (w := (W.alloc (.cells #[.int .i64 0, .bool false, .int .i64 0] 54)).drew) (rnk_new W 0 false 0) B (rnk_new W 0 false 0).lt

theorem z_two {W v : World} (B : Below ((W.alloc (.cells #[.int .i64 0, .bool false, .int .i64 0] 54)).alloc (.cells #[.int .i64 0, .bool false, .int .i64 0] 54)).heap.size ((W.alloc (.cells #[.int .i64 0, .bool false, .int .i64 0] 54)).alloc (.cells #[.int .i64 0, .bool false, .int .i64 0] 54)) v) : Rnk v W.heap.size 0 false 0 ∧ Rnk v (W.heap.size + 1) 0 false 0 := by
  have e : (W.alloc (.cells #[.int .i64 0, .bool false, .int .i64 0] 54)).heap.size = W.heap.size + 1 := by simp
  have h2 := z_one B
  rw [e] at h2
  exact ⟨((rnk_new W 0 false 0).kept ((Below.refl _ _).alloc (Nat.le_refl _) _) (by simp)).kept B (by simp; omega), h2⟩

theorem z_twoD {W v : World} (B : Below ((W.alloc (.cells #[.int .i64 0, .bool false, .int .i64 0] 54)).alloc (.cells #[.int .i64 0, .bool false, .int .i64 0] 54)).drew.heap.size ((W.alloc (.cells #[.int .i64 0, .bool false, .int .i64 0] 54)).alloc (.cells #[.int .i64 0, .bool false, .int .i64 0] 54)).drew v) : Rnk v W.heap.size 0 false 0 ∧ Rnk v (W.heap.size + 1) 0 false 0 :=
  z_two ((Below.refl _ _).drew.trans B)

theorem Rnk.past {w v : World} {b : Nat} {a : Int} {o : Bool} {c : Int} (h : Rnk w b a o c) (B : Below w.heap.size w v) : Rnk v b a o c := h.kept B h.lt

theorem Rnk.past1 {w v : World} {b : Nat} {a : Int} {o : Bool} {c : Int} {x : Obj} (h : Rnk w b a o c) (B : Below (w.alloc x).heap.size (w.alloc x) v) : Rnk v b a o c := (h.kept ((Below.refl _ _).alloc (Nat.le_refl _) _) h.lt).kept B (by have := h.lt; simp; omega)

/-- A rank is stored. -/
theorem Rnk.sets {w : World} {b : Nat} {a : Int} {o : Bool} {c : Int} (h : Rnk w b a o c) (x : Int) (y : Bool) (z : Int) : Rnk (((w.setCell ⟨b, 0, none⟩ (.int .i64 x)).setCell ⟨b, 1, none⟩ (.bool y)).setCell ⟨b, 2, none⟩ (.int .i64 z)) b x y z := ((h.set0 x).set1 y).set2 z

theorem Rnk.beside {w : World} {b b' k : Nat} {a : Int} {o : Bool} {c : Int} (h : Rnk w b a o c) (hb : b ≠ b') (v : Value) : Rnk (w.setCell ⟨b', k, none⟩ v) b a o c := by
  unfold Rnk
  rw [Below.heap_setCell _ _ _ _ hb]
  exact h

theorem Rnk.more {w : World} {b : Nat} {a : Int} {o : Bool} {c : Int} (h : Rnk w b a o c) (x : Obj) : Rnk (w.alloc x) b a o c := h.kept ((Below.refl _ _).alloc (Nat.le_refl _) _) h.lt

/-- The two ranks, wherever they were made. -/
theorem fin1 {w v : World} (p : Int) (o : Bool) (x q : Int) (u : Bool) (y : Int) (L : Below w.heap.size w v) : Rnk ((v.alloc (.cells #[.int .i64 p, .bool o, .int .i64 x] 54)).alloc (.cells #[.int .i64 q, .bool u, .int .i64 y] 54)) v.heap.size p o x ∧ Rnk ((v.alloc (.cells #[.int .i64 p, .bool o, .int .i64 x] 54)).alloc (.cells #[.int .i64 q, .bool u, .int .i64 y] 54)) (v.heap.size + 1) q u y ∧ Below w.heap.size w ((v.alloc (.cells #[.int .i64 p, .bool o, .int .i64 x] 54)).alloc (.cells #[.int .i64 q, .bool u, .int .i64 y] 54)) := by
  have h := rnk_new (v.alloc (.cells #[.int .i64 p, .bool o, .int .i64 x] 54)) q u y
  have e : (v.alloc (.cells #[.int .i64 p, .bool o, .int .i64 x] 54)).heap.size = v.heap.size + 1 := by simp
  rw [e] at h
  exact ⟨(rnk_new v p o x).more _, h, (L.alloc L.size _).alloc (L.alloc L.size _).size _⟩

theorem fin2 {w v : World} (p : Int) (o : Bool) (x q : Int) (u : Bool) (y : Int) (L : Below w.heap.size w v) : Rnk ((v.alloc (.cells #[.int .i64 q, .bool u, .int .i64 y] 54)).alloc (.cells #[.int .i64 p, .bool o, .int .i64 x] 54)) (v.heap.size + 1) p o x ∧ Rnk ((v.alloc (.cells #[.int .i64 q, .bool u, .int .i64 y] 54)).alloc (.cells #[.int .i64 p, .bool o, .int .i64 x] 54)) v.heap.size q u y ∧ Below w.heap.size w ((v.alloc (.cells #[.int .i64 q, .bool u, .int .i64 y] 54)).alloc (.cells #[.int .i64 p, .bool o, .int .i64 x] 54)) := by
  have h := rnk_new (v.alloc (.cells #[.int .i64 q, .bool u, .int .i64 y] 54)) p o x
  have e : (v.alloc (.cells #[.int .i64 q, .bool u, .int .i64 y] 54)).heap.size = v.heap.size + 1 := by simp
  rw [e] at h
  exact ⟨h, (rnk_new v q u y).more _, (L.alloc L.size _).alloc (L.alloc L.size _).size _⟩

theorem size_set (v : World) (a : Addr) (c : Value) : (v.setCell a c).heap.size = v.heap.size := by simp [World.setCell]

theorem fin3 {w v : World} (p : Int) (o : Bool) (x q : Int) (u : Bool) (y : Int) (L : Below w.heap.size w v) {b : Nat} (Z : Rnk v b 0 false 0) (hb : w.heap.size ≤ b) : Rnk ((((v.setCell ⟨b, 0, none⟩ (.int .i64 p)).setCell ⟨b, 1, none⟩ (.bool o)).setCell ⟨b, 2, none⟩ (.int .i64 x)).alloc (.cells #[.int .i64 q, .bool u, .int .i64 y] 54)) b p o x ∧ Rnk ((((v.setCell ⟨b, 0, none⟩ (.int .i64 p)).setCell ⟨b, 1, none⟩ (.bool o)).setCell ⟨b, 2, none⟩ (.int .i64 x)).alloc (.cells #[.int .i64 q, .bool u, .int .i64 y] 54)) v.heap.size q u y ∧ Below w.heap.size w ((((v.setCell ⟨b, 0, none⟩ (.int .i64 p)).setCell ⟨b, 1, none⟩ (.bool o)).setCell ⟨b, 2, none⟩ (.int .i64 x)).alloc (.cells #[.int .i64 q, .bool u, .int .i64 y] 54)) := by
  have h := rnk_new (((v.setCell ⟨b, 0, none⟩ (.int .i64 p)).setCell ⟨b, 1, none⟩ (.bool o)).setCell ⟨b, 2, none⟩ (.int .i64 x)) q u y
  rw [size_set, size_set, size_set] at h
  have k := ((L.setCell (p := ⟨b, 0, none⟩) hb (.int .i64 p)).setCell (p := ⟨b, 1, none⟩) hb (.bool o)).setCell (p := ⟨b, 2, none⟩) hb (.int .i64 x)
  exact ⟨(Z.sets p o x).more _, h, k.alloc k.size _⟩

theorem fin4 {w v : World} (p : Int) (o : Bool) (x q : Int) (u : Bool) (y : Int) (L : Below w.heap.size w v) {b : Nat} (Z : Rnk v b 0 false 0) (hb : w.heap.size ≤ b) : Rnk ((((v.setCell ⟨b, 0, none⟩ (.int .i64 q)).setCell ⟨b, 1, none⟩ (.bool u)).setCell ⟨b, 2, none⟩ (.int .i64 y)).alloc (.cells #[.int .i64 p, .bool o, .int .i64 x] 54)) v.heap.size p o x ∧ Rnk ((((v.setCell ⟨b, 0, none⟩ (.int .i64 q)).setCell ⟨b, 1, none⟩ (.bool u)).setCell ⟨b, 2, none⟩ (.int .i64 y)).alloc (.cells #[.int .i64 p, .bool o, .int .i64 x] 54)) b q u y ∧ Below w.heap.size w ((((v.setCell ⟨b, 0, none⟩ (.int .i64 q)).setCell ⟨b, 1, none⟩ (.bool u)).setCell ⟨b, 2, none⟩ (.int .i64 y)).alloc (.cells #[.int .i64 p, .bool o, .int .i64 x] 54)) := by
  have h := rnk_new (((v.setCell ⟨b, 0, none⟩ (.int .i64 q)).setCell ⟨b, 1, none⟩ (.bool u)).setCell ⟨b, 2, none⟩ (.int .i64 y)) p o x
  rw [size_set, size_set, size_set] at h
  have k := ((L.setCell (p := ⟨b, 0, none⟩) hb (.int .i64 q)).setCell (p := ⟨b, 1, none⟩) hb (.bool u)).setCell (p := ⟨b, 2, none⟩) hb (.int .i64 y)
  exact ⟨h, (Z.sets q u y).more _, k.alloc k.size _⟩

theorem fin5 {w v : World} (p : Int) (o : Bool) (x q : Int) (u : Bool) (y : Int) (L : Below w.heap.size w v) {b b' : Nat} (Z : Rnk v b 0 false 0) (Z' : Rnk v b' 0 false 0) (hn : b ≠ b') (hb : w.heap.size ≤ b) (hb' : w.heap.size ≤ b') : Rnk ((((((v.setCell ⟨b, 0, none⟩ (.int .i64 p)).setCell ⟨b, 1, none⟩ (.bool o)).setCell ⟨b, 2, none⟩ (.int .i64 x)).setCell ⟨b', 0, none⟩ (.int .i64 q)).setCell ⟨b', 1, none⟩ (.bool u)).setCell ⟨b', 2, none⟩ (.int .i64 y)) b p o x ∧ Rnk ((((((v.setCell ⟨b, 0, none⟩ (.int .i64 p)).setCell ⟨b, 1, none⟩ (.bool o)).setCell ⟨b, 2, none⟩ (.int .i64 x)).setCell ⟨b', 0, none⟩ (.int .i64 q)).setCell ⟨b', 1, none⟩ (.bool u)).setCell ⟨b', 2, none⟩ (.int .i64 y)) b' q u y ∧ Below w.heap.size w ((((((v.setCell ⟨b, 0, none⟩ (.int .i64 p)).setCell ⟨b, 1, none⟩ (.bool o)).setCell ⟨b, 2, none⟩ (.int .i64 x)).setCell ⟨b', 0, none⟩ (.int .i64 q)).setCell ⟨b', 1, none⟩ (.bool u)).setCell ⟨b', 2, none⟩ (.int .i64 y)) := by
  have k := ((L.setCell (p := ⟨b, 0, none⟩) hb (.int .i64 p)).setCell (p := ⟨b, 1, none⟩) hb (.bool o)).setCell (p := ⟨b, 2, none⟩) hb (.int .i64 x)
  exact ⟨(((Z.sets p o x).beside hn _).beside hn _).beside hn _, (((Z'.beside hn.symm _).beside hn.symm _).beside hn.symm _).sets q u y, ((k.setCell (p := ⟨b', 0, none⟩) hb' _).setCell (p := ⟨b', 1, none⟩) hb' _).setCell (p := ⟨b', 2, none⟩) hb' _⟩

set_option maxHeartbeats 4000000 in
theorem ahead_yes (n d i m e j : Int) (h : turnOk n d i = true) (h' : turnOk m e j = true) (w : World) :
    Calls Try.prog 16 #[sh n d, .int .i64 i, sh m e, .int .i64 j] w fun r w' => r = .returned (.int .i64 (aheadIn n d i m e j)) ∧ Below w.heap.size w w' := by
  have T0 := hide (tw_new w n d m e 25)
  have H : Hid (turnOk n d i = true ∧ turnOk m e j = true) := ⟨h, h'⟩
  clear h h'
  unfold aheadIn
  obtain ⟨p, hp⟩ : ∃ p, p = dueV n d i := ⟨_, rfl⟩
  obtain ⟨q, hq⟩ : ∃ q, q = dueV m e j := ⟨_, rfl⟩
  obtain ⟨o, ho⟩ : ∃ o, o = overB n d i := ⟨_, rfl⟩
  obtain ⟨u, hu⟩ : ∃ u, u = overB m e j := ⟨_, rfl⟩
  obtain ⟨x, hx⟩ : ∃ x, x = rankC n d i := ⟨_, rfl⟩
  obtain ⟨y, hy⟩ : ∃ y, y = rankC m e j := ⟨_, rfl⟩
  have K1 : Hid (∀ g w, Box w g n d → Calls Try.prog 35 #[.agg #[.pointer (some ⟨g, 0, none⟩), .int .i64 i]] w fun e w' => e = .returned (rk p o x) ∧ Below w.heap.size w w') := by
    rw [hp, ho, hx]
    exact fun g w B => rank_at n d i g H.out.1 w B
  have K2 : Hid (∀ g w, Box w g m e → Calls Try.prog 35 #[.agg #[.pointer (some ⟨g, 0, none⟩), .int .i64 j]] w fun e w' => e = .returned (rk q u y) ∧ Below w.heap.size w w') := by
    rw [hq, hu, hy]
    exact fun g w B => rank_at m e j g H.out.2 w B
  rw [← hp, ← hq, ← ho, ← hu, ← hx, ← hy]
  clear hp hq ho hu hx hy
  go_enter Try.func16, Try.ntmps16
  go_wp2_with fail
  refine (windowOf_yes n d i H.out.1 _).mono ?_
  rintro r w1 ⟨g1, rfl, _, B1, b1⟩
  have T1 := hide ((T0.out.all b1).all ((Below.refl _ _).alloc (Nat.le_refl _) (.cells #[.pointer (some ⟨g1, 0, none⟩), .int .i64 i] 39)))
  have X1 : Hid (Box (w1.alloc (.cells #[.pointer (some ⟨g1, 0, none⟩), .int .i64 i] 39)) g1 n d ∧ Win (w1.alloc (.cells #[.pointer (some ⟨g1, 0, none⟩), .int .i64 i] 39)) w1.heap.size g1 i) := ⟨B1.alloc _, win_new w1 g1 i⟩
  clear b1 T0 B1
  obtain ⟨_, c2, c3⟩ := T1.out.two
  go_wp2_with fail
  refine (windowOf_yes m e j H.out.2 _).mono ?_
  rintro r w2 ⟨g2, rfl, _, B2, b2⟩
  have A0 : Hid (Aw w (w2.alloc (.cells #[.pointer (some ⟨g2, 0, none⟩), .int .i64 j] 39)) w1.heap.size g1 w2.heap.size g2 n d i m e j) :=
    ⟨(X1.out.2.kept b2 X1.out.2.1).kept ((Below.refl _ _).alloc (Nat.le_refl _) _) (Nat.lt_of_lt_of_le X1.out.2.1 b2.size), win_new w2 g2 j, (X1.out.1.kept b2 X1.out.1.1).alloc _, B2.alloc _, (T1.out.all b2).bel.alloc (T1.out.all b2).bel.size _⟩
  clear b2 T1 B2 X1 c2 c3
  go_wp2_with fail
  generalize w2.alloc (.cells #[.pointer (some ⟨g2, 0, none⟩), .int .i64 j] 39) = W0 at *
  generalize w1.heap.size = b1 at *
  generalize w2.heap.size = b2 at *
  obtain ⟨m1, s0, s1⟩ := A0.out.win1
  obtain ⟨m2, s2, s3⟩ := A0.out.win2
  obtain ⟨e1, e2, e3, e4⟩ := ne_four m1
  obtain ⟨e5, e6, e7, e8⟩ := ne_four m2
  go_cut [13, 14] from 33 to 36 (fun s t wx => ∃ bA bB : Nat, s = .pointer (some ⟨bA, 0, none⟩) ∧ t = .pointer (some ⟨bB, 0, none⟩) ∧ Hid (Rnk wx bA p o x ∧ Rnk wx bB q u y ∧ Below w.heap.size w wx))
  case first =>
    go_region_held3 (fun w' => w'.cell? ⟨b1, 0, none⟩ = some (.pointer (some ⟨g1, 0, none⟩)) ∧ w'.cell? ⟨b1, 1, none⟩ = some (.int .i64 i) ∧ w'.cell? ⟨b2, 0, none⟩ = some (.pointer (some ⟨g2, 0, none⟩)) ∧ w'.cell? ⟨b2, 1, none⟩ = some (.int .i64 j)) (go_keep)
      (first
        | (go_at_call_of 35 (Value.agg #[Value.pointer (some ⟨g1, 0, none⟩), Value.int .i64 i]); refine (K1.out g1 _ ?_).mono ?_; (apply Aw.box1; (repeat (first | exact A0.out | apply Aw.drew | apply Aw.alloc))); rintro r u1 ⟨rfl, B1⟩; have A1 : Hid (Aw w u1 b1 g1 b2 g2 n d i m e j) := (by refine Aw.all ?_ B1; (repeat (first | exact A0.out | apply Aw.drew | apply Aw.alloc))); obtain ⟨m1, s0, s1⟩ := A1.out.win1; obtain ⟨m2, s2, s3⟩ := A1.out.win2; obtain ⟨e1, e2, e3, e4⟩ := ne_four m1; obtain ⟨e5, e6, e7, e8⟩ := ne_four m2; (first | (with_reducible have ZZ := z_two B1; obtain ⟨ZP, ZQ⟩ := ZZ; have a0 := ZP.c0; have a1 := ZP.c1; have a2 := ZP.c2; have f0 := ZP.fr 0; have f1 := ZP.fr 1; have f2 := ZP.fr 2; have n1 := ZP.lt; have n2 := Nat.ne_of_lt n1; have n3 := Nat.ne_of_gt n1; have a0 := ZQ.c0; have a1 := ZQ.c1; have a2 := ZQ.c2; have f0 := ZQ.fr 0; have f1 := ZQ.fr 1; have f2 := ZQ.fr 2; have n1 := ZQ.lt; have n2 := Nat.ne_of_lt n1; have n3 := Nat.ne_of_gt n1) | (with_reducible have ZZ := z_twoD B1; obtain ⟨ZP, ZQ⟩ := ZZ; have a0 := ZP.c0; have a1 := ZP.c1; have a2 := ZP.c2; have f0 := ZP.fr 0; have f1 := ZP.fr 1; have f2 := ZP.fr 2; have n1 := ZP.lt; have n2 := Nat.ne_of_lt n1; have n3 := Nat.ne_of_gt n1; have a0 := ZQ.c0; have a1 := ZQ.c1; have a2 := ZQ.c2; have f0 := ZQ.fr 0; have f1 := ZQ.fr 1; have f2 := ZQ.fr 2; have n1 := ZQ.lt; have n2 := Nat.ne_of_lt n1; have n3 := Nat.ne_of_gt n1) | (with_reducible have ZP := z_one B1; have a0 := ZP.c0; have a1 := ZP.c1; have a2 := ZP.c2; have f0 := ZP.fr 0; have f1 := ZP.fr 1; have f2 := ZP.fr 2; have n1 := ZP.lt; have n2 := Nat.ne_of_lt n1; have n3 := Nat.ne_of_gt n1) | (with_reducible have ZP := z_oneD B1; have a0 := ZP.c0; have a1 := ZP.c1; have a2 := ZP.c2; have f0 := ZP.fr 0; have f1 := ZP.fr 1; have f2 := ZP.fr 2; have n1 := ZP.lt; have n2 := Nat.ne_of_lt n1; have n3 := Nat.ne_of_gt n1) | skip))
        | (go_at_call_of 35 (Value.agg #[Value.pointer (some ⟨g2, 0, none⟩), Value.int .i64 j]); refine (K2.out g2 _ ?_).mono ?_; (apply Aw.box2; (repeat (first | exact A1.out | apply Aw.drew | apply Aw.alloc))); rintro r u2 ⟨rfl, B2⟩; have A2 : Hid (Aw w u2 b1 g1 b2 g2 n d i m e j) := (by refine Aw.all ?_ B2; (repeat (first | exact A1.out | apply Aw.drew | apply Aw.alloc))); obtain ⟨m1, s0, s1⟩ := A2.out.win1; obtain ⟨m2, s2, s3⟩ := A2.out.win2; obtain ⟨e1, e2, e3, e4⟩ := ne_four m1; obtain ⟨e5, e6, e7, e8⟩ := ne_four m2; (first | (with_reducible have ZP := Rnk.past ZP B2; have a0 := ZP.c0; have a1 := ZP.c1; have a2 := ZP.c2; have f0 := ZP.fr 0; have f1 := ZP.fr 1; have f2 := ZP.fr 2; have n1 := ZP.lt; have n2 := Nat.ne_of_lt n1; have n3 := Nat.ne_of_gt n1) | (with_reducible have ZP := Rnk.past1 ZP B2; have a0 := ZP.c0; have a1 := ZP.c1; have a2 := ZP.c2; have f0 := ZP.fr 0; have f1 := ZP.fr 1; have f2 := ZP.fr 2; have n1 := ZP.lt; have n2 := Nat.ne_of_lt n1; have n3 := Nat.ne_of_gt n1) | skip); (first | (with_reducible have ZQ := Rnk.past ZQ B2; have a0 := ZQ.c0; have a1 := ZQ.c1; have a2 := ZQ.c2; have f0 := ZQ.fr 0; have f1 := ZQ.fr 1; have f2 := ZQ.fr 2; have n1 := ZQ.lt; have n2 := Nat.ne_of_lt n1; have n3 := Nat.ne_of_gt n1) | (with_reducible have ZQ := Rnk.past1 ZQ B2; have a0 := ZQ.c0; have a1 := ZQ.c1; have a2 := ZQ.c2; have f0 := ZQ.fr 0; have f1 := ZQ.fr 1; have f2 := ZQ.fr 2; have n1 := ZQ.lt; have n2 := Nat.ne_of_lt n1; have n3 := Nat.ne_of_gt n1) | skip); (first | (with_reducible have ZZ := z_two B2; obtain ⟨ZR, ZS⟩ := ZZ; have a0 := ZR.c0; have a1 := ZR.c1; have a2 := ZR.c2; have f0 := ZR.fr 0; have f1 := ZR.fr 1; have f2 := ZR.fr 2; have n1 := ZR.lt; have n2 := Nat.ne_of_lt n1; have n3 := Nat.ne_of_gt n1; have a0 := ZS.c0; have a1 := ZS.c1; have a2 := ZS.c2; have f0 := ZS.fr 0; have f1 := ZS.fr 1; have f2 := ZS.fr 2; have n1 := ZS.lt; have n2 := Nat.ne_of_lt n1; have n3 := Nat.ne_of_gt n1) | (with_reducible have ZZ := z_twoD B2; obtain ⟨ZR, ZS⟩ := ZZ; have a0 := ZR.c0; have a1 := ZR.c1; have a2 := ZR.c2; have f0 := ZR.fr 0; have f1 := ZR.fr 1; have f2 := ZR.fr 2; have n1 := ZR.lt; have n2 := Nat.ne_of_lt n1; have n3 := Nat.ne_of_gt n1; have a0 := ZS.c0; have a1 := ZS.c1; have a2 := ZS.c2; have f0 := ZS.fr 0; have f1 := ZS.fr 1; have f2 := ZS.fr 2; have n1 := ZS.lt; have n2 := Nat.ne_of_lt n1; have n3 := Nat.ne_of_gt n1) | (with_reducible have ZR := z_one B2; have a0 := ZR.c0; have a1 := ZR.c1; have a2 := ZR.c2; have f0 := ZR.fr 0; have f1 := ZR.fr 1; have f2 := ZR.fr 2; have n1 := ZR.lt; have n2 := Nat.ne_of_lt n1; have n3 := Nat.ne_of_gt n1) | (with_reducible have ZR := z_oneD B2; have a0 := ZR.c0; have a1 := ZR.c1; have a2 := ZR.c2; have f0 := ZR.fr 0; have f1 := ZR.fr 1; have f2 := ZR.fr 2; have n1 := ZR.lt; have n2 := Nat.ne_of_lt n1; have n3 := Nat.ne_of_gt n1) | skip)))
    all_goals go_wp2_with fail
    all_goals go_meet
    all_goals
      have l0 := A0.out.bel.size
      have l1 := A1.out.bel.size
      first | (with_reducible exact ⟨_, _, rfl, rfl, hide (fin1 p o x q u y A2.out.bel)⟩) | (with_reducible exact ⟨_, _, rfl, rfl, hide (fin2 p o x q u y A2.out.bel)⟩) | (with_reducible exact ⟨_, _, rfl, rfl, hide (fin3 p o x q u y A2.out.bel ZP (by omega))⟩) | (with_reducible exact ⟨_, _, rfl, rfl, hide (fin4 p o x q u y A2.out.bel ZP (by omega))⟩) | (with_reducible exact ⟨_, _, rfl, rfl, hide (fin3 p o x q u y A2.out.bel ZR (by omega))⟩) | (with_reducible exact ⟨_, _, rfl, rfl, hide (fin4 p o x q u y A2.out.bel ZR (by omega))⟩) | (with_reducible exact ⟨_, _, rfl, rfl, hide (fin5 p o x q u y A2.out.bel ZP ZR (by omega) (by omega) (by omega))⟩) | (with_reducible exact ⟨_, _, rfl, rfl, hide (fin5 p o x q u y A2.out.bel ZR ZP (by omega) (by omega) (by omega))⟩) | (with_reducible exact ⟨_, _, rfl, rfl, hide (fin5 p o x q u y A2.out.bel ZP ZQ (by omega) (by omega) (by omega))⟩) | (with_reducible exact ⟨_, _, rfl, rfl, hide (fin5 p o x q u y A2.out.bel ZQ ZP (by omega) (by omega) (by omega))⟩) | (with_reducible exact ⟨_, _, rfl, rfl, hide (fin5 p o x q u y A2.out.bel ZR ZS (by omega) (by omega) (by omega))⟩) | (with_reducible exact ⟨_, _, rfl, rfl, hide (fin5 p o x q u y A2.out.bel ZS ZR (by omega) (by omega) (by omega))⟩)
  case rest =>
    obtain ⟨bA, bB, rfl, rfl, HR⟩ := hcut
    clear A0 K1 K2 m1 m2 s0 s1 s2 s3 e1 e2 e3 e4 e5 e6 e7 e8
    have r0 := HR.out.1.c0
    have r1 := HR.out.1.c1
    have r2 := HR.out.1.c2
    have t0 := HR.out.2.1.c0
    have t1 := HR.out.2.1.c1
    have t2 := HR.out.2.1.c2
    cases hc : decide (cmpR p o x q u y = 1)
    · go_wp2_with fail
      refine (isAhead p o x q u y _).mono ?_
      rintro r w3 ⟨rfl, b3⟩
      rw [hc]
      have H3 : Hid (Rnk w3 bA p o x ∧ Rnk w3 bB q u y ∧ Below w.heap.size w w3) := ⟨HR.out.1.past b3, HR.out.2.1.past b3, HR.out.2.2.trans (b3.mono HR.out.2.2.size)⟩
      clear b3 HR r0 r1 r2 t0 t1 t2
      have r0 := H3.out.1.c0
      have r1 := H3.out.1.c1
      have r2 := H3.out.1.c2
      have t0 := H3.out.2.1.c0
      have t1 := H3.out.2.1.c1
      have t2 := H3.out.2.1.c2
      have hv := hide (of_decide_eq_false hc)
      clear hc
      cases hk : decide (cmpR q u y p o x = 1)
      · go_wp2_with fail
        refine (isAhead q u y p o x _).mono ?_
        rintro r w4 ⟨rfl, b4⟩
        rw [hk]
        have b5 : Below w.heap.size w w4 := H3.out.2.2.trans (b4.mono H3.out.2.2.size)
        have hr := hide (of_decide_eq_false hk)
        clear hk b4 H3 r0 r1 r2 t0 t1 t2
        go_wp2_with fail
        go_ret
        refine ⟨ret_i64 ?_, b5⟩
        have h1 := hv.out
        have h2 := hr.out
        rw [cmp_neg] at h2
        have h3 := cmp_bd p o x q u y
        omega
      · go_wp2_with fail
        refine (isAhead q u y p o x _).mono ?_
        rintro r w4 ⟨rfl, b4⟩
        rw [hk]
        have b5 : Below w.heap.size w w4 := H3.out.2.2.trans (b4.mono H3.out.2.2.size)
        have hr := hide (of_decide_eq_true hk)
        clear hk b4 H3 r0 r1 r2 t0 t1 t2
        go_wp2_with fail
        go_ret
        refine ⟨ret_i64 ?_, b5⟩
        have h2 := hr.out
        rw [cmp_neg] at h2
        omega
    · go_wp2_with fail
      refine (isAhead p o x q u y _).mono ?_
      rintro r w3 ⟨rfl, b3⟩
      rw [hc]
      have b5 : Below w.heap.size w w3 := HR.out.2.2.trans (b3.mono HR.out.2.2.size)
      have hv := hide (of_decide_eq_true hc)
      clear hc b3 HR r0 r1 r2 t0 t1 t2
      go_wp2_with fail
      go_ret
      exact ⟨ret_i64 hv.out.symm, b5⟩

/-- impl.AheadOf, at every argument. -/
theorem implAhead (n d i m e j : Int) (w : World) :
    Calls Try.prog 16 #[sh n d, .int .i64 i, sh m e, .int .i64 j] w fun r w' => r = .returned (.int .i64 (aheadV n d i m e j)) ∧ Below w.heap.size w w' := by
  cases h : turnOk n d i
  · rw [aheadV_no1 h]
    exact ahead_no1 n d i m e j h w
  · cases h' : turnOk m e j
    · rw [aheadV_no2 h']
      exact ahead_no2 n d i m e j h h' w
    · rw [aheadV_yes h h']
      exact ahead_yes n d i m e j h h' w

end Go.Proofs.Ytodggdgcbhmjoaa.Win
