/-
  What the exact laws do with a List: its size, a copy, held against another one, marked, the marks held.
-/
import Derived.Test.YtcmeimfjedakeaaGreatListBase
namespace Go.Proofs.YtcmeimfjedakeaaGreat.Crew
open Go.ChangeShapes Go.WideShapes Go.ChangeAt Go.RowKit

theorem Quad.four {w : World} {b : Nat} {x y : Value} {t p : Int} (h : Quad w b x y t p) : Four w b x y t p := ⟨h.lt, h.c0, h.c1, h.c2, h.c3⟩

theorem szList_no (a : Option Addr) (len cap : Nat) (a' : Option Addr) (len' cap' : Nat) (t p : Int) (w : World) (hm : (len : Int) ≤ 9223372036854775807) (hm' : (len' : Int) ≤ 9223372036854775807) (h : (1048576 : Int) < (len : Int) + (len' : Int)) :
    Calls Tryz.prog 58 #[lv (.slice a len cap) (.slice a' len' cap') t p, .int .i64 1048576] w fun e w' => e = .returned (.int .i64 (-1)) ∧ Below w.heap.size w w' := by
  by_cases h1 : (1048576 : Int) - (len : Int) < 0
  · have E1 : Hid ((1048576 : Int) - (len : Int) < 0) := h1
    go_enter Tryz.func58, Tryz.ntmps58
    go_wp2_with fail
    refine (szInts_any a len cap 1048576 _ (by omega) (by omega) hm).mono ?_
    rw [if_pos E1.out]
    rintro e w1 ⟨rfl, rfl⟩
    go_wp2_with fail
    go_ret
    exact ⟨rfl, (Below.refl _ _).alloc (Nat.le_refl _) _⟩
  · have E1 : Hid (¬ (1048576 : Int) - (len : Int) < 0) := h1
    have E2 : Hid ((1048576 : Int) - (len : Int) - (len' : Int) < 0) := by show _ < _; omega
    have h2 : (1048576 : Int) - (len : Int) - (len' : Int) < 0 := by omega
    have h3 : ¬ (1048576 : Int) < (len : Int) := by omega
    go_enter Tryz.func58, Tryz.ntmps58
    go_wp2_with fail
    refine (szInts_any a len cap 1048576 _ (by omega) (by omega) hm).mono ?_
    rw [if_neg (show ¬ (1048576 : Int) - (len : Int) < 0 by omega)]
    rintro e w1 ⟨rfl, rfl⟩
    go_wp2_with fail
    refine (szInts_any a' len' cap' (1048576 - (len : Int)) _ (by omega) (by omega) hm').mono ?_
    rw [if_pos E2.out]
    rintro e w1 ⟨rfl, rfl⟩
    go_wp2_with fail
    go_ret
    exact ⟨rfl, (Below.refl _ _).alloc (Nat.le_refl _) _⟩

theorem szList_yes (a : Option Addr) (len cap : Nat) (a' : Option Addr) (len' cap' : Nat) (t p : Int) (w : World) (h : (len : Int) + (len' : Int) ≤ 1048576) :
    Calls Tryz.prog 58 #[lv (.slice a len cap) (.slice a' len' cap') t p, .int .i64 1048576] w fun e w' => e = .returned (.int .i64 (1048576 - (len : Int) - (len' : Int))) ∧ Below w.heap.size w w' := by
  have h1 : ¬ (1048576 : Int) - (len : Int) < 0 := by omega
  have h2 : ¬ (1048576 : Int) - (len : Int) - (len' : Int) < 0 := by omega
  have E1 : Hid (¬ (1048576 : Int) - (len : Int) < 0) := h1
  have E2 : Hid (¬ (1048576 : Int) - (len : Int) - (len' : Int) < 0) := h2
  go_enter Tryz.func58, Tryz.ntmps58
  go_wp2_with fail
  refine (szInts_any a len cap 1048576 _ (by omega) (by omega) (by omega)).mono ?_
  rw [if_neg (show ¬ (1048576 : Int) - (len : Int) < 0 by omega)]
  rintro e w1 ⟨rfl, rfl⟩
  go_wp2_with fail
  refine (szInts_any a' len' cap' (1048576 - (len : Int)) _ (by omega) (by omega) (by omega)).mono ?_
  rw [if_neg (show ¬ (1048576 : Int) - (len : Int) - (len' : Int) < 0 by omega)]
  rintro e w1 ⟨rfl, rfl⟩
  go_wp2_with fail
  go_ret
  exact ⟨rfl, (Below.refl _ _).alloc (Nat.le_refl _) _⟩

theorem ints_still {B b j : Nat} {w w1 : World} {a : Option Addr} {len : Nat} {xs : List Int} (I : Ints w a len xs) (h : Below B w w1) (hb : B ≤ b) (hB : w.heap.size ≤ B) (v : Value) : Ints (w1.setCell ⟨b, j, none⟩ v) a len xs :=
  I.kept ((below_set h hb v).mono hB)

/-- The worlds of a copy: the argument in its block, the answer, the copy. -/
structure Copying (w0 w : World) (x y : Value) (t p : Int) (u v : Value) (m n : Int) : Prop where
  arg : Four w w0.heap.size x y t p
  ans : Quad w (w0.heap.size + 1) (.slice none 0 0) (.slice none 0 0) 0 0
  cpy : Quad w (w0.heap.size + 2) u v m n
  bel : Below w0.heap.size w0 w

theorem Copying.all {w0 w w' : World} {x y : Value} {t p : Int} {u v : Value} {m n : Int} (h : Copying w0 w x y t p u v m n) (k : Below w.heap.size w w') : Copying w0 w' x y t p u v m n :=
  ⟨h.arg.all k, h.ans.all k, h.cpy.all k, below_call h.bel h.bel.size k⟩

/-- laws.toList: a copy, in two blocks of its own. -/
theorem toList_any (a : Option Addr) (len cap : Nat) (xs : List Int) (a' : Option Addr) (len' cap' : Nat) (ys : List Int) (t p : Int) (w : World) (I : Ints w a len xs) (J : Ints w a' len' ys) (hs : (len : Int) ≤ 1048576) (hs' : (len' : Int) ≤ 1048576) :
    Calls Tryz.prog 63 #[lv (.slice a len cap) (.slice a' len' cap') t p] w fun e w' => ∃ g h : Nat, e = .returned (lv (.slice (some ⟨g, 0, none⟩) len len) (.slice (some ⟨h, 0, none⟩) len' len') t p) ∧ Row w' g len xs ∧ Row w' h len' ys ∧ w.heap.size ≤ g ∧ w.heap.size ≤ h ∧ g ≠ h ∧ Below w.heap.size w w' := by
  obtain ⟨W0, hW0⟩ : ∃ W0, W0 = ((w.alloc (.cells #[.slice a len cap, .slice a' len' cap', .int .i64 t, .int .i64 p] 45)).alloc (.cells #[.slice none 0 0, .slice none 0 0, .int .i64 0, .int .i64 0] 31)).alloc (.cells #[.slice none 0 0, .slice none 0 0, .int .i64 0, .int .i64 0] 31) := ⟨_, rfl⟩
  have hz : W0.heap.size = w.heap.size + 3 := by rw [hW0]; simp
  have H0 : Hid (Copying w W0 (.slice a len cap) (.slice a' len' cap') t p (.slice none 0 0) (.slice none 0 0) 0 0 ∧ Ints W0 a len xs ∧ Ints w a' len' ys) := by
    subst hW0
    refine ⟨⟨((four_new w _ _ t p _).alloc _).alloc _, ?_, ?_, ?_⟩, ((I.alloc _).alloc _).alloc _, J⟩
    · have := (quad_new (w.alloc (.cells #[.slice a len cap, .slice a' len' cap', .int .i64 t, .int .i64 p] 45)) (.slice none 0 0) (.slice none 0 0) 0 0).alloc (.cells #[.slice none 0 0, .slice none 0 0, .int .i64 0, .int .i64 0] 31)
      simpa using this
    · have := quad_new ((w.alloc (.cells #[.slice a len cap, .slice a' len' cap', .int .i64 t, .int .i64 p] 45)).alloc (.cells #[.slice none 0 0, .slice none 0 0, .int .i64 0, .int .i64 0] 31)) (.slice none 0 0) (.slice none 0 0) 0 0
      simpa using this
    · exact (((Below.refl _ w).alloc (Nat.le_refl _) _).alloc (by simp) _).alloc (by simp; omega) _
  clear I J
  go_enter Tryz.func63, Tryz.ntmps63
  go_wp2_with fail
  rw [← hW0]
  clear hW0
  refine (toInts_any a len cap xs _ H0.out.2.1 hs).mono ?_
  rintro e w1 ⟨rfl, R1, B1⟩
  rw [hz] at R1
  rw [hz]
  have H1 : Hid (Copying w w1 (.slice a len cap) (.slice a' len' cap') t p (.slice none 0 0) (.slice none 0 0) 0 0 ∧ Row w1 (w.heap.size + 3) len xs ∧ Ints w a' len' ys) := ⟨H0.out.1.all B1, R1, H0.out.2.2⟩
  clear H0 B1 R1 hz
  have p0 := H1.out.1.cpy.c0
  have p1 := H1.out.1.cpy.c1
  have f0 := H1.out.1.cpy.fr 0
  have f1 := H1.out.1.cpy.fr 1
  have q1 := H1.out.1.arg.c1
  go_wp2_with fail
  clear p0 p1 f0 f1 q1
  have H2 : Hid (Copying w (w1.setCell ⟨w.heap.size + 1 + 1, 0, none⟩ (.slice (some ⟨w.heap.size + 3, 0, none⟩) len len)) (.slice a len cap) (.slice a' len' cap') t p (.slice (some ⟨w.heap.size + 3, 0, none⟩) len len) (.slice none 0 0) 0 0 ∧ Row (w1.setCell ⟨w.heap.size + 1 + 1, 0, none⟩ (.slice (some ⟨w.heap.size + 3, 0, none⟩) len len)) (w.heap.size + 3) len xs ∧ Ints w a' len' ys) :=
    ⟨⟨H1.out.1.arg.past (by omega) _, H1.out.1.ans.past (by omega) _, H1.out.1.cpy.set0 _, below_set H1.out.1.bel (by omega) _⟩, H1.out.2.1.past (by omega) _, H1.out.2.2⟩
  clear H1
  generalize w1.setCell ⟨w.heap.size + 1 + 1, 0, none⟩ (.slice (some ⟨w.heap.size + 3, 0, none⟩) len len) = w2 at *
  have hz2 : w.heap.size + 3 < w2.heap.size := H2.out.2.1.lt
  refine (toInts_any a' len' cap' ys _ (H2.out.2.2.kept H2.out.1.bel) hs').mono ?_
  rintro e w3 ⟨rfl, R3, B3⟩
  generalize w2.heap.size = s at *
  have H3 : Hid (Quad w3 (w.heap.size + 1) (.slice none 0 0) (.slice none 0 0) 0 0 ∧ Quad w3 (w.heap.size + 1 + 1) (.slice (some ⟨w.heap.size + 3, 0, none⟩) len len) (.slice none 0 0) 0 0 ∧ Below w.heap.size w w3 ∧ Row w3 (w.heap.size + 3) len xs ∧ Row w3 s len' ys) :=
    ⟨H2.out.1.ans.kept B3 (by omega), H2.out.1.cpy.kept B3 (by omega), H2.out.1.bel.trans (B3.mono (by omega)), H2.out.2.1.kept B3 (by omega), R3⟩
  have t2 : w3.cell? ⟨w.heap.size, 2, none⟩ = some (.int .i64 t) := (B3.cell (p := ⟨w.heap.size, 2, none⟩) (by show w.heap.size < s; omega)).trans H2.out.1.arg.c2
  have t3 : w3.cell? ⟨w.heap.size, 3, none⟩ = some (.int .i64 p) := (B3.cell (p := ⟨w.heap.size, 3, none⟩) (by show w.heap.size < s; omega)).trans H2.out.1.arg.c3
  clear H2 B3 R3
  have p0 := H3.out.2.1.c0
  have p1 := H3.out.2.1.c1
  have p2 := H3.out.2.1.c2
  have p3 := H3.out.2.1.c3
  have f0 := H3.out.2.1.fr 0
  have f1 := H3.out.2.1.fr 1
  have f2 := H3.out.2.1.fr 2
  have f3 := H3.out.2.1.fr 3
  have r0 := H3.out.1.c0
  have r1 := H3.out.1.c1
  have r2 := H3.out.1.c2
  have r3 := H3.out.1.c3
  have g0 := H3.out.1.fr 0
  have g1 := H3.out.1.fr 1
  have g2 := H3.out.1.fr 2
  have g3 := H3.out.1.fr 3
  go_wp2_with fail
  clear p0 p1 p2 p3 f0 f1 f2 f3 r0 r1 r2 r3 g0 g1 g2 g3 t2 t3
  refine bodyPost_ret (ret_quad rfl rfl ((((((H3.out.1.past (by omega) _).past (by omega) _).past (by omega) _).set0 _).set1 _).set2 t |>.set3 p)) rfl ⟨_, _, rfl, ?_, ?_, ?_, ?_, ?_, ?_⟩
  · exact ((((((H3.out.2.2.2.1.past (by omega) _).past (by omega) _).past (by omega) _).past (by omega) _).past (by omega) _).past (by omega) _).past (by omega) _
  · exact ((((((H3.out.2.2.2.2.past (by omega) _).past (by omega) _).past (by omega) _).past (by omega) _).past (by omega) _).past (by omega) _).past (by omega) _
  · omega
  · omega
  · omega
  · exact below_set (below_set (below_set (below_set (below_set (below_set (below_set H3.out.2.2.1 (by omega) _) (by omega) _) (by omega) _) (by omega) _) (by omega) _) (by omega) _) (by omega) _

/-- laws.eqList where both read alike. -/
theorem eqList_same (a : Option Addr) (len cap : Nat) (a' : Option Addr) (len' cap' : Nat) (b : Option Addr) (lb cb : Nat) (b' : Option Addr) (lb' cb' : Nat) (xs ys : List Int) (t p : Int) (w : World) (I : Ints w a len xs) (I' : Ints w a' len' ys) (J : Ints w b lb xs) (J' : Ints w b' lb' ys) (hs : (len : Int) ≤ 1048576) (hs' : (len' : Int) ≤ 1048576) :
    Calls Tryz.prog 68 #[lv (.slice a len cap) (.slice a' len' cap') t p, lv (.slice b lb cb) (.slice b' lb' cb') t p] w fun e w' => e = .returned (.bool true) ∧ Below w.heap.size w w' := by
  obtain ⟨W0, hW0⟩ : ∃ W0, W0 = (w.alloc (.cells #[.slice a len cap, .slice a' len' cap', .int .i64 t, .int .i64 p] 31)).alloc (.cells #[.slice b lb cb, .slice b' lb' cb', .int .i64 t, .int .i64 p] 31) := ⟨_, rfl⟩
  have hz : W0.heap.size = w.heap.size + 2 := by rw [hW0]; simp
  have H0 : Hid (Quad W0 w.heap.size (.slice a len cap) (.slice a' len' cap') t p ∧ Quad W0 (w.heap.size + 1) (.slice b lb cb) (.slice b' lb' cb') t p ∧ Below w.heap.size w W0) := by
    subst hW0
    refine ⟨(quad_new _ _ _ _ _).alloc _, ?_, ?_⟩
    · have := quad_new (w.alloc (.cells #[.slice a len cap, .slice a' len' cap', .int .i64 t, .int .i64 p] 31)) (.slice b lb cb) (.slice b' lb' cb') t p
      simpa using this
    · exact ((Below.refl _ w).alloc (Nat.le_refl _) _).alloc (by simp) _
  have HI : Hid (Ints w a len xs ∧ Ints w a' len' ys ∧ Ints w b lb xs ∧ Ints w b' lb' ys) := ⟨I, I', J, J'⟩
  clear I I' J J'
  have n1 : (t != t) = false := by simp
  have n2 : (p != p) = false := by simp
  go_enter Tryz.func68, Tryz.ntmps68
  go_wp2_with fail
  rw [← hW0]
  clear hW0
  refine (eqInts_same a len cap xs b lb cb _ (HI.out.1.kept H0.out.2.2) (HI.out.2.2.1.kept H0.out.2.2) hs).mono ?_
  rintro e w1 ⟨rfl, B1⟩
  have H1 : Hid (Quad w1 w.heap.size (.slice a len cap) (.slice a' len' cap') t p ∧ Quad w1 (w.heap.size + 1) (.slice b lb cb) (.slice b' lb' cb') t p ∧ Below w.heap.size w w1) := ⟨H0.out.1.all B1, H0.out.2.1.all B1, below_call H0.out.2.2 (by omega) B1⟩
  have c0 := H1.out.1.c1
  have c1 := H1.out.2.1.c1
  clear B1
  go_wp2_with fail
  refine (eqInts_same a' len' cap' ys b' lb' cb' _ (HI.out.2.1.kept H1.out.2.2) (HI.out.2.2.2.kept H1.out.2.2) hs').mono ?_
  rintro e w2 ⟨rfl, B2⟩
  have H2 : Hid (Below w.heap.size w w2) := below_call H1.out.2.2 H1.out.2.2.size B2
  clear c0 c1
  have c0 := (H1.out.1.all B2).c2
  have c1 := (H1.out.2.1.all B2).c2
  have c2 := (H1.out.1.all B2).c3
  have c3 := (H1.out.2.1.all B2).c3
  clear B2
  go_wp2_with fail
  go_ret
  exact ⟨rfl, H2.out⟩

/-- laws.markList. -/
theorem markList_any (base : Nat) (a : Option Addr) (len cap : Nat) (xs : List Int) (a' : Option Addr) (len' cap' : Nat) (ys : List Int) (t p : Int) (k : Int) (w : World) (F : Fit w base a len cap xs) (F' : Fit w base a' len' cap' ys) (D : Apart a a') (hs : (len : Int) ≤ 1048576) (hs' : (len' : Int) ≤ 1048576) (hk0 : 0 ≤ k) (hk1 : k ≤ 1000000000) :
    Calls Tryz.prog 73 #[lv (.slice a len cap) (.slice a' len' cap') t p, .int .i64 k] w fun e w' => e = .returned (.int .i64 (k + len + len')) ∧ Fit w' base a len cap (marks k len) ∧ Fit w' base a' len' cap' (marks (k + len) len') ∧ ∃ wm, w.grownBy wm (blk a) ∧ wm.grownBy w' (blk a') := by
  have HF : Hid (Fit w base a len cap xs ∧ Fit w base a' len' cap' ys ∧ Apart a a') := ⟨F, F', D⟩
  have n1 : ∀ x, a = some x → x.block < w.heap.size := fun x hx => (F.ge hx).2
  have n2 : ∀ x, a' = some x → x.block < w.heap.size := fun x hx => (F'.ge hx).2
  have N : Hid ((∀ x, a = some x → x.block < w.heap.size) ∧ (∀ x, a' = some x → x.block < w.heap.size)) := ⟨n1, n2⟩
  clear F F' D n1 n2
  go_enter Tryz.func73, Tryz.ntmps73
  go_wp2_with fail
  refine (markFit base a len cap xs k _ (HF.out.1.other (World.grownBy_alloc _ _ none) (by simp)) hs hk0 (by omega)).mono ?_
  rintro e w1 ⟨rfl, F1, G1⟩
  have P1 : Quad w1 w.heap.size (.slice a len cap) (.slice a' len' cap') t p := (quad_new w _ _ _ _).other G1 (by
    cases a with
    | none => simp [blk]
    | some x => have := N.out.1 x rfl; simp [blk]; omega)
  have H1 : Hid (Fit w1 base a len cap (marks k len) ∧ Fit w1 base a' len' cap' ys ∧ w.grownBy w1 (blk a)) :=
    ⟨F1, (HF.out.2.1.other (World.grownBy_alloc _ _ none) (by simp)).other G1 (fun x hx => HF.out.2.2.symm.ne hx), (World.grownBy_alloc w _ _).trans G1⟩
  have c1 := P1.c1
  clear F1 G1 P1
  go_wp2_with fail
  refine (markFit base a' len' cap' ys (k + len) _ H1.out.2.1 hs' (by omega) (by omega)).mono ?_
  rintro e w2 ⟨rfl, F2, G2⟩
  have H2 : Hid (Fit w2 base a len cap (marks k len) ∧ Fit w2 base a' len' cap' (marks (k + len) len') ∧ ∃ wm, w.grownBy wm (blk a) ∧ wm.grownBy w2 (blk a')) :=
    ⟨H1.out.1.other G2 (fun x hx => HF.out.2.2.ne hx), F2, w1, H1.out.2.2, G2⟩
  clear F2 G2 c1
  go_wp2_with fail
  go_ret
  exact ⟨rfl, H2.out⟩

/-- laws.heldList where the marks are held. -/
theorem heldList_any (a : Option Addr) (len cap : Nat) (a' : Option Addr) (len' cap' : Nat) (t p : Int) (k : Int) (w : World) (I : Ints w a len (marks k len)) (I' : Ints w a' len' (marks (k + len) len')) (hs : (len : Int) ≤ 1048576) (hs' : (len' : Int) ≤ 1048576) (hk0 : 0 ≤ k) (hk1 : k ≤ 1000000000) :
    Calls Tryz.prog 78 #[lv (.slice a len cap) (.slice a' len' cap') t p, .int .i64 k] w fun e w' => e = .returned (.int .i64 (k + len + len')) ∧ Below w.heap.size w w' := by
  have HI : Hid (Ints w a len (marks k len) ∧ Ints w a' len' (marks (k + len) len')) := ⟨I, I'⟩
  clear I I'
  have h1 : ¬ (k + (len : Int)) < 0 := by omega
  have h2 : ¬ (k + (len : Int) + (len' : Int)) < 0 := by omega
  go_enter Tryz.func78, Tryz.ntmps78
  go_wp2_with fail
  refine (heldInts_any a len cap k _ (HI.out.1.alloc _) hs hk0 (by omega)).mono ?_
  rintro e w1 ⟨rfl, B1⟩
  have H1 : Hid (Below w.heap.size w w1) := below_call ((Below.refl _ w).alloc (Nat.le_refl _) _) (by simp) B1
  have c1 := ((quad_new w (.slice a len cap) (.slice a' len' cap') t p).all B1).c1
  clear B1
  go_wp2_with fail
  refine (heldInts_any a' len' cap' (k + len) _ (HI.out.2.kept H1.out) hs' (by omega) (by omega)).mono ?_
  rintro e w2 ⟨rfl, B2⟩
  have H2 : Hid (Below w.heap.size w w2) := below_call H1.out H1.out.size B2
  clear B2 c1
  go_wp2_with fail
  go_ret
  exact ⟨rfl, H2.out⟩

end Go.Proofs.YtcmeimfjedakeaaGreat.Crew
