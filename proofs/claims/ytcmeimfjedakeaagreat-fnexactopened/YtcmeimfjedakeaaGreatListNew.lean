/-
  A new List: spec.NewList, impl.NewList.
-/
import Derived.Test.YtcmeimfjedakeaaGreatListLaws
import Derived.Test.YtcmeimfjedakeaaGreatSmoothAns
import Derived.Deep.RegionHeld3
import Derived.Test.YtcmeimfjedakeaaGreatSmoothMath
import Derived.Deep.QuietTactic
namespace Go.Proofs.YtcmeimfjedakeaaGreat.Crew
open Go.ChangeShapes Go.WideShapes Go.ChangeAt Go.RowKit

/-- impl.NewList. -/
theorem implNewL (a : Option Addr) (len cap : Nat) (cs : List Int) (w : World) (I : Ints w a len cs) :
    Calls Tryz.prog 221 #[.slice a len cap] w fun e w' => ∃ b lb cb d ld cd, e = .returned (.tuple #[lv (.slice b lb cb) (.slice d ld cd) 0 0, .bool (crewOk cs)]) ∧ Fit w' w.heap.size b lb cb (newC cs) ∧ Fit w' w.heap.size d ld cd (newR cs) ∧ Apart b d ∧ Below w.heap.size w w' := by
  have HI : Hid (Ints w a len cs) := I
  have hl := I.1
  clear I
  have P0 := quad_new w (.slice none 0 0) (.slice none 0 0) 0 0
  cases hc : crewOk cs
  · have HC : Hid (crewOk cs = false) := hc
    rw [newC_no hc, newR_no hc]
    clear hc P0
    go_enter Tryz.func221, Tryz.ntmps221
    go_wp2_with fail
    refine (implCrewOk a len cap cs _ (HI.out.alloc _)).mono ?_
    rw [HC.out]
    rintro e w1 ⟨rfl, rfl⟩
    go_wp2_with fail
    refine bodyPost_ret (ret_quad2 rfl rfl rfl (quad_new w _ _ _ _)) rfl ⟨_, _, _, _, _, _, rfl, fit_nil _ _, fit_nil _ _, apart_none _, below_new _ _⟩
  · have HC : Hid (crewOk cs = true ∧ cs.length = len) := ⟨hc, hl⟩
    have hs : (len : Int) ≤ 1048576 := by have := crew_len hc; omega
    have hm := made_ints len hs
    rw [newC_yes hc, newR_yes hc, hl]
    clear hc hl
    go_enter Tryz.func221, Tryz.ntmps221
    go_wp2_with fail
    refine (implCrewOk a len cap cs _ (HI.out.alloc _)).mono ?_
    rw [HC.out.1]
    rintro e w1 ⟨rfl, rfl⟩
    go_wp2_with fail
    go_region_held3 (fun _ => True) (trivial)
      ((go_at_call 138; refine (copied_any a len cap cs _ ?_ hs).mono ?_; (repeat (first | exact HI.out | apply Ints.drew | apply Ints.alloc)); rintro e w2 ⟨rfl, R2, B2⟩; have P2 : Quad w2 w.heap.size (.slice none 0 0) (.slice none 0 0) 0 0 := Quad.kept (by (repeat (first | exact P0 | apply Quad.drew | apply Quad.alloc))) B2 (by simp <;> omega); have p0 := P2.c0; have p1 := P2.c1; have p2 := P2.c2; have p3 := P2.c3; have f0 := P2.fr 0; have f1 := P2.fr 1; have f2 := P2.fr 2; have f3 := P2.fr 3; have n1 : w.heap.size < w2.heap.size := P2.lt; have n2 : ¬ w.heap.size = w2.heap.size := Nat.ne_of_lt n1; have n3 : ¬ w2.heap.size = w.heap.size := Nat.ne_of_gt n1))
    · clear p0 p1 p2 p3 f0 f1 f2 f3
      have hz : (w.alloc (.cells #[.slice none 0 0, .slice none 0 0, .int .i64 0, .int .i64 0] 31)).drew.heap.size = w.heap.size + 1 := by simp
      rw [hz] at R2 B2
      have H2 : Hid (Row w2 (w.heap.size + 1) len cs ∧ Quad w2 w.heap.size (.slice none 0 0) (.slice none 0 0) 0 0 ∧ Below w.heap.size w w2) := ⟨R2, P2, (below_new w _).drew.trans (B2.mono (Nat.le_succ _))⟩
      have h1 := R2.lt
      clear hz R2 B2 P2
      go_wp2_with fail
      refine bodyPost_ret (ret_quad2 rfl rfl rfl (((((H2.out.2.1.set0 _).set1 _).set2 0).set3 0).alloc _)) rfl ⟨_, _, _, _, _, _, rfl, ?_, ?_, ?_, ?_⟩
      · exact (((((H2.out.1.past (by omega) _).past (by omega) _).past (by omega) _).past (by omega) _).alloc _).fit (by omega) HC.out.2
      · exact (row_zeros_at (by simp) len hs).fit (by omega) (by simp)
      · exact fun x y hx hy => by cases hx; cases hy; exact (by simp; omega)
      · exact (below_set (below_set (below_set (below_set H2.out.2.2 (Nat.le_refl _) _) (Nat.le_refl _) _) (Nat.le_refl _) _) (Nat.le_refl _) _).alloc (by simp; omega) _
    · clear p0 p1 p2 p3 f0 f1 f2 f3
      have Z2 := Row.kept (row_zeros_at (X := w.alloc (.cells #[.slice none 0 0, .slice none 0 0, .int .i64 0, .int .i64 0] 31)) (s := w.heap.size + 1) (by simp) len hs).drew B2 (by simp)
      have hz : ((w.alloc (.cells #[.slice none 0 0, .slice none 0 0, .int .i64 0, .int .i64 0] 31)).alloc (.cells (zeros len) 2)).drew.heap.size = w.heap.size + 1 + 1 := by simp
      have B3 : Below w.heap.size w w2 := (((below_new w (.cells #[.slice none 0 0, .slice none 0 0, .int .i64 0, .int .i64 0] 31)).alloc (by simp) (.cells (zeros len) 2)).drew).trans (B2.mono (by simp; omega))
      rw [hz] at R2
      have H2 : Hid (Row w2 (w.heap.size + 1 + 1) len cs ∧ Quad w2 w.heap.size (.slice none 0 0) (.slice none 0 0) 0 0 ∧ Below w.heap.size w w2 ∧ Row w2 (w.heap.size + 1) len (List.replicate len 0)) := ⟨R2, P2, B3, Z2⟩
      clear hz R2 B2 P2 B3 Z2
      go_wp2_with fail
      refine bodyPost_ret (ret_quad2 rfl rfl rfl ((((H2.out.2.1.set0 _).set1 _).set2 0).set3 0)) rfl ⟨_, _, _, _, _, _, rfl, ?_, ?_, ?_, ?_⟩
      · exact ((((H2.out.1.past (by omega) _).past (by omega) _).past (by omega) _).past (by omega) _).fit (by omega) HC.out.2
      · exact ((((H2.out.2.2.2.past (by omega) _).past (by omega) _).past (by omega) _).past (by omega) _).fit (by omega) (by simp)
      · exact fun x y hx hy => by cases hx; cases hy; exact (by simp)
      · exact below_set (below_set (below_set (below_set H2.out.2.2.1 (Nat.le_refl _) _) (Nat.le_refl _) _) (Nat.le_refl _) _) (Nat.le_refl _) _

/-- spec.NewList. -/
theorem specNewL (a : Option Addr) (len cap : Nat) (cs : List Int) (w : World) (I : Ints w a len cs) (hs : (len : Int) ≤ 1048576) :
    Calls Tryz.prog 49 #[.slice a len cap] w fun e w' => ∃ b lb cb d ld cd, e = .returned (.tuple #[lv (.slice b lb cb) (.slice d ld cd) 0 0, .bool (crewOk cs)]) ∧ Fit w' w.heap.size b lb cb (newC cs) ∧ Fit w' w.heap.size d ld cd (newR cs) ∧ Apart b d ∧ Below w.heap.size w w' := by
  have HI : Hid (Ints w a len cs) := I
  have hl := I.1
  clear I
  have P0 := quad_new w (.slice none 0 0) (.slice none 0 0) 0 0
  cases hc : crewOk cs
  · have HC : Hid (crewOk cs = false) := hc
    rw [newC_no hc, newR_no hc]
    clear hc P0
    go_enter Tryz.func49, Tryz.ntmps49
    go_wp2_with fail
    refine (specCrewOk a len cap cs _ (HI.out.alloc _) hs).mono ?_
    rw [HC.out]
    rintro e w1 ⟨rfl, rfl⟩
    go_wp2_with fail
    refine bodyPost_ret (ret_quad2 rfl rfl rfl (quad_new w _ _ _ _)) rfl ⟨_, _, _, _, _, _, rfl, fit_nil _ _, fit_nil _ _, apart_none _, below_new _ _⟩
  · have HC : Hid (crewOk cs = true ∧ cs.length = len) := ⟨hc, hl⟩
    have hm := made_ints len hs
    rw [newC_yes hc, newR_yes hc, hl]
    clear hc hl
    go_enter Tryz.func49, Tryz.ntmps49
    go_wp2_with fail
    refine (specCrewOk a len cap cs _ (HI.out.alloc _) hs).mono ?_
    rw [HC.out.1]
    rintro e w1 ⟨rfl, rfl⟩
    go_wp2_with fail
    go_region_held3 (fun _ => True) (trivial)
      ((go_at_call 112; refine (copy_any a len cap cs _ ?_ hs).mono ?_; (repeat (first | exact HI.out | apply Ints.drew | apply Ints.alloc)); rintro e w2 ⟨g2, c2, rfl, R2, hg2, B2⟩; have P2 : Quad w2 w.heap.size (.slice none 0 0) (.slice none 0 0) 0 0 := Quad.kept (by (repeat (first | exact P0 | apply Quad.drew | apply Quad.alloc))) B2 (by simp <;> omega); have p0 := P2.c0; have p1 := P2.c1; have p2 := P2.c2; have p3 := P2.c3; have f0 := P2.fr 0; have f1 := P2.fr 1; have f2 := P2.fr 2; have f3 := P2.fr 3; have n1 : w.heap.size < w2.heap.size := P2.lt; have n2 : ¬ w.heap.size = w2.heap.size := Nat.ne_of_lt n1; have n3 : ¬ w2.heap.size = w.heap.size := Nat.ne_of_gt n1))
    · clear p0 p1 p2 p3 f0 f1 f2 f3
      have hz : (w.alloc (.cells #[.slice none 0 0, .slice none 0 0, .int .i64 0, .int .i64 0] 31)).drew.heap.size = w.heap.size + 1 := by simp
      rw [hz] at hg2 B2
      have H2 : Hid (Row w2 g2 c2 cs ∧ Quad w2 w.heap.size (.slice none 0 0) (.slice none 0 0) 0 0 ∧ Below w.heap.size w w2) := ⟨R2, P2, (below_new w _).drew.trans (B2.mono (Nat.le_succ _))⟩
      have h1 := R2.lt
      clear hz R2 B2 P2
      go_wp2_with fail
      refine bodyPost_ret (ret_quad2 rfl rfl rfl (((((H2.out.2.1.set0 _).set1 _).set2 0).set3 0).alloc _)) rfl ⟨_, _, _, _, _, _, rfl, ?_, ?_, ?_, ?_⟩
      · exact (((((H2.out.1.past (by omega) _).past (by omega) _).past (by omega) _).past (by omega) _).alloc _).fit (by omega) HC.out.2
      · exact (row_zeros_at (by simp) len hs).fit (by omega) (by simp)
      · exact fun x y hx hy => by cases hx; cases hy; exact (by simp; omega)
      · exact (below_set (below_set (below_set (below_set H2.out.2.2 (Nat.le_refl _) _) (Nat.le_refl _) _) (Nat.le_refl _) _) (Nat.le_refl _) _).alloc (by simp; omega) _
    · clear p0 p1 p2 p3 f0 f1 f2 f3
      have Z2 := Row.kept (row_zeros_at (X := w.alloc (.cells #[.slice none 0 0, .slice none 0 0, .int .i64 0, .int .i64 0] 31)) (s := w.heap.size + 1) (by simp) len hs).drew B2 (by simp)
      have hz : ((w.alloc (.cells #[.slice none 0 0, .slice none 0 0, .int .i64 0, .int .i64 0] 31)).alloc (.cells (zeros len) 2)).drew.heap.size = w.heap.size + 1 + 1 := by simp
      have B3 : Below w.heap.size w w2 := (((below_new w (.cells #[.slice none 0 0, .slice none 0 0, .int .i64 0, .int .i64 0] 31)).alloc (by simp) (.cells (zeros len) 2)).drew).trans (B2.mono (by simp; omega))
      rw [hz] at hg2
      have H2 : Hid (Row w2 g2 c2 cs ∧ Quad w2 w.heap.size (.slice none 0 0) (.slice none 0 0) 0 0 ∧ Below w.heap.size w w2 ∧ Row w2 (w.heap.size + 1) len (List.replicate len 0)) := ⟨R2, P2, B3, Z2⟩
      clear hz R2 B2 P2 B3 Z2
      go_wp2_with fail
      refine bodyPost_ret (ret_quad2 rfl rfl rfl ((((H2.out.2.1.set0 _).set1 _).set2 0).set3 0)) rfl ⟨_, _, _, _, _, _, rfl, ?_, ?_, ?_, ?_⟩
      · exact ((((H2.out.1.past (by omega) _).past (by omega) _).past (by omega) _).past (by omega) _).fit (by omega) HC.out.2
      · exact ((((H2.out.2.2.2.past (by omega) _).past (by omega) _).past (by omega) _).past (by omega) _).fit (by omega) (by simp)
      · exact fun x y hx hy => by cases hx; cases hy; exact (by simp; omega)
      · exact below_set (below_set (below_set (below_set H2.out.2.2.1 (Nat.le_refl _) _) (Nat.le_refl _) _) (Nat.le_refl _) _) (Nat.le_refl _) _

end Go.Proofs.YtcmeimfjedakeaaGreat.Crew

/-
  spec.l8Copy: a List copied.
-/
namespace Go.Proofs.YtcmeimfjedakeaaGreat.Crew
open Go.ChangeShapes Go.WideShapes Go.ChangeAt Go.RowKit

theorem Row.sets4 {w : World} {g cap b : Nat} {xs : List Int} (h : Row w g cap xs) (hb : g ≠ b) (x0 x1 x2 x3 : Value) : Row ((((w.setCell ⟨b, 0, none⟩ x0).setCell ⟨b, 1, none⟩ x1).setCell ⟨b, 2, none⟩ x2).setCell ⟨b, 3, none⟩ x3) g cap xs :=
  (((h.past hb _).past hb _).past hb _).past hb _

theorem Four.sets4 {w : World} {g b : Nat} {x y : Value} {t p : Int} (h : Four w g x y t p) (hb : g ≠ b) (x0 x1 x2 x3 : Value) : Four ((((w.setCell ⟨b, 0, none⟩ x0).setCell ⟨b, 1, none⟩ x1).setCell ⟨b, 2, none⟩ x2).setCell ⟨b, 3, none⟩ x3) g x y t p :=
  (((h.past hb _).past hb _).past hb _).past hb _

theorem below_sets4 {B b : Nat} {w w1 : World} (h : Below B w w1) (hb : B ≤ b) (x0 x1 x2 x3 : Value) : Below B w ((((w1.setCell ⟨b, 0, none⟩ x0).setCell ⟨b, 1, none⟩ x1).setCell ⟨b, 2, none⟩ x2).setCell ⟨b, 3, none⟩ x3) :=
  below_set (below_set (below_set (below_set h hb _) hb _) hb _) hb _

/-- spec.l8Copy: a copy in two blocks of its own. -/
theorem copy8_any (a : Option Addr) (len cap : Nat) (xs : List Int) (a' : Option Addr) (len' cap' : Nat) (ys : List Int) (t p : Int) (w : World) (I : Ints w a len xs) (J : Ints w a' len' ys) (hs : (len : Int) ≤ 1048576) (hs' : (len' : Int) ≤ 1048576) :
    Calls Tryz.prog 136 #[lv (.slice a len cap) (.slice a' len' cap') t p] w fun e w' => ∃ g c h d : Nat, e = .returned (lv (.slice (some ⟨g, 0, none⟩) len c) (.slice (some ⟨h, 0, none⟩) len' d) t p) ∧ Row w' g c xs ∧ Row w' h d ys ∧ w.heap.size ≤ g ∧ w.heap.size ≤ h ∧ g ≠ h ∧ Below w.heap.size w w' := by
  obtain ⟨W0, hW0⟩ : ∃ W0, W0 = (w.alloc (.cells #[.slice a len cap, .slice a' len' cap', .int .i64 t, .int .i64 p] 31)).alloc (.cells #[.slice none 0 0, .slice none 0 0, .int .i64 0, .int .i64 0] 31) := ⟨_, rfl⟩
  have hz : W0.heap.size = w.heap.size + 2 := by rw [hW0]; simp
  have T : Four W0 w.heap.size (.slice a len cap) (.slice a' len' cap') t p := by rw [hW0]; exact (four_new _ _ _ _ _ _).alloc _
  have P : Quad W0 (w.heap.size + 1) (.slice none 0 0) (.slice none 0 0) 0 0 := by
    rw [hW0]
    have := quad_new (w.alloc (.cells #[.slice a len cap, .slice a' len' cap', .int .i64 t, .int .i64 p] 31)) (.slice none 0 0) (.slice none 0 0) 0 0
    simpa using this
  have C : Below w.heap.size w W0 := by rw [hW0]; exact (below_new _ _).alloc (by simp) _
  have HI : Hid (Ints w a len xs ∧ Ints w a' len' ys) := ⟨I, J⟩
  clear I J
  go_enter Tryz.func136, Tryz.ntmps136
  go_wp2_with fail
  rw [← hW0]
  clear hW0
  have t0 := T.c0
  have t1 := T.c1
  have t2 := T.c2
  have t3 := T.c3
  go_region_held3 (fun w' => w'.cell? ⟨w.heap.size, 0, none⟩ = some (.slice a len cap) ∧ w'.cell? ⟨w.heap.size, 1, none⟩ = some (.slice a' len' cap') ∧ w'.cell? ⟨w.heap.size, 2, none⟩ = some (.int .i64 t) ∧ w'.cell? ⟨w.heap.size, 3, none⟩ = some (.int .i64 p)) (go_keep)
    (first | (go_at_call_of 112 (Value.slice a len cap); refine (copy_any a len cap xs _ ?_ hs).mono ?_; (first | (exact HI.out.1.kept C) | (exact HI.out.1.kept C.drew)); rintro e u1 ⟨g1, c1, rfl, R1, hg1, B1⟩; have T : Four u1 w.heap.size (.slice a len cap) (.slice a' len' cap') t p := (by first | (exact Four.all T B1) | (exact Four.all (w := W0.drew) T.drew B1)); have P : Quad u1 (w.heap.size + 1) (.slice none 0 0) (.slice none 0 0) 0 0 := (by first | (exact Quad.all P B1) | (exact Quad.all (w := W0.drew) P B1)); have C : Below w.heap.size w u1 := (by first | (exact below_call C C.size B1) | (exact below_call C.drew C.drew.size B1)); have t0 := T.c0; have t1 := T.c1; have t2 := T.c2; have t3 := T.c3; have p0 := P.c0; have p1 := P.c1; have p2 := P.c2; have p3 := P.c3; have f0 := P.fr 0; have f1 := P.fr 1; have f2 := P.fr 2; have f3 := P.fr 3; have m1 := T.lt; have m2 : ¬ w.heap.size = w.heap.size + 1 := Nat.ne_of_lt (Nat.lt_succ_self _)) | (go_at_call_of 112 (Value.slice a' len' cap'); refine (copy_any a' len' cap' ys _ ?_ hs').mono ?_; (first | (exact HI.out.2.kept C) | (exact HI.out.2.kept C.drew)); rintro e u2 ⟨g2, c2, rfl, R2, hg2, B2⟩; have T : Four u2 w.heap.size (.slice a len cap) (.slice a' len' cap') t p := (by first | (exact Four.all T B2) | (exact Four.all (w := W0.drew) T.drew B2)); have P : Quad u2 (w.heap.size + 1) (.slice none 0 0) (.slice none 0 0) 0 0 := (by first | (exact Quad.all P B2) | (exact Quad.all (w := W0.drew) P B2)); have C : Below w.heap.size w u2 := (by first | (exact below_call C C.size B2) | (exact below_call C.drew C.drew.size B2)); have t0 := T.c0; have t1 := T.c1; have t2 := T.c2; have t3 := T.c3; have p0 := P.c0; have p1 := P.c1; have p2 := P.c2; have p3 := P.c3; have f0 := P.fr 0; have f1 := P.fr 1; have f2 := P.fr 2; have f3 := P.fr 3; have m1 := T.lt; have m2 : ¬ w.heap.size = w.heap.size + 1 := Nat.ne_of_lt (Nat.lt_succ_self _)))
  have l1 := R1.lt
  have l0 := B1.size
  have h1 : W0.heap.size ≤ g1 := hg1
  have H : Hid (Row u2 g1 c1 xs ∧ Row u2 g2 c2 ys ∧ Quad u2 (w.heap.size + 1) (.slice none 0 0) (.slice none 0 0) 0 0 ∧ Below w.heap.size w u2) := ⟨R1.all B2, R2, P, C⟩
  clear hg1 l0 R1 R2 B1 B2 t0 t1 t2 t3 T P C
  go_wp2_with fail
  refine bodyPost_ret (ret_quad rfl rfl ((((H.out.2.2.1.set0 _).set1 _).set2 _).set3 _)) rfl ⟨_, _, _, _, rfl, ?_, ?_, ?_, ?_, ?_, ?_⟩
  · exact H.out.1.sets4 (by omega) _ _ _ _
  · exact H.out.2.1.sets4 (by omega) _ _ _ _
  · omega
  · omega
  · omega
  · exact below_sets4 H.out.2.2.2 (by omega) _ _ _ _

end Go.Proofs.YtcmeimfjedakeaaGreat.Crew

/-
  The next one, by spec: spec.l6Copy and spec.SmoothNext.
-/
namespace Go.Proofs.YtcmeimfjedakeaaGreat.Crew
open Go.ChangeShapes Go.WideShapes Go.ChangeAt Go.RowKit

/-- spec.l6Copy: a copy in two blocks of its own. -/
theorem copy6_any (a : Option Addr) (len cap : Nat) (xs : List Int) (a' : Option Addr) (len' cap' : Nat) (ys : List Int) (w : World) (I : Ints w a len xs) (J : Ints w a' len' ys) (hs : (len : Int) ≤ 1048576) (hs' : (len' : Int) ≤ 1048576) :
    Calls Tryz.prog 135 #[sm (.slice a len cap) (.slice a' len' cap')] w fun e w' => ∃ g c h d : Nat, e = .returned (sm (.slice (some ⟨g, 0, none⟩) len c) (.slice (some ⟨h, 0, none⟩) len' d)) ∧ Row w' g c xs ∧ Row w' h d ys ∧ w.heap.size ≤ g ∧ w.heap.size ≤ h ∧ g ≠ h ∧ Below w.heap.size w w' := by
  obtain ⟨W0, hW0⟩ : ∃ W0, W0 = (w.alloc (.cells #[.slice a len cap, .slice a' len' cap'] 29)).alloc (.cells #[.slice none 0 0, .slice none 0 0] 29) := ⟨_, rfl⟩
  have hz : W0.heap.size = w.heap.size + 2 := by rw [hW0]; simp
  have T : Two W0 w.heap.size (.slice a len cap) (.slice a' len' cap') := by rw [hW0]; exact (two_new _ _ _ _).alloc _
  have P : Pair W0 (w.heap.size + 1) (.slice none 0 0) (.slice none 0 0) := by
    rw [hW0]
    have := pair_new (w.alloc (.cells #[.slice a len cap, .slice a' len' cap'] 29)) (.slice none 0 0) (.slice none 0 0)
    simpa using this
  have C : Below w.heap.size w W0 := by rw [hW0]; exact (below_new _ _).alloc (by simp) _
  have HI : Hid (Ints w a len xs ∧ Ints w a' len' ys) := ⟨I, J⟩
  clear I J
  go_enter Tryz.func135, Tryz.ntmps135
  go_wp2_with fail
  rw [← hW0]
  clear hW0
  have t0 := T.2.1
  have t1 := T.2.2
  go_region_held3 (fun w' => w'.cell? ⟨w.heap.size, 0, none⟩ = some (.slice a len cap) ∧ w'.cell? ⟨w.heap.size, 1, none⟩ = some (.slice a' len' cap')) (go_keep)
    (first | (go_at_call_of 112 (Value.slice a len cap); refine (copy_any a len cap xs _ ?_ hs).mono ?_; (first | (exact HI.out.1.kept C) | (exact HI.out.1.kept C.drew)); rintro e u1 ⟨g1, c1, rfl, R1, hg1, B1⟩; have T : Two u1 w.heap.size (.slice a len cap) (.slice a' len' cap') := (by first | (exact Two.all T B1) | (exact Two.all (w := W0.drew) T B1)); have P : Pair u1 (w.heap.size + 1) (.slice none 0 0) (.slice none 0 0) := (by first | (exact Pair.all P B1) | (exact Pair.all (w := W0.drew) P B1)); have C : Below w.heap.size w u1 := (by first | (exact below_call C C.size B1) | (exact below_call C.drew C.drew.size B1)); have t0 := T.2.1; have t1 := T.2.2; have p0 := P.c0; have p1 := P.c1; have f0 := P.fr 0; have f1 := P.fr 1) | (go_at_call_of 112 (Value.slice a' len' cap'); refine (copy_any a' len' cap' ys _ ?_ hs').mono ?_; (first | (exact HI.out.2.kept C) | (exact HI.out.2.kept C.drew)); rintro e u2 ⟨g2, c2, rfl, R2, hg2, B2⟩; have T : Two u2 w.heap.size (.slice a len cap) (.slice a' len' cap') := (by first | (exact Two.all T B2) | (exact Two.all (w := W0.drew) T B2)); have P : Pair u2 (w.heap.size + 1) (.slice none 0 0) (.slice none 0 0) := (by first | (exact Pair.all P B2) | (exact Pair.all (w := W0.drew) P B2)); have C : Below w.heap.size w u2 := (by first | (exact below_call C C.size B2) | (exact below_call C.drew C.drew.size B2)); have t0 := T.2.1; have t1 := T.2.2; have p0 := P.c0; have p1 := P.c1; have f0 := P.fr 0; have f1 := P.fr 1))
  have l1 := R1.lt
  have l0 := B1.size
  have h1 : W0.heap.size ≤ g1 := hg1
  have H : Hid (Row u2 g1 c1 xs ∧ Row u2 g2 c2 ys ∧ Pair u2 (w.heap.size + 1) (.slice none 0 0) (.slice none 0 0) ∧ Below w.heap.size w u2) := ⟨R1.all B2, R2, P, C⟩
  clear hg1 l0 R1 R2 B1 B2 t0 t1 T P C
  go_wp2_with fail
  refine bodyPost_ret (ret_pair rfl rfl ((H.out.2.2.1.set0 _).set1 _)) rfl ⟨_, _, _, _, rfl, ?_, ?_, ?_, ?_, ?_, ?_⟩
  · exact (H.out.1.past (by omega) _).past (by omega) _
  · exact (H.out.2.1.past (by omega) _).past (by omega) _
  · omega
  · omega
  · omega
  · exact below_set (below_set H.out.2.2.2 (by omega) _) (by omega) _

/-- spec.SmoothNext where it cannot be. -/
theorem specNext_off (a : Option Addr) (len cap : Nat) (cs : List Int) (a' : Option Addr) (len' cap' : Nat) (rs : List Int) (w : World) (I : Ints w a len cs) (J : Ints w a' len' rs) (hs : (len : Int) ≤ 1048576) (hk : smoothOk cs rs = false) :
    Calls Tryz.prog 171 #[sm (.slice a len cap) (.slice a' len' cap')] w fun e w' => e = .returned (.tuple #[sm (.slice none 0 0) (.slice none 0 0), .int .i64 (-1)]) ∧ Below w.heap.size w w' := by
  have HI : Hid (Ints w a len cs ∧ Ints w a' len' rs ∧ smoothOk cs rs = false) := ⟨I, J, hk⟩
  clear I J hk
  have C := below_new w (.cells #[.slice a len cap, .slice a' len' cap'] 29)
  have hC : Hid (Below w.heap.size w ((w.alloc (.cells #[.slice a len cap, .slice a' len' cap'] 29)).alloc (.cells #[.slice none 0 0, .slice none 0 0] 29)) ∧ Pair ((w.alloc (.cells #[.slice a len cap, .slice a' len' cap'] 29)).alloc (.cells #[.slice none 0 0, .slice none 0 0] 29)) (w.heap.size + 1) (.slice none 0 0) (.slice none 0 0)) := ⟨C.alloc (by simp) _, by have := pair_new (w.alloc (.cells #[.slice a len cap, .slice a' len' cap'] 29)) (.slice none 0 0) (.slice none 0 0); simpa using this⟩
  clear C
  go_enter Tryz.func171, Tryz.ntmps171
  go_wp2_with fail
  refine (specSmooth a len cap cs a' len' cap' rs _ (HI.out.1.kept hC.out.1) (HI.out.2.1.kept hC.out.1) hs).mono ?_
  rw [HI.out.2.2]
  rintro e w1 ⟨rfl, B1⟩
  have H1 : Hid (Below w.heap.size w w1 ∧ Pair w1 (w.heap.size + 1) (.slice none 0 0) (.slice none 0 0)) := ⟨below_call hC.out.1 hC.out.1.size B1, hC.out.2.all B1⟩
  clear B1 hC
  have p0 := H1.out.2.c0
  have p1 := H1.out.2.c1
  have f0 := H1.out.2.fr 0
  have f1 := H1.out.2.fr 1
  go_wp2_with fail
  exact bodyPost_ret (ret_pair2 rfl rfl rfl ((H1.out.2.set0 _).set1 _)) rfl ⟨rfl, below_set (below_set H1.out.1 (by omega) _) (by omega) _⟩

/-- What the loop of spec.SmoothNext knows. -/
structure Lp (w : World) (s bo gC cC gR cR : Nat) (len : Nat) (cs row : List Int) (wr : World) : Prop where
  out : Pair wr bo (.slice (some ⟨gC, 0, none⟩) len cC) (.slice (some ⟨gR, 0, none⟩) len cR)
  crew : Row wr gC cC cs
  rich : Row wr gR cR row
  res : Pair wr (s + 1) (.slice none 0 0) (.slice none 0 0)
  bel : Below s w wr

theorem Lp.drewN {w : World} {s bo gC cC gR cR len : Nat} {cs row : List Int} {wr : World} (h : Lp w s bo gC cC gR cR len cs row wr) (n : Nat) : Lp w s bo gC cC gR cR len cs row (wr.drewN n) :=
  ⟨h.out.all (below_drewN (Below.refl _ _) n), row_drewN h.crew n, row_drewN h.rich n, h.res.all (below_drewN (Below.refl _ _) n), below_drewN h.bel n⟩

theorem Lp.drew {w : World} {s bo gC cC gR cR len : Nat} {cs row : List Int} {wr : World} (h : Lp w s bo gC cC gR cR len cs row wr) : Lp w s bo gC cC gR cR len cs row wr.drew := h.drewN 1

theorem Lp.set {w : World} {s bo gC cC gR cR len : Nat} {cs row : List Int} {wr : World} (h : Lp w s bo gC cC gR cR len cs row wr) (j : Nat) (v : Int) (h1 : s + 1 < gR) (h2 : gC ≠ gR) (h3 : bo ≠ gR) : Lp w s bo gC cC gR cR len cs (row.set j v) (wr.setCell ⟨gR, j, none⟩ (.int .i64 v)) :=
  ⟨h.out.past h3 _, h.crew.past h2 _, h.rich.set j v, h.res.past (by omega) _, below_set h.bel (by omega) _⟩

theorem Lp.all {w : World} {s bo gC cC gR cR len : Nat} {cs row : List Int} {wr wr' : World} (h : Lp w s bo gC cC gR cR len cs row wr) (k : Below wr.heap.size wr wr') : Lp w s bo gC cC gR cR len cs row wr' :=
  ⟨h.out.all k, h.crew.all k, h.rich.all k, h.res.all k, h.bel.trans (k.mono (Nat.le_of_lt (Nat.lt_of_succ_lt h.res.lt)))⟩

end Go.Proofs.YtcmeimfjedakeaaGreat.Crew
