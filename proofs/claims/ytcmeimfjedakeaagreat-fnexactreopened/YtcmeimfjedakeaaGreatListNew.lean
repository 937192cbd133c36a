/-
  A new List: spec.NewList, impl.NewList.
-/
import Derived.Test.YtcmeimfjedakeaaGreatListLaws
import Derived.Test.YtcmeimfjedakeaaGreatSmoothAns
import Derived.Deep.RegionHeld3
namespace Go.Proofs.YtcmeimfjedakeaaGreat.Crew
open Go.ChangeShapes Go.WideShapes Go.ChangeAt Go.RowKit

/-- impl.NewList. -/
theorem implNewL (a : Option Addr) (len cap : Nat) (cs : List Int) (w : World) (I : Ints w a len cs) :
    Calls Tryz.prog 221 #[.slice a len cap] w fun e w' => ∃ b lb cb d ld cd, e = .returned (.tuple #[lv (.slice b lb cb) (.slice d ld cd) 0 0, .bool (crewOk cs)]) ∧ Fit w' w.heap.size b lb cb (newC cs) ∧ Fit w' w.heap.size d ld cd (newR cs) ∧ Apart b d ∧ Below w.heap.size w w' := by
  have HI : Hid (Ints w a len cs) := I
  have hl := I.1
  clear I
  have P0 := quad_new w (.slice none 0 0) (.slice none 0 0) 0 0
  cases hc : crewOk cs
  · have HC : Hid (crewOk cs = false) := hc
    rw [newC_no hc, newR_no hc]
    clear hc P0
    go_enter Tryz.func221, Tryz.ntmps221
    go_wp2_with fail
    refine (implCrewOk a len cap cs _ (HI.out.alloc _)).mono ?_
    rw [HC.out]
    rintro e w1 ⟨rfl, rfl⟩
    go_wp2_with fail
    refine bodyPost_ret (ret_quad2 rfl rfl rfl (quad_new w _ _ _ _)) rfl ⟨_, _, _, _, _, _, rfl, fit_nil _ _, fit_nil _ _, apart_none _, below_new _ _⟩
  · have HC : Hid (crewOk cs = true ∧ cs.length = len) := ⟨hc, hl⟩
    have hs : (len : Int) ≤ 1048576 := by have := crew_len hc; omega
    have hm := made_ints len hs
    rw [newC_yes hc, newR_yes hc, hl]
    clear hc hl
    go_enter Tryz.func221, Tryz.ntmps221
    go_wp2_with fail
    refine (implCrewOk a len cap cs _ (HI.out.alloc _)).mono ?_
    rw [HC.out.1]
    rintro e w1 ⟨rfl, rfl⟩
    go_wp2_with fail
    go_region_held3 (fun _ => True) (trivial)
      ((go_at_call 138; refine (copied_any a len cap cs _ ?_ hs).mono ?_; (repeat (first | exact HI.out | apply Ints.drew | apply Ints.alloc)); rintro e w2 ⟨rfl, R2, B2⟩; have P2 : Quad w2 w.heap.size (.slice none 0 0) (.slice none 0 0) 0 0 := Quad.kept (by (repeat (first | exact P0 | apply Quad.drew | apply Quad.alloc))) B2 (by simp <;> omega); have p0 := P2.c0; have p1 := P2.c1; have p2 := P2.c2; have p3 := P2.c3; have f0 := P2.fr 0; have f1 := P2.fr 1; have f2 := P2.fr 2; have f3 := P2.fr 3; have n1 : w.heap.size < w2.heap.size := P2.lt; have n2 : ¬ w.heap.size = w2.heap.size := Nat.ne_of_lt n1; have n3 : ¬ w2.heap.size = w.heap.size := Nat.ne_of_gt n1))
    · clear p0 p1 p2 p3 f0 f1 f2 f3
      have hz : (w.alloc (.cells #[.slice none 0 0, .slice none 0 0, .int .i64 0, .int .i64 0] 31)).drew.heap.size = w.heap.size + 1 := by simp
      rw [hz] at R2 B2
      have H2 : Hid (Row w2 (w.heap.size + 1) len cs ∧ Quad w2 w.heap.size (.slice none 0 0) (.slice none 0 0) 0 0 ∧ Below w.heap.size w w2) := ⟨R2, P2, (below_new w _).drew.trans (B2.mono (Nat.le_succ _))⟩
      have h1 := R2.lt
      clear hz R2 B2 P2
      go_wp2_with fail
      refine bodyPost_ret (ret_quad2 rfl rfl rfl (((((H2.out.2.1.set0 _).set1 _).set2 0).set3 0).alloc _)) rfl ⟨_, _, _, _, _, _, rfl, ?_, ?_, ?_, ?_⟩
      · exact (((((H2.out.1.past (by omega) _).past (by omega) _).past (by omega) _).past (by omega) _).alloc _).fit (by omega) HC.out.2
      · exact (row_zeros_at (by simp) len hs).fit (by omega) (by simp)
      · exact fun x y hx hy => by cases hx; cases hy; exact (by simp; omega)
      · exact (below_set (below_set (below_set (below_set H2.out.2.2 (Nat.le_refl _) _) (Nat.le_refl _) _) (Nat.le_refl _) _) (Nat.le_refl _) _).alloc (by simp; omega) _
    · clear p0 p1 p2 p3 f0 f1 f2 f3
      have Z2 := Row.kept (row_zeros_at (X := w.alloc (.cells #[.slice none 0 0, .slice none 0 0, .int .i64 0, .int .i64 0] 31)) (s := w.heap.size + 1) (by simp) len hs).drew B2 (by simp)
      have hz : ((w.alloc (.cells #[.slice none 0 0, .slice none 0 0, .int .i64 0, .int .i64 0] 31)).alloc (.cells (zeros len) 2)).drew.heap.size = w.heap.size + 1 + 1 := by simp
      have B3 : Below w.heap.size w w2 := (((below_new w (.cells #[.slice none 0 0, .slice none 0 0, .int .i64 0, .int .i64 0] 31)).alloc (by simp) (.cells (zeros len) 2)).drew).trans (B2.mono (by simp; omega))
      rw [hz] at R2
      have H2 : Hid (Row w2 (w.heap.size + 1 + 1) len cs ∧ Quad w2 w.heap.size (.slice none 0 0) (.slice none 0 0) 0 0 ∧ Below w.heap.size w w2 ∧ Row w2 (w.heap.size + 1) len (List.replicate len 0)) := ⟨R2, P2, B3, Z2⟩
      clear hz R2 B2 P2 B3 Z2
      go_wp2_with fail
      refine bodyPost_ret (ret_quad2 rfl rfl rfl ((((H2.out.2.1.set0 _).set1 _).set2 0).set3 0)) rfl ⟨_, _, _, _, _, _, rfl, ?_, ?_, ?_, ?_⟩
      · exact ((((H2.out.1.past (by omega) _).past (by omega) _).past (by omega) _).past (by omega) _).fit (by omega) HC.out.2
      · exact ((((H2.out.2.2.2.past (by omega) _).past (by omega) _).past (by omega) _).past (by omega) _).fit (by omega) (by simp)
      · exact fun x y hx hy => by cases hx; cases hy; exact (by simp)
      · exact below_set (below_set (below_set (below_set H2.out.2.2.1 (Nat.le_refl _) _) (Nat.le_refl _) _) (Nat.le_refl _) _) (Nat.le_refl _) _

/-- spec.NewList. -/
theorem specNewL (a : Option Addr) (len cap : Nat) (cs : List Int) (w : World) (I : Ints w a len cs) (hs : (len : Int) ≤ 1048576) :
    Calls Tryz.prog 49 #[.slice a len cap] w fun e w' => ∃ b lb cb d ld cd, e = .returned (.tuple #[lv (.slice b lb cb) (.slice d ld cd) 0 0, .bool (crewOk cs)]) ∧ Fit w' w.heap.size b lb cb (newC cs) ∧ Fit w' w.heap.size d ld cd (newR cs) ∧ Apart b d ∧ Below w.heap.size w w' := by
  have HI : Hid (Ints w a len cs) := I
  have hl := I.1
  clear I
  have P0 := quad_new w (.slice none 0 0) (.slice none 0 0) 0 0
  cases hc : crewOk cs
  · have HC : Hid (crewOk cs = false) := hc
    rw [newC_no hc, newR_no hc]
    clear hc P0
    go_enter Tryz.func49, Tryz.ntmps49
    go_wp2_with fail
    refine (specCrewOk a len cap cs _ (HI.out.alloc _) hs).mono ?_
    rw [HC.out]
    rintro e w1 ⟨rfl, rfl⟩
    go_wp2_with fail
    refine bodyPost_ret (ret_quad2 rfl rfl rfl (quad_new w _ _ _ _)) rfl ⟨_, _, _, _, _, _, rfl, fit_nil _ _, fit_nil _ _, apart_none _, below_new _ _⟩
  · have HC : Hid (crewOk cs = true ∧ cs.length = len) := ⟨hc, hl⟩
    have hm := made_ints len hs
    rw [newC_yes hc, newR_yes hc, hl]
    clear hc hl
    go_enter Tryz.func49, Tryz.ntmps49
    go_wp2_with fail
    refine (specCrewOk a len cap cs _ (HI.out.alloc _) hs).mono ?_
    rw [HC.out.1]
    rintro e w1 ⟨rfl, rfl⟩
    go_wp2_with fail
    go_region_held3 (fun _ => True) (trivial)
      ((go_at_call 112; refine (copy_any a len cap cs _ ?_ hs).mono ?_; (repeat (first | exact HI.out | apply Ints.drew | apply Ints.alloc)); rintro e w2 ⟨g2, c2, rfl, R2, hg2, B2⟩; have P2 : Quad w2 w.heap.size (.slice none 0 0) (.slice none 0 0) 0 0 := Quad.kept (by (repeat (first | exact P0 | apply Quad.drew | apply Quad.alloc))) B2 (by simp <;> omega); have p0 := P2.c0; have p1 := P2.c1; have p2 := P2.c2; have p3 := P2.c3; have f0 := P2.fr 0; have f1 := P2.fr 1; have f2 := P2.fr 2; have f3 := P2.fr 3; have n1 : w.heap.size < w2.heap.size := P2.lt; have n2 : ¬ w.heap.size = w2.heap.size := Nat.ne_of_lt n1; have n3 : ¬ w2.heap.size = w.heap.size := Nat.ne_of_gt n1))
    · clear p0 p1 p2 p3 f0 f1 f2 f3
      have hz : (w.alloc (.cells #[.slice none 0 0, .slice none 0 0, .int .i64 0, .int .i64 0] 31)).drew.heap.size = w.heap.size + 1 := by simp
      rw [hz] at hg2 B2
      have H2 : Hid (Row w2 g2 c2 cs ∧ Quad w2 w.heap.size (.slice none 0 0) (.slice none 0 0) 0 0 ∧ Below w.heap.size w w2) := ⟨R2, P2, (below_new w _).drew.trans (B2.mono (Nat.le_succ _))⟩
      have h1 := R2.lt
      clear hz R2 B2 P2
      go_wp2_with fail
      refine bodyPost_ret (ret_quad2 rfl rfl rfl (((((H2.out.2.1.set0 _).set1 _).set2 0).set3 0).alloc _)) rfl ⟨_, _, _, _, _, _, rfl, ?_, ?_, ?_, ?_⟩
      · exact (((((H2.out.1.past (by omega) _).past (by omega) _).past (by omega) _).past (by omega) _).alloc _).fit (by omega) HC.out.2
      · exact (row_zeros_at (by simp) len hs).fit (by omega) (by simp)
      · exact fun x y hx hy => by cases hx; cases hy; exact (by simp; omega)
      · exact (below_set (below_set (below_set (below_set H2.out.2.2 (Nat.le_refl _) _) (Nat.le_refl _) _) (Nat.le_refl _) _) (Nat.le_refl _) _).alloc (by simp; omega) _
    · clear p0 p1 p2 p3 f0 f1 f2 f3
      have Z2 := Row.kept (row_zeros_at (X := w.alloc (.cells #[.slice none 0 0, .slice none 0 0, .int .i64 0, .int .i64 0] 31)) (s := w.heap.size + 1) (by simp) len hs).drew B2 (by simp)
      have hz : ((w.alloc (.cells #[.slice none 0 0, .slice none 0 0, .int .i64 0, .int .i64 0] 31)).alloc (.cells (zeros len) 2)).drew.heap.size = w.heap.size + 1 + 1 := by simp
      have B3 : Below w.heap.size w w2 := (((below_new w (.cells #[.slice none 0 0, .slice none 0 0, .int .i64 0, .int .i64 0] 31)).alloc (by simp) (.cells (zeros len) 2)).drew).trans (B2.mono (by simp; omega))
      rw [hz] at hg2
      have H2 : Hid (Row w2 g2 c2 cs ∧ Quad w2 w.heap.size (.slice none 0 0) (.slice none 0 0) 0 0 ∧ Below w.heap.size w w2 ∧ Row w2 (w.heap.size + 1) len (List.replicate len 0)) := ⟨R2, P2, B3, Z2⟩
      clear hz R2 B2 P2 B3 Z2
      go_wp2_with fail
      refine bodyPost_ret (ret_quad2 rfl rfl rfl ((((H2.out.2.1.set0 _).set1 _).set2 0).set3 0)) rfl ⟨_, _, _, _, _, _, rfl, ?_, ?_, ?_, ?_⟩
      · exact ((((H2.out.1.past (by omega) _).past (by omega) _).past (by omega) _).past (by omega) _).fit (by omega) HC.out.2
      · exact ((((H2.out.2.2.2.past (by omega) _).past (by omega) _).past (by omega) _).past (by omega) _).fit (by omega) (by simp)
      · exact fun x y hx hy => by cases hx; cases hy; exact (by simp; omega)
      · exact below_set (below_set (below_set (below_set H2.out.2.2.1 (Nat.le_refl _) _) (Nat.le_refl _) _) (Nat.le_refl _) _) (Nat.le_refl _) _

end Go.Proofs.YtcmeimfjedakeaaGreat.Crew
