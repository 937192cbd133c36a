/-
  The law FnExactManyLag: whatever the Many, it answers true and nothing that was there is written.
-/
import Derived.Test.YtjhenfdmbagaiaaManyLaws
import Derived.Test.YtjhenfdmbagaiaaManyLagT
import Derived.Deep.RegionHeld3
namespace Go.Proofs.Ytjhenfdmbagaiaa.Crew
open Go.ChangeShapes Go.WideShapes Go.ChangeAt Go.RowKit

theorem lawManyLag (a : Option Addr) (len cap : Nat) (xs : List Shr) (a' : Option Addr) (len' cap' : Nat) (ys : List Int) (t p i : Int) (w : World) (I : Shs w a len xs) (J : Ints w a' len' ys) (hm : (len : Int) ≤ 9223372036854775807) (hm' : (len' : Int) ≤ 9223372036854775807) :
    Calls Try.prog 7 #[mv (.slice a len cap) (.slice a' len' cap') t p, .int .i64 i] w fun e w' => e = .returned (.bool true) ∧ Below w.heap.size w w' := by
  have HI : Hid (Shs w a len xs ∧ Ints w a' len' ys) := ⟨I, J⟩
  clear I J
  by_cases hs : (1048576 : Int) < (len : Int) + (len' : Int)
  · go_enter Try.func7, Try.ntmps7
    go_wp2_with fail
    refine (szMany_no a len cap a' len' cap' t p _ hm hm' hs).mono ?_
    rintro e w1 ⟨rfl, B1⟩
    have H1 : Hid (Below w.heap.size w w1) := below_call (below_new w _) (by simp) B1
    clear B1
    go_wp2_with fail
    go_ret
    exact ⟨rfl, H1.out⟩
  · have h0 : (len : Int) + (len' : Int) ≤ 1048576 := by omega
    have h1 : (len : Int) ≤ 1048576 := by omega
    have h2 : (len' : Int) ≤ 1048576 := by omega
    have h3 : ¬ (1048576 - (len : Int) - (len' : Int)) < 0 := by omega
    clear hm hm' hs
    have H0 : Hid (Four (w.alloc (.cells #[.slice a len cap, .slice a' len' cap', .int .i64 t, .int .i64 p] 49)) w.heap.size (.slice a len cap) (.slice a' len' cap') t p ∧ Below w.heap.size w (w.alloc (.cells #[.slice a len cap, .slice a' len' cap', .int .i64 t, .int .i64 p] 49))) := ⟨four_new w _ _ t p _, below_new w _⟩
    obtain ⟨m, hm0⟩ : ∃ m, m = manyLag xs ys t p i := ⟨_, rfl⟩
    obtain ⟨q, hq0⟩ : ∃ q, q = lagIn xs ys t p i := ⟨_, rfl⟩
    have HK : Hid (manyLag xs ys t p i = m ∧ lagIn xs ys t p i = q) := ⟨hm0.symm, hq0.symm⟩
    have hmm : (m != m) = false := by simp
    have hqq : (q != q) = false := by simp
    clear hm0 hq0
    go_enter Try.func7, Try.ntmps7
    go_wp2_with fail
    refine (szMany_yes a len cap a' len' cap' t p _ h0).mono ?_
    rintro e w1 ⟨rfl, B1⟩
    have H1 : Hid (Four w1 w.heap.size (.slice a len cap) (.slice a' len' cap') t p ∧ Below w.heap.size w w1) := ⟨H0.out.1.all B1, below_call H0.out.2 H0.out.2.size B1⟩
    have t0 := H1.out.1.c0
    have t1 := H1.out.1.c1
    have t2 := H1.out.1.c2
    have t3 := H1.out.1.c3
    clear B1
    go_wp2_with fail
    clear t0 t1 t2 t3
    refine (toMany_any a len cap xs a' len' cap' ys t p _ (HI.out.1.kept H1.out.2) (HI.out.2.kept H1.out.2) h1 h2).mono ?_
    rintro e w2 ⟨g2, k2, rfl, R2, S2, _, _, _, B2⟩
    have H2 : Hid (Four w2 w.heap.size (.slice a len cap) (.slice a' len' cap') t p ∧ Below w.heap.size w w2) := ⟨H1.out.1.all B2, below_call H1.out.2 H1.out.2.size B2⟩
    have Q2 : Hid (Shs w2 (some ⟨g2, 0, none⟩) len xs ∧ Ints w2 (some ⟨k2, 0, none⟩) len' ys) := by
      have e1 := HI.out.1.1
      have e2 := HI.out.2.1
      subst e1 e2
      exact ⟨R2.shs, S2.ints⟩
    clear B2 R2 S2 H1
    go_wp2_with fail
    refine (specManyLag _ _ _ xs _ _ _ ys t p i _ Q2.out.1 Q2.out.2 h1).mono ?_
    rw [HK.out.1, HK.out.2]
    rintro e w3 ⟨rfl, B3⟩
    have H3 : Hid (Four w3 w.heap.size (.slice a len cap) (.slice a' len' cap') t p ∧ Below w.heap.size w w3) := ⟨H2.out.1.all B3, below_call H2.out.2 H2.out.2.size B3⟩
    clear B3 Q2 H2
    have t0 := H3.out.1.c0
    have t1 := H3.out.1.c1
    have t2 := H3.out.1.c2
    have t3 := H3.out.1.c3
    go_wp2_with fail
    clear t0 t1 t2 t3
    refine (toMany_any a len cap xs a' len' cap' ys t p _ (HI.out.1.kept H3.out.2) (HI.out.2.kept H3.out.2) h1 h2).mono ?_
    rintro e w4 ⟨g4, k4, rfl, R4, S4, _, _, _, B4⟩
    have H4 : Hid (Four w4 w.heap.size (.slice a len cap) (.slice a' len' cap') t p ∧ Below w.heap.size w w4) := ⟨H3.out.1.all B4, below_call H3.out.2 H3.out.2.size B4⟩
    have Q4 : Hid (Shs w4 (some ⟨g4, 0, none⟩) len xs ∧ Ints w4 (some ⟨k4, 0, none⟩) len' ys) := by
      have e1 := HI.out.1.1
      have e2 := HI.out.2.1
      subst e1 e2
      exact ⟨R4.shs, S4.ints⟩
    clear B4 R4 S4 H3
    go_wp2_with fail
    have H5 : Hid (Four (w4.alloc (.cells #[.slice (some ⟨g4, 0, none⟩) len len, .slice (some ⟨k4, 0, none⟩) len' len', .int .i64 t, .int .i64 p] 33)) w.heap.size (.slice a len cap) (.slice a' len' cap') t p ∧ Below w.heap.size w (w4.alloc (.cells #[.slice (some ⟨g4, 0, none⟩) len len, .slice (some ⟨k4, 0, none⟩) len' len', .int .i64 t, .int .i64 p] 33)) ∧ Four (w4.alloc (.cells #[.slice (some ⟨g4, 0, none⟩) len len, .slice (some ⟨k4, 0, none⟩) len' len', .int .i64 t, .int .i64 p] 33)) w4.heap.size (.slice (some ⟨g4, 0, none⟩) len len) (.slice (some ⟨k4, 0, none⟩) len' len') t p ∧ Shs (w4.alloc (.cells #[.slice (some ⟨g4, 0, none⟩) len len, .slice (some ⟨k4, 0, none⟩) len' len', .int .i64 t, .int .i64 p] 33)) (some ⟨g4, 0, none⟩) len xs ∧ Ints (w4.alloc (.cells #[.slice (some ⟨g4, 0, none⟩) len len, .slice (some ⟨k4, 0, none⟩) len' len', .int .i64 t, .int .i64 p] 33)) (some ⟨k4, 0, none⟩) len' ys) :=
      ⟨H4.out.1.alloc _, below_call H4.out.2 H4.out.2.size (below_new _ _), four_new _ _ _ _ _ _, Q4.out.1.alloc _, Q4.out.2.alloc _⟩
    refine (implManyLag _ _ _ xs _ _ _ ys t p i _ H5.out.2.2.2.1 H5.out.2.2.2.2 h1).mono ?_
    rw [HK.out.1, HK.out.2]
    rintro e w6 ⟨rfl, B6⟩
    have H6 : Hid (Four w6 w.heap.size (.slice a len cap) (.slice a' len' cap') t p ∧ Below w.heap.size w w6 ∧ Four w6 w4.heap.size (.slice (some ⟨g4, 0, none⟩) len len) (.slice (some ⟨k4, 0, none⟩) len' len') t p ∧ Shs w6 (some ⟨g4, 0, none⟩) len xs ∧ Ints w6 (some ⟨k4, 0, none⟩) len' ys) :=
      ⟨H5.out.1.all B6, below_call H5.out.2.1 H5.out.2.1.size B6, H5.out.2.2.1.all B6, H5.out.2.2.2.1.kept B6, H5.out.2.2.2.2.kept B6⟩
    clear B6 H5 Q4 H4
    generalize w4.heap.size = s4 at *
    go_wp2_with fail
    have t0 := H6.out.1.c0
    have t1 := H6.out.1.c1
    have t2 := H6.out.1.c2
    have t3 := H6.out.1.c3
    have u0 := H6.out.2.2.1.c0
    have u1 := H6.out.2.2.1.c1
    have u2 := H6.out.2.2.1.c2
    have u3 := H6.out.2.2.1.c3
    go_region_held3 (fun w' => w'.cell? ⟨w.heap.size, 0, none⟩ = some (.slice a len cap) ∧ w'.cell? ⟨w.heap.size, 1, none⟩ = some (.slice a' len' cap') ∧ w'.cell? ⟨w.heap.size, 2, none⟩ = some (.int .i64 t) ∧ w'.cell? ⟨w.heap.size, 3, none⟩ = some (.int .i64 p) ∧ w'.cell? ⟨s4, 0, none⟩ = some (.slice (some ⟨g4, 0, none⟩) len len) ∧ w'.cell? ⟨s4, 1, none⟩ = some (.slice (some ⟨k4, 0, none⟩) len' len') ∧ w'.cell? ⟨s4, 2, none⟩ = some (.int .i64 t) ∧ w'.cell? ⟨s4, 3, none⟩ = some (.int .i64 p)) (go_keep)
      (first | (go_at_call 22; refine (toMany_any a len cap xs a' len' cap' ys t p _ (HI.out.1.kept H6.out.2.1.drew) (HI.out.2.kept H6.out.2.1.drew) h1 h2).mono ?_; rintro e w7 ⟨g7, k7, rfl, R7, S7, _, _, _, B7⟩; have H7 : Hid (Four w7 w.heap.size (.slice a len cap) (.slice a' len' cap') t p ∧ Below w.heap.size w w7 ∧ Four w7 s4 (.slice (some ⟨g4, 0, none⟩) len len) (.slice (some ⟨k4, 0, none⟩) len' len') t p ∧ Shs w7 (some ⟨g4, 0, none⟩) len xs ∧ Ints w7 (some ⟨k4, 0, none⟩) len' ys ∧ SRow w7 g7 len xs ∧ Row w7 k7 len' ys) := ⟨Four.all (w := w6.drew) H6.out.1.drew B7, below_call (w1 := w6.drew) H6.out.2.1.drew H6.out.2.1.drew.size B7, Four.all (w := w6.drew) H6.out.2.2.1.drew B7, Shs.kept (w := w6.drew) H6.out.2.2.2.1.drew B7, Ints.kept (w := w6.drew) H6.out.2.2.2.2 B7, R7, S7⟩; have t0 := H7.out.1.c0; have t1 := H7.out.1.c1; have t2 := H7.out.1.c2; have t3 := H7.out.1.c3; have u0 := H7.out.2.2.1.c0; have u1 := H7.out.2.2.1.c1; have u2 := H7.out.2.2.1.c2; have u3 := H7.out.2.2.1.c3; clear R7 S7 B7) | (go_at_call 23; refine (eqMany_same _ _ _ _ _ _ _ _ _ _ _ _ xs ys t p _ H7.out.2.2.2.1 H7.out.2.2.2.2.1 (by have := H7.out.2.2.2.2.2.1.shs; rwa [HI.out.1.1] at this) (by have := H7.out.2.2.2.2.2.2.ints; rwa [HI.out.2.1] at this) h1 h2).mono ?_; rintro e w8 ⟨rfl, B8⟩; have t0 := (H7.out.1.all B8).c0; have t1 := (H7.out.1.all B8).c1; have t2 := (H7.out.1.all B8).c2; have t3 := (H7.out.1.all B8).c3; have u0 := (H7.out.2.2.1.all B8).c0; have u1 := (H7.out.2.2.1.all B8).c1; have u2 := (H7.out.2.2.1.all B8).c2; have u3 := (H7.out.2.2.1.all B8).c3; have H8 : Hid (Below w.heap.size w w8) := below_call H7.out.2.1 H7.out.2.1.size B8; clear B8))
    all_goals
      go_wp2_with fail
      go_ret
      exact ⟨rfl, H8.out⟩

end Go.Proofs.Ytjhenfdmbagaiaa.Crew
