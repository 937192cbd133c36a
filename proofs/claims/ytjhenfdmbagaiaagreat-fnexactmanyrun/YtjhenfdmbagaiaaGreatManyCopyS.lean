/-
  spec.l12Copy at every Many that is right.
-/
import Derived.Test.YtjhenfdmbagaiaaGreatShsStep
import Derived.Test.YtjhenfdmbagaiaaGreatManyNewS
namespace Go.Proofs.YtjhenfdmbagaiaaGreat.Crew
open Go.ChangeShapes Go.WideShapes Go.ChangeAt Go.RowKit

/-- While a Many is copied: what came, what is to be answered. -/
structure Cm (w0 W : World) (x y : Value) (t p : Int) : Prop where
  arg : Mny W w0.heap.size x y t p
  res : Mny W (w0.heap.size + 1) (.slice none 0 0) (.slice none 0 0) 0 0
  bel : Below w0.heap.size w0 W
  more : w0.heap.size + 1 < W.heap.size

theorem Cm.all {w0 W W' : World} {x y : Value} {t p : Int} (h : Cm w0 W x y t p) (k : Below W.heap.size W W') : Cm w0 W' x y t p :=
  ⟨h.arg.all k, h.res.all k, below_call h.bel h.bel.size k, Nat.lt_of_lt_of_le h.more k.size⟩

theorem Cm.alloc {w0 W : World} {x y : Value} {t p : Int} (h : Cm w0 W x y t p) (o : Obj) : Cm w0 (W.alloc o) x y t p := h.all (below_new _ _)

theorem Cm.drew {w0 W : World} {x y : Value} {t p : Int} (h : Cm w0 W x y t p) : Cm w0 W.drew x y t p := h.all (Below.refl _ _).drew

theorem Cm.other {w0 W W' : World} {x y : Value} {t p : Int} {e : Nat} (h : Cm w0 W x y t p) (g : W.grownBy W' (some e)) (he : w0.heap.size + 1 < e) : Cm w0 W' x y t p :=
  ⟨h.arg.other g (by simp; omega), h.res.other g (by simp; omega), h.bel.grown g h.bel.size (fun j hj => by cases hj; omega), Nat.lt_of_lt_of_le h.more g.size⟩

theorem cm_new (w : World) (x y : Value) (t p : Int) : Cm w ((w.alloc (.cells #[x, y, .int .i64 t, .int .i64 p] 27)).alloc (.cells #[.slice none 0 0, .slice none 0 0, .int .i64 0, .int .i64 0] 27)) x y t p :=
  ⟨(mny_new _ _ _ _ _).alloc _, mny_new_at (by simp) _ _ _ _, (below_new _ _).alloc (by simp) _, by simp⟩

theorem row_below {w w' : World} {g cap e : Nat} {xs : List Int} (h : Row w g cap xs) (k : w.grownBy w' (some e)) (he : g ≠ e) : Row w' g cap xs := h.other k (by simpa using he)

set_option maxRecDepth 100000 in
set_option maxHeartbeats 8000000 in
theorem specCopyM (a : Option Addr) (len cap : Nat) (ps : List Shr) (a' : Option Addr) (len' cap' : Nat) (ns : List Int) (t p : Int) (w : World) (I : Shs w a len ps) (J : Ints w a' len' ns) (hs : (len : Int) ≤ 1048576) (hs' : (len' : Int) ≤ 1048576) :
    Calls Tryz.prog 43 #[mv (.slice a len cap) (.slice a' len' cap') t p] w fun e w' => ∃ g c h d : Nat, e = .returned (mv (.slice (some ⟨g, 0, none⟩) len c) (.slice (some ⟨h, 0, none⟩) len' d) t p) ∧ SRow w' g c ps ∧ Row w' h d ns ∧ w.heap.size ≤ g ∧ w.heap.size ≤ h ∧ g ≠ h ∧ Below w.heap.size w w' := by
  have hsh := info_shr
  obtain ⟨i0, hi, hzz⟩ : ∃ i, Tryz.prog.info? 63 = some i ∧ (i.zero, i.size, i.bytes) = (some (.agg #[.int .i64 0, .int .i64 0]), 2, 16) := by
    cases h : Tryz.prog.info? 63 with
    | none => rw [h] at hsh; cases hsh
    | some i => rw [h] at hsh; exact ⟨i, rfl, by simpa using hsh⟩
  have hz0 : i0.zero = some (.agg #[.int .i64 0, .int .i64 0]) := congrArg (·.1) hzz
  have hz1 : i0.size = 2 := congrArg (·.2.1) hzz
  have hz2 : i0.bytes = 16 := congrArg (·.2.2) hzz
  clear hsh hzz
  have hl := I.1
  have HI : Hid (Shs w a len ps ∧ Ints w a' len' ns ∧ ps.length = len ∧ ns.length = len') := ⟨I, J, I.1, J.1⟩
  clear I J
  obtain ⟨W0, hW0⟩ : ∃ W0, W0 = (w.alloc (.cells #[.slice a len cap, .slice a' len' cap', .int .i64 t, .int .i64 p] 27)).alloc (.cells #[.slice none 0 0, .slice none 0 0, .int .i64 0, .int .i64 0] 27) := ⟨_, rfl⟩
  have T : Cm w W0 (.slice a len cap) (.slice a' len' cap') t p := by rw [hW0]; exact cm_new _ _ _ _ _
  go_enter Tryz.func43, Tryz.ntmps43
  go_wp2_with fail
  rw [← hW0]
  clear hW0
  have t0 := T.arg.c0
  have t1 := T.arg.c1
  have t2 := T.arg.c2
  have t3 := T.arg.c3
  have m0 := T.more
  have m3 : ¬ w.heap.size = w.heap.size + 1 := Nat.ne_of_lt (Nat.lt_succ_self _)
  go_region_held3 (fun w' => w'.cell? ⟨w.heap.size, 0, none⟩ = some (.slice a len cap) ∧ w'.cell? ⟨w.heap.size, 1, none⟩ = some (.slice a' len' cap') ∧ w'.cell? ⟨w.heap.size, 2, none⟩ = some (.int .i64 t) ∧ w'.cell? ⟨w.heap.size, 3, none⟩ = some (.int .i64 p)) (go_keep)
    (first | (refine step_append_shs (by rfl) (.tmp 3) (.tmp 5) 24 (by rfl) i0 Tryz.underlying24 hi hz0 hz1 hz2 _ _ _ [] (by rfl) (by rfl) (by first | with_reducible exact E | with_reducible exact E.drew | (repeat (first | with_reducible exact srow_nil_at rfl | with_reducible apply SRow.drew | with_reducible apply SRow.alloc))) a len cap ps (by rfl) (HI.out.1.kept (by first | with_reducible exact Cm.bel T | with_reducible exact Cm.bel T.drew | with_reducible exact Cm.bel (T.alloc _) | with_reducible exact Cm.bel (T.alloc _).drew)) (by simp <;> omega) _ rfl ?_; intro g1 c1 v1 R1 G1 D1; have l1 := R1.lt; have l2 : w.heap.size + 1 < g1 := (by first | omega | (simp at D1; omega)); have T : Cm w v1 (.slice a len cap) (.slice a' len' cap') t p := (by first | with_reducible exact Cm.other T G1 (by first | omega | (simp; omega)) | with_reducible exact Cm.other T.drew G1 (by first | omega | (simp; omega)) | with_reducible exact Cm.other (T.alloc _) G1 (by first | omega | (simp; omega)) | with_reducible exact Cm.other (T.alloc _).drew G1 (by first | omega | (simp; omega))); (first | (have N : Row v1 g2 c2 ns := (by first | with_reducible exact row_below N G1 (by first | omega | (simp; omega)) | with_reducible exact row_below N.drew G1 (by first | omega | (simp; omega)) | with_reducible exact row_below (N.alloc _) G1 (by first | omega | (simp; omega)) | with_reducible exact row_below (N.alloc _).drew G1 (by first | omega | (simp; omega)))) | skip); have t0 := T.arg.c0; have t1 := T.arg.c1; have t2 := T.arg.c2; have t3 := T.arg.c3; have p0 := T.res.c0; have p1 := T.res.c1; have p2 := T.res.c2; have p3 := T.res.c3; have f0 := T.res.fr 0; have f1 := T.res.fr 1; have f2 := T.res.fr 2; have f3 := T.res.fr 3; have m0 := T.more; have m1 := T.arg.lt) | (go_at_call 63; refine (copy_any a' len' cap' ns _ (HI.out.2.1.kept (by first | with_reducible exact Cm.bel T | with_reducible exact Cm.bel T.drew | with_reducible exact Cm.bel (T.alloc _) | with_reducible exact Cm.bel (T.alloc _).drew)) hs').mono ?_; rintro e u1 ⟨g2, c2, rfl, N, n2, K2⟩; (first | (have E : SRow u1 W0.heap.size 0 [] := (by first | with_reducible exact SRow.all (srow_nil_at rfl).drew K2 | with_reducible exact SRow.all (srow_nil_at rfl) K2)) | skip); (first | (have R1 : SRow u1 g1 c1 ([] ++ ps) := (by first | with_reducible exact R1.all K2 | with_reducible exact R1.drew.all K2)) | skip); have T : Cm w u1 (.slice a len cap) (.slice a' len' cap') t p := (by first | with_reducible exact Cm.all T K2 | with_reducible exact Cm.all T.drew K2 | with_reducible exact Cm.all (T.alloc _) K2 | with_reducible exact Cm.all (T.alloc _).drew K2); have t0 := T.arg.c0; have t1 := T.arg.c1; have t2 := T.arg.c2; have t3 := T.arg.c3; have p0 := T.res.c0; have p1 := T.res.c1; have p2 := T.res.c2; have p3 := T.res.c3; have f0 := T.res.fr 0; have f1 := T.res.fr 1; have f2 := T.res.fr 2; have f3 := T.res.fr 3; have m0 := T.more; have m1 := T.arg.lt))
  have H : Hid (SRow u1 g1 c1 ps ∧ Row u1 g2 c2 ns ∧ Mny u1 (w.heap.size + 1) (.slice none 0 0) (.slice none 0 0) 0 0 ∧ Below w.heap.size w u1 ∧ w.heap.size + 1 < g1 ∧ g1 < g2) := ⟨R1, N, T.res, T.bel, l2, by omega⟩
  clear R1 N T t0 t1 t2 t3 p0 p1 p2 p3 f0 f1 f2 f3 m0 m1 m3
  go_wp2_with fail
  refine bodyPost_ret (ret_mny rfl rfl ((((H.out.2.2.1.set0 _).set1 _).set2 _).set3 _)) rfl ⟨_, _, _, _, rfl, ?_, ?_, ?_, ?_, ?_, ?_⟩
  · have n := Nat.ne_of_gt H.out.2.2.2.2.1
    exact (((H.out.1.past n _).past n _).past n _).past n _
  · have n := Nat.ne_of_gt (Nat.lt_trans H.out.2.2.2.2.1 H.out.2.2.2.2.2)
    exact (((H.out.2.1.past n _).past n _).past n _).past n _
  · have := H.out.2.2.2.2.1; omega
  · have := H.out.2.2.2.2; omega
  · have := H.out.2.2.2.2; omega
  · exact below_set (below_set (below_set (below_set H.out.2.2.2.1 (by omega) _) (by omega) _) (by omega) _) (by omega) _

end Go.Proofs.YtjhenfdmbagaiaaGreat.Crew
