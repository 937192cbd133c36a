/-
  spec.NewMany at every slice of Shares and number.
-/
import Derived.Test.YtjhenfdmbagaiaaGreatShsStep
import Derived.Test.YtjhenfdmbagaiaaGreatManyOkT
import Derived.Test.YtjhenfdmbagaiaaGreatManyLaws
namespace Go.Proofs.YtjhenfdmbagaiaaGreat.Crew
open Go.ChangeShapes Go.WideShapes Go.ChangeAt Go.RowKit

theorem srow_nil_at {X : World} {s : Nat} (h : X.heap.size = s) : SRow (X.alloc (.cells #[] 63)) s 0 [] := by
  subst h
  exact srow_nil X

theorem mny_new_at {X : World} {s : Nat} (h : X.heap.size = s) (x y : Value) (t p : Int) : Mny (X.alloc (.cells #[x, y, .int .i64 t, .int .i64 p] 27)) s x y t p := by
  subst h
  exact mny_new X x y t p

/-- What lies there when the slices and the variable of spec.NewMany are made. -/
structure Nw (w W : World) (t g c d len : Nat) (ps : List Shr) (q : Int) : Prop where
  box : Mny W t (.slice (some ⟨g, 0, none⟩) len c) (.slice (some ⟨d, 0, none⟩) len len) q 0
  res : Mny W w.heap.size (.slice none 0 0) (.slice none 0 0) 0 0
  sh : SRow W g c ps
  cn : Row W d len (List.replicate len 0)
  bel : Below w.heap.size w W
  g0 : w.heap.size < g
  d0 : w.heap.size < d
  t0 : w.heap.size < t
  gd : g ≠ d

theorem Nw.keep {w W W' : World} {t g c d len : Nat} {ps : List Shr} {q : Int} (h : Nw w W t g c d len ps q) (k : Below W.heap.size W W') : Nw w W' t g c d len ps q :=
  ⟨h.box.all k, h.res.all k, h.sh.all k, h.cn.all k, below_call h.bel h.bel.size k, h.g0, h.d0, h.t0, h.gd⟩

theorem nb2 {w w1 : World} {o1 o2 : Obj} {e : Nat} (G : ((w.alloc o1).alloc o2).drew.grownBy w1 (some e)) (he : w.heap.size ≤ e) : Below w.heap.size w w1 :=
  Below.grown ((below_new w o1).alloc (by simp) o2).drew G (by simp; omega) (fun j hj => by cases hj; exact he)

theorem nb3 {w w1 : World} {o1 o2 o3 : Obj} {e : Nat} (G : (((w.alloc o1).alloc o2).alloc o3).drew.grownBy w1 (some e)) (he : w.heap.size ≤ e) : Below w.heap.size w w1 :=
  Below.grown (((below_new w o1).alloc (by simp) o2).alloc (by simp; omega) o3).drew G (by simp; omega) (fun j hj => by cases hj; exact he)

theorem nb4 {w w1 : World} {o1 o2 o3 o4 : Obj} {e : Nat} (G : ((((w.alloc o1).alloc o2).alloc o3).alloc o4).drew.grownBy w1 (some e)) (he : w.heap.size ≤ e) : Below w.heap.size w w1 :=
  Below.grown ((((below_new w o1).alloc (by simp) o2).alloc (by simp; omega) o3).alloc (by simp; omega) o4).drew G (by simp; omega) (fun j hj => by cases hj; exact he)

theorem new_ok {ps : List Shr} {len : Nat} (q : Int) (hl : ps.length = len) : manyOk ps (List.replicate len 0) q 0 = fitsOn ps q := by
  cases h : fitsOn ps q
  · exact many_fits h
  · refine many_end h (by rw [List.length_replicate, hl]) (by decide) ?_
    rw [cnts, List.all_eq_true]
    intro x hx
    rw [List.eq_of_mem_replicate hx]
    rfl

set_option maxRecDepth 100000 in
set_option maxHeartbeats 8000000 in
theorem specNewM (a : Option Addr) (len cap : Nat) (ps : List Shr) (q : Int) (w : World) (I : Shs w a len ps) (hsz : (len : Int) ≤ 1048576) :
    Calls Tryz.prog 76 #[.slice a len cap, .int .i64 q] w fun e w' => ∃ b lb cb d ld cd, e = .returned (.tuple #[mv (.slice b lb cb) (.slice d ld cd) (nmQ ps q) 0, .bool (fitsOn ps q)]) ∧ SFit w' w.heap.size b lb cb (nmS ps q) ∧ Fit w' w.heap.size d ld cd (nmN ps q) ∧ Apart b d ∧ Below w.heap.size w w' := by
  have HI : Hid (Shs w a len ps) := I
  have hl := I.1
  clear I
  have hm := made_ints len hsz
  have hsh := info_shr
  obtain ⟨i0, hi, hzz⟩ : ∃ i, Tryz.prog.info? 63 = some i ∧ (i.zero, i.size, i.bytes) = (some (.agg #[.int .i64 0, .int .i64 0]), 2, 16) := by
    cases h : Tryz.prog.info? 63 with
    | none => rw [h] at hsh; cases hsh
    | some i => rw [h] at hsh; exact ⟨i, rfl, by simpa using hsh⟩
  have hz0 : i0.zero = some (.agg #[.int .i64 0, .int .i64 0]) := congrArg (·.1) hzz
  have hz1 : i0.size = 2 := congrArg (·.2.1) hzz
  have hz2 : i0.bytes = 16 := congrArg (·.2.2) hzz
  clear hsh hzz
  go_enter Tryz.func76, Tryz.ntmps76
  go_wp2_with fail
  rename_i K hK
  have TAIL : ∀ (t g c d : Nat) (v : Value) (W : World), Nw w W t g c d len ps q → K { tmps := #[.slice a len cap, .int .i64 q, undef, undef, .pointer (some ⟨w.heap.size, 0, none⟩), .bool false, .pointer (some ⟨t, 0, none⟩), v, .slice a len cap, .slice (some ⟨g, 0, none⟩) len c, .slice a len cap, .int .i64 len, .slice (some ⟨d, 0, none⟩) len len, .int .i64 q, .agg #[.slice (some ⟨g, 0, none⟩) len c, .slice (some ⟨d, 0, none⟩) len len, .int .i64 q, .int .i64 0], undef, undef, undef, undef, undef], defers := [] } W := by
    intro t g c d v W N
    apply hK
    have HN : Hid (Nw w W t g c d len ps q) := N
    clear N
    have t0 := HN.out.box.c0
    have t1 := HN.out.box.c1
    have t2 := HN.out.box.c2
    have t3 := HN.out.box.c3
    go_wp2_with fail
    refine (specManyX _ len c ps _ len len (List.replicate len 0) q 0 _ (by have := HN.out.sh.shs; rwa [hl] at this) (by have := HN.out.cn.ints; rwa [List.length_replicate] at this) hsz).mono ?_
    clear t0 t1 t2 t3
    rintro e w2 ⟨rfl, B2⟩
    have H2 : Hid (Nw w w2 t g c d len ps q) := HN.out.keep B2
    clear B2
    have hok : manyOk ps (List.replicate len 0) q 0 = fitsOn ps q := new_ok q hl
    rw [hok]
    clear hok
    have t0 := H2.out.box.c0
    have t1 := H2.out.box.c1
    have t2 := H2.out.box.c2
    have t3 := H2.out.box.c3
    have r0 := H2.out.res.c0
    have r1 := H2.out.res.c1
    have r2 := H2.out.res.c2
    have r3 := H2.out.res.c3
    have s0 := H2.out.res.fr 0
    have s1 := H2.out.res.fr 1
    have s2 := H2.out.res.fr 2
    have s3 := H2.out.res.fr 3
    cases hf : fitsOn ps q
    · have HF : Hid (fitsOn ps q = false) := hf
      have n0 := nm_no HF.out
      have HN0 := hid n0
      clear hf n0
      go_wp2_with fail
      refine bodyPost_ret (ret_mny2 rfl rfl rfl ((((H2.out.res.set0 _).set1 _).set2 0).set3 0)) rfl ?_
      rw [HN0.out.1, HN0.out.2.1, HN0.out.2.2, HF.out]
      refine ⟨_, _, _, _, _, _, rfl, sfit_nil _ _, fit_nil _ _, apart_none _, ?_⟩
      exact below_set (below_set (below_set (below_set H2.out.bel (Nat.le_refl _) _) (Nat.le_refl _) _) (Nat.le_refl _) _) (Nat.le_refl _) _
    · have HF : Hid (fitsOn ps q = true) := hf
      have n0 := nm_yes HF.out
      have HN0 := hid n0
      clear hf n0
      go_wp2_with fail
      refine bodyPost_ret (ret_mny2 rfl rfl rfl ((((H2.out.res.set0 _).set1 _).set2 q).set3 0)) rfl ?_
      rw [HN0.out.1, HN0.out.2.1, HN0.out.2.2, HF.out]
      refine ⟨_, _, _, _, _, _, rfl, ?_, ?_, ?_, ?_⟩
      · exact SRow.fit (((((H2.out.sh.past (Nat.ne_of_gt H2.out.g0) _).past (Nat.ne_of_gt H2.out.g0) _).past (Nat.ne_of_gt H2.out.g0) _).past (Nat.ne_of_gt H2.out.g0) _)) (Nat.le_of_lt H2.out.g0) hl
      · rw [hl]
        exact ((((H2.out.cn.past (Nat.ne_of_gt H2.out.d0) _).past (Nat.ne_of_gt H2.out.d0) _).past (Nat.ne_of_gt H2.out.d0) _).past (Nat.ne_of_gt H2.out.d0) _).fit (Nat.le_of_lt H2.out.d0) (by simp)
      · exact fun x y hx hy => by cases hx; cases hy; exact H2.out.gd
      · exact below_set (below_set (below_set (below_set H2.out.bel (Nat.le_refl _) _) (Nat.le_refl _) _) (Nat.le_refl _) _) (Nat.le_refl _) _
  clear hK
  have P0 := mny_new w (.slice none 0 0) (.slice none 0 0) 0 0
  go_region_held3 (fun _ => True) (trivial)
    ((refine step_append_shs (by rfl) (.tmp 7) (.tmp 8) 24 (by rfl) i0 Tryz.underlying24 hi hz0 hz1 hz2 _ _ _ [] (by rfl) (by rfl) (by (repeat (first | exact srow_nil_at (by simp) | apply SRow.drew | apply SRow.alloc))) a len cap ps (by rfl) (by (repeat (first | exact HI.out | apply Shs.drew | apply Shs.alloc))) (by simp <;> omega) _ rfl ?_; intro g1 c1 w1 R1 G1 D1; have Q2 : Mny w1 w.heap.size (.slice none 0 0) (.slice none 0 0) 0 0 := Mny.other (by (repeat (first | with_reducible exact P0 | with_reducible apply Mny.drew | with_reducible apply Mny.alloc))) G1 (by simp <;> omega); have q1 := Q2.lt; have q2 := Nat.ne_of_lt q1; have q3 := Nat.ne_of_gt q1; (first | (have P2 : Mny w1 (w.heap.size + 1) (.slice none 0 0) (.slice none 0 0) 0 0 := Mny.other (by first | ((repeat (first | with_reducible exact mny_new_at (by first | (simp; done) | (simp; omega) | fail "no") _ _ _ _ | with_reducible apply Mny.drew | with_reducible apply Mny.alloc)); done) | fail "no") G1 (by first | (simp; done) | (simp; omega) | fail "no"); have p0 := P2.c0; have p1 := P2.c1; have p2 := P2.c2; have p3 := P2.c3; have f0 := P2.fr 0; have f1 := P2.fr 1; have f2 := P2.fr 2; have f3 := P2.fr 3; have n1 := P2.lt; have n2 := Nat.ne_of_lt n1; have n3 := Nat.ne_of_gt n1) | (have P2 : Mny w1 (w.heap.size + 1 + 1) (.slice none 0 0) (.slice none 0 0) 0 0 := Mny.other (by first | ((repeat (first | with_reducible exact mny_new_at (by first | (simp; done) | (simp; omega) | fail "no") _ _ _ _ | with_reducible apply Mny.drew | with_reducible apply Mny.alloc)); done) | fail "no") G1 (by first | (simp; done) | (simp; omega) | fail "no"); have p0 := P2.c0; have p1 := P2.c1; have p2 := P2.c2; have p3 := P2.c3; have f0 := P2.fr 0; have f1 := P2.fr 1; have f2 := P2.fr 2; have f3 := P2.fr 3; have n1 := P2.lt; have n2 := Nat.ne_of_lt n1; have n3 := Nat.ne_of_gt n1) | (have P2 : Mny w1 (w.heap.size + 1 + 1 + 1) (.slice none 0 0) (.slice none 0 0) 0 0 := Mny.other (by first | ((repeat (first | with_reducible exact mny_new_at (by first | (simp; done) | (simp; omega) | fail "no") _ _ _ _ | with_reducible apply Mny.drew | with_reducible apply Mny.alloc)); done) | fail "no") G1 (by first | (simp; done) | (simp; omega) | fail "no"); have p0 := P2.c0; have p1 := P2.c1; have p2 := P2.c2; have p3 := P2.c3; have f0 := P2.fr 0; have f1 := P2.fr 1; have f2 := P2.fr 2; have f3 := P2.fr 3; have n1 := P2.lt; have n2 := Nat.ne_of_lt n1; have n3 := Nat.ne_of_gt n1) | skip)))
  all_goals clear hm P0 hi hz0 hz1 hz2
  all_goals (have D2 := D1; simp at D2)
  all_goals (have B1 : Below w.heap.size w w1 := by first | with_reducible exact nb2 G1 (by omega) | with_reducible exact nb3 G1 (by omega) | with_reducible exact nb4 G1 (by omega))
  all_goals (have R1' : SRow w1 g1 c1 ps := R1)
  all_goals (have gl := R1'.lt)
  all_goals (first | (have Z2 : Row w1 (w.heap.size + 1) len (List.replicate len 0) := Row.other (by first | ((repeat (first | with_reducible exact row_zeros_at (by first | (simp; done) | (simp; omega) | fail "no") len hsz | with_reducible apply Row.drew | with_reducible apply Row.alloc)); done) | fail "no") G1 (by first | (simp; done) | (simp; omega) | fail "no"); have z1 : g1 ≠ w.heap.size + 1 := (by omega); have z2 := Z2.lt) | (have Z2 : Row w1 (w.heap.size + 1 + 1) len (List.replicate len 0) := Row.other (by first | ((repeat (first | with_reducible exact row_zeros_at (by first | (simp; done) | (simp; omega) | fail "no") len hsz | with_reducible apply Row.drew | with_reducible apply Row.alloc)); done) | fail "no") G1 (by first | (simp; done) | (simp; omega) | fail "no"); have z1 : g1 ≠ w.heap.size + 1 + 1 := (by omega); have z2 := Z2.lt) | (have Z2 : Row w1 (w.heap.size + 1 + 1 + 1) len (List.replicate len 0) := Row.other (by first | ((repeat (first | with_reducible exact row_zeros_at (by first | (simp; done) | (simp; omega) | fail "no") len hsz | with_reducible apply Row.drew | with_reducible apply Row.alloc)); done) | fail "no") G1 (by first | (simp; done) | (simp; omega) | fail "no"); have z1 : g1 ≠ w.heap.size + 1 + 1 + 1 := (by omega); have z2 := Z2.lt) | skip)
  all_goals clear D1 G1
  all_goals (refine TAIL _ _ _ _ _ _ ⟨(by first | ((with_reducible refine ((((P2.set0 _).set1 _).set2 _).set3 _)) <;> first | omega | rfl | (simp; done) | (simp; omega)) | ((with_reducible refine (((((P2.set0 _).set1 _).set2 _).set3 _).alloc _)) <;> first | omega | rfl | (simp; done) | (simp; omega)) | ((with_reducible refine mny_new_at ?_ _ _ _ _) <;> first | omega | rfl | (simp; done) | (simp; omega)) | ((with_reducible refine ((mny_new_at ?_ _ _ _ _).alloc _)) <;> first | omega | rfl | (simp; done) | (simp; omega))), (by first | ((with_reducible refine Q2.alloc _) <;> first | omega | rfl | (simp; done) | (simp; omega)) | ((with_reducible refine (Q2.alloc _).alloc _) <;> first | omega | rfl | (simp; done) | (simp; omega)) | ((with_reducible refine ((((Q2.past ?_ _).past ?_ _).past ?_ _).past ?_ _)) <;> first | omega | rfl | (simp; done) | (simp; omega)) | ((with_reducible refine ((((Q2.past ?_ _).past ?_ _).past ?_ _).past ?_ _).alloc _) <;> first | omega | rfl | (simp; done) | (simp; omega))), (by first | ((with_reducible refine R1'.alloc _) <;> first | omega | rfl | (simp; done) | (simp; omega)) | ((with_reducible refine (R1'.alloc _).alloc _) <;> first | omega | rfl | (simp; done) | (simp; omega)) | ((with_reducible refine ((((R1'.past ?_ _).past ?_ _).past ?_ _).past ?_ _)) <;> first | omega | rfl | (simp; done) | (simp; omega)) | ((with_reducible refine ((((R1'.past ?_ _).past ?_ _).past ?_ _).past ?_ _).alloc _) <;> first | omega | rfl | (simp; done) | (simp; omega))), (by first | ((with_reducible refine Z2.alloc _) <;> first | omega | rfl | (simp; done) | (simp; omega)) | ((with_reducible refine ((((Z2.past ?_ _).past ?_ _).past ?_ _).past ?_ _)) <;> first | omega | rfl | (simp; done) | (simp; omega)) | ((with_reducible refine row_zeros_at ?_ len hsz) <;> first | omega | rfl | (simp; done) | (simp; omega)) | ((with_reducible refine (row_zeros_at ?_ len hsz).alloc _) <;> first | omega | rfl | (simp; done) | (simp; omega))), (by first | ((with_reducible refine B1.alloc ?_ _) <;> first | omega | rfl | (simp; done) | (simp; omega)) | ((with_reducible refine (B1.alloc ?_ _).alloc ?_ _) <;> first | omega | rfl | (simp; done) | (simp; omega)) | ((with_reducible refine below_set (below_set (below_set (below_set B1 ?_ _) ?_ _) ?_ _) ?_ _) <;> first | omega | rfl | (simp; done) | (simp; omega)) | ((with_reducible refine (below_set (below_set (below_set (below_set B1 ?_ _) ?_ _) ?_ _) ?_ _).alloc ?_ _) <;> first | omega | rfl | (simp; done) | (simp; omega))), (by omega), (by omega), (by omega), (by omega)⟩)

end Go.Proofs.YtjhenfdmbagaiaaGreat.Crew
