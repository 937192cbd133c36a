/-
  The law FnMany: at every code it answers true and nothing that was there is written. (Written by wip/tools/gen_fnmany.py.)
-/
import Derived.Test.YtjhenfdmbagaiaaGreatManyK
import Derived.Test.YtjhenfdmbagaiaaGreatDrawMany
namespace Go.Proofs.YtjhenfdmbagaiaaGreat.Crew
open Go.ChangeShapes Go.WideShapes Go.ChangeAt Go.RowKit Go.Proofs.YtjhenfdmbagaiaaGreat.Draw

/-- A run in two parts, as a run. -/
theorem rn_two {d : MnD} {n k : Int} (h : runOkM d.s d.c d.q d.t n = true) (k0 : 0 ≤ k) (k1 : k ≤ n) : rnD (rnD d k) (n - k) = rnD d n ∧ rnW d k ++ rnW (rnD d k) (n - k) = rnW d n := by
  obtain ⟨h1, h2, h3, h4⟩ := two_partsM h k0 k1
  obtain ⟨s, c, q, t⟩ := d
  simp only at h h1 h2 h3 h4
  have a := rm_yes h1
  have b := rm_yes h
  have e1 : rnD ⟨s, c, q, t⟩ k = ⟨s, mAt s c q t k.toNat, q, t + k⟩ := by
    show MnD.mk _ _ _ _ = _
    rw [a.1, a.2.1, a.2.2.1, a.2.2.2.1]
  have e2 : rnD ⟨s, c, q, t⟩ n = ⟨s, mAt s c q t n.toNat, q, t + n⟩ := by
    show MnD.mk _ _ _ _ = _
    rw [b.1, b.2.1, b.2.2.1, b.2.2.2.1]
  have x := rm_yes h2
  refine ⟨?_, ?_⟩
  · rw [e1, e2]
    show MnD.mk _ _ _ _ = _
    rw [x.1, x.2.1, x.2.2.1, x.2.2.2.1, h3, show t + k + (n - k) = t + n by omega]
  · rw [e1]
    show rmL s c q t k ++ rmL s (mAt s c q t k.toNat) q (t + k) (n - k) = rmL s c q t n
    rw [a.2.2.2.2, x.2.2.2.2, b.2.2.2.2, h4]

/-- What all together had more is what was taken. -/
theorem rn_sum {d : MnD} {n : Int} (h : runOkM d.s d.c d.q d.t n = true) : (rnD d n).c.length = d.c.length ∧ sumI (rnD d n).c = sumI d.c + (sumL (rnW d n) : Nat) ∧ cnts d.c = true ∧ cnts (rnD d n).c = true := by
  have b := rm_yes h
  have hp : manyOk d.s d.c d.q d.t = true := by rw [runOkM, Bool.and_eq_true, Bool.and_eq_true] at h; exact h.1.1
  have hm := many_parts hp
  show (rmC d.s d.c d.q d.t n).length = _ ∧ sumI (rmC d.s d.c d.q d.t n) = sumI d.c + (sumL (rmL d.s d.c d.q d.t n) : Nat) ∧ _ ∧ cnts (rmC d.s d.c d.q d.t n) = true
  rw [b.2.1, b.2.2.2.2]
  exact ⟨mAt_len _ _ _ _ _, mAt_sum _ _ _ _ hm.2.1 _, hm.2.2.2, mAt_cnts hm.2.2.2 _⟩

theorem rn_some {d : MnD} {n : Int} (h : ¬ (rnW d n).length = 0) : runOkM d.s d.c d.q d.t n = true := by
  cases hk : runOkM d.s d.c d.q d.t n
  · exfalso
    apply h
    show (rmL d.s d.c d.q d.t n).length = 0
    rw [(rm_no hk).2.2.2.2]
    rfl
  · rfl

set_option maxRecDepth 100000 in
set_option maxHeartbeats 16000000 in
theorem lawFnMany (a : Option Addr) (len cap : Nat) (w : World) (B : Bytes w a len) :
    Calls Tryz.prog 3 #[.slice a len cap] w fun e w' => e = .returned (.bool true) ∧ Below w.heap.size w w' := by
  obtain ⟨i0, hi, hz0, hz1, hz2⟩ := info_parts info_ints
  have HB : Hid (Bytes w a len) := B
  clear B
  by_cases hbig : (4096 : Int) < (len : Int)
  · go_enter Tryz.func3, Tryz.ntmps3
    go_wp2_with fail
    refine (big_any a len cap _).mono ?_
    rw [decide_eq_true hbig]
    rintro e w1 ⟨rfl, rfl⟩
    go_wp2_with fail
    go_ret
    exact ⟨rfl, Below.refl _ _⟩
  · have ht : len ≤ 9223372036854775806 := by omega
    have HBG : Hid (decide ((4096 : Int) < (len : Int)) = false) := decide_eq_false hbig
    clear hbig
    go_enter Tryz.func3, Tryz.ntmps3
    go_wp2_with fail
    refine (big_any a len cap _).mono ?_
    rw [HBG.out]
    rintro e w1 ⟨rfl, hw1⟩
    rw [hw1]
    clear hw1 w1
    go_wp2_with fail
    have H0 : Hid (Below w.heap.size w w) := Below.refl _ _
    refine (drawManyRun_any a len cap _ (HB.out.grown H0.out) ht).mono ?_
    rintro e w1 ⟨b1, lb1, cb1, d1, ld1, cd1, ps1, ns1, t1, q1, n, rfl, Fb, Fd, D, hlb1, hld1, B⟩
    have hp1 := Fb.1
    have hn1 := Fd.1
    have H1 : Hid (Below w.heap.size w w1 ∧ manyK.rep w1 (fun j => blk b1 = some j ∨ blk d1 = some j) (mv (.slice b1 lb1 cb1) (.slice d1 ld1 cd1) t1 q1) ⟨ps1, ns1, t1, q1⟩) := ⟨below_call H0.out H0.out.size B, many_mk Fb Fd D⟩
    clear H0 Fb Fd D B
    have H2 : Hid (Below w.heap.size w (w1.alloc (.cells #[.slice b1 lb1 cb1, .slice d1 ld1 cd1, .int .i64 t1, .int .i64 q1] 27)) ∧ manyK.rep (w1.alloc (.cells #[.slice b1 lb1 cb1, .slice d1 ld1 cd1, .int .i64 t1, .int .i64 q1] 27)) (fun j => blk b1 = some j ∨ blk d1 = some j) (mv (.slice b1 lb1 cb1) (.slice d1 ld1 cd1) t1 q1) ⟨ps1, ns1, t1, q1⟩ ∧ Bx (w1.alloc (.cells #[.slice b1 lb1 cb1, .slice d1 ld1 cd1, .int .i64 t1, .int .i64 q1] 27)) w1.heap.size [.slice b1 lb1 cb1, .slice d1 ld1 cd1, .int .i64 t1, .int .i64 q1]) := ⟨below_call H1.out.1 H1.out.1.size (below_new _ _), Knd.all H1.out.2 (below_new _ _), bx_new _ _ _⟩
    clear H1
    go_wp2_with fail
    generalize w1.alloc (.cells #[.slice b1 lb1 cb1, .slice d1 ld1 cd1, .int .i64 t1, .int .i64 q1] 27) = W1 at *
    generalize w1.heap.size = bx1 at *
    have hx1 : (((⟨ps1, ns1, t1, q1⟩ : MnD).s.length : Nat) : Int) ≤ 1048576 := by show (ps1.length : Int) ≤ _; omega
    obtain ⟨E1, hE1⟩ : ∃ E, E = rnD ⟨ps1, ns1, t1, q1⟩ n := ⟨_, rfl⟩
    obtain ⟨L1, hL1⟩ : ∃ L, L = rnW ⟨ps1, ns1, t1, q1⟩ n := ⟨_, rfl⟩
    have SM := rn_small ⟨ps1, ns1, t1, q1⟩ n
    rw [← hE1, ← hL1] at SM
    obtain ⟨⟨z1, z2, _⟩, z4, z5, _⟩ := SM
    have HE1 : Hid (E1 = rnD ⟨ps1, ns1, t1, q1⟩ n ∧ L1 = rnW ⟨ps1, ns1, t1, q1⟩ n) := ⟨hE1, hL1⟩
    clear hE1 hL1
    refine (implRunK n H2.out.2.1 hx1).mono ?_
    rw [← HE1.out.1, ← HE1.out.2]
    rintro e w2 ⟨xa2, xl2, xc2, ya2, yl2, yc2, u2, S2, U2, rfl, R, Q, _, _, _, B⟩
    obtain ⟨gl2, cl2, vs2, hu, Q9⟩ := lists_rd Q
    subst hu
    clear Q
    have H3 : Hid (Below w.heap.size w w2 ∧ manyK.rep w2 (fun j => blk b1 = some j ∨ blk d1 = some j) (mv (.slice b1 lb1 cb1) (.slice d1 ld1 cd1) t1 q1) ⟨ps1, ns1, t1, q1⟩ ∧ Bx w2 bx1 [.slice b1 lb1 cb1, .slice d1 ld1 cd1, .int .i64 t1, .int .i64 q1] ∧ manyK.rep w2 S2 (mv (.slice xa2 xl2 xc2) (.slice ya2 yl2 yc2) E1.q E1.t) E1 ∧ Lrd w2 gl2 cl2 vs2 L1) := ⟨below_call H2.out.1 H2.out.1.size B, Knd.all H2.out.2.1 B, H2.out.2.2.all B, R, Q9⟩
    clear H2 R Q9 B
    have H4 : Hid (Below w.heap.size w (w2.alloc (.cells #[.slice xa2 xl2 xc2, .slice ya2 yl2 yc2, .int .i64 E1.q, .int .i64 E1.t] 27)) ∧ manyK.rep (w2.alloc (.cells #[.slice xa2 xl2 xc2, .slice ya2 yl2 yc2, .int .i64 E1.q, .int .i64 E1.t] 27)) (fun j => blk b1 = some j ∨ blk d1 = some j) (mv (.slice b1 lb1 cb1) (.slice d1 ld1 cd1) t1 q1) ⟨ps1, ns1, t1, q1⟩ ∧ Bx (w2.alloc (.cells #[.slice xa2 xl2 xc2, .slice ya2 yl2 yc2, .int .i64 E1.q, .int .i64 E1.t] 27)) bx1 [.slice b1 lb1 cb1, .slice d1 ld1 cd1, .int .i64 t1, .int .i64 q1] ∧ manyK.rep (w2.alloc (.cells #[.slice xa2 xl2 xc2, .slice ya2 yl2 yc2, .int .i64 E1.q, .int .i64 E1.t] 27)) S2 (mv (.slice xa2 xl2 xc2) (.slice ya2 yl2 yc2) E1.q E1.t) E1 ∧ Lrd (w2.alloc (.cells #[.slice xa2 xl2 xc2, .slice ya2 yl2 yc2, .int .i64 E1.q, .int .i64 E1.t] 27)) gl2 cl2 vs2 L1 ∧ Bx (w2.alloc (.cells #[.slice xa2 xl2 xc2, .slice ya2 yl2 yc2, .int .i64 E1.q, .int .i64 E1.t] 27)) w2.heap.size [.slice xa2 xl2 xc2, .slice ya2 yl2 yc2, .int .i64 E1.q, .int .i64 E1.t]) := ⟨below_call H3.out.1 H3.out.1.size (below_new _ _), Knd.all H3.out.2.1 (below_new _ _), H3.out.2.2.1.all (below_new _ _), Knd.all H3.out.2.2.2.1 (below_new _ _), H3.out.2.2.2.2.all (below_new _ _), bx_new _ _ _⟩
    clear H3
    have p0 := H4.out.2.2.1.2 0 _ rfl
    have p1 := H4.out.2.2.1.2 1 _ rfl
    have p2 := H4.out.2.2.1.2 2 _ rfl
    have p3 := H4.out.2.2.1.2 3 _ rfl
    go_wp2_with fail
    clear p0 p1 p2 p3
    generalize w2.alloc (.cells #[.slice xa2 xl2 xc2, .slice ya2 yl2 yc2, .int .i64 E1.q, .int .i64 E1.t] 27) = W2 at *
    generalize w2.heap.size = bx2 at *
    refine (specRunK n H4.out.2.1 hx1).mono ?_
    rw [← HE1.out.1, ← HE1.out.2]
    rintro e w3 ⟨xa3, xl3, xc3, ya3, yl3, yc3, u3, S3, U3, rfl, R, Q, _, _, _, B⟩
    obtain ⟨gl3, cl3, vs3, hu, Q9⟩ := lists_rd Q
    subst hu
    clear Q
    have H5 : Hid (Below w.heap.size w w3 ∧ manyK.rep w3 (fun j => blk b1 = some j ∨ blk d1 = some j) (mv (.slice b1 lb1 cb1) (.slice d1 ld1 cd1) t1 q1) ⟨ps1, ns1, t1, q1⟩ ∧ Bx w3 bx1 [.slice b1 lb1 cb1, .slice d1 ld1 cd1, .int .i64 t1, .int .i64 q1] ∧ manyK.rep w3 S2 (mv (.slice xa2 xl2 xc2) (.slice ya2 yl2 yc2) E1.q E1.t) E1 ∧ Lrd w3 gl2 cl2 vs2 L1 ∧ Bx w3 bx2 [.slice xa2 xl2 xc2, .slice ya2 yl2 yc2, .int .i64 E1.q, .int .i64 E1.t] ∧ manyK.rep w3 S3 (mv (.slice xa3 xl3 xc3) (.slice ya3 yl3 yc3) E1.q E1.t) E1 ∧ Lrd w3 gl3 cl3 vs3 L1) := ⟨below_call H4.out.1 H4.out.1.size B, Knd.all H4.out.2.1 B, H4.out.2.2.1.all B, Knd.all H4.out.2.2.2.1 B, H4.out.2.2.2.2.1.all B, H4.out.2.2.2.2.2.all B, R, Q9⟩
    clear H4 R Q9 B
    have H6 : Hid (Below w.heap.size w (w3.alloc (.cells #[.slice xa3 xl3 xc3, .slice ya3 yl3 yc3, .int .i64 E1.q, .int .i64 E1.t] 27)) ∧ manyK.rep (w3.alloc (.cells #[.slice xa3 xl3 xc3, .slice ya3 yl3 yc3, .int .i64 E1.q, .int .i64 E1.t] 27)) (fun j => blk b1 = some j ∨ blk d1 = some j) (mv (.slice b1 lb1 cb1) (.slice d1 ld1 cd1) t1 q1) ⟨ps1, ns1, t1, q1⟩ ∧ Bx (w3.alloc (.cells #[.slice xa3 xl3 xc3, .slice ya3 yl3 yc3, .int .i64 E1.q, .int .i64 E1.t] 27)) bx1 [.slice b1 lb1 cb1, .slice d1 ld1 cd1, .int .i64 t1, .int .i64 q1] ∧ manyK.rep (w3.alloc (.cells #[.slice xa3 xl3 xc3, .slice ya3 yl3 yc3, .int .i64 E1.q, .int .i64 E1.t] 27)) S2 (mv (.slice xa2 xl2 xc2) (.slice ya2 yl2 yc2) E1.q E1.t) E1 ∧ Lrd (w3.alloc (.cells #[.slice xa3 xl3 xc3, .slice ya3 yl3 yc3, .int .i64 E1.q, .int .i64 E1.t] 27)) gl2 cl2 vs2 L1 ∧ Bx (w3.alloc (.cells #[.slice xa3 xl3 xc3, .slice ya3 yl3 yc3, .int .i64 E1.q, .int .i64 E1.t] 27)) bx2 [.slice xa2 xl2 xc2, .slice ya2 yl2 yc2, .int .i64 E1.q, .int .i64 E1.t] ∧ manyK.rep (w3.alloc (.cells #[.slice xa3 xl3 xc3, .slice ya3 yl3 yc3, .int .i64 E1.q, .int .i64 E1.t] 27)) S3 (mv (.slice xa3 xl3 xc3) (.slice ya3 yl3 yc3) E1.q E1.t) E1 ∧ Lrd (w3.alloc (.cells #[.slice xa3 xl3 xc3, .slice ya3 yl3 yc3, .int .i64 E1.q, .int .i64 E1.t] 27)) gl3 cl3 vs3 L1 ∧ Bx (w3.alloc (.cells #[.slice xa3 xl3 xc3, .slice ya3 yl3 yc3, .int .i64 E1.q, .int .i64 E1.t] 27)) w3.heap.size [.slice xa3 xl3 xc3, .slice ya3 yl3 yc3, .int .i64 E1.q, .int .i64 E1.t]) := ⟨below_call H5.out.1 H5.out.1.size (below_new _ _), Knd.all H5.out.2.1 (below_new _ _), H5.out.2.2.1.all (below_new _ _), Knd.all H5.out.2.2.2.1 (below_new _ _), H5.out.2.2.2.2.1.all (below_new _ _), H5.out.2.2.2.2.2.1.all (below_new _ _), Knd.all H5.out.2.2.2.2.2.2.1 (below_new _ _), H5.out.2.2.2.2.2.2.2.all (below_new _ _), bx_new _ _ _⟩
    clear H5
    go_wp2_with fail
    generalize w3.alloc (.cells #[.slice xa3 xl3 xc3, .slice ya3 yl3 yc3, .int .i64 E1.q, .int .i64 E1.t] 27) = W3 at *
    generalize w3.heap.size = bx3 at *
    refine (drawManyNext_any a len cap _ (HB.out.grown H6.out.1) ht).mono ?_
    rintro e w4 ⟨b4, lb4, cb4, d4, ld4, cd4, ps4, ns4, t4, q4, rfl, Fb, Fd, D, hlb4, hld4, B⟩
    have hp4 := Fb.1
    have hn4 := Fd.1
    have H7 : Hid (Below w.heap.size w w4 ∧ manyK.rep w4 (fun j => blk b1 = some j ∨ blk d1 = some j) (mv (.slice b1 lb1 cb1) (.slice d1 ld1 cd1) t1 q1) ⟨ps1, ns1, t1, q1⟩ ∧ Bx w4 bx1 [.slice b1 lb1 cb1, .slice d1 ld1 cd1, .int .i64 t1, .int .i64 q1] ∧ manyK.rep w4 S2 (mv (.slice xa2 xl2 xc2) (.slice ya2 yl2 yc2) E1.q E1.t) E1 ∧ Lrd w4 gl2 cl2 vs2 L1 ∧ Bx w4 bx2 [.slice xa2 xl2 xc2, .slice ya2 yl2 yc2, .int .i64 E1.q, .int .i64 E1.t] ∧ manyK.rep w4 S3 (mv (.slice xa3 xl3 xc3) (.slice ya3 yl3 yc3) E1.q E1.t) E1 ∧ Lrd w4 gl3 cl3 vs3 L1 ∧ Bx w4 bx3 [.slice xa3 xl3 xc3, .slice ya3 yl3 yc3, .int .i64 E1.q, .int .i64 E1.t] ∧ manyK.rep w4 (fun j => blk b4 = some j ∨ blk d4 = some j) (mv (.slice b4 lb4 cb4) (.slice d4 ld4 cd4) t4 q4) ⟨ps4, ns4, t4, q4⟩) := ⟨below_call H6.out.1 H6.out.1.size B, Knd.all H6.out.2.1 B, H6.out.2.2.1.all B, Knd.all H6.out.2.2.2.1 B, H6.out.2.2.2.2.1.all B, H6.out.2.2.2.2.2.1.all B, Knd.all H6.out.2.2.2.2.2.2.1 B, H6.out.2.2.2.2.2.2.2.1.all B, H6.out.2.2.2.2.2.2.2.2.all B, many_mk Fb Fd D⟩
    clear H6 Fb Fd D B
    have H8 : Hid (Below w.heap.size w (w4.alloc (.cells #[.slice b4 lb4 cb4, .slice d4 ld4 cd4, .int .i64 t4, .int .i64 q4] 27)) ∧ manyK.rep (w4.alloc (.cells #[.slice b4 lb4 cb4, .slice d4 ld4 cd4, .int .i64 t4, .int .i64 q4] 27)) (fun j => blk b1 = some j ∨ blk d1 = some j) (mv (.slice b1 lb1 cb1) (.slice d1 ld1 cd1) t1 q1) ⟨ps1, ns1, t1, q1⟩ ∧ Bx (w4.alloc (.cells #[.slice b4 lb4 cb4, .slice d4 ld4 cd4, .int .i64 t4, .int .i64 q4] 27)) bx1 [.slice b1 lb1 cb1, .slice d1 ld1 cd1, .int .i64 t1, .int .i64 q1] ∧ manyK.rep (w4.alloc (.cells #[.slice b4 lb4 cb4, .slice d4 ld4 cd4, .int .i64 t4, .int .i64 q4] 27)) S2 (mv (.slice xa2 xl2 xc2) (.slice ya2 yl2 yc2) E1.q E1.t) E1 ∧ Lrd (w4.alloc (.cells #[.slice b4 lb4 cb4, .slice d4 ld4 cd4, .int .i64 t4, .int .i64 q4] 27)) gl2 cl2 vs2 L1 ∧ Bx (w4.alloc (.cells #[.slice b4 lb4 cb4, .slice d4 ld4 cd4, .int .i64 t4, .int .i64 q4] 27)) bx2 [.slice xa2 xl2 xc2, .slice ya2 yl2 yc2, .int .i64 E1.q, .int .i64 E1.t] ∧ manyK.rep (w4.alloc (.cells #[.slice b4 lb4 cb4, .slice d4 ld4 cd4, .int .i64 t4, .int .i64 q4] 27)) S3 (mv (.slice xa3 xl3 xc3) (.slice ya3 yl3 yc3) E1.q E1.t) E1 ∧ Lrd (w4.alloc (.cells #[.slice b4 lb4 cb4, .slice d4 ld4 cd4, .int .i64 t4, .int .i64 q4] 27)) gl3 cl3 vs3 L1 ∧ Bx (w4.alloc (.cells #[.slice b4 lb4 cb4, .slice d4 ld4 cd4, .int .i64 t4, .int .i64 q4] 27)) bx3 [.slice xa3 xl3 xc3, .slice ya3 yl3 yc3, .int .i64 E1.q, .int .i64 E1.t] ∧ manyK.rep (w4.alloc (.cells #[.slice b4 lb4 cb4, .slice d4 ld4 cd4, .int .i64 t4, .int .i64 q4] 27)) (fun j => blk b4 = some j ∨ blk d4 = some j) (mv (.slice b4 lb4 cb4) (.slice d4 ld4 cd4) t4 q4) ⟨ps4, ns4, t4, q4⟩ ∧ Bx (w4.alloc (.cells #[.slice b4 lb4 cb4, .slice d4 ld4 cd4, .int .i64 t4, .int .i64 q4] 27)) w4.heap.size [.slice b4 lb4 cb4, .slice d4 ld4 cd4, .int .i64 t4, .int .i64 q4]) := ⟨below_call H7.out.1 H7.out.1.size (below_new _ _), Knd.all H7.out.2.1 (below_new _ _), H7.out.2.2.1.all (below_new _ _), Knd.all H7.out.2.2.2.1 (below_new _ _), H7.out.2.2.2.2.1.all (below_new _ _), H7.out.2.2.2.2.2.1.all (below_new _ _), Knd.all H7.out.2.2.2.2.2.2.1 (below_new _ _), H7.out.2.2.2.2.2.2.2.1.all (below_new _ _), H7.out.2.2.2.2.2.2.2.2.1.all (below_new _ _), Knd.all H7.out.2.2.2.2.2.2.2.2.2 (below_new _ _), bx_new _ _ _⟩
    clear H7
    go_wp2_with fail
    generalize w4.alloc (.cells #[.slice b4 lb4 cb4, .slice d4 ld4 cd4, .int .i64 t4, .int .i64 q4] 27) = W4 at *
    generalize w4.heap.size = bx4 at *
    have hx4 : (((⟨ps4, ns4, t4, q4⟩ : MnD).s.length : Nat) : Int) ≤ 1048576 := by show (ps4.length : Int) ≤ _; omega
    obtain ⟨E2, hE2⟩ : ∃ E, E = nxD ⟨ps4, ns4, t4, q4⟩ := ⟨_, rfl⟩
    obtain ⟨L2, hL2⟩ : ∃ L, L = nxW ⟨ps4, ns4, t4, q4⟩ := ⟨_, rfl⟩
    have SM := nx_small ⟨ps4, ns4, t4, q4⟩
    rw [← hE2, ← hL2] at SM
    obtain ⟨⟨y1, y2, _⟩, y4, _⟩ := SM
    have HE2 : Hid (E2 = nxD ⟨ps4, ns4, t4, q4⟩ ∧ L2 = nxW ⟨ps4, ns4, t4, q4⟩) := ⟨hE2, hL2⟩
    clear hE2 hL2
    refine (implNextK H8.out.2.2.2.2.2.2.2.2.2.1 hx4).mono ?_
    rw [← HE2.out.1, ← HE2.out.2]
    rintro e w5 ⟨xa5, xl5, xc5, ya5, yl5, yc5, u5, S5, U5, rfl, R, Q, _, _, _, B⟩
    have H9 : Hid (Below w.heap.size w w5 ∧ manyK.rep w5 (fun j => blk b1 = some j ∨ blk d1 = some j) (mv (.slice b1 lb1 cb1) (.slice d1 ld1 cd1) t1 q1) ⟨ps1, ns1, t1, q1⟩ ∧ Bx w5 bx1 [.slice b1 lb1 cb1, .slice d1 ld1 cd1, .int .i64 t1, .int .i64 q1] ∧ manyK.rep w5 S2 (mv (.slice xa2 xl2 xc2) (.slice ya2 yl2 yc2) E1.q E1.t) E1 ∧ Lrd w5 gl2 cl2 vs2 L1 ∧ Bx w5 bx2 [.slice xa2 xl2 xc2, .slice ya2 yl2 yc2, .int .i64 E1.q, .int .i64 E1.t] ∧ manyK.rep w5 S3 (mv (.slice xa3 xl3 xc3) (.slice ya3 yl3 yc3) E1.q E1.t) E1 ∧ Lrd w5 gl3 cl3 vs3 L1 ∧ Bx w5 bx3 [.slice xa3 xl3 xc3, .slice ya3 yl3 yc3, .int .i64 E1.q, .int .i64 E1.t] ∧ manyK.rep w5 (fun j => blk b4 = some j ∨ blk d4 = some j) (mv (.slice b4 lb4 cb4) (.slice d4 ld4 cd4) t4 q4) ⟨ps4, ns4, t4, q4⟩ ∧ Bx w5 bx4 [.slice b4 lb4 cb4, .slice d4 ld4 cd4, .int .i64 t4, .int .i64 q4] ∧ manyK.rep w5 S5 (mv (.slice xa5 xl5 xc5) (.slice ya5 yl5 yc5) E2.q E2.t) E2 ∧ intsK.rep w5 U5 u5 L2) := ⟨below_call H8.out.1 H8.out.1.size B, Knd.all H8.out.2.1 B, H8.out.2.2.1.all B, Knd.all H8.out.2.2.2.1 B, H8.out.2.2.2.2.1.all B, H8.out.2.2.2.2.2.1.all B, Knd.all H8.out.2.2.2.2.2.2.1 B, H8.out.2.2.2.2.2.2.2.1.all B, H8.out.2.2.2.2.2.2.2.2.1.all B, Knd.all H8.out.2.2.2.2.2.2.2.2.2.1 B, H8.out.2.2.2.2.2.2.2.2.2.2.all B, R, Q⟩
    clear H8 R Q B
    have H10 : Hid (Below w.heap.size w (w5.alloc (.cells #[.slice xa5 xl5 xc5, .slice ya5 yl5 yc5, .int .i64 E2.q, .int .i64 E2.t] 27)) ∧ manyK.rep (w5.alloc (.cells #[.slice xa5 xl5 xc5, .slice ya5 yl5 yc5, .int .i64 E2.q, .int .i64 E2.t] 27)) (fun j => blk b1 = some j ∨ blk d1 = some j) (mv (.slice b1 lb1 cb1) (.slice d1 ld1 cd1) t1 q1) ⟨ps1, ns1, t1, q1⟩ ∧ Bx (w5.alloc (.cells #[.slice xa5 xl5 xc5, .slice ya5 yl5 yc5, .int .i64 E2.q, .int .i64 E2.t] 27)) bx1 [.slice b1 lb1 cb1, .slice d1 ld1 cd1, .int .i64 t1, .int .i64 q1] ∧ manyK.rep (w5.alloc (.cells #[.slice xa5 xl5 xc5, .slice ya5 yl5 yc5, .int .i64 E2.q, .int .i64 E2.t] 27)) S2 (mv (.slice xa2 xl2 xc2) (.slice ya2 yl2 yc2) E1.q E1.t) E1 ∧ Lrd (w5.alloc (.cells #[.slice xa5 xl5 xc5, .slice ya5 yl5 yc5, .int .i64 E2.q, .int .i64 E2.t] 27)) gl2 cl2 vs2 L1 ∧ Bx (w5.alloc (.cells #[.slice xa5 xl5 xc5, .slice ya5 yl5 yc5, .int .i64 E2.q, .int .i64 E2.t] 27)) bx2 [.slice xa2 xl2 xc2, .slice ya2 yl2 yc2, .int .i64 E1.q, .int .i64 E1.t] ∧ manyK.rep (w5.alloc (.cells #[.slice xa5 xl5 xc5, .slice ya5 yl5 yc5, .int .i64 E2.q, .int .i64 E2.t] 27)) S3 (mv (.slice xa3 xl3 xc3) (.slice ya3 yl3 yc3) E1.q E1.t) E1 ∧ Lrd (w5.alloc (.cells #[.slice xa5 xl5 xc5, .slice ya5 yl5 yc5, .int .i64 E2.q, .int .i64 E2.t] 27)) gl3 cl3 vs3 L1 ∧ Bx (w5.alloc (.cells #[.slice xa5 xl5 xc5, .slice ya5 yl5 yc5, .int .i64 E2.q, .int .i64 E2.t] 27)) bx3 [.slice xa3 xl3 xc3, .slice ya3 yl3 yc3, .int .i64 E1.q, .int .i64 E1.t] ∧ manyK.rep (w5.alloc (.cells #[.slice xa5 xl5 xc5, .slice ya5 yl5 yc5, .int .i64 E2.q, .int .i64 E2.t] 27)) (fun j => blk b4 = some j ∨ blk d4 = some j) (mv (.slice b4 lb4 cb4) (.slice d4 ld4 cd4) t4 q4) ⟨ps4, ns4, t4, q4⟩ ∧ Bx (w5.alloc (.cells #[.slice xa5 xl5 xc5, .slice ya5 yl5 yc5, .int .i64 E2.q, .int .i64 E2.t] 27)) bx4 [.slice b4 lb4 cb4, .slice d4 ld4 cd4, .int .i64 t4, .int .i64 q4] ∧ manyK.rep (w5.alloc (.cells #[.slice xa5 xl5 xc5, .slice ya5 yl5 yc5, .int .i64 E2.q, .int .i64 E2.t] 27)) S5 (mv (.slice xa5 xl5 xc5) (.slice ya5 yl5 yc5) E2.q E2.t) E2 ∧ intsK.rep (w5.alloc (.cells #[.slice xa5 xl5 xc5, .slice ya5 yl5 yc5, .int .i64 E2.q, .int .i64 E2.t] 27)) U5 u5 L2 ∧ Bx (w5.alloc (.cells #[.slice xa5 xl5 xc5, .slice ya5 yl5 yc5, .int .i64 E2.q, .int .i64 E2.t] 27)) w5.heap.size [.slice xa5 xl5 xc5, .slice ya5 yl5 yc5, .int .i64 E2.q, .int .i64 E2.t]) := ⟨below_call H9.out.1 H9.out.1.size (below_new _ _), Knd.all H9.out.2.1 (below_new _ _), H9.out.2.2.1.all (below_new _ _), Knd.all H9.out.2.2.2.1 (below_new _ _), H9.out.2.2.2.2.1.all (below_new _ _), H9.out.2.2.2.2.2.1.all (below_new _ _), Knd.all H9.out.2.2.2.2.2.2.1 (below_new _ _), H9.out.2.2.2.2.2.2.2.1.all (below_new _ _), H9.out.2.2.2.2.2.2.2.2.1.all (below_new _ _), Knd.all H9.out.2.2.2.2.2.2.2.2.2.1 (below_new _ _), H9.out.2.2.2.2.2.2.2.2.2.2.1.all (below_new _ _), Knd.all H9.out.2.2.2.2.2.2.2.2.2.2.2.1 (below_new _ _), Knd.all H9.out.2.2.2.2.2.2.2.2.2.2.2.2 (below_new _ _), bx_new _ _ _⟩
    clear H9
    have p0 := H10.out.2.2.2.2.2.2.2.2.2.2.1.2 0 _ rfl
    have p1 := H10.out.2.2.2.2.2.2.2.2.2.2.1.2 1 _ rfl
    have p2 := H10.out.2.2.2.2.2.2.2.2.2.2.1.2 2 _ rfl
    have p3 := H10.out.2.2.2.2.2.2.2.2.2.2.1.2 3 _ rfl
    go_wp2_with fail
    clear p0 p1 p2 p3
    generalize w5.alloc (.cells #[.slice xa5 xl5 xc5, .slice ya5 yl5 yc5, .int .i64 E2.q, .int .i64 E2.t] 27) = W5 at *
    generalize w5.heap.size = bx5 at *
    refine (specNextK H10.out.2.2.2.2.2.2.2.2.2.1 hx4).mono ?_
    rw [← HE2.out.1, ← HE2.out.2]
    rintro e w6 ⟨xa6, xl6, xc6, ya6, yl6, yc6, u6, S6, U6, rfl, R, Q, _, _, _, B⟩
    have H11 : Hid (Below w.heap.size w w6 ∧ manyK.rep w6 (fun j => blk b1 = some j ∨ blk d1 = some j) (mv (.slice b1 lb1 cb1) (.slice d1 ld1 cd1) t1 q1) ⟨ps1, ns1, t1, q1⟩ ∧ Bx w6 bx1 [.slice b1 lb1 cb1, .slice d1 ld1 cd1, .int .i64 t1, .int .i64 q1] ∧ manyK.rep w6 S2 (mv (.slice xa2 xl2 xc2) (.slice ya2 yl2 yc2) E1.q E1.t) E1 ∧ Lrd w6 gl2 cl2 vs2 L1 ∧ Bx w6 bx2 [.slice xa2 xl2 xc2, .slice ya2 yl2 yc2, .int .i64 E1.q, .int .i64 E1.t] ∧ manyK.rep w6 S3 (mv (.slice xa3 xl3 xc3) (.slice ya3 yl3 yc3) E1.q E1.t) E1 ∧ Lrd w6 gl3 cl3 vs3 L1 ∧ Bx w6 bx3 [.slice xa3 xl3 xc3, .slice ya3 yl3 yc3, .int .i64 E1.q, .int .i64 E1.t] ∧ manyK.rep w6 (fun j => blk b4 = some j ∨ blk d4 = some j) (mv (.slice b4 lb4 cb4) (.slice d4 ld4 cd4) t4 q4) ⟨ps4, ns4, t4, q4⟩ ∧ Bx w6 bx4 [.slice b4 lb4 cb4, .slice d4 ld4 cd4, .int .i64 t4, .int .i64 q4] ∧ manyK.rep w6 S5 (mv (.slice xa5 xl5 xc5) (.slice ya5 yl5 yc5) E2.q E2.t) E2 ∧ intsK.rep w6 U5 u5 L2 ∧ Bx w6 bx5 [.slice xa5 xl5 xc5, .slice ya5 yl5 yc5, .int .i64 E2.q, .int .i64 E2.t] ∧ manyK.rep w6 S6 (mv (.slice xa6 xl6 xc6) (.slice ya6 yl6 yc6) E2.q E2.t) E2 ∧ intsK.rep w6 U6 u6 L2) := ⟨below_call H10.out.1 H10.out.1.size B, Knd.all H10.out.2.1 B, H10.out.2.2.1.all B, Knd.all H10.out.2.2.2.1 B, H10.out.2.2.2.2.1.all B, H10.out.2.2.2.2.2.1.all B, Knd.all H10.out.2.2.2.2.2.2.1 B, H10.out.2.2.2.2.2.2.2.1.all B, H10.out.2.2.2.2.2.2.2.2.1.all B, Knd.all H10.out.2.2.2.2.2.2.2.2.2.1 B, H10.out.2.2.2.2.2.2.2.2.2.2.1.all B, Knd.all H10.out.2.2.2.2.2.2.2.2.2.2.2.1 B, Knd.all H10.out.2.2.2.2.2.2.2.2.2.2.2.2.1 B, H10.out.2.2.2.2.2.2.2.2.2.2.2.2.2.all B, R, Q⟩
    clear H10 R Q B
    have H12 : Hid (Below w.heap.size w (w6.alloc (.cells #[.slice xa6 xl6 xc6, .slice ya6 yl6 yc6, .int .i64 E2.q, .int .i64 E2.t] 27)) ∧ manyK.rep (w6.alloc (.cells #[.slice xa6 xl6 xc6, .slice ya6 yl6 yc6, .int .i64 E2.q, .int .i64 E2.t] 27)) (fun j => blk b1 = some j ∨ blk d1 = some j) (mv (.slice b1 lb1 cb1) (.slice d1 ld1 cd1) t1 q1) ⟨ps1, ns1, t1, q1⟩ ∧ Bx (w6.alloc (.cells #[.slice xa6 xl6 xc6, .slice ya6 yl6 yc6, .int .i64 E2.q, .int .i64 E2.t] 27)) bx1 [.slice b1 lb1 cb1, .slice d1 ld1 cd1, .int .i64 t1, .int .i64 q1] ∧ manyK.rep (w6.alloc (.cells #[.slice xa6 xl6 xc6, .slice ya6 yl6 yc6, .int .i64 E2.q, .int .i64 E2.t] 27)) S2 (mv (.slice xa2 xl2 xc2) (.slice ya2 yl2 yc2) E1.q E1.t) E1 ∧ Lrd (w6.alloc (.cells #[.slice xa6 xl6 xc6, .slice ya6 yl6 yc6, .int .i64 E2.q, .int .i64 E2.t] 27)) gl2 cl2 vs2 L1 ∧ Bx (w6.alloc (.cells #[.slice xa6 xl6 xc6, .slice ya6 yl6 yc6, .int .i64 E2.q, .int .i64 E2.t] 27)) bx2 [.slice xa2 xl2 xc2, .slice ya2 yl2 yc2, .int .i64 E1.q, .int .i64 E1.t] ∧ manyK.rep (w6.alloc (.cells #[.slice xa6 xl6 xc6, .slice ya6 yl6 yc6, .int .i64 E2.q, .int .i64 E2.t] 27)) S3 (mv (.slice xa3 xl3 xc3) (.slice ya3 yl3 yc3) E1.q E1.t) E1 ∧ Lrd (w6.alloc (.cells #[.slice xa6 xl6 xc6, .slice ya6 yl6 yc6, .int .i64 E2.q, .int .i64 E2.t] 27)) gl3 cl3 vs3 L1 ∧ Bx (w6.alloc (.cells #[.slice xa6 xl6 xc6, .slice ya6 yl6 yc6, .int .i64 E2.q, .int .i64 E2.t] 27)) bx3 [.slice xa3 xl3 xc3, .slice ya3 yl3 yc3, .int .i64 E1.q, .int .i64 E1.t] ∧ manyK.rep (w6.alloc (.cells #[.slice xa6 xl6 xc6, .slice ya6 yl6 yc6, .int .i64 E2.q, .int .i64 E2.t] 27)) (fun j => blk b4 = some j ∨ blk d4 = some j) (mv (.slice b4 lb4 cb4) (.slice d4 ld4 cd4) t4 q4) ⟨ps4, ns4, t4, q4⟩ ∧ Bx (w6.alloc (.cells #[.slice xa6 xl6 xc6, .slice ya6 yl6 yc6, .int .i64 E2.q, .int .i64 E2.t] 27)) bx4 [.slice b4 lb4 cb4, .slice d4 ld4 cd4, .int .i64 t4, .int .i64 q4] ∧ manyK.rep (w6.alloc (.cells #[.slice xa6 xl6 xc6, .slice ya6 yl6 yc6, .int .i64 E2.q, .int .i64 E2.t] 27)) S5 (mv (.slice xa5 xl5 xc5) (.slice ya5 yl5 yc5) E2.q E2.t) E2 ∧ intsK.rep (w6.alloc (.cells #[.slice xa6 xl6 xc6, .slice ya6 yl6 yc6, .int .i64 E2.q, .int .i64 E2.t] 27)) U5 u5 L2 ∧ Bx (w6.alloc (.cells #[.slice xa6 xl6 xc6, .slice ya6 yl6 yc6, .int .i64 E2.q, .int .i64 E2.t] 27)) bx5 [.slice xa5 xl5 xc5, .slice ya5 yl5 yc5, .int .i64 E2.q, .int .i64 E2.t] ∧ manyK.rep (w6.alloc (.cells #[.slice xa6 xl6 xc6, .slice ya6 yl6 yc6, .int .i64 E2.q, .int .i64 E2.t] 27)) S6 (mv (.slice xa6 xl6 xc6) (.slice ya6 yl6 yc6) E2.q E2.t) E2 ∧ intsK.rep (w6.alloc (.cells #[.slice xa6 xl6 xc6, .slice ya6 yl6 yc6, .int .i64 E2.q, .int .i64 E2.t] 27)) U6 u6 L2 ∧ Bx (w6.alloc (.cells #[.slice xa6 xl6 xc6, .slice ya6 yl6 yc6, .int .i64 E2.q, .int .i64 E2.t] 27)) w6.heap.size [.slice xa6 xl6 xc6, .slice ya6 yl6 yc6, .int .i64 E2.q, .int .i64 E2.t]) := ⟨below_call H11.out.1 H11.out.1.size (below_new _ _), Knd.all H11.out.2.1 (below_new _ _), H11.out.2.2.1.all (below_new _ _), Knd.all H11.out.2.2.2.1 (below_new _ _), H11.out.2.2.2.2.1.all (below_new _ _), H11.out.2.2.2.2.2.1.all (below_new _ _), Knd.all H11.out.2.2.2.2.2.2.1 (below_new _ _), H11.out.2.2.2.2.2.2.2.1.all (below_new _ _), H11.out.2.2.2.2.2.2.2.2.1.all (below_new _ _), Knd.all H11.out.2.2.2.2.2.2.2.2.2.1 (below_new _ _), H11.out.2.2.2.2.2.2.2.2.2.2.1.all (below_new _ _), Knd.all H11.out.2.2.2.2.2.2.2.2.2.2.2.1 (below_new _ _), Knd.all H11.out.2.2.2.2.2.2.2.2.2.2.2.2.1 (below_new _ _), H11.out.2.2.2.2.2.2.2.2.2.2.2.2.2.1.all (below_new _ _), Knd.all H11.out.2.2.2.2.2.2.2.2.2.2.2.2.2.2.1 (below_new _ _), Knd.all H11.out.2.2.2.2.2.2.2.2.2.2.2.2.2.2.2 (below_new _ _), bx_new _ _ _⟩
    clear H11
    go_wp2_with fail
    generalize w6.alloc (.cells #[.slice xa6 xl6 xc6, .slice ya6 yl6 yc6, .int .i64 E2.q, .int .i64 E2.t] 27) = W6 at *
    generalize w6.heap.size = bx6 at *
    refine (drawManyLag_any a len cap _ (HB.out.grown H12.out.1) ht).mono ?_
    rintro e w7 ⟨b7, lb7, cb7, d7, ld7, cd7, ps7, ns7, t7, q7, i, rfl, Fb, Fd, D, hlb7, hld7, B⟩
    have hp7 := Fb.1
    have hn7 := Fd.1
    have H13 : Hid (Below w.heap.size w w7 ∧ manyK.rep w7 (fun j => blk b1 = some j ∨ blk d1 = some j) (mv (.slice b1 lb1 cb1) (.slice d1 ld1 cd1) t1 q1) ⟨ps1, ns1, t1, q1⟩ ∧ Bx w7 bx1 [.slice b1 lb1 cb1, .slice d1 ld1 cd1, .int .i64 t1, .int .i64 q1] ∧ manyK.rep w7 S2 (mv (.slice xa2 xl2 xc2) (.slice ya2 yl2 yc2) E1.q E1.t) E1 ∧ Lrd w7 gl2 cl2 vs2 L1 ∧ Bx w7 bx2 [.slice xa2 xl2 xc2, .slice ya2 yl2 yc2, .int .i64 E1.q, .int .i64 E1.t] ∧ manyK.rep w7 S3 (mv (.slice xa3 xl3 xc3) (.slice ya3 yl3 yc3) E1.q E1.t) E1 ∧ Lrd w7 gl3 cl3 vs3 L1 ∧ Bx w7 bx3 [.slice xa3 xl3 xc3, .slice ya3 yl3 yc3, .int .i64 E1.q, .int .i64 E1.t] ∧ manyK.rep w7 (fun j => blk b4 = some j ∨ blk d4 = some j) (mv (.slice b4 lb4 cb4) (.slice d4 ld4 cd4) t4 q4) ⟨ps4, ns4, t4, q4⟩ ∧ Bx w7 bx4 [.slice b4 lb4 cb4, .slice d4 ld4 cd4, .int .i64 t4, .int .i64 q4] ∧ manyK.rep w7 S5 (mv (.slice xa5 xl5 xc5) (.slice ya5 yl5 yc5) E2.q E2.t) E2 ∧ intsK.rep w7 U5 u5 L2 ∧ Bx w7 bx5 [.slice xa5 xl5 xc5, .slice ya5 yl5 yc5, .int .i64 E2.q, .int .i64 E2.t] ∧ manyK.rep w7 S6 (mv (.slice xa6 xl6 xc6) (.slice ya6 yl6 yc6) E2.q E2.t) E2 ∧ intsK.rep w7 U6 u6 L2 ∧ Bx w7 bx6 [.slice xa6 xl6 xc6, .slice ya6 yl6 yc6, .int .i64 E2.q, .int .i64 E2.t] ∧ manyK.rep w7 (fun j => blk b7 = some j ∨ blk d7 = some j) (mv (.slice b7 lb7 cb7) (.slice d7 ld7 cd7) t7 q7) ⟨ps7, ns7, t7, q7⟩) := ⟨below_call H12.out.1 H12.out.1.size B, Knd.all H12.out.2.1 B, H12.out.2.2.1.all B, Knd.all H12.out.2.2.2.1 B, H12.out.2.2.2.2.1.all B, H12.out.2.2.2.2.2.1.all B, Knd.all H12.out.2.2.2.2.2.2.1 B, H12.out.2.2.2.2.2.2.2.1.all B, H12.out.2.2.2.2.2.2.2.2.1.all B, Knd.all H12.out.2.2.2.2.2.2.2.2.2.1 B, H12.out.2.2.2.2.2.2.2.2.2.2.1.all B, Knd.all H12.out.2.2.2.2.2.2.2.2.2.2.2.1 B, Knd.all H12.out.2.2.2.2.2.2.2.2.2.2.2.2.1 B, H12.out.2.2.2.2.2.2.2.2.2.2.2.2.2.1.all B, Knd.all H12.out.2.2.2.2.2.2.2.2.2.2.2.2.2.2.1 B, Knd.all H12.out.2.2.2.2.2.2.2.2.2.2.2.2.2.2.2.1 B, H12.out.2.2.2.2.2.2.2.2.2.2.2.2.2.2.2.2.all B, many_mk Fb Fd D⟩
    clear H12 Fb Fd D B
    have H14 : Hid (Below w.heap.size w (w7.alloc (.cells #[.slice b7 lb7 cb7, .slice d7 ld7 cd7, .int .i64 t7, .int .i64 q7] 27)) ∧ manyK.rep (w7.alloc (.cells #[.slice b7 lb7 cb7, .slice d7 ld7 cd7, .int .i64 t7, .int .i64 q7] 27)) (fun j => blk b1 = some j ∨ blk d1 = some j) (mv (.slice b1 lb1 cb1) (.slice d1 ld1 cd1) t1 q1) ⟨ps1, ns1, t1, q1⟩ ∧ Bx (w7.alloc (.cells #[.slice b7 lb7 cb7, .slice d7 ld7 cd7, .int .i64 t7, .int .i64 q7] 27)) bx1 [.slice b1 lb1 cb1, .slice d1 ld1 cd1, .int .i64 t1, .int .i64 q1] ∧ manyK.rep (w7.alloc (.cells #[.slice b7 lb7 cb7, .slice d7 ld7 cd7, .int .i64 t7, .int .i64 q7] 27)) S2 (mv (.slice xa2 xl2 xc2) (.slice ya2 yl2 yc2) E1.q E1.t) E1 ∧ Lrd (w7.alloc (.cells #[.slice b7 lb7 cb7, .slice d7 ld7 cd7, .int .i64 t7, .int .i64 q7] 27)) gl2 cl2 vs2 L1 ∧ Bx (w7.alloc (.cells #[.slice b7 lb7 cb7, .slice d7 ld7 cd7, .int .i64 t7, .int .i64 q7] 27)) bx2 [.slice xa2 xl2 xc2, .slice ya2 yl2 yc2, .int .i64 E1.q, .int .i64 E1.t] ∧ manyK.rep (w7.alloc (.cells #[.slice b7 lb7 cb7, .slice d7 ld7 cd7, .int .i64 t7, .int .i64 q7] 27)) S3 (mv (.slice xa3 xl3 xc3) (.slice ya3 yl3 yc3) E1.q E1.t) E1 ∧ Lrd (w7.alloc (.cells #[.slice b7 lb7 cb7, .slice d7 ld7 cd7, .int .i64 t7, .int .i64 q7] 27)) gl3 cl3 vs3 L1 ∧ Bx (w7.alloc (.cells #[.slice b7 lb7 cb7, .slice d7 ld7 cd7, .int .i64 t7, .int .i64 q7] 27)) bx3 [.slice xa3 xl3 xc3, .slice ya3 yl3 yc3, .int .i64 E1.q, .int .i64 E1.t] ∧ manyK.rep (w7.alloc (.cells #[.slice b7 lb7 cb7, .slice d7 ld7 cd7, .int .i64 t7, .int .i64 q7] 27)) (fun j => blk b4 = some j ∨ blk d4 = some j) (mv (.slice b4 lb4 cb4) (.slice d4 ld4 cd4) t4 q4) ⟨ps4, ns4, t4, q4⟩ ∧ Bx (w7.alloc (.cells #[.slice b7 lb7 cb7, .slice d7 ld7 cd7, .int .i64 t7, .int .i64 q7] 27)) bx4 [.slice b4 lb4 cb4, .slice d4 ld4 cd4, .int .i64 t4, .int .i64 q4] ∧ manyK.rep (w7.alloc (.cells #[.slice b7 lb7 cb7, .slice d7 ld7 cd7, .int .i64 t7, .int .i64 q7] 27)) S5 (mv (.slice xa5 xl5 xc5) (.slice ya5 yl5 yc5) E2.q E2.t) E2 ∧ intsK.rep (w7.alloc (.cells #[.slice b7 lb7 cb7, .slice d7 ld7 cd7, .int .i64 t7, .int .i64 q7] 27)) U5 u5 L2 ∧ Bx (w7.alloc (.cells #[.slice b7 lb7 cb7, .slice d7 ld7 cd7, .int .i64 t7, .int .i64 q7] 27)) bx5 [.slice xa5 xl5 xc5, .slice ya5 yl5 yc5, .int .i64 E2.q, .int .i64 E2.t] ∧ manyK.rep (w7.alloc (.cells #[.slice b7 lb7 cb7, .slice d7 ld7 cd7, .int .i64 t7, .int .i64 q7] 27)) S6 (mv (.slice xa6 xl6 xc6) (.slice ya6 yl6 yc6) E2.q E2.t) E2 ∧ intsK.rep (w7.alloc (.cells #[.slice b7 lb7 cb7, .slice d7 ld7 cd7, .int .i64 t7, .int .i64 q7] 27)) U6 u6 L2 ∧ Bx (w7.alloc (.cells #[.slice b7 lb7 cb7, .slice d7 ld7 cd7, .int .i64 t7, .int .i64 q7] 27)) bx6 [.slice xa6 xl6 xc6, .slice ya6 yl6 yc6, .int .i64 E2.q, .int .i64 E2.t] ∧ manyK.rep (w7.alloc (.cells #[.slice b7 lb7 cb7, .slice d7 ld7 cd7, .int .i64 t7, .int .i64 q7] 27)) (fun j => blk b7 = some j ∨ blk d7 = some j) (mv (.slice b7 lb7 cb7) (.slice d7 ld7 cd7) t7 q7) ⟨ps7, ns7, t7, q7⟩ ∧ Bx (w7.alloc (.cells #[.slice b7 lb7 cb7, .slice d7 ld7 cd7, .int .i64 t7, .int .i64 q7] 27)) w7.heap.size [.slice b7 lb7 cb7, .slice d7 ld7 cd7, .int .i64 t7, .int .i64 q7]) := ⟨below_call H13.out.1 H13.out.1.size (below_new _ _), Knd.all H13.out.2.1 (below_new _ _), H13.out.2.2.1.all (below_new _ _), Knd.all H13.out.2.2.2.1 (below_new _ _), H13.out.2.2.2.2.1.all (below_new _ _), H13.out.2.2.2.2.2.1.all (below_new _ _), Knd.all H13.out.2.2.2.2.2.2.1 (below_new _ _), H13.out.2.2.2.2.2.2.2.1.all (below_new _ _), H13.out.2.2.2.2.2.2.2.2.1.all (below_new _ _), Knd.all H13.out.2.2.2.2.2.2.2.2.2.1 (below_new _ _), H13.out.2.2.2.2.2.2.2.2.2.2.1.all (below_new _ _), Knd.all H13.out.2.2.2.2.2.2.2.2.2.2.2.1 (below_new _ _), Knd.all H13.out.2.2.2.2.2.2.2.2.2.2.2.2.1 (below_new _ _), H13.out.2.2.2.2.2.2.2.2.2.2.2.2.2.1.all (below_new _ _), Knd.all H13.out.2.2.2.2.2.2.2.2.2.2.2.2.2.2.1 (below_new _ _), Knd.all H13.out.2.2.2.2.2.2.2.2.2.2.2.2.2.2.2.1 (below_new _ _), H13.out.2.2.2.2.2.2.2.2.2.2.2.2.2.2.2.2.1.all (below_new _ _), Knd.all H13.out.2.2.2.2.2.2.2.2.2.2.2.2.2.2.2.2.2 (below_new _ _), bx_new _ _ _⟩
    clear H13
    go_wp2_with fail
    generalize w7.alloc (.cells #[.slice b7 lb7 cb7, .slice d7 ld7 cd7, .int .i64 t7, .int .i64 q7] 27) = W7 at *
    generalize w7.heap.size = bx7 at *
    have hx7 : (((⟨ps7, ns7, t7, q7⟩ : MnD).s.length : Nat) : Int) ≤ 1048576 := by show (ps7.length : Int) ≤ _; omega
    obtain ⟨lg, hlg⟩ : ∃ x, x = manyLag ps7 ns7 t7 q7 i := ⟨_, rfl⟩
    obtain ⟨li, hli⟩ : ∃ x, x = lagIn ps7 ns7 t7 q7 i := ⟨_, rfl⟩
    obtain ⟨_, _, _, _, _, _, eV, FV, GV, _, _⟩ := many_at H14.out.2.2.2.2.2.2.2.2.2.2.2.2.2.2.2.2.2.1
    cases eV
    refine (implManyLag b7 lb7 cb7 ps7 d7 ld7 cd7 ns7 t7 q7 i _ FV.shs GV.ints (by omega)).mono ?_
    rw [← hlg, ← hli]
    rintro e w8 ⟨rfl, B⟩
    have H15 : Hid (Below w.heap.size w w8 ∧ manyK.rep w8 (fun j => blk b1 = some j ∨ blk d1 = some j) (mv (.slice b1 lb1 cb1) (.slice d1 ld1 cd1) t1 q1) ⟨ps1, ns1, t1, q1⟩ ∧ Bx w8 bx1 [.slice b1 lb1 cb1, .slice d1 ld1 cd1, .int .i64 t1, .int .i64 q1] ∧ manyK.rep w8 S2 (mv (.slice xa2 xl2 xc2) (.slice ya2 yl2 yc2) E1.q E1.t) E1 ∧ Lrd w8 gl2 cl2 vs2 L1 ∧ Bx w8 bx2 [.slice xa2 xl2 xc2, .slice ya2 yl2 yc2, .int .i64 E1.q, .int .i64 E1.t] ∧ manyK.rep w8 S3 (mv (.slice xa3 xl3 xc3) (.slice ya3 yl3 yc3) E1.q E1.t) E1 ∧ Lrd w8 gl3 cl3 vs3 L1 ∧ Bx w8 bx3 [.slice xa3 xl3 xc3, .slice ya3 yl3 yc3, .int .i64 E1.q, .int .i64 E1.t] ∧ manyK.rep w8 (fun j => blk b4 = some j ∨ blk d4 = some j) (mv (.slice b4 lb4 cb4) (.slice d4 ld4 cd4) t4 q4) ⟨ps4, ns4, t4, q4⟩ ∧ Bx w8 bx4 [.slice b4 lb4 cb4, .slice d4 ld4 cd4, .int .i64 t4, .int .i64 q4] ∧ manyK.rep w8 S5 (mv (.slice xa5 xl5 xc5) (.slice ya5 yl5 yc5) E2.q E2.t) E2 ∧ intsK.rep w8 U5 u5 L2 ∧ Bx w8 bx5 [.slice xa5 xl5 xc5, .slice ya5 yl5 yc5, .int .i64 E2.q, .int .i64 E2.t] ∧ manyK.rep w8 S6 (mv (.slice xa6 xl6 xc6) (.slice ya6 yl6 yc6) E2.q E2.t) E2 ∧ intsK.rep w8 U6 u6 L2 ∧ Bx w8 bx6 [.slice xa6 xl6 xc6, .slice ya6 yl6 yc6, .int .i64 E2.q, .int .i64 E2.t] ∧ manyK.rep w8 (fun j => blk b7 = some j ∨ blk d7 = some j) (mv (.slice b7 lb7 cb7) (.slice d7 ld7 cd7) t7 q7) ⟨ps7, ns7, t7, q7⟩ ∧ Bx w8 bx7 [.slice b7 lb7 cb7, .slice d7 ld7 cd7, .int .i64 t7, .int .i64 q7]) := ⟨below_call H14.out.1 H14.out.1.size B, Knd.all H14.out.2.1 B, H14.out.2.2.1.all B, Knd.all H14.out.2.2.2.1 B, H14.out.2.2.2.2.1.all B, H14.out.2.2.2.2.2.1.all B, Knd.all H14.out.2.2.2.2.2.2.1 B, H14.out.2.2.2.2.2.2.2.1.all B, H14.out.2.2.2.2.2.2.2.2.1.all B, Knd.all H14.out.2.2.2.2.2.2.2.2.2.1 B, H14.out.2.2.2.2.2.2.2.2.2.2.1.all B, Knd.all H14.out.2.2.2.2.2.2.2.2.2.2.2.1 B, Knd.all H14.out.2.2.2.2.2.2.2.2.2.2.2.2.1 B, H14.out.2.2.2.2.2.2.2.2.2.2.2.2.2.1.all B, Knd.all H14.out.2.2.2.2.2.2.2.2.2.2.2.2.2.2.1 B, Knd.all H14.out.2.2.2.2.2.2.2.2.2.2.2.2.2.2.2.1 B, H14.out.2.2.2.2.2.2.2.2.2.2.2.2.2.2.2.2.1.all B, Knd.all H14.out.2.2.2.2.2.2.2.2.2.2.2.2.2.2.2.2.2.1 B, H14.out.2.2.2.2.2.2.2.2.2.2.2.2.2.2.2.2.2.2.all B⟩
    clear H14 B FV GV
    have p0 := H15.out.2.2.2.2.2.2.2.2.2.2.2.2.2.2.2.2.2.2.2 0 _ rfl
    have p1 := H15.out.2.2.2.2.2.2.2.2.2.2.2.2.2.2.2.2.2.2.2 1 _ rfl
    have p2 := H15.out.2.2.2.2.2.2.2.2.2.2.2.2.2.2.2.2.2.2.2 2 _ rfl
    have p3 := H15.out.2.2.2.2.2.2.2.2.2.2.2.2.2.2.2.2.2.2.2 3 _ rfl
    go_wp2_with fail
    clear p0 p1 p2 p3
    obtain ⟨_, _, _, _, _, _, eV, FV, GV, _, _⟩ := many_at H15.out.2.2.2.2.2.2.2.2.2.2.2.2.2.2.2.2.2.1
    cases eV
    refine (specManyLag b7 lb7 cb7 ps7 d7 ld7 cd7 ns7 t7 q7 i _ FV.shs GV.ints (by omega)).mono ?_
    rw [← hlg, ← hli]
    rintro e w9 ⟨rfl, B⟩
    have H16 : Hid (Below w.heap.size w w9 ∧ manyK.rep w9 (fun j => blk b1 = some j ∨ blk d1 = some j) (mv (.slice b1 lb1 cb1) (.slice d1 ld1 cd1) t1 q1) ⟨ps1, ns1, t1, q1⟩ ∧ Bx w9 bx1 [.slice b1 lb1 cb1, .slice d1 ld1 cd1, .int .i64 t1, .int .i64 q1] ∧ manyK.rep w9 S2 (mv (.slice xa2 xl2 xc2) (.slice ya2 yl2 yc2) E1.q E1.t) E1 ∧ Lrd w9 gl2 cl2 vs2 L1 ∧ Bx w9 bx2 [.slice xa2 xl2 xc2, .slice ya2 yl2 yc2, .int .i64 E1.q, .int .i64 E1.t] ∧ manyK.rep w9 S3 (mv (.slice xa3 xl3 xc3) (.slice ya3 yl3 yc3) E1.q E1.t) E1 ∧ Lrd w9 gl3 cl3 vs3 L1 ∧ Bx w9 bx3 [.slice xa3 xl3 xc3, .slice ya3 yl3 yc3, .int .i64 E1.q, .int .i64 E1.t] ∧ manyK.rep w9 (fun j => blk b4 = some j ∨ blk d4 = some j) (mv (.slice b4 lb4 cb4) (.slice d4 ld4 cd4) t4 q4) ⟨ps4, ns4, t4, q4⟩ ∧ Bx w9 bx4 [.slice b4 lb4 cb4, .slice d4 ld4 cd4, .int .i64 t4, .int .i64 q4] ∧ manyK.rep w9 S5 (mv (.slice xa5 xl5 xc5) (.slice ya5 yl5 yc5) E2.q E2.t) E2 ∧ intsK.rep w9 U5 u5 L2 ∧ Bx w9 bx5 [.slice xa5 xl5 xc5, .slice ya5 yl5 yc5, .int .i64 E2.q, .int .i64 E2.t] ∧ manyK.rep w9 S6 (mv (.slice xa6 xl6 xc6) (.slice ya6 yl6 yc6) E2.q E2.t) E2 ∧ intsK.rep w9 U6 u6 L2 ∧ Bx w9 bx6 [.slice xa6 xl6 xc6, .slice ya6 yl6 yc6, .int .i64 E2.q, .int .i64 E2.t] ∧ manyK.rep w9 (fun j => blk b7 = some j ∨ blk d7 = some j) (mv (.slice b7 lb7 cb7) (.slice d7 ld7 cd7) t7 q7) ⟨ps7, ns7, t7, q7⟩ ∧ Bx w9 bx7 [.slice b7 lb7 cb7, .slice d7 ld7 cd7, .int .i64 t7, .int .i64 q7]) := ⟨below_call H15.out.1 H15.out.1.size B, Knd.all H15.out.2.1 B, H15.out.2.2.1.all B, Knd.all H15.out.2.2.2.1 B, H15.out.2.2.2.2.1.all B, H15.out.2.2.2.2.2.1.all B, Knd.all H15.out.2.2.2.2.2.2.1 B, H15.out.2.2.2.2.2.2.2.1.all B, H15.out.2.2.2.2.2.2.2.2.1.all B, Knd.all H15.out.2.2.2.2.2.2.2.2.2.1 B, H15.out.2.2.2.2.2.2.2.2.2.2.1.all B, Knd.all H15.out.2.2.2.2.2.2.2.2.2.2.2.1 B, Knd.all H15.out.2.2.2.2.2.2.2.2.2.2.2.2.1 B, H15.out.2.2.2.2.2.2.2.2.2.2.2.2.2.1.all B, Knd.all H15.out.2.2.2.2.2.2.2.2.2.2.2.2.2.2.1 B, Knd.all H15.out.2.2.2.2.2.2.2.2.2.2.2.2.2.2.2.1 B, H15.out.2.2.2.2.2.2.2.2.2.2.2.2.2.2.2.2.1.all B, Knd.all H15.out.2.2.2.2.2.2.2.2.2.2.2.2.2.2.2.2.2.1 B, H15.out.2.2.2.2.2.2.2.2.2.2.2.2.2.2.2.2.2.2.all B⟩
    clear H15 B FV GV
    clear hlg hli
    have hlg : (lg != lg) = false := by simp
    have hli : (li != li) = false := by simp
    obtain ⟨mo, hmo⟩ : ∃ x, x = manyOk ps4 ns4 t4 q4 := ⟨_, rfl⟩
    have hmm : (mo != mo) = false := by simp
    go_wp2_with fail
    have ka0 : ∀ x : Kin w9, x.u.cell? ⟨bx2, 0, none⟩ = some (.slice xa2 xl2 xc2) := fun x => x.cell H16.out.2.2.2.2.2.1.1 (H16.out.2.2.2.2.2.1.2 0 _ rfl)
    have ka1 : ∀ x : Kin w9, x.u.cell? ⟨bx2, 1, none⟩ = some (.slice ya2 yl2 yc2) := fun x => x.cell H16.out.2.2.2.2.2.1.1 (H16.out.2.2.2.2.2.1.2 1 _ rfl)
    have ka2 : ∀ x : Kin w9, x.u.cell? ⟨bx2, 2, none⟩ = some (.int .i64 E1.q) := fun x => x.cell H16.out.2.2.2.2.2.1.1 (H16.out.2.2.2.2.2.1.2 2 _ rfl)
    have ka3 : ∀ x : Kin w9, x.u.cell? ⟨bx2, 3, none⟩ = some (.int .i64 E1.t) := fun x => x.cell H16.out.2.2.2.2.2.1.1 (H16.out.2.2.2.2.2.1.2 3 _ rfl)
    have kb0 : ∀ x : Kin w9, x.u.cell? ⟨bx3, 0, none⟩ = some (.slice xa3 xl3 xc3) := fun x => x.cell H16.out.2.2.2.2.2.2.2.2.1.1 (H16.out.2.2.2.2.2.2.2.2.1.2 0 _ rfl)
    have kb1 : ∀ x : Kin w9, x.u.cell? ⟨bx3, 1, none⟩ = some (.slice ya3 yl3 yc3) := fun x => x.cell H16.out.2.2.2.2.2.2.2.2.1.1 (H16.out.2.2.2.2.2.2.2.2.1.2 1 _ rfl)
    have kb2 : ∀ x : Kin w9, x.u.cell? ⟨bx3, 2, none⟩ = some (.int .i64 E1.q) := fun x => x.cell H16.out.2.2.2.2.2.2.2.2.1.1 (H16.out.2.2.2.2.2.2.2.2.1.2 2 _ rfl)
    have kb3 : ∀ x : Kin w9, x.u.cell? ⟨bx3, 3, none⟩ = some (.int .i64 E1.t) := fun x => x.cell H16.out.2.2.2.2.2.2.2.2.1.1 (H16.out.2.2.2.2.2.2.2.2.1.2 3 _ rfl)
    have kc0 : ∀ x : Kin w9, x.u.cell? ⟨bx5, 0, none⟩ = some (.slice xa5 xl5 xc5) := fun x => x.cell H16.out.2.2.2.2.2.2.2.2.2.2.2.2.2.1.1 (H16.out.2.2.2.2.2.2.2.2.2.2.2.2.2.1.2 0 _ rfl)
    have kc1 : ∀ x : Kin w9, x.u.cell? ⟨bx5, 1, none⟩ = some (.slice ya5 yl5 yc5) := fun x => x.cell H16.out.2.2.2.2.2.2.2.2.2.2.2.2.2.1.1 (H16.out.2.2.2.2.2.2.2.2.2.2.2.2.2.1.2 1 _ rfl)
    have kc2 : ∀ x : Kin w9, x.u.cell? ⟨bx5, 2, none⟩ = some (.int .i64 E2.q) := fun x => x.cell H16.out.2.2.2.2.2.2.2.2.2.2.2.2.2.1.1 (H16.out.2.2.2.2.2.2.2.2.2.2.2.2.2.1.2 2 _ rfl)
    have kc3 : ∀ x : Kin w9, x.u.cell? ⟨bx5, 3, none⟩ = some (.int .i64 E2.t) := fun x => x.cell H16.out.2.2.2.2.2.2.2.2.2.2.2.2.2.1.1 (H16.out.2.2.2.2.2.2.2.2.2.2.2.2.2.1.2 3 _ rfl)
    have kd0 : ∀ x : Kin w9, x.u.cell? ⟨bx6, 0, none⟩ = some (.slice xa6 xl6 xc6) := fun x => x.cell H16.out.2.2.2.2.2.2.2.2.2.2.2.2.2.2.2.2.1.1 (H16.out.2.2.2.2.2.2.2.2.2.2.2.2.2.2.2.2.1.2 0 _ rfl)
    have kd1 : ∀ x : Kin w9, x.u.cell? ⟨bx6, 1, none⟩ = some (.slice ya6 yl6 yc6) := fun x => x.cell H16.out.2.2.2.2.2.2.2.2.2.2.2.2.2.2.2.2.1.1 (H16.out.2.2.2.2.2.2.2.2.2.2.2.2.2.2.2.2.1.2 1 _ rfl)
    have kd2 : ∀ x : Kin w9, x.u.cell? ⟨bx6, 2, none⟩ = some (.int .i64 E2.q) := fun x => x.cell H16.out.2.2.2.2.2.2.2.2.2.2.2.2.2.2.2.2.1.1 (H16.out.2.2.2.2.2.2.2.2.2.2.2.2.2.2.2.2.1.2 2 _ rfl)
    have kd3 : ∀ x : Kin w9, x.u.cell? ⟨bx6, 3, none⟩ = some (.int .i64 E2.t) := fun x => x.cell H16.out.2.2.2.2.2.2.2.2.2.2.2.2.2.2.2.2.1.1 (H16.out.2.2.2.2.2.2.2.2.2.2.2.2.2.2.2.2.1.2 3 _ rfl)
    have ke0 : ∀ x : Kin w9, x.u.cell? ⟨bx4, 0, none⟩ = some (.slice b4 lb4 cb4) := fun x => x.cell H16.out.2.2.2.2.2.2.2.2.2.2.1.1 (H16.out.2.2.2.2.2.2.2.2.2.2.1.2 0 _ rfl)
    have ke1 : ∀ x : Kin w9, x.u.cell? ⟨bx4, 1, none⟩ = some (.slice d4 ld4 cd4) := fun x => x.cell H16.out.2.2.2.2.2.2.2.2.2.2.1.1 (H16.out.2.2.2.2.2.2.2.2.2.2.1.2 1 _ rfl)
    have ke2 : ∀ x : Kin w9, x.u.cell? ⟨bx4, 2, none⟩ = some (.int .i64 t4) := fun x => x.cell H16.out.2.2.2.2.2.2.2.2.2.2.1.1 (H16.out.2.2.2.2.2.2.2.2.2.2.1.2 2 _ rfl)
    have ke3 : ∀ x : Kin w9, x.u.cell? ⟨bx4, 3, none⟩ = some (.int .i64 q4) := fun x => x.cell H16.out.2.2.2.2.2.2.2.2.2.2.1.1 (H16.out.2.2.2.2.2.2.2.2.2.2.1.2 3 _ rfl)
    have KA : Hid (∀ x : Kin w9, Calls Tryz.prog 16 #[mv (.slice xa2 xl2 xc2) (.slice ya2 yl2 yc2) E1.q E1.t, mv (.slice xa3 xl3 xc3) (.slice ya3 yl3 yc3) E1.q E1.t] x.u fun e w' => e = .returned (.bool true) ∧ Below x.u.heap.size x.u w') := fun x => many_like (Knd.all H16.out.2.2.2.1 x.b) (Knd.all H16.out.2.2.2.2.2.2.1 x.b) (by omega) (by omega)
    have KB : Hid (∀ x : Kin w9, Calls Tryz.prog 17 #[.slice (some ⟨gl2, 0, none⟩) L1.length cl2, .slice (some ⟨gl3, 0, none⟩) L1.length cl3] x.u fun e w' => e = .returned (.bool true) ∧ Below x.u.heap.size x.u w') := fun x => lists_like (H16.out.2.2.2.2.1.all x.b) (H16.out.2.2.2.2.2.2.2.1.all x.b) L1.length rfl (by omega) (by omega)
    have KC : Hid (∀ x : Kin w9, Calls Tryz.prog 16 #[mv (.slice xa5 xl5 xc5) (.slice ya5 yl5 yc5) E2.q E2.t, mv (.slice xa6 xl6 xc6) (.slice ya6 yl6 yc6) E2.q E2.t] x.u fun e w' => e = .returned (.bool true) ∧ Below x.u.heap.size x.u w') := fun x => many_like (Knd.all H16.out.2.2.2.2.2.2.2.2.2.2.2.1 x.b) (Knd.all H16.out.2.2.2.2.2.2.2.2.2.2.2.2.2.2.1 x.b) (by omega) (by omega)
    have KD : Hid (∀ x : Kin w9, Calls Tryz.prog 18 #[u5, u6] x.u fun e w' => e = .returned (.bool true) ∧ Below x.u.heap.size x.u w') := by
      intro x
      obtain ⟨_, _, _, h1, h2⟩ := ints_rd (Knd.all H16.out.2.2.2.2.2.2.2.2.2.2.2.2.1 x.b)
      obtain ⟨_, _, _, h3, h4⟩ := ints_rd (Knd.all H16.out.2.2.2.2.2.2.2.2.2.2.2.2.2.2.2.1 x.b)
      subst h1 h3
      exact likeInts_same _ _ _ L2 _ _ _ x.u h2 h4 (by have := h2.1; omega)
    have KE : Hid (∀ x : Kin w9, Calls Tryz.prog 19 #[mv (.slice b4 lb4 cb4) (.slice d4 ld4 cd4) t4 q4] x.u fun e w' => e = .returned (.bool mo) ∧ Below x.u.heap.size x.u w') := by
      intro x
      obtain ⟨_, _, _, _, _, _, eV, FV, GV, _, _⟩ := many_at (Knd.all H16.out.2.2.2.2.2.2.2.2.2.1 x.b)
      cases eV
      rw [hmo]
      exact implManyX b4 lb4 cb4 ps4 d4 ld4 cd4 ns4 t4 q4 x.u FV.shs GV.ints (by omega)
    have KF : Hid (∀ x : Kin w9, Calls Tryz.prog 20 #[mv (.slice b4 lb4 cb4) (.slice d4 ld4 cd4) t4 q4] x.u fun e w' => e = .returned (.bool mo) ∧ Below x.u.heap.size x.u w') := by
      intro x
      obtain ⟨_, _, _, _, _, _, eV, FV, GV, _, _⟩ := many_at (Knd.all H16.out.2.2.2.2.2.2.2.2.2.1 x.b)
      cases eV
      rw [hmo]
      exact specManyX b4 lb4 cb4 ps4 d4 ld4 cd4 ns4 t4 q4 x.u FV.shs GV.ints (by omega)
    clear hmo
    refine wp_region_kin (by kernel_rfl) (by kernel_rfl) (fun hne => ?_)
    repeat (go_big_quiet_step ((first | (go_at_call_of 16 (Value.agg #[Value.slice xa2 xl2 xc2, Value.slice ya2 yl2 yc2, Value.int IntKind.i64 E1.q, Value.int IntKind.i64 E1.t]); exact kin_calls (KA.out _)) | (go_at_call_of 16 (Value.agg #[Value.slice xa5 xl5 xc5, Value.slice ya5 yl5 yc5, Value.int IntKind.i64 E2.q, Value.int IntKind.i64 E2.t]); exact kin_calls (KC.out _)) | (go_at_call 17; exact kin_calls (KB.out _)) | (go_at_call 18; exact kin_calls (KD.out _)) | (go_at_call 19; exact kin_calls (KE.out _)) | (go_at_call 20; exact kin_calls (KF.out _)))))
    refine wpQuiet_nil ?_
    rintro _ ⟨x, rfl⟩
    have H17 : Hid (Below w.heap.size w x.u ∧ manyK.rep x.u (fun j => blk b1 = some j ∨ blk d1 = some j) (mv (.slice b1 lb1 cb1) (.slice d1 ld1 cd1) t1 q1) ⟨ps1, ns1, t1, q1⟩ ∧ Bx x.u bx1 [.slice b1 lb1 cb1, .slice d1 ld1 cd1, .int .i64 t1, .int .i64 q1] ∧ manyK.rep x.u S2 (mv (.slice xa2 xl2 xc2) (.slice ya2 yl2 yc2) E1.q E1.t) E1 ∧ Lrd x.u gl2 cl2 vs2 L1 ∧ Bx x.u bx2 [.slice xa2 xl2 xc2, .slice ya2 yl2 yc2, .int .i64 E1.q, .int .i64 E1.t]) := ⟨below_call H16.out.1 H16.out.1.size x.b, Knd.all H16.out.2.1 x.b, H16.out.2.2.1.all x.b, Knd.all H16.out.2.2.2.1 x.b, H16.out.2.2.2.2.1.all x.b, H16.out.2.2.2.2.2.1.all x.b⟩
    clear H16 KA KB KC KD KE KF hne ka0 ka1 ka2 ka3 kb0 kb1 kb2 kb3 kc0 kc1 kc2 kc3 kd0 kd1 kd2 kd3 ke0 ke1 ke2 ke3
    generalize x.u = w10 at *
    clear hlg hli hmm
    obtain ⟨m1, hm1⟩ : ∃ m, m = L1.length := ⟨_, rfl⟩
    have HM1 : Hid (m1 = L1.length) := hm1
    rw [← hm1] at z4 ⊢
    clear hm1
    by_cases h0 : m1 = 0
    · have hd : ((m1 : Int) == (0 : Int)) = true := by simp [h0]
      go_wp2_with fail
      go_ret
      exact ⟨rfl, H17.out.1⟩
    have hd : ((m1 : Int) == (0 : Int)) = false := by simp; omega
    have hok : runOkM ps1 ns1 t1 q1 n = true := rn_some (d := ⟨ps1, ns1, t1, q1⟩) (by rw [← HE1.out.2, ← HM1.out]; exact h0)
    have hnb := (run_fits hok).2.2
    have hsum := rn_sum (d := ⟨ps1, ns1, t1, q1⟩) hok
    rw [← HE1.out.1, ← HE1.out.2] at hsum
    have HOK : Hid (runOkM ps1 ns1 t1 q1 n = true ∧ E1.c.length = ns1.length ∧ sumI E1.c = sumI ns1 + (sumL L1 : Nat) ∧ cnts ns1 = true ∧ cnts E1.c = true) := ⟨hok, hsum⟩
    clear hok hsum
    go_wp2_with fail
    clear hd
    refine (roll_any a len cap 12 _ (HB.out.grown H17.out.1) ht).mono ?_
    rintro e w11 ⟨rfl, h, L7⟩
    have C7 : Hid (Cur .u64 76 w10.heap.size a len cap w11) := L7.cur (cur_new (HB.out.grown H17.out.1) ht h)
    go_wp2_with fail
    refine (dice_any _ _ a len cap _ _ C7.out (by omega)).mono ?_
    rintro e w12 ⟨k, rfl, k0, k1, _, L8⟩
    have B8 := new_below (L7.trans L8)
    have H18 : Hid (Below w.heap.size w w12 ∧ manyK.rep w12 (fun j => blk b1 = some j ∨ blk d1 = some j) (mv (.slice b1 lb1 cb1) (.slice d1 ld1 cd1) t1 q1) ⟨ps1, ns1, t1, q1⟩ ∧ Bx w12 bx1 [.slice b1 lb1 cb1, .slice d1 ld1 cd1, .int .i64 t1, .int .i64 q1] ∧ manyK.rep w12 S2 (mv (.slice xa2 xl2 xc2) (.slice ya2 yl2 yc2) E1.q E1.t) E1 ∧ Lrd w12 gl2 cl2 vs2 L1 ∧ Bx w12 bx2 [.slice xa2 xl2 xc2, .slice ya2 yl2 yc2, .int .i64 E1.q, .int .i64 E1.t]) := ⟨below_call H17.out.1 H17.out.1.size B8, Knd.all H17.out.2.1 B8, H17.out.2.2.1.all B8, Knd.all H17.out.2.2.2.1 B8, H17.out.2.2.2.2.1.all B8, H17.out.2.2.2.2.2.all B8⟩
    clear H17 B8 L7 L8 C7
    have hk1 : k ≤ n := by omega
    clear k1
    have TW := rn_two (d := ⟨ps1, ns1, t1, q1⟩) HOK.out.1 k0 hk1
    obtain ⟨E4, hE4⟩ : ∃ E, E = rnD ⟨ps1, ns1, t1, q1⟩ k := ⟨_, rfl⟩
    obtain ⟨L4, hL4⟩ : ∃ L, L = rnW ⟨ps1, ns1, t1, q1⟩ k := ⟨_, rfl⟩
    have SM := rn_small ⟨ps1, ns1, t1, q1⟩ k
    rw [← hE4, ← hL4] at SM
    obtain ⟨⟨x1, x2, _⟩, x4, x5, _⟩ := SM
    have HE4 : Hid (E4 = rnD ⟨ps1, ns1, t1, q1⟩ k ∧ L4 = rnW ⟨ps1, ns1, t1, q1⟩ k) := ⟨hE4, hL4⟩
    clear hE4 hL4
    rw [← HE4.out.1, ← HE4.out.2, ← HE1.out.1, ← HE1.out.2] at TW
    obtain ⟨L5, hL5⟩ : ∃ L, L = rnW E4 (n - k) := ⟨_, rfl⟩
    rw [← hL5] at TW
    have HL5 : Hid (L5 = rnW E4 (n - k)) := hL5
    have HTW := hid TW
    clear TW hL5
    have p0 := H18.out.2.2.1.2 0 _ rfl
    have p1 := H18.out.2.2.1.2 1 _ rfl
    have p2 := H18.out.2.2.1.2 2 _ rfl
    have p3 := H18.out.2.2.1.2 3 _ rfl
    go_wp2_with fail
    clear p0 p1 p2 p3
    refine (implRunK k H18.out.2.1 hx1).mono ?_
    rw [← HE4.out.1, ← HE4.out.2]
    rintro e w13 ⟨xa13, xl13, xc13, ya13, yl13, yc13, u13, S13, U13, rfl, R, Q, _, _, _, B⟩
    obtain ⟨gl13, cl13, vs13, hu, Q9⟩ := lists_rd Q
    subst hu
    clear Q
    have H19 : Hid (Below w.heap.size w w13 ∧ manyK.rep w13 (fun j => blk b1 = some j ∨ blk d1 = some j) (mv (.slice b1 lb1 cb1) (.slice d1 ld1 cd1) t1 q1) ⟨ps1, ns1, t1, q1⟩ ∧ Bx w13 bx1 [.slice b1 lb1 cb1, .slice d1 ld1 cd1, .int .i64 t1, .int .i64 q1] ∧ manyK.rep w13 S2 (mv (.slice xa2 xl2 xc2) (.slice ya2 yl2 yc2) E1.q E1.t) E1 ∧ Lrd w13 gl2 cl2 vs2 L1 ∧ Bx w13 bx2 [.slice xa2 xl2 xc2, .slice ya2 yl2 yc2, .int .i64 E1.q, .int .i64 E1.t] ∧ manyK.rep w13 S13 (mv (.slice xa13 xl13 xc13) (.slice ya13 yl13 yc13) E4.q E4.t) E4 ∧ Lrd w13 gl13 cl13 vs13 L4) := ⟨below_call H18.out.1 H18.out.1.size B, Knd.all H18.out.2.1 B, H18.out.2.2.1.all B, Knd.all H18.out.2.2.2.1 B, H18.out.2.2.2.2.1.all B, H18.out.2.2.2.2.2.all B, R, Q9⟩
    clear H18 R Q9 B
    have H20 : Hid (Below w.heap.size w (w13.alloc (.cells #[.slice xa13 xl13 xc13, .slice ya13 yl13 yc13, .int .i64 E4.q, .int .i64 E4.t] 27)) ∧ manyK.rep (w13.alloc (.cells #[.slice xa13 xl13 xc13, .slice ya13 yl13 yc13, .int .i64 E4.q, .int .i64 E4.t] 27)) (fun j => blk b1 = some j ∨ blk d1 = some j) (mv (.slice b1 lb1 cb1) (.slice d1 ld1 cd1) t1 q1) ⟨ps1, ns1, t1, q1⟩ ∧ Bx (w13.alloc (.cells #[.slice xa13 xl13 xc13, .slice ya13 yl13 yc13, .int .i64 E4.q, .int .i64 E4.t] 27)) bx1 [.slice b1 lb1 cb1, .slice d1 ld1 cd1, .int .i64 t1, .int .i64 q1] ∧ manyK.rep (w13.alloc (.cells #[.slice xa13 xl13 xc13, .slice ya13 yl13 yc13, .int .i64 E4.q, .int .i64 E4.t] 27)) S2 (mv (.slice xa2 xl2 xc2) (.slice ya2 yl2 yc2) E1.q E1.t) E1 ∧ Lrd (w13.alloc (.cells #[.slice xa13 xl13 xc13, .slice ya13 yl13 yc13, .int .i64 E4.q, .int .i64 E4.t] 27)) gl2 cl2 vs2 L1 ∧ Bx (w13.alloc (.cells #[.slice xa13 xl13 xc13, .slice ya13 yl13 yc13, .int .i64 E4.q, .int .i64 E4.t] 27)) bx2 [.slice xa2 xl2 xc2, .slice ya2 yl2 yc2, .int .i64 E1.q, .int .i64 E1.t] ∧ manyK.rep (w13.alloc (.cells #[.slice xa13 xl13 xc13, .slice ya13 yl13 yc13, .int .i64 E4.q, .int .i64 E4.t] 27)) S13 (mv (.slice xa13 xl13 xc13) (.slice ya13 yl13 yc13) E4.q E4.t) E4 ∧ Lrd (w13.alloc (.cells #[.slice xa13 xl13 xc13, .slice ya13 yl13 yc13, .int .i64 E4.q, .int .i64 E4.t] 27)) gl13 cl13 vs13 L4 ∧ Bx (w13.alloc (.cells #[.slice xa13 xl13 xc13, .slice ya13 yl13 yc13, .int .i64 E4.q, .int .i64 E4.t] 27)) w13.heap.size [.slice xa13 xl13 xc13, .slice ya13 yl13 yc13, .int .i64 E4.q, .int .i64 E4.t]) := ⟨below_call H19.out.1 H19.out.1.size (below_new _ _), Knd.all H19.out.2.1 (below_new _ _), H19.out.2.2.1.all (below_new _ _), Knd.all H19.out.2.2.2.1 (below_new _ _), H19.out.2.2.2.2.1.all (below_new _ _), H19.out.2.2.2.2.2.1.all (below_new _ _), Knd.all H19.out.2.2.2.2.2.2.1 (below_new _ _), H19.out.2.2.2.2.2.2.2.all (below_new _ _), bx_new _ _ _⟩
    clear H19
    go_wp2_with fail
    generalize w13.alloc (.cells #[.slice xa13 xl13 xc13, .slice ya13 yl13 yc13, .int .i64 E4.q, .int .i64 E4.t] 27) = W13 at *
    generalize w13.heap.size = bx13 at *
    have hx13 : (E4.s.length : Int) ≤ 1048576 := by omega
    refine (implRunK (n - k) H20.out.2.2.2.2.2.2.1 hx13).mono ?_
    rw [HTW.out.1, ← HL5.out]
    rintro e w14 ⟨xa14, xl14, xc14, ya14, yl14, yc14, u14, S14, U14, rfl, R, Q, _, _, _, B⟩
    obtain ⟨gl14, cl14, vs14, hu, Q9⟩ := lists_rd Q
    subst hu
    clear Q
    have H21 : Hid (Below w.heap.size w w14 ∧ manyK.rep w14 (fun j => blk b1 = some j ∨ blk d1 = some j) (mv (.slice b1 lb1 cb1) (.slice d1 ld1 cd1) t1 q1) ⟨ps1, ns1, t1, q1⟩ ∧ Bx w14 bx1 [.slice b1 lb1 cb1, .slice d1 ld1 cd1, .int .i64 t1, .int .i64 q1] ∧ manyK.rep w14 S2 (mv (.slice xa2 xl2 xc2) (.slice ya2 yl2 yc2) E1.q E1.t) E1 ∧ Lrd w14 gl2 cl2 vs2 L1 ∧ Bx w14 bx2 [.slice xa2 xl2 xc2, .slice ya2 yl2 yc2, .int .i64 E1.q, .int .i64 E1.t] ∧ manyK.rep w14 S13 (mv (.slice xa13 xl13 xc13) (.slice ya13 yl13 yc13) E4.q E4.t) E4 ∧ Lrd w14 gl13 cl13 vs13 L4 ∧ Bx w14 bx13 [.slice xa13 xl13 xc13, .slice ya13 yl13 yc13, .int .i64 E4.q, .int .i64 E4.t] ∧ manyK.rep w14 S14 (mv (.slice xa14 xl14 xc14) (.slice ya14 yl14 yc14) E1.q E1.t) E1 ∧ Lrd w14 gl14 cl14 vs14 L5) := ⟨below_call H20.out.1 H20.out.1.size B, Knd.all H20.out.2.1 B, H20.out.2.2.1.all B, Knd.all H20.out.2.2.2.1 B, H20.out.2.2.2.2.1.all B, H20.out.2.2.2.2.2.1.all B, Knd.all H20.out.2.2.2.2.2.2.1 B, H20.out.2.2.2.2.2.2.2.1.all B, H20.out.2.2.2.2.2.2.2.2.all B, R, Q9⟩
    clear H20 R Q9 B
    have H22 : Hid (Below w.heap.size w (w14.alloc (.cells #[.slice xa14 xl14 xc14, .slice ya14 yl14 yc14, .int .i64 E1.q, .int .i64 E1.t] 27)) ∧ manyK.rep (w14.alloc (.cells #[.slice xa14 xl14 xc14, .slice ya14 yl14 yc14, .int .i64 E1.q, .int .i64 E1.t] 27)) (fun j => blk b1 = some j ∨ blk d1 = some j) (mv (.slice b1 lb1 cb1) (.slice d1 ld1 cd1) t1 q1) ⟨ps1, ns1, t1, q1⟩ ∧ Bx (w14.alloc (.cells #[.slice xa14 xl14 xc14, .slice ya14 yl14 yc14, .int .i64 E1.q, .int .i64 E1.t] 27)) bx1 [.slice b1 lb1 cb1, .slice d1 ld1 cd1, .int .i64 t1, .int .i64 q1] ∧ manyK.rep (w14.alloc (.cells #[.slice xa14 xl14 xc14, .slice ya14 yl14 yc14, .int .i64 E1.q, .int .i64 E1.t] 27)) S2 (mv (.slice xa2 xl2 xc2) (.slice ya2 yl2 yc2) E1.q E1.t) E1 ∧ Lrd (w14.alloc (.cells #[.slice xa14 xl14 xc14, .slice ya14 yl14 yc14, .int .i64 E1.q, .int .i64 E1.t] 27)) gl2 cl2 vs2 L1 ∧ Bx (w14.alloc (.cells #[.slice xa14 xl14 xc14, .slice ya14 yl14 yc14, .int .i64 E1.q, .int .i64 E1.t] 27)) bx2 [.slice xa2 xl2 xc2, .slice ya2 yl2 yc2, .int .i64 E1.q, .int .i64 E1.t] ∧ manyK.rep (w14.alloc (.cells #[.slice xa14 xl14 xc14, .slice ya14 yl14 yc14, .int .i64 E1.q, .int .i64 E1.t] 27)) S13 (mv (.slice xa13 xl13 xc13) (.slice ya13 yl13 yc13) E4.q E4.t) E4 ∧ Lrd (w14.alloc (.cells #[.slice xa14 xl14 xc14, .slice ya14 yl14 yc14, .int .i64 E1.q, .int .i64 E1.t] 27)) gl13 cl13 vs13 L4 ∧ Bx (w14.alloc (.cells #[.slice xa14 xl14 xc14, .slice ya14 yl14 yc14, .int .i64 E1.q, .int .i64 E1.t] 27)) bx13 [.slice xa13 xl13 xc13, .slice ya13 yl13 yc13, .int .i64 E4.q, .int .i64 E4.t] ∧ manyK.rep (w14.alloc (.cells #[.slice xa14 xl14 xc14, .slice ya14 yl14 yc14, .int .i64 E1.q, .int .i64 E1.t] 27)) S14 (mv (.slice xa14 xl14 xc14) (.slice ya14 yl14 yc14) E1.q E1.t) E1 ∧ Lrd (w14.alloc (.cells #[.slice xa14 xl14 xc14, .slice ya14 yl14 yc14, .int .i64 E1.q, .int .i64 E1.t] 27)) gl14 cl14 vs14 L5 ∧ Bx (w14.alloc (.cells #[.slice xa14 xl14 xc14, .slice ya14 yl14 yc14, .int .i64 E1.q, .int .i64 E1.t] 27)) w14.heap.size [.slice xa14 xl14 xc14, .slice ya14 yl14 yc14, .int .i64 E1.q, .int .i64 E1.t]) := ⟨below_call H21.out.1 H21.out.1.size (below_new _ _), Knd.all H21.out.2.1 (below_new _ _), H21.out.2.2.1.all (below_new _ _), Knd.all H21.out.2.2.2.1 (below_new _ _), H21.out.2.2.2.2.1.all (below_new _ _), H21.out.2.2.2.2.2.1.all (below_new _ _), Knd.all H21.out.2.2.2.2.2.2.1 (below_new _ _), H21.out.2.2.2.2.2.2.2.1.all (below_new _ _), H21.out.2.2.2.2.2.2.2.2.1.all (below_new _ _), Knd.all H21.out.2.2.2.2.2.2.2.2.2.1 (below_new _ _), H21.out.2.2.2.2.2.2.2.2.2.2.all (below_new _ _), bx_new _ _ _⟩
    clear H21
    go_wp2_with fail
    generalize w14.alloc (.cells #[.slice xa14 xl14 xc14, .slice ya14 yl14 yc14, .int .i64 E1.q, .int .i64 E1.t] 27) = W14 at *
    generalize w14.heap.size = bx14 at *
    go_loop [25, 26] (fun s i => ∃ j : Nat, j ≤ m1 ∧ i = .int .i64 j ∧ s = .int .i64 ((sumL (L1.take j) : Nat) : Int)) (fun _ i => m1 - (intOf i).toNat)
    case atStart => exact ⟨0, Nat.zero_le _, rfl, by simp [sumL]⟩
    case round =>
      obtain ⟨j, hj, rfl, rfl⟩ := hrel
      have hsj := sumL_take (L := L1) j
      by_cases hlt : j < m1
      · have hlt' : (j : Int) < (m1 : Int) := by omega
        have hjL : j < L1.length := by rw [← HM1.out]; exact hlt
        obtain ⟨aj, nj, kj, ij, Ij⟩ := (H22.out.2.2.2.2.1).2.2 j hjL
        have dj := (H22.out.2.2.2.2.1).1.cell ij
        have hg := sumL_get (L := L1) hjL
        have hnj : (L1.getD j []).length = nj := Ij.1
        rw [hnj] at hg
        have HS : Hid (((sumL (L1.take j) : Nat) : Int) + (nj : Int) = ((sumL (L1.take (j + 1)) : Nat) : Int)) := by
          show _ = _
          rw [take_snoc hjL, sumL_snoc, hnj]
          push_cast
          rfl
        clear ij Ij hnj
        go_wp2_with fail
        go_round
        case rel => exact ⟨j + 1, by omega, by go_num, by rw [← HS.out]⟩
        case measure => simp [intOf]; omega
      · have hlt' : ¬ (j : Int) < (m1 : Int) := by omega
        have he : j = m1 := by omega
        subst he
        have hs1 : sumL (L1.take j) = sumL L1 := by rw [HM1.out, List.take_length]
        rw [hs1]
        clear hs1 hsj
        obtain ⟨tt, htt⟩ : ∃ tt : Int, tt = (sumL L1 : Nat) := ⟨_, rfl⟩
        rw [← htt]
        have HTT : Hid (tt = (sumL L1 : Nat)) := htt
        have htb : 0 ≤ tt ∧ tt ≤ 72000 := by omega
        clear htt
        go_wp2_with fail
        have B0 : Hid (Below W14.heap.size W14 W14) := Below.refl _ _
        have hcb : ∀ xs : List Int, cnts xs = true → xs.length ≤ 30 → ∀ i : Nat, -30000000000 ≤ sumI (xs.take i) ∧ sumI (xs.take i) ≤ 30000000000 := by
          intro xs hx hl i
          have h := sumI_bound (xs.take i) (fun z hz => by
            rw [cnts, List.all_eq_true] at hx
            have := within_yes (hx z (List.mem_of_mem_take hz))
            omega)
          have h2 : (xs.take i).length ≤ 30 := by rw [List.length_take]; omega
          omega
        have HCB := hid hcb
        obtain ⟨y2, hy2⟩ : ∃ y2, y2 = yl2 := ⟨_, rfl⟩
        have hyl : yl2 = E1.c.length := by
          obtain ⟨_, _, _, _, _, _, eV, _, GV, _, _⟩ := many_at H22.out.2.2.2.1
          cases eV
          exact GV.1.symm
        have HYL : Hid (yl2 = E1.c.length ∧ ns1.length = ld1) := ⟨hyl, hn1⟩
        have hy30 : yl2 ≤ 30 := by omega
        have hyx : (yl2 : Int) = (ld1 : Int) := by rw [hyl, HOK.out.2.1, hn1]
        clear hcb hy2 hyl
        go_loopw [25, 27] (fun s i wr => ∃ j : Nat, j ≤ yl2 ∧ i = .int .i64 j ∧ s = .int .i64 (tt - sumI (E1.c.take j) + sumI (ns1.take j)) ∧ Hid (Below W14.heap.size W14 wr)) (fun _ i _ => yl2 - (intOf i).toNat)
        case atStart => exact ⟨0, Nat.zero_le _, rfl, by simp [sumI], B0.out⟩
        case round =>
          obtain ⟨j, hj, rfl, rfl, BW⟩ := hrel
          have c1 := (H22.out.2.2.2.2.2.1.all BW.out).2 1 _ rfl
          have h1 := HCB.out E1.c HOK.out.2.2.2.2 (by omega) j
          have h2 := HCB.out ns1 HOK.out.2.2.2.1 (by have := HYL.out.2; omega) j
          by_cases hlt : j < yl2
          · have hlt' : (j : Int) < (yl2 : Int) := by omega
            have hltx : (j : Int) < (ld1 : Int) := by omega
            have hltn : j < ld1 := by omega
            have c2 := (H22.out.2.2.1.all BW.out).2 1 _ rfl
            obtain ⟨_, _, _, _, _, _, eV, _, GV, _, _⟩ := many_at (Knd.all H22.out.2.2.2.1 BW.out)
            cases eV
            obtain ⟨_, _, _, _, _, _, eX, _, GX, _, _⟩ := many_at (Knd.all H22.out.2.1 BW.out)
            cases eX
            obtain ⟨_, hz | ⟨b2, o2, hb2, _, e2⟩⟩ := GV.ints
            · omega
            subst hb2
            obtain ⟨_, hz | ⟨b3, o3, hb3, _, e3⟩⟩ := GX.ints
            · omega
            subst hb3
            have d2 := e2 j hlt
            have d3 := e3 j hltn
            have s2 := sumI_step (xs := E1.c) (k := j) (by have := HYL.out.1; omega)
            have s3 := sumI_step (xs := ns1) (k := j) (by have := HYL.out.2; omega)
            have g2 := cnts_get HOK.out.2.2.2.2 j
            have g3 := cnts_get HOK.out.2.2.2.1 j
            obtain ⟨v2, hv2⟩ : ∃ v, v = E1.c.getD j 0 := ⟨_, rfl⟩
            obtain ⟨v3, hv3⟩ : ∃ v, v = ns1.getD j 0 := ⟨_, rfl⟩
            have d2' : wr.cell? ⟨b2, o2 + j, none⟩ = some (.int .i64 v2) := by rw [hv2]; exact d2
            have d3' : wr.cell? ⟨b3, o3 + j, none⟩ = some (.int .i64 v3) := by rw [hv3]; exact d3
            rw [← hv2] at s2 g2
            rw [← hv3] at s3 g3
            have HSS : Hid (sumI (E1.c.take (j + 1)) = sumI (E1.c.take j) + v2 ∧ sumI (ns1.take (j + 1)) = sumI (ns1.take j) + v3) := ⟨s2, s3⟩
            clear s2 s3 e2 e3 d2 d3 GV GX hv2 hv3
            generalize sumI (E1.c.take j) = A2 at *
            generalize sumI (ns1.take j) = A3 at *
            go_wp2_with fail
            go_quiet (fail)
            have BX : Hid (Below W14.heap.size W14 (wr.drewN nq)) := below_drewN BW.out _
            go_wp2_with fail
            go_roundw
            case rel => exact ⟨j + 1, by omega, by go_num, by rw [HSS.out.1, HSS.out.2]; congr 1; omega, BX⟩
            case measure => simp [intOf]; omega
          · have hlt' : ¬ (j : Int) < (yl2 : Int) := by omega
            have he : yl2 = j := by omega
            subst he
            have hs0 : tt - sumI (E1.c.take yl2) + sumI (ns1.take yl2) = 0 := by
              have e1 : E1.c.take yl2 = E1.c := by rw [HYL.out.1, List.take_length]
              have e2 : ns1.take yl2 = ns1 := by rw [HYL.out.1, HOK.out.2.1, List.take_length]
              rw [e1, e2, HTT.out, HOK.out.2.2.1]
              omega
            rw [hs0]
            clear hs0 h1 h2
            have H23 : Hid (Below w.heap.size w wr ∧ manyK.rep wr S2 (mv (.slice xa2 xl2 xc2) (.slice ya2 yl2 yc2) E1.q E1.t) E1 ∧ Lrd wr gl2 cl2 vs2 L1 ∧ Bx wr bx2 [.slice xa2 xl2 xc2, .slice ya2 yl2 yc2, .int .i64 E1.q, .int .i64 E1.t] ∧ manyK.rep wr S13 (mv (.slice xa13 xl13 xc13) (.slice ya13 yl13 yc13) E4.q E4.t) E4 ∧ Lrd wr gl13 cl13 vs13 L4 ∧ Bx wr bx13 [.slice xa13 xl13 xc13, .slice ya13 yl13 yc13, .int .i64 E4.q, .int .i64 E4.t] ∧ manyK.rep wr S14 (mv (.slice xa14 xl14 xc14) (.slice ya14 yl14 yc14) E1.q E1.t) E1 ∧ Lrd wr gl14 cl14 vs14 L5 ∧ Bx wr bx14 [.slice xa14 xl14 xc14, .slice ya14 yl14 yc14, .int .i64 E1.q, .int .i64 E1.t]) := ⟨below_call H22.out.1 H22.out.1.size BW.out, Knd.all H22.out.2.2.2.1 BW.out, H22.out.2.2.2.2.1.all BW.out, H22.out.2.2.2.2.2.1.all BW.out, Knd.all H22.out.2.2.2.2.2.2.1 BW.out, H22.out.2.2.2.2.2.2.2.1.all BW.out, H22.out.2.2.2.2.2.2.2.2.1.all BW.out, Knd.all H22.out.2.2.2.2.2.2.2.2.2.1 BW.out, H22.out.2.2.2.2.2.2.2.2.2.2.1.all BW.out, H22.out.2.2.2.2.2.2.2.2.2.2.2.all BW.out⟩
            clear BW
            have c1 := H23.out.2.2.2.1.2 1 _ rfl
            have p0 := H23.out.2.2.2.2.2.2.2.2.2.2 0 _ rfl
            have p1 := H23.out.2.2.2.2.2.2.2.2.2.2 1 _ rfl
            have p2 := H23.out.2.2.2.2.2.2.2.2.2.2 2 _ rfl
            have p3 := H23.out.2.2.2.2.2.2.2.2.2.2 3 _ rfl
            have q0 := H23.out.2.2.2.1.2 0 _ rfl
            have q1 := H23.out.2.2.2.1.2 1 _ rfl
            have q2 := H23.out.2.2.2.1.2 2 _ rfl
            have q3 := H23.out.2.2.2.1.2 3 _ rfl
            go_wp2_with fail
            clear p0 p1 p2 p3 q0 q1 q2 q3 c1
            refine (many_like H23.out.2.2.2.2.2.2.2.1 H23.out.2.1 (by omega) (by omega)).mono ?_
            rintro e w20 ⟨rfl, B20⟩
            have H24 : Hid (Below w.heap.size w w20 ∧ Lrd w20 gl2 cl2 vs2 L1 ∧ Lrd w20 gl13 cl13 vs13 L4 ∧ Lrd w20 gl14 cl14 vs14 L5) := ⟨below_call H23.out.1 H23.out.1.size B20, H23.out.2.2.1.all B20, H23.out.2.2.2.2.2.1.all B20, H23.out.2.2.2.2.2.2.2.2.1.all B20⟩
            clear H23 B20
            obtain ⟨m4, hm4⟩ : ∃ m, m = L4.length := ⟨_, rfl⟩
            obtain ⟨m5, hm5⟩ : ∃ m, m = L5.length := ⟨_, rfl⟩
            have hm45 : m4 + m5 = L1.length := by rw [hm4, hm5, ← HTW.out.2, List.length_append]
            have HM : Hid (m4 = L4.length ∧ m5 = L5.length ∧ m4 + m5 = L1.length) := ⟨hm4, hm5, hm45⟩
            have hm4k : m4 ≤ 3000 := by omega
            have hm5k : m5 ≤ 3000 := by have := HM1.out; omega
            rw [← hm4, ← hm5]
            clear hm4 hm5 hm45
            go_wp2_with (at_builtin; refine wpList_append_lists (by rfl) (.tmp 178) (.tmp 179) 30 rfl i0 Tryz.underlying30 hi hz0 hz1 hz2 _ _ _ [] rfl rfl (tms_nil w20) _ _ _ vs13 rfl (by rw [H24.out.2.2.1.2.1]; exact HM.out.1.symm) (H24.out.2.2.1.1.all (below_new _ _)) (lrd_one H24.out.2.2.1) (by simp; omega) ?_)
            intro g5 c5 w21 T5 G5 D5
            have D5' : w20.heap.size ≤ g5 := by first | omega | (simp at D5; omega)
            have B5 : Hid (Below w20.heap.size w20 w21 ∧ Tms w21 g5 c5 vs13 ∧ w20.heap.size ≤ g5) := ⟨(below_new w20 _).grown G5 (by simp) (fun i hi => by cases hi; exact Nat.le_refl _), by simpa using T5, D5'⟩
            clear T5 G5 D5 D5'
            go_wp2_with (at_builtin; refine wpList_append_lists (by rfl) (.tmp 180) (.tmp 181) 30 rfl i0 Tryz.underlying30 hi hz0 hz1 hz2 _ _ _ vs13 rfl (by rw [H24.out.2.2.1.2.1]; have := HM.out.1; omega) B5.out.2.1 _ _ _ vs14 rfl (by rw [H24.out.2.2.2.2.1]; exact HM.out.2.1.symm) (H24.out.2.2.2.all B5.out.1).1 (lrd_one H24.out.2.2.2) (by rw [H24.out.2.2.1.2.1]; have := HM.out.1; omega) ?_)
            intro g6 c6 w22 T6 G6 D6
            have B6 : Below w20.heap.size w20 w22 := B5.out.1.grown G6 B5.out.1.size (fun i hi => by cases hi; exact B5.out.2.2)
            have H25 : Hid (Below w.heap.size w w22 ∧ Lrd w22 gl2 cl2 vs2 L1 ∧ Lrd w22 gl13 cl13 vs13 L4 ∧ Lrd w22 gl14 cl14 vs14 L5 ∧ Lrd w22 g6 c6 (vs13 ++ vs14) L1) := ⟨below_call H24.out.1 H24.out.1.size B6, H24.out.2.1.all B6, H24.out.2.2.1.all B6, H24.out.2.2.2.all B6, (by have h := lrd_append T6 (H24.out.2.2.1.all B6) (H24.out.2.2.2.all B6); rw [HTW.out.2] at h; exact h)⟩
            clear H24 B5 B6 T6 G6 D6
            have hmj := HM.out.2.2
            rw [← HM1.out] at hmj
            have HMJ := hid hmj
            clear hmj
            go_wp2_with fail
            first | rw [HMJ.out] | rw [show 0 + m4 + m5 = _ from by rw [Nat.zero_add]; exact HMJ.out]
            refine (lists_like H25.out.2.2.2.2 H25.out.2.1 _ HM1.out (by have := HM1.out; omega) (by omega)).mono ?_
            rintro e w23 ⟨rfl, B23⟩
            have H26 : Hid (Below w.heap.size w w23 ∧ Lrd w23 gl2 cl2 vs2 L1 ∧ Lrd w23 gl13 cl13 vs13 L4 ∧ Lrd w23 gl14 cl14 vs14 L5 ∧ Lrd w23 g6 c6 (vs13 ++ vs14) L1) := ⟨below_call H25.out.1 H25.out.1.size B23, H25.out.2.1.all B23, H25.out.2.2.1.all B23, H25.out.2.2.2.1.all B23, H25.out.2.2.2.2.all B23⟩
            clear H25 B23
            go_wp2_with fail
            go_ret
            exact ⟨by simp, H26.out.1⟩

end Go.Proofs.YtjhenfdmbagaiaaGreat.Crew
