/-
  The law FnListRun: whatever the bytes, it answers true and nothing that was there is written.
-/
import Derived.Test.YtlicjbnagapdeaaDrawList
import Derived.Test.YtlicjbnagapdeaaDice
import Derived.Test.YtlicjbnagapdeaaLikeInts
import Derived.Test.YtlicjbnagapdeaaBig
import Derived.Deep.RegionHeld3
namespace Go.Proofs.Ytlicjbnagapdeaa.Crew
open Go.ChangeShapes Go.WideShapes Go.ChangeAt Go.RowKit
open Go.Proofs.Ytlicjbnagapdeaa.Draw

/-- laws.likeList where both read alike. -/
theorem likeList_same (a : Option Addr) (len cap : Nat) (a' : Option Addr) (len' cap' : Nat) (b : Option Addr) (lb cb : Nat) (b' : Option Addr) (lb' cb' : Nat) (xs ys : List Int) (t p : Int) (w : World) (I : Ints w a len xs) (I' : Ints w a' len' ys) (J : Ints w b lb xs) (J' : Ints w b' lb' ys) (hs : (len : Int) ≤ 1048576) (hs' : (len' : Int) ≤ 1048576) :
    Calls Try.prog 24 #[lv (.slice a len cap) (.slice a' len' cap') t p, lv (.slice b lb cb) (.slice b' lb' cb') t p] w fun e w' => e = .returned (.bool true) ∧ Below w.heap.size w w' := by
  obtain ⟨W0, hW0⟩ : ∃ W0, W0 = (w.alloc (.cells #[.slice a len cap, .slice a' len' cap', .int .i64 t, .int .i64 p] 31)).alloc (.cells #[.slice b lb cb, .slice b' lb' cb', .int .i64 t, .int .i64 p] 31) := ⟨_, rfl⟩
  have hz : W0.heap.size = w.heap.size + 2 := by rw [hW0]; simp
  have H0 : Hid (Quad W0 w.heap.size (.slice a len cap) (.slice a' len' cap') t p ∧ Quad W0 (w.heap.size + 1) (.slice b lb cb) (.slice b' lb' cb') t p ∧ Below w.heap.size w W0) := by
    subst hW0
    refine ⟨(quad_new _ _ _ _ _).alloc _, ?_, (below_new _ _).alloc (by simp) _⟩
    have := quad_new (w.alloc (.cells #[.slice a len cap, .slice a' len' cap', .int .i64 t, .int .i64 p] 31)) (.slice b lb cb) (.slice b' lb' cb') t p
    simpa using this
  have HI : Hid (Ints w a len xs ∧ Ints w a' len' ys ∧ Ints w b lb xs ∧ Ints w b' lb' ys) := ⟨I, I', J, J'⟩
  clear I I' J J'
  have n1 : (t == t) = true := by simp
  have n2 : (p == p) = true := by simp
  go_enter Try.func24, Try.ntmps24
  go_wp2_with fail
  rw [← hW0]
  clear hW0
  refine (likeInts_same a len cap xs b lb cb _ (HI.out.1.kept H0.out.2.2) (HI.out.2.2.1.kept H0.out.2.2) hs).mono ?_
  rintro e w1 ⟨rfl, B1⟩
  have H1 : Hid (Quad w1 w.heap.size (.slice a len cap) (.slice a' len' cap') t p ∧ Quad w1 (w.heap.size + 1) (.slice b lb cb) (.slice b' lb' cb') t p ∧ Below w.heap.size w w1) := ⟨H0.out.1.all B1, H0.out.2.1.all B1, below_call H0.out.2.2 (by omega) B1⟩
  have c0 := H1.out.1.c1
  have c1 := H1.out.2.1.c1
  clear B1
  go_wp2_with fail
  refine (likeInts_same a' len' cap' ys b' lb' cb' _ (HI.out.2.1.kept H1.out.2.2) (HI.out.2.2.2.kept H1.out.2.2) hs').mono ?_
  rintro e w2 ⟨rfl, B2⟩
  have H2 : Hid (Below w.heap.size w w2) := below_call H1.out.2.2 H1.out.2.2.size B2
  clear c0 c1
  have c0 := (H1.out.1.all B2).c2
  have c1 := (H1.out.2.1.all B2).c2
  have c2 := (H1.out.1.all B2).c3
  have c3 := (H1.out.2.1.all B2).c3
  clear B2
  go_wp2_with fail
  go_ret
  exact ⟨by simp, H2.out⟩

/-- A List in a variable, as it reads. -/
structure VaL (w : World) (k : Nat) (a : Option Addr) (la ca : Nat) (xs : List Int) (b : Option Addr) (lb cb : Nat) (ys : List Int) (t p : Int) : Prop where
  quad : Quad w k (.slice a la ca) (.slice b lb cb) t p
  one : Ints w a la xs
  two : Ints w b lb ys

theorem VaL.all {w w' : World} {k : Nat} {a : Option Addr} {la ca : Nat} {xs : List Int} {b : Option Addr} {lb cb : Nat} {ys : List Int} {t p : Int} (h : VaL w k a la ca xs b lb cb ys t p) (g : Below w.heap.size w w') : VaL w' k a la ca xs b lb cb ys t p := ⟨h.quad.all g, h.one.kept g, h.two.kept g⟩

theorem vaL_new {w : World} {a : Option Addr} {la ca : Nat} {xs : List Int} {b : Option Addr} {lb cb : Nat} {ys : List Int} {t p : Int} (I : Ints w a la xs) (J : Ints w b lb ys) : VaL (w.alloc (.cells #[.slice a la ca, .slice b lb cb, .int .i64 t, .int .i64 p] 31)) w.heap.size a la ca xs b lb cb ys t p := ⟨quad_new _ _ _ _ _, I.alloc _, J.alloc _⟩

/-- append at an operation that a guard let by. -/
theorem wpList_append_let {P : Program} {w : World} {ops : Array Oper} {rest : List Oper} {o : Oper} {a : Act} {Q : Exit → Act → World → Prop} (hgd : Region.wanted o (yielded ops a.tmps) = true) (s x : Operand) (t : TypeId)
    (ho : o.op = .call { callee := .builtin .append, args := #[s, x], argTypes := #[t, t] })
    (i : TypeInfo) (ht : P.underlying t = some (.slice 2)) (hi : P.info? 2 = some i) (hz : i.zero = some (.int .i64 0)) (hsize : i.size = 1) (hby : i.bytes = 8)
    (g n cap : Nat) (xs : List Int) (hs : a.eval s = .slice (some ⟨g, 0, none⟩) n cap) (hn : n = xs.length) (R : Row w g cap xs) (ao : Option Addr) (m c : Nat) (ys : List Int) (hx : a.eval x = .slice ao m c) (I : Ints w ao m ys) (hlen : xs.length + m ≤ 1000000000)
    (h : ∀ g' cap' w', Row w' g' cap' (xs ++ ys) → w.grownBy w' (some g) → (g' = g ∨ g' = w.heap.size) → wpList P ops Q rest (a.put o.dst (.slice (some ⟨g', 0, none⟩) (n + m) cap')) w') :
    wpList P ops Q (o :: rest) a w := by
  refine wpList_step fun K hK => ?_
  rw [if_pos hgd]
  subst hn
  obtain ⟨g', cap', w', hr, h2, h3, h4⟩ := run_append_ints (P := P) w t o.type i ht hi hz hsize hby g cap xs R ao m c ys I hlen
  unfold Oper.wp execOp
  simp only [ho, resolve, invoke, builtin, Sem.run_bind, Sem.run_pure, Result.andThen_ok, List.map_toArray, List.map_cons, List.map_nil, hs, hx, hr]
  exact hK _ _ (h g' cap' w' h2 h3 h4)

/-- Run in two parts. -/
theorem two_partsL {X Y : List Int} {t q n k : Int} (h : lrOk X Y t q n = true) (k0 : 0 ≤ k) (k1 : k ≤ n) : ∃ s : Ls,
    lrC X Y t q k = X ∧ lrH X Y t q k = s.had ∧ lrT X Y t q k = s.turns ∧ lrP X Y t q k = s.pos ∧ lrC X s.had s.turns s.pos (n - k) = lrC X Y t q n ∧ lrH X s.had s.turns s.pos (n - k) = lrH X Y t q n ∧ lrT X s.had s.turns s.pos (n - k) = lrT X Y t q n ∧ lrP X s.had s.turns s.pos (n - k) = lrP X Y t q n ∧ lrL X Y t q k ++ lrL X s.had s.turns s.pos (n - k) = lrL X Y t q n := by
  obtain ⟨h0, h1, h2, h3⟩ := lr_parts h
  obtain ⟨m, rfl, R⟩ := right_of h0
  rw [Int.toNat_natCast] at h3
  have e : n.toNat = k.toNat + (n - k).toNat := by omega
  have o1 := lsOkTo_le h3 (show k.toNat ≤ n.toNat by omega)
  have R1 := R.at o1
  have a1 : lrOk X Y t m k = true := by
    have h4 : within k 0 3000 = true := decide_eq_true ⟨k0, by omega⟩
    rw [lrOk, h0, h4, Int.toNat_natCast, o1]; rfl
  obtain ⟨s, hs⟩ : ∃ s, s = lsAt X ⟨Y, t, m⟩ k.toNat := ⟨_, rfl⟩
  rw [← hs] at R1
  have a2 : lrOk X s.had s.turns s.pos (n - k) = true := by
    have h4 : within (n - k) 0 3000 = true := decide_eq_true ⟨by omega, by omega⟩
    rw [e] at h3
    have h5 := lsOkTo_add h3
    rw [← hs] at h5
    rw [lrOk, R1.ok, h4, Int.toNat_natCast]
    exact h5
  have y1 := lr_yes a1
  have y2 := lr_yes a2
  have y3 := lr_yes h
  simp only [Int.toNat_natCast] at y1 y2 y3
  rw [← hs] at y1
  have ea := lsAt_add X ⟨Y, t, m⟩ k.toNat (n - k).toNat
  have et := lsTaken_add X ⟨Y, t, m⟩ k.toNat (n - k).toNat
  rw [← e, ← hs] at ea et
  have y2' : lrH X s.had s.turns s.pos (n - k) = (lsAt X s (n - k).toNat).had ∧ lrT X s.had s.turns s.pos (n - k) = (lsAt X s (n - k).toNat).turns ∧ lrP X s.had s.turns s.pos (n - k) = ((lsAt X s (n - k).toNat).pos : Int) ∧ lrL X s.had s.turns s.pos (n - k) = lsTaken X s (n - k).toNat := y2.2
  refine ⟨s, y1.1, y1.2.1, y1.2.2.1, y1.2.2.2.1, ?_, ?_, ?_, ?_, ?_⟩
  · rw [y2.1, y3.1]
  · rw [y2'.1, y3.2.1, ea]
  · rw [y2'.2.1, y3.2.2.1, ea]
  · rw [y2'.2.2.1, y3.2.2.2.1, ea]
  · rw [y1.2.2.2.2, y2'.2.2.2, y3.2.2.2.2, et]

set_option maxHeartbeats 2000000 in
theorem lawFnListRun (a : Option Addr) (len cap : Nat) (w : World) (B : Bytes w a len) :
    Calls Try.prog 4 #[.slice a len cap] w fun e w' => e = .returned (.bool true) ∧ Below w.heap.size w w' := by
  obtain ⟨i0, hi, hz0, hz1, hz2⟩ := info_parts info_int
  have HB : Hid (Bytes w a len) := B
  clear B
  by_cases hbig : (4096 : Int) < (len : Int)
  · go_enter Try.func4, Try.ntmps4
    go_wp2_with fail
    refine (big_any a len cap _).mono ?_
    rw [decide_eq_true hbig]
    rintro e w1 ⟨rfl, rfl⟩
    go_wp2_with fail
    go_ret
    exact ⟨rfl, Below.refl _ _⟩
  · have ht : len ≤ 9223372036854775806 := by omega
    have HBG : Hid (decide ((4096 : Int) < (len : Int)) = false) := decide_eq_false hbig
    clear hbig
    go_enter Try.func4, Try.ntmps4
    go_wp2_with fail
    refine (big_any a len cap _).mono ?_
    rw [HBG.out]
    rintro e w1 ⟨rfl, rfl⟩
    go_wp2_with fail
    refine (drawListRun_any a len cap _ HB.out ht).mono ?_
    rintro e w2 ⟨b, lb, cb, d, ld, cd, X, Y, t, q, n, rfl, Fb, Fd, hlb, hld, B2⟩
    have H2 : Hid (Below w1.heap.size w1 (w2.alloc (.cells #[.slice b lb cb, .slice d ld cd, .int .i64 t, .int .i64 q] 31)) ∧ VaL (w2.alloc (.cells #[.slice b lb cb, .slice d ld cd, .int .i64 t, .int .i64 q] 31)) w2.heap.size b lb cb X d ld cd Y t q) := ⟨below_call B2 B2.size (below_new _ _), vaL_new Fb.ints Fd.ints⟩
    clear Fb Fd B2
    have q0 := H2.out.2.quad.c0
    have q1 := H2.out.2.quad.c1
    have q2 := H2.out.2.quad.c2
    have q3 := H2.out.2.quad.c3
    go_wp2_with fail
    clear q0 q1 q2 q3
    generalize w2.alloc (.cells #[.slice b lb cb, .slice d ld cd, .int .i64 t, .int .i64 q] 31) = W2 at *
    generalize w2.heap.size = bx at *
    refine (implListRun b lb cb X d ld cd Y t q n _ H2.out.2.one H2.out.2.two).mono ?_
    unfold RunPostL
    obtain ⟨C, hC⟩ : ∃ C, C = lrC X Y t q n := ⟨_, rfl⟩
    obtain ⟨R, hR⟩ : ∃ R, R = lrH X Y t q n := ⟨_, rfl⟩
    obtain ⟨T, hT⟩ : ∃ T, T = lrT X Y t q n := ⟨_, rfl⟩
    obtain ⟨Pp, hP⟩ : ∃ Pp, Pp = lrP X Y t q n := ⟨_, rfl⟩
    obtain ⟨L, hL⟩ : ∃ L, L = lrL X Y t q n := ⟨_, rfl⟩
    obtain ⟨hc24, hr24, hl3k⟩ := lr_len X Y t q n
    rw [← hC] at hc24
    rw [← hR] at hr24
    rw [← hL] at hl3k
    rw [← hC, ← hR, ← hT, ← hP, ← hL]
    have HC : Hid (C = lrC X Y t q n ∧ R = lrH X Y t q n ∧ T = lrT X Y t q n ∧ Pp = lrP X Y t q n ∧ L = lrL X Y t q n) := ⟨hC, hR, hT, hP, hL⟩
    clear hC hR hT hP hL
    rintro e w3 ⟨yb, my, ky, yd, ny, oy, yl, ly, cy, rfl, Fb, Fd, Fl, _, _, _, B3⟩
    have my24 : (my : Int) ≤ 24 := by have := Fb.1; omega
    have ny24 : (ny : Int) ≤ 24 := by have := Fd.1; omega
    have ly3k : (ly : Int) ≤ 3000 := by have := Fl.1; omega
    have hly : L.length = ly := Fl.1
    have H3 : Hid (Below w1.heap.size w1 (w3.alloc (.cells #[.slice yb my ky, .slice yd ny oy, .int .i64 T, .int .i64 Pp] 31)) ∧ VaL (w3.alloc (.cells #[.slice yb my ky, .slice yd ny oy, .int .i64 T, .int .i64 Pp] 31)) bx b lb cb X d ld cd Y t q ∧ VaL (w3.alloc (.cells #[.slice yb my ky, .slice yd ny oy, .int .i64 T, .int .i64 Pp] 31)) w3.heap.size yb my ky C yd ny oy R T Pp ∧ Ints (w3.alloc (.cells #[.slice yb my ky, .slice yd ny oy, .int .i64 T, .int .i64 Pp] 31)) yl ly L) :=
      ⟨below_call (below_call H2.out.1 H2.out.1.size B3) (by have := H2.out.1.size; have := B3.size; omega) (below_new _ _), (H2.out.2.all B3).all (below_new _ _), vaL_new Fb.ints Fd.ints, Fl.ints.alloc _⟩
    clear Fb Fd Fl B3 H2
    have q0 := H3.out.2.1.quad.c0
    have q1 := H3.out.2.1.quad.c1
    have q2 := H3.out.2.1.quad.c2
    have q3 := H3.out.2.1.quad.c3
    go_wp2_with fail
    clear q0 q1 q2 q3
    generalize w3.alloc (.cells #[.slice yb my ky, .slice yd ny oy, .int .i64 T, .int .i64 Pp] 31) = W3 at *
    generalize w3.heap.size = by' at *
    refine (specListRun b lb cb X d ld cd Y t q n _ H3.out.2.1.one H3.out.2.1.two (by omega) (by omega)).mono ?_
    unfold RunPostL
    rw [← HC.out.1, ← HC.out.2.1, ← HC.out.2.2.1, ← HC.out.2.2.2.1, ← HC.out.2.2.2.2]
    rintro e w4 ⟨zb, mz, kz, zd, nz, oz, zl, lz, cz, rfl, Fb, Fd, Fl, _, _, _, B4⟩
    have H4 : Hid (Below w1.heap.size w1 (w4.alloc (.cells #[.slice zb mz kz, .slice zd nz oz, .int .i64 T, .int .i64 Pp] 31)) ∧ VaL (w4.alloc (.cells #[.slice zb mz kz, .slice zd nz oz, .int .i64 T, .int .i64 Pp] 31)) bx b lb cb X d ld cd Y t q ∧ VaL (w4.alloc (.cells #[.slice zb mz kz, .slice zd nz oz, .int .i64 T, .int .i64 Pp] 31)) by' yb my ky C yd ny oy R T Pp ∧ Ints (w4.alloc (.cells #[.slice zb mz kz, .slice zd nz oz, .int .i64 T, .int .i64 Pp] 31)) yl ly L ∧ VaL (w4.alloc (.cells #[.slice zb mz kz, .slice zd nz oz, .int .i64 T, .int .i64 Pp] 31)) w4.heap.size zb mz kz C zd nz oz R T Pp ∧ Ints (w4.alloc (.cells #[.slice zb mz kz, .slice zd nz oz, .int .i64 T, .int .i64 Pp] 31)) zl lz L) :=
      ⟨below_call (below_call H3.out.1 H3.out.1.size B4) (by have := H3.out.1.size; have := B4.size; omega) (below_new _ _), (H3.out.2.1.all B4).all (below_new _ _), (H3.out.2.2.1.all B4).all (below_new _ _), (H3.out.2.2.2.kept B4).alloc _, vaL_new Fb.ints Fd.ints, Fl.ints.alloc _⟩
    clear Fb Fd Fl B4 H3
    go_wp2_with fail
    generalize w4.alloc (.cells #[.slice zb mz kz, .slice zd nz oz, .int .i64 T, .int .i64 Pp] 31) = W4 at *
    generalize w4.heap.size = bz at *
    refine (drawLeft_any a len cap _ (HB.out.grown H4.out.1) ht).mono ?_
    rintro e w5 ⟨ub, mu, ku, ud, nu, ou, U, V, t2, q2, rfl, Fb, Fd, hmu, hnu, B5⟩
    have H5 : Hid (Below w1.heap.size w1 (w5.alloc (.cells #[.slice ub mu ku, .slice ud nu ou, .int .i64 t2, .int .i64 q2] 31)) ∧ VaL (w5.alloc (.cells #[.slice ub mu ku, .slice ud nu ou, .int .i64 t2, .int .i64 q2] 31)) bx b lb cb X d ld cd Y t q ∧ VaL (w5.alloc (.cells #[.slice ub mu ku, .slice ud nu ou, .int .i64 t2, .int .i64 q2] 31)) by' yb my ky C yd ny oy R T Pp ∧ Ints (w5.alloc (.cells #[.slice ub mu ku, .slice ud nu ou, .int .i64 t2, .int .i64 q2] 31)) yl ly L ∧ VaL (w5.alloc (.cells #[.slice ub mu ku, .slice ud nu ou, .int .i64 t2, .int .i64 q2] 31)) bz zb mz kz C zd nz oz R T Pp ∧ Ints (w5.alloc (.cells #[.slice ub mu ku, .slice ud nu ou, .int .i64 t2, .int .i64 q2] 31)) zl lz L ∧ VaL (w5.alloc (.cells #[.slice ub mu ku, .slice ud nu ou, .int .i64 t2, .int .i64 q2] 31)) w5.heap.size ub mu ku U ud nu ou V t2 q2) :=
      ⟨below_call (below_call H4.out.1 H4.out.1.size B5) (by have := H4.out.1.size; have := B5.size; omega) (below_new _ _), (H4.out.2.1.all B5).all (below_new _ _), (H4.out.2.2.1.all B5).all (below_new _ _), (H4.out.2.2.2.1.kept B5).alloc _, (H4.out.2.2.2.2.1.all B5).all (below_new _ _), (H4.out.2.2.2.2.2.kept B5).alloc _, vaL_new Fb.ints Fd.ints⟩
    clear Fb Fd B5 H4
    have q0 := H5.out.2.2.2.2.2.2.quad.c0
    have q1 := H5.out.2.2.2.2.2.2.quad.c1
    have q2 := H5.out.2.2.2.2.2.2.quad.c2
    have q3 := H5.out.2.2.2.2.2.2.quad.c3
    go_wp2_with fail
    clear q0 q1 q2 q3
    generalize w5.alloc (.cells #[.slice ub mu ku, .slice ud nu ou, .int .i64 t2, .int .i64 q2] 31) = W5 at *
    generalize w5.heap.size = bu at *
    refine (implLeft ub mu ku U ud nu ou V t2 q2 _ H5.out.2.2.2.2.2.2.one H5.out.2.2.2.2.2.2.two).mono ?_
    obtain ⟨M, hM⟩ : ∃ M, M = leftOf U V t2 q2 := ⟨_, rfl⟩
    obtain ⟨m, hm⟩ : ∃ m, m = M.length := ⟨_, rfl⟩
    have hm24 : (m : Int) ≤ 24 := by
      rw [hm, hM]
      unfold leftOf
      split
      · rename_i h
        obtain ⟨_, _, R⟩ := right_of h
        rw [leftL_length]
        have := crew_len R.crew
        omega
      · simp
    rw [← hM, ← hm]
    have HM : Hid (M = leftOf U V t2 q2 ∧ m = M.length) := ⟨hM, hm⟩
    clear hM hm
    rintro e w6 ⟨gl, cl, rfl, R6, _, B6⟩
    have H6 : Hid (Below w1.heap.size w1 w6 ∧ VaL w6 bx b lb cb X d ld cd Y t q ∧ VaL w6 by' yb my ky C yd ny oy R T Pp ∧ Ints w6 yl ly L ∧ VaL w6 bz zb mz kz C zd nz oz R T Pp ∧ Ints w6 zl lz L ∧ VaL w6 bu ub mu ku U ud nu ou V t2 q2 ∧ Ints w6 (some ⟨gl, 0, none⟩) m M) :=
      ⟨below_call H5.out.1 H5.out.1.size B6, H5.out.2.1.all B6, H5.out.2.2.1.all B6, H5.out.2.2.2.1.kept B6, H5.out.2.2.2.2.1.all B6, H5.out.2.2.2.2.2.1.kept B6, H5.out.2.2.2.2.2.2.all B6, by have h := R6.ints; rw [← HM.out.2] at h; exact h⟩
    clear R6 B6 H5
    have q0 := H6.out.2.2.2.2.2.2.1.quad.c0
    have q1 := H6.out.2.2.2.2.2.2.1.quad.c1
    have q2 := H6.out.2.2.2.2.2.2.1.quad.c2
    have q3 := H6.out.2.2.2.2.2.2.1.quad.c3
    go_wp2_with fail
    clear q0 q1 q2 q3
    refine (implListNext ub mu ku U ud nu ou V t2 q2 _ H6.out.2.2.2.2.2.2.1.one H6.out.2.2.2.2.2.2.1.two).mono ?_
    unfold NextPost
    obtain ⟨vC, hvC⟩ : ∃ vC, vC = lnC U V t2 q2 := ⟨_, rfl⟩
    obtain ⟨vH, hvH⟩ : ∃ vH, vH = lnH U V t2 q2 := ⟨_, rfl⟩
    obtain ⟨vT, hvT⟩ : ∃ vT, vT = lnT U V t2 q2 := ⟨_, rfl⟩
    obtain ⟨vP, hvP⟩ : ∃ vP, vP = lnP U V t2 q2 := ⟨_, rfl⟩
    obtain ⟨vK, hvK⟩ : ∃ vK, vK = lnK U V t2 q2 := ⟨_, rfl⟩
    obtain ⟨hvc24, hvh24⟩ := ln_len U V t2 q2
    rw [← hvC] at hvc24
    rw [← hvH] at hvh24
    rw [← hvC, ← hvH, ← hvT, ← hvP, ← hvK]
    have HV : Hid (vC = lnC U V t2 q2 ∧ vH = lnH U V t2 q2 ∧ vT = lnT U V t2 q2 ∧ vP = lnP U V t2 q2 ∧ vK = lnK U V t2 q2) := ⟨hvC, hvH, hvT, hvP, hvK⟩
    clear hvC hvH hvT hvP hvK
    rintro e w7 ⟨vb, mv, kv, vd, nv, ov, rfl, Fb, Fd, _, B7⟩
    have mv24 : (mv : Int) ≤ 24 := by have := Fb.1; omega
    have nv24 : (nv : Int) ≤ 24 := by have := Fd.1; omega
    have H7 : Hid (Below w1.heap.size w1 (w7.alloc (.cells #[.slice vb mv kv, .slice vd nv ov, .int .i64 vT, .int .i64 vP] 31)) ∧ VaL (w7.alloc (.cells #[.slice vb mv kv, .slice vd nv ov, .int .i64 vT, .int .i64 vP] 31)) bx b lb cb X d ld cd Y t q ∧ VaL (w7.alloc (.cells #[.slice vb mv kv, .slice vd nv ov, .int .i64 vT, .int .i64 vP] 31)) by' yb my ky C yd ny oy R T Pp ∧ Ints (w7.alloc (.cells #[.slice vb mv kv, .slice vd nv ov, .int .i64 vT, .int .i64 vP] 31)) yl ly L ∧ VaL (w7.alloc (.cells #[.slice vb mv kv, .slice vd nv ov, .int .i64 vT, .int .i64 vP] 31)) bz zb mz kz C zd nz oz R T Pp ∧ Ints (w7.alloc (.cells #[.slice vb mv kv, .slice vd nv ov, .int .i64 vT, .int .i64 vP] 31)) zl lz L ∧ VaL (w7.alloc (.cells #[.slice vb mv kv, .slice vd nv ov, .int .i64 vT, .int .i64 vP] 31)) bu ub mu ku U ud nu ou V t2 q2 ∧ Ints (w7.alloc (.cells #[.slice vb mv kv, .slice vd nv ov, .int .i64 vT, .int .i64 vP] 31)) (some ⟨gl, 0, none⟩) m M ∧ VaL (w7.alloc (.cells #[.slice vb mv kv, .slice vd nv ov, .int .i64 vT, .int .i64 vP] 31)) w7.heap.size vb mv kv vC vd nv ov vH vT vP) :=
      ⟨below_call (below_call H6.out.1 H6.out.1.size B7) (by have := H6.out.1.size; have := B7.size; omega) (below_new _ _), (H6.out.2.1.all B7).all (below_new _ _), (H6.out.2.2.1.all B7).all (below_new _ _), (H6.out.2.2.2.1.kept B7).alloc _, (H6.out.2.2.2.2.1.all B7).all (below_new _ _), (H6.out.2.2.2.2.2.1.kept B7).alloc _, (H6.out.2.2.2.2.2.2.1.all B7).all (below_new _ _), (H6.out.2.2.2.2.2.2.2.kept B7).alloc _, vaL_new Fb.ints Fd.ints⟩
    clear Fb Fd B7 H6
    have q0 := H7.out.2.2.2.2.2.2.1.quad.c0
    have q1 := H7.out.2.2.2.2.2.2.1.quad.c1
    have q2 := H7.out.2.2.2.2.2.2.1.quad.c2
    have q3 := H7.out.2.2.2.2.2.2.1.quad.c3
    go_wp2_with fail
    clear q0 q1 q2 q3
    generalize w7.alloc (.cells #[.slice vb mv kv, .slice vd nv ov, .int .i64 vT, .int .i64 vP] 31) = W7 at *
    generalize w7.heap.size = bv at *
    refine (specListNext ub mu ku U ud nu ou V t2 q2 _ H7.out.2.2.2.2.2.2.1.one H7.out.2.2.2.2.2.2.1.two (by omega)).mono ?_
    unfold NextPost
    rw [← HV.out.1, ← HV.out.2.1, ← HV.out.2.2.1, ← HV.out.2.2.2.1, ← HV.out.2.2.2.2]
    rintro e w8 ⟨wb, mw, kw, wd, nw, ow, rfl, Fb, Fd, _, B8⟩
    have H8 : Hid (Below w1.heap.size w1 (w8.alloc (.cells #[.slice wb mw kw, .slice wd nw ow, .int .i64 vT, .int .i64 vP] 31)) ∧ VaL (w8.alloc (.cells #[.slice wb mw kw, .slice wd nw ow, .int .i64 vT, .int .i64 vP] 31)) bx b lb cb X d ld cd Y t q ∧ VaL (w8.alloc (.cells #[.slice wb mw kw, .slice wd nw ow, .int .i64 vT, .int .i64 vP] 31)) by' yb my ky C yd ny oy R T Pp ∧ Ints (w8.alloc (.cells #[.slice wb mw kw, .slice wd nw ow, .int .i64 vT, .int .i64 vP] 31)) yl ly L ∧ VaL (w8.alloc (.cells #[.slice wb mw kw, .slice wd nw ow, .int .i64 vT, .int .i64 vP] 31)) bz zb mz kz C zd nz oz R T Pp ∧ Ints (w8.alloc (.cells #[.slice wb mw kw, .slice wd nw ow, .int .i64 vT, .int .i64 vP] 31)) zl lz L ∧ VaL (w8.alloc (.cells #[.slice wb mw kw, .slice wd nw ow, .int .i64 vT, .int .i64 vP] 31)) bu ub mu ku U ud nu ou V t2 q2 ∧ Ints (w8.alloc (.cells #[.slice wb mw kw, .slice wd nw ow, .int .i64 vT, .int .i64 vP] 31)) (some ⟨gl, 0, none⟩) m M ∧ VaL (w8.alloc (.cells #[.slice wb mw kw, .slice wd nw ow, .int .i64 vT, .int .i64 vP] 31)) bv vb mv kv vC vd nv ov vH vT vP ∧ VaL (w8.alloc (.cells #[.slice wb mw kw, .slice wd nw ow, .int .i64 vT, .int .i64 vP] 31)) w8.heap.size wb mw kw vC wd nw ow vH vT vP) :=
      ⟨below_call (below_call H7.out.1 H7.out.1.size B8) (by have := H7.out.1.size; have := B8.size; omega) (below_new _ _), (H7.out.2.1.all B8).all (below_new _ _), (H7.out.2.2.1.all B8).all (below_new _ _), (H7.out.2.2.2.1.kept B8).alloc _, (H7.out.2.2.2.2.1.all B8).all (below_new _ _), (H7.out.2.2.2.2.2.1.kept B8).alloc _, (H7.out.2.2.2.2.2.2.1.all B8).all (below_new _ _), (H7.out.2.2.2.2.2.2.2.1.kept B8).alloc _, (H7.out.2.2.2.2.2.2.2.2.all B8).all (below_new _ _), vaL_new Fb.ints Fd.ints⟩
    clear Fb Fd B8 H7
    go_wp2_with fail
    generalize w8.alloc (.cells #[.slice wb mw kw, .slice wd nw ow, .int .i64 vT, .int .i64 vP] 31) = W8 at *
    generalize w8.heap.size = bw at *
    obtain ⟨P, hP⟩ : ∃ P : World → Prop, P = fun W => (Below w1.heap.size w1 W ∧ VaL W bx b lb cb X d ld cd Y t q ∧ VaL W by' yb my ky C yd ny oy R T Pp ∧ Ints W yl ly L ∧ VaL W bz zb mz kz C zd nz oz R T Pp ∧ Ints W zl lz L ∧ VaL W bu ub mu ku U ud nu ou V t2 q2 ∧ Ints W (some ⟨gl, 0, none⟩) m M ∧ VaL W bv vb mv kv vC vd nv ov vH vT vP ∧ VaL W bw wb mw kw vC wd nw ow vH vT vP) := ⟨_, rfl⟩
    have HP : Hid (P W8) := by show P W8; rw [hP]; exact H8.out
    have ST : Hid (∀ W W', P W → Below W.heap.size W W' → P W') := by
      intro W W' h g
      rw [hP] at h ⊢
      exact ⟨below_call h.1 h.1.size g, h.2.1.all g, h.2.2.1.all g, h.2.2.2.1.kept g, h.2.2.2.2.1.all g, h.2.2.2.2.2.1.kept g, h.2.2.2.2.2.2.1.all g, h.2.2.2.2.2.2.2.1.kept g, h.2.2.2.2.2.2.2.2.1.all g, h.2.2.2.2.2.2.2.2.2.all g⟩
    have CE : Hid (∀ W, P W → W.cell? ⟨by', 0, none⟩ = some (.slice yb my ky) ∧ W.cell? ⟨by', 1, none⟩ = some (.slice yd ny oy) ∧ W.cell? ⟨by', 2, none⟩ = some (.int .i64 T) ∧ W.cell? ⟨by', 3, none⟩ = some (.int .i64 Pp) ∧ W.cell? ⟨bz, 0, none⟩ = some (.slice zb mz kz) ∧ W.cell? ⟨bz, 1, none⟩ = some (.slice zd nz oz) ∧ W.cell? ⟨bz, 2, none⟩ = some (.int .i64 T) ∧ W.cell? ⟨bz, 3, none⟩ = some (.int .i64 Pp) ∧ W.cell? ⟨bu, 0, none⟩ = some (.slice ub mu ku) ∧ W.cell? ⟨bu, 1, none⟩ = some (.slice ud nu ou) ∧ W.cell? ⟨bu, 2, none⟩ = some (.int .i64 t2) ∧ W.cell? ⟨bu, 3, none⟩ = some (.int .i64 q2) ∧ W.cell? ⟨bv, 0, none⟩ = some (.slice vb mv kv) ∧ W.cell? ⟨bv, 1, none⟩ = some (.slice vd nv ov) ∧ W.cell? ⟨bv, 2, none⟩ = some (.int .i64 vT) ∧ W.cell? ⟨bv, 3, none⟩ = some (.int .i64 vP) ∧ W.cell? ⟨bw, 0, none⟩ = some (.slice wb mw kw) ∧ W.cell? ⟨bw, 1, none⟩ = some (.slice wd nw ow) ∧ W.cell? ⟨bw, 2, none⟩ = some (.int .i64 vT) ∧ W.cell? ⟨bw, 3, none⟩ = some (.int .i64 vP)) := by
      intro W h
      rw [hP] at h
      exact ⟨h.2.2.1.quad.c0, h.2.2.1.quad.c1, h.2.2.1.quad.c2, h.2.2.1.quad.c3, h.2.2.2.2.1.quad.c0, h.2.2.2.2.1.quad.c1, h.2.2.2.2.1.quad.c2, h.2.2.2.2.1.quad.c3, h.2.2.2.2.2.2.1.quad.c0, h.2.2.2.2.2.2.1.quad.c1, h.2.2.2.2.2.2.1.quad.c2, h.2.2.2.2.2.2.1.quad.c3, h.2.2.2.2.2.2.2.2.1.quad.c0, h.2.2.2.2.2.2.2.2.1.quad.c1, h.2.2.2.2.2.2.2.2.1.quad.c2, h.2.2.2.2.2.2.2.2.1.quad.c3, h.2.2.2.2.2.2.2.2.2.quad.c0, h.2.2.2.2.2.2.2.2.2.quad.c1, h.2.2.2.2.2.2.2.2.2.quad.c2, h.2.2.2.2.2.2.2.2.2.quad.c3⟩
    have IN : Hid (∀ W, P W → Ints W yb my C ∧ Ints W yd ny R ∧ Ints W zb mz C ∧ Ints W zd nz R ∧ Ints W yl ly L ∧ Ints W zl lz L ∧ Ints W ub mu U ∧ Ints W ud nu V ∧ Ints W (some ⟨gl, 0, none⟩) m M ∧ Ints W vb mv vC ∧ Ints W vd nv vH ∧ Ints W wb mw vC ∧ Ints W wd nw vH) := by
      intro W h
      rw [hP] at h
      exact ⟨h.2.2.1.one, h.2.2.1.two, h.2.2.2.2.1.one, h.2.2.2.2.1.two, h.2.2.2.1, h.2.2.2.2.2.1, h.2.2.2.2.2.2.1.one, h.2.2.2.2.2.2.1.two, h.2.2.2.2.2.2.2.1, h.2.2.2.2.2.2.2.2.1.one, h.2.2.2.2.2.2.2.2.1.two, h.2.2.2.2.2.2.2.2.2.one, h.2.2.2.2.2.2.2.2.2.two⟩
    have OUT : Hid (∀ W, P W → Below w1.heap.size w1 W ∧ VaL W bx b lb cb X d ld cd Y t q ∧ VaL W by' yb my ky C yd ny oy R T Pp ∧ Ints W yl ly L) := by
      intro W h
      rw [hP] at h
      exact ⟨h.1, h.2.1, h.2.2.1, h.2.2.2.1⟩
    clear hP H8
    obtain ⟨s0, s1, s2, s3, s4, s5, s6, s7, s8, s9, s10, s11, s12, s13, s14, s15, s16, s17, s18, s19⟩ := CE.out _ HP.out
    have hkk : (vK != vK) = false := by simp
    obtain ⟨ok, hok⟩ : ∃ ok, ok = listOk U V t2 q2 := ⟨_, rfl⟩
    have HOKU := hid hok
    clear hok
    have hoo : (ok != ok) = false := by simp
    go_region_held3 (fun w' => w'.cell? ⟨by', 0, none⟩ = some (.slice yb my ky) ∧ w'.cell? ⟨by', 1, none⟩ = some (.slice yd ny oy) ∧ w'.cell? ⟨by', 2, none⟩ = some (.int .i64 T) ∧ w'.cell? ⟨by', 3, none⟩ = some (.int .i64 Pp) ∧ w'.cell? ⟨bz, 0, none⟩ = some (.slice zb mz kz) ∧ w'.cell? ⟨bz, 1, none⟩ = some (.slice zd nz oz) ∧ w'.cell? ⟨bz, 2, none⟩ = some (.int .i64 T) ∧ w'.cell? ⟨bz, 3, none⟩ = some (.int .i64 Pp) ∧ w'.cell? ⟨bu, 0, none⟩ = some (.slice ub mu ku) ∧ w'.cell? ⟨bu, 1, none⟩ = some (.slice ud nu ou) ∧ w'.cell? ⟨bu, 2, none⟩ = some (.int .i64 t2) ∧ w'.cell? ⟨bu, 3, none⟩ = some (.int .i64 q2) ∧ w'.cell? ⟨bv, 0, none⟩ = some (.slice vb mv kv) ∧ w'.cell? ⟨bv, 1, none⟩ = some (.slice vd nv ov) ∧ w'.cell? ⟨bv, 2, none⟩ = some (.int .i64 vT) ∧ w'.cell? ⟨bv, 3, none⟩ = some (.int .i64 vP) ∧ w'.cell? ⟨bw, 0, none⟩ = some (.slice wb mw kw) ∧ w'.cell? ⟨bw, 1, none⟩ = some (.slice wd nw ow) ∧ w'.cell? ⟨bw, 2, none⟩ = some (.int .i64 vT) ∧ w'.cell? ⟨bw, 3, none⟩ = some (.int .i64 vP)) (go_keep)
      (first
        | (go_at_call_of 24 (Value.agg #[Value.slice yb my ky, Value.slice yd ny oy, Value.int .i64 T, Value.int .i64 Pp]); refine (likeList_same yb my ky yd ny oy zb mz kz zd nz oz C R T Pp _ (IN.out _ (ST.out _ _ HP.out (Below.refl _ _).drew)).1 (IN.out _ (ST.out _ _ HP.out (Below.refl _ _).drew)).2.1 (IN.out _ (ST.out _ _ HP.out (Below.refl _ _).drew)).2.2.1 (IN.out _ (ST.out _ _ HP.out (Below.refl _ _).drew)).2.2.2.1 (by omega) (by omega)).mono ?_; rintro e wA ⟨rfl, BA⟩; have HP : Hid (P wA) := ST.out _ _ (ST.out _ _ HP.out (Below.refl _ _).drew) BA; obtain ⟨s0, s1, s2, s3, s4, s5, s6, s7, s8, s9, s10, s11, s12, s13, s14, s15, s16, s17, s18, s19⟩ := CE.out _ HP.out)
        | (go_at_call_of 18 (Value.slice yl ly cy); refine (likeInts_same yl ly cy L zl lz cz _ (IN.out _ HP.out).2.2.2.2.1 (IN.out _ HP.out).2.2.2.2.2.1 (by omega)).mono ?_; rintro e wB ⟨rfl, BB⟩; have HP : Hid (P wB) := ST.out _ _ HP.out BB; obtain ⟨s0, s1, s2, s3, s4, s5, s6, s7, s8, s9, s10, s11, s12, s13, s14, s15, s16, s17, s18, s19⟩ := CE.out _ HP.out)
        | (go_at_call 25; refine (specLeft ub mu ku U ud nu ou V t2 q2 _ (IN.out _ HP.out).2.2.2.2.2.2.1 (IN.out _ HP.out).2.2.2.2.2.2.2.1 (by omega)).mono ?_; rw [← HM.out.1, ← HM.out.2]; rintro e wC ⟨gs, cs', rfl, RS, _, BC⟩; have HP : Hid (P wC) := ST.out _ _ HP.out BC; obtain ⟨s0, s1, s2, s3, s4, s5, s6, s7, s8, s9, s10, s11, s12, s13, s14, s15, s16, s17, s18, s19⟩ := CE.out _ HP.out)
        | (go_at_call_of 18 (Value.slice (some ⟨gl, 0, none⟩) m cl); refine (likeInts_same (some ⟨gl, 0, none⟩) m cl M (some ⟨gs, 0, none⟩) m cs' _ (IN.out _ HP.out).2.2.2.2.2.2.2.2.1 (by have h := RS.ints; rw [← HM.out.2] at h; exact h) (by omega)).mono ?_; rintro e wD ⟨rfl, BD⟩; have HP : Hid (P wD) := ST.out _ _ HP.out BD; obtain ⟨s0, s1, s2, s3, s4, s5, s6, s7, s8, s9, s10, s11, s12, s13, s14, s15, s16, s17, s18, s19⟩ := CE.out _ HP.out)
        | (go_at_call_of 24 (Value.agg #[Value.slice vb mv kv, Value.slice vd nv ov, Value.int .i64 vT, Value.int .i64 vP]); refine (likeList_same vb mv kv vd nv ov wb mw kw wd nw ow vC vH vT vP _ (IN.out _ HP.out).2.2.2.2.2.2.2.2.2.1 (IN.out _ HP.out).2.2.2.2.2.2.2.2.2.2.1 (IN.out _ HP.out).2.2.2.2.2.2.2.2.2.2.2.1 (IN.out _ HP.out).2.2.2.2.2.2.2.2.2.2.2.2 (by omega) (by omega)).mono ?_; rintro e wE ⟨rfl, BE⟩; have HP : Hid (P wE) := ST.out _ _ HP.out BE; obtain ⟨s0, s1, s2, s3, s4, s5, s6, s7, s8, s9, s10, s11, s12, s13, s14, s15, s16, s17, s18, s19⟩ := CE.out _ HP.out)
        | (go_at_call 16; refine (implListX ub mu ku U ud nu ou V t2 q2 _ (IN.out _ HP.out).2.2.2.2.2.2.1 (IN.out _ HP.out).2.2.2.2.2.2.2.1).mono ?_; rw [← HOKU.out]; rintro e wF ⟨rfl, BF⟩; have HP : Hid (P wF) := ST.out _ _ HP.out BF; obtain ⟨s0, s1, s2, s3, s4, s5, s6, s7, s8, s9, s10, s11, s12, s13, s14, s15, s16, s17, s18, s19⟩ := CE.out _ HP.out)
        | (go_at_call 26; refine (specListX ub mu ku U ud nu ou V t2 q2 _ (IN.out _ HP.out).2.2.2.2.2.2.1 (IN.out _ HP.out).2.2.2.2.2.2.2.1 (by omega)).mono ?_; rw [← HOKU.out]; rintro e wG ⟨rfl, BG⟩; have HP : Hid (P wG) := ST.out _ _ HP.out BG; obtain ⟨s0, s1, s2, s3, s4, s5, s6, s7, s8, s9, s10, s11, s12, s13, s14, s15, s16, s17, s18, s19⟩ := CE.out _ HP.out))
    have H6 : Hid (Below w1.heap.size w1 wG ∧ VaL wG bx b lb cb X d ld cd Y t q ∧ VaL wG by' yb my ky C yd ny oy R T Pp ∧ Ints wG yl ly L) := OUT.out _ HP.out
    clear s0 s1 s2 s3 s4 s5 s6 s7 s8 s9 s10 s11 s12 s13 s14 s15 s16 s17 s18 s19 CE IN OUT ST HP BA BB BC BD BE BF BG RS hkk hoo
    by_cases hl0 : ly = 0
    · subst hl0
      go_wp2_with fail
      go_ret
      exact ⟨rfl, H6.out.1⟩
    · have hne0 : ((ly : Int) == 0) = false := by simpa using hl0
      have HOK : Hid (lrOk X Y t q n = true) := by
        show _ = _
        cases h : lrOk X Y t q n
        · have := HC.out.2.2.2.2
          rw [(lr_no h).2.2.2.2] at this
          rw [this] at hly
          simp at hly
          omega
        · rfl
      have hn := lr_parts HOK.out
      have n0 : 0 ≤ n := hn.2.1
      have n1 : n ≤ 3000 := hn.2.2.1
      clear hn
      go_wp2_with fail
      refine (roll_any a len cap 8 _ (HB.out.grown H6.out.1) ht).mono ?_
      rintro e w7 ⟨rfl, h, L7⟩
      have C7 : Hid (Cur .u64 55 wG.heap.size a len cap w7) := L7.cur (cur_new (HB.out.grown H6.out.1) ht h)
      go_wp2_with fail
      refine (dice_any _ _ a len cap _ _ C7.out (by omega)).mono ?_
      rintro e w8 ⟨k, rfl, k0, k1, _, L8⟩
      have B8 := new_below (L7.trans L8)
      have H8 : Hid (Below w1.heap.size w1 w8 ∧ VaL w8 bx b lb cb X d ld cd Y t q ∧ VaL w8 by' yb my ky C yd ny oy R T Pp ∧ Ints w8 yl ly L) := ⟨below_call H6.out.1 H6.out.1.size B8, H6.out.2.1.all B8, H6.out.2.2.1.all B8, H6.out.2.2.2.kept B8⟩
      obtain ⟨s9, TP⟩ := two_partsL HOK.out k0 (by omega)
      obtain ⟨M9, hM9⟩ : ∃ M9, M9 = lrL X Y t q k := ⟨_, rfl⟩
      obtain ⟨O9, hO9⟩ : ∃ O9, O9 = lrL X s9.had s9.turns s9.pos (n - k) := ⟨_, rfl⟩
      rw [← HC.out.1, ← HC.out.2.1, ← HC.out.2.2.1, ← HC.out.2.2.2.1, ← HC.out.2.2.2.2, ← hM9, ← hO9] at TP
      have hm3k := (lr_len X Y t q k).2.2
      rw [← hM9] at hm3k
      have ho3k := (lr_len X s9.had s9.turns s9.pos (n - k)).2.2
      rw [← hO9] at ho3k
      have HT := hid TP
      have HMO : Hid (M9 = lrL X Y t q k ∧ O9 = lrL X s9.had s9.turns s9.pos (n - k)) := ⟨hM9, hO9⟩
      clear hM9 hO9 TP L7 L8 B8 H6 C7
      have q0 := H8.out.2.1.quad.c0
      have q1 := H8.out.2.1.quad.c1
      have q2 := H8.out.2.1.quad.c2
      have q3 := H8.out.2.1.quad.c3
      go_wp2_with fail
      clear q0 q1 q2 q3
      refine (implListRun b lb cb X d ld cd Y t q k _ H8.out.2.1.one H8.out.2.1.two).mono ?_
      unfold RunPostL
      rw [HT.out.1, HT.out.2.1, HT.out.2.2.1, HT.out.2.2.2.1, ← HMO.out.1]
      rintro e w9 ⟨vb9, mv9, kv9, vd9, nv9, ov9, vl, lv', cv, rfl, Fb, Fd, Fl, _, _, _, B9⟩
      have hlv : M9.length = lv' := Fl.1
      have H9 : Hid (Below w1.heap.size w1 (w9.alloc (.cells #[.slice vb9 mv9 kv9, .slice vd9 nv9 ov9, .int .i64 s9.turns, .int .i64 (s9.pos : Int)] 31)) ∧ VaL (w9.alloc (.cells #[.slice vb9 mv9 kv9, .slice vd9 nv9 ov9, .int .i64 s9.turns, .int .i64 (s9.pos : Int)] 31)) by' yb my ky C yd ny oy R T Pp ∧ Ints (w9.alloc (.cells #[.slice vb9 mv9 kv9, .slice vd9 nv9 ov9, .int .i64 s9.turns, .int .i64 (s9.pos : Int)] 31)) yl ly L ∧ VaL (w9.alloc (.cells #[.slice vb9 mv9 kv9, .slice vd9 nv9 ov9, .int .i64 s9.turns, .int .i64 (s9.pos : Int)] 31)) w9.heap.size vb9 mv9 kv9 X vd9 nv9 ov9 s9.had s9.turns (s9.pos : Int) ∧ Ints (w9.alloc (.cells #[.slice vb9 mv9 kv9, .slice vd9 nv9 ov9, .int .i64 s9.turns, .int .i64 (s9.pos : Int)] 31)) vl lv' M9) :=
        ⟨below_call (below_call H8.out.1 H8.out.1.size B9) (by have := H8.out.1.size; have := B9.size; omega) (below_new _ _), (H8.out.2.2.1.all B9).all (below_new _ _), (H8.out.2.2.2.kept B9).alloc _, vaL_new Fb.ints Fd.ints, Fl.ints.alloc _⟩
      clear Fb Fd Fl B9 H8
      go_wp2_with fail
      generalize w9.alloc (.cells #[.slice vb9 mv9 kv9, .slice vd9 nv9 ov9, .int .i64 s9.turns, .int .i64 (s9.pos : Int)] 31) = W9 at *
      generalize w9.heap.size = bv9 at *
      refine (implListRun vb9 mv9 kv9 X vd9 nv9 ov9 s9.had s9.turns s9.pos (n - k) _ H9.out.2.2.2.1.one H9.out.2.2.2.1.two).mono ?_
      unfold RunPostL
      rw [HT.out.2.2.2.2.1, HT.out.2.2.2.2.2.1, HT.out.2.2.2.2.2.2.1, HT.out.2.2.2.2.2.2.2.1, ← HMO.out.2]
      rintro e w10 ⟨ub9, mu9, ku9, ud9, nu9, ou9, ul, lu, cu, rfl, Fb, Fd, Fl, _, _, _, B10⟩
      have hlu : O9.length = lu := Fl.1
      have mu24 : (mu9 : Int) ≤ 24 := by have := Fb.1; omega
      have nu24 : (nu9 : Int) ≤ 24 := by have := Fd.1; omega
      have H10 : Hid (Below w1.heap.size w1 (w10.alloc (.cells #[.slice ub9 mu9 ku9, .slice ud9 nu9 ou9, .int .i64 T, .int .i64 Pp] 31)) ∧ VaL (w10.alloc (.cells #[.slice ub9 mu9 ku9, .slice ud9 nu9 ou9, .int .i64 T, .int .i64 Pp] 31)) by' yb my ky C yd ny oy R T Pp ∧ Ints (w10.alloc (.cells #[.slice ub9 mu9 ku9, .slice ud9 nu9 ou9, .int .i64 T, .int .i64 Pp] 31)) yl ly L ∧ Ints (w10.alloc (.cells #[.slice ub9 mu9 ku9, .slice ud9 nu9 ou9, .int .i64 T, .int .i64 Pp] 31)) vl lv' M9 ∧ VaL (w10.alloc (.cells #[.slice ub9 mu9 ku9, .slice ud9 nu9 ou9, .int .i64 T, .int .i64 Pp] 31)) w10.heap.size ub9 mu9 ku9 C ud9 nu9 ou9 R T Pp ∧ Ints (w10.alloc (.cells #[.slice ub9 mu9 ku9, .slice ud9 nu9 ou9, .int .i64 T, .int .i64 Pp] 31)) ul lu O9) :=
        ⟨below_call (below_call H9.out.1 H9.out.1.size B10) (by have := H9.out.1.size; have := B10.size; omega) (below_new _ _), (H9.out.2.1.all B10).all (below_new _ _), (H9.out.2.2.1.kept B10).alloc _, (H9.out.2.2.2.2.kept B10).alloc _, vaL_new Fb.ints Fd.ints, Fl.ints.alloc _⟩
      clear Fb Fd Fl B10 H9
      have q0 := H10.out.2.1.quad.c0
      have q1 := H10.out.2.1.quad.c1
      have q2 := H10.out.2.1.quad.c2
      have q3 := H10.out.2.1.quad.c3
      go_wp2_with fail
      clear q0 q1 q2 q3
      generalize w10.alloc (.cells #[.slice ub9 mu9 ku9, .slice ud9 nu9 ou9, .int .i64 T, .int .i64 Pp] 31) = W10 at *
      generalize w10.heap.size = bu9 at *
      refine (likeList_same ub9 mu9 ku9 ud9 nu9 ou9 yb my ky yd ny oy C R T Pp _ H10.out.2.2.2.2.1.one H10.out.2.2.2.2.1.two H10.out.2.1.one H10.out.2.1.two (by omega) (by omega)).mono ?_
      rintro e w11 ⟨rfl, B11⟩
      have H11 : Hid (Below w1.heap.size w1 w11 ∧ Ints w11 yl ly L ∧ Ints w11 vl lv' M9 ∧ Ints w11 ul lu O9) := ⟨below_call H10.out.1 H10.out.1.size B11, H10.out.2.2.1.kept B11, H10.out.2.2.2.1.kept B11, H10.out.2.2.2.2.2.kept B11⟩
      clear B11 H10
      go_wp2_with (at_builtin; refine wpList_append_let (by rfl) (.tmp 114) (.tmp 115) 27 rfl i0 Try.underlying27 hi hz0 hz1 hz2 _ _ _ [] rfl rfl (row_nil w11) _ _ _ M9 rfl (H11.out.2.2.1.alloc _) (by simp; omega) ?_)
      intro g12 c12 w12 R12 G12 D12
      have E12 : Hid (Row w12 g12 c12 M9 ∧ w11.heap.size ≤ g12 ∧ Below w11.heap.size w11 w12) := ⟨by simpa using R12, by rcases D12 with h | h <;> (try simp at h) <;> omega, (below_new w11 _).grown G12 (by simp) (fun j hj => by cases hj; exact Nat.le_refl _)⟩
      have H12 : Hid (Below w1.heap.size w1 w12 ∧ Ints w12 yl ly L ∧ Ints w12 ul lu O9) := ⟨below_call H11.out.1 H11.out.1.size E12.out.2.2, H11.out.2.1.kept E12.out.2.2, H11.out.2.2.2.kept E12.out.2.2⟩
      clear R12 G12 D12
      go_wp2_with (at_builtin; refine wpList_append_let (by rfl) (.tmp 116) (.tmp 117) 27 rfl i0 Try.underlying27 hi hz0 hz1 hz2 _ _ _ M9 rfl (by omega) E12.out.1 _ _ _ O9 rfl H12.out.2.2 (by omega) ?_)
      intro g13 c13 w13 R13 G13 D13
      have H13 : Hid (Below w1.heap.size w1 w13 ∧ Ints w13 yl ly L ∧ Ints w13 (some ⟨g13, 0, none⟩) (lv' + lu) L) := by
        have B13 : Below w11.heap.size w11 w13 := E12.out.2.2.grown G13 E12.out.2.2.size (fun j hj => by cases hj; exact E12.out.2.1)
        have h := R13.ints
        have e9 := HT.out.2.2.2.2.2.2.2.2
        rw [e9, hly] at h
        have e : ly = lv' + lu := by rw [← hly, ← e9, List.length_append, hlv, hlu]
        rw [e] at h
        exact ⟨below_call H11.out.1 H11.out.1.size B13, H11.out.2.1.kept B13, h⟩
      clear R13 G13 D13
      go_wp2_with fail
      refine (likeInts_same _ (lv' + lu) c13 L yl ly cy _ H13.out.2.2 H13.out.2.1 (by omega)).mono ?_
      rintro e w14 ⟨rfl, B14⟩
      have H14 : Hid (Below w1.heap.size w1 w14) := below_call H13.out.1 H13.out.1.size B14
      clear B14
      go_wp2_with fail
      go_ret
      exact ⟨rfl, H14.out⟩

end Go.Proofs.Ytlicjbnagapdeaa.Crew
