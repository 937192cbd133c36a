/-
  The law FnSmoothRun: whatever the bytes, it answers true and nothing that was there is written.
-/
import Derived.Test.YtkfepehldjkedaaSmoothRunI
import Derived.Test.YtkfepehldjkedaaDrawSmooth
import Derived.Test.YtkfepehldjkedaaDice
import Derived.Test.YtkfepehldjkedaaLikeInts
namespace Go.Proofs.Ytkfepehldjkedaa.Crew
open Go.ChangeShapes Go.WideShapes Go.ChangeAt Go.RowKit
open Go.Proofs.Ytkfepehldjkedaa.Draw

/-- laws.likeSmooth where both read alike. -/
theorem likeSmooth_same (a : Option Addr) (len cap : Nat) (a' : Option Addr) (len' cap' : Nat) (b : Option Addr) (lb cb : Nat) (b' : Option Addr) (lb' cb' : Nat) (xs ys : List Int) (w : World) (I : Ints w a len xs) (I' : Ints w a' len' ys) (J : Ints w b lb xs) (J' : Ints w b' lb' ys) (hs : (len : Int) ≤ 1048576) (hs' : (len' : Int) ≤ 1048576) :
    Calls Try.prog 17 #[sm (.slice a len cap) (.slice a' len' cap'), sm (.slice b lb cb) (.slice b' lb' cb')] w fun e w' => e = .returned (.bool true) ∧ Below w.heap.size w w' := by
  obtain ⟨W0, hW0⟩ : ∃ W0, W0 = (w.alloc (.cells #[.slice a len cap, .slice a' len' cap'] 31)).alloc (.cells #[.slice b lb cb, .slice b' lb' cb'] 31) := ⟨_, rfl⟩
  have hz : W0.heap.size = w.heap.size + 2 := by rw [hW0]; simp
  have H0 : Hid (Pair W0 w.heap.size (.slice a len cap) (.slice a' len' cap') ∧ Pair W0 (w.heap.size + 1) (.slice b lb cb) (.slice b' lb' cb') ∧ Below w.heap.size w W0) := by
    subst hW0
    exact ⟨(pair_new _ _ _).alloc _, pair_at (by simp) _ _, (below_new _ _).alloc (by simp) _⟩
  have HI : Hid (Ints w a len xs ∧ Ints w a' len' ys ∧ Ints w b lb xs ∧ Ints w b' lb' ys) := ⟨I, I', J, J'⟩
  clear I I' J J'
  go_enter Try.func17, Try.ntmps17
  go_wp2_with fail
  rw [← hW0]
  clear hW0
  refine (likeInts_same a len cap xs b lb cb _ (HI.out.1.kept H0.out.2.2) (HI.out.2.2.1.kept H0.out.2.2) hs).mono ?_
  rintro e w1 ⟨rfl, B1⟩
  have H1 : Hid (Below w.heap.size w w1) := below_call H0.out.2.2 (by omega) B1
  have c0 := (H0.out.1.all B1).c1
  have c1 := (H0.out.2.1.all B1).c1
  clear B1
  go_wp2_with fail
  refine (likeInts_same a' len' cap' ys b' lb' cb' _ (HI.out.2.1.kept H1.out) (HI.out.2.2.2.kept H1.out) hs').mono ?_
  rintro e w2 ⟨rfl, B2⟩
  have H2 : Hid (Below w.heap.size w w2) := below_call H1.out H1.out.size B2
  clear B2 c0 c1
  go_wp2_with fail
  go_ret
  exact ⟨rfl, H2.out⟩

/-- A Smooth in a variable, as it reads. -/
structure Va (w : World) (k : Nat) (a : Option Addr) (la ca : Nat) (xs : List Int) (b : Option Addr) (lb cb : Nat) (ys : List Int) : Prop where
  pair : Pair w k (.slice a la ca) (.slice b lb cb)
  one : Ints w a la xs
  two : Ints w b lb ys

theorem Va.all {w w' : World} {k : Nat} {a : Option Addr} {la ca : Nat} {xs : List Int} {b : Option Addr} {lb cb : Nat} {ys : List Int} (h : Va w k a la ca xs b lb cb ys) (g : Below w.heap.size w w') : Va w' k a la ca xs b lb cb ys := ⟨h.pair.all g, h.one.kept g, h.two.kept g⟩

theorem va_new {w : World} {a : Option Addr} {la ca : Nat} {xs : List Int} {b : Option Addr} {lb cb : Nat} {ys : List Int} (I : Ints w a la xs) (J : Ints w b lb ys) : Va (w.alloc (.cells #[.slice a la ca, .slice b lb cb] 31)) w.heap.size a la ca xs b lb cb ys := ⟨pair_new _ _ _, I.alloc _, J.alloc _⟩

/-- append at an operation that a guard let by. -/
theorem wpList_append_guarded {P : Program} {w : World} {ops : Array Oper} {rest : List Oper} {o : Oper} {a : Act} {Q : Exit → Act → World → Prop} (hgd : Region.wanted o (yielded ops a.tmps) = true) (s x : Operand) (t : TypeId)
    (ho : o.op = .call { callee := .builtin .append, args := #[s, x], argTypes := #[t, t] })
    (i : TypeInfo) (ht : P.underlying t = some (.slice 2)) (hi : P.info? 2 = some i) (hz : i.zero = some (.int .i64 0)) (hsize : i.size = 1) (hby : i.bytes = 8)
    (g n cap : Nat) (xs : List Int) (hs : a.eval s = .slice (some ⟨g, 0, none⟩) n cap) (hn : n = xs.length) (R : Row w g cap xs) (ao : Option Addr) (m c : Nat) (ys : List Int) (hx : a.eval x = .slice ao m c) (I : Ints w ao m ys) (hlen : xs.length + m ≤ 1000000000)
    (h : ∀ g' cap' w', Row w' g' cap' (xs ++ ys) → w.grownBy w' (some g) → (g' = g ∨ g' = w.heap.size) → wpList P ops Q rest (a.put o.dst (.slice (some ⟨g', 0, none⟩) (n + m) cap')) w') :
    wpList P ops Q (o :: rest) a w := by
  refine wpList_step fun K hK => ?_
  rw [if_pos hgd]
  subst hn
  obtain ⟨g', cap', w', hr, h2, h3, h4⟩ := run_append_ints (P := P) w t o.type i ht hi hz hsize hby g cap xs R ao m c ys I hlen
  unfold Oper.wp execOp
  simp only [ho, resolve, invoke, builtin, Sem.run_bind, Sem.run_pure, Result.andThen_ok, List.map_toArray, List.map_cons, List.map_nil, hs, hx, hr]
  exact hK _ _ (h g' cap' w' h2 h3 h4)

/-- Run in two parts. -/
theorem two_parts {X Y : List Int} {n k : Int} (h : runOk X Y n = true) (k0 : 0 ≤ k) (k1 : k ≤ n) :
    runC X Y k = X ∧ runR X Y k = richAt X Y k.toNat ∧ runC X (richAt X Y k.toNat) (n - k) = runC X Y n ∧ runR X (richAt X Y k.toNat) (n - k) = runR X Y n ∧ runL X Y k ++ runL X (richAt X Y k.toNat) (n - k) = runL X Y n ∧ runL X Y n = takenTo X Y n.toNat := by
  obtain ⟨h0, h1, h2⟩ := run_parts h
  have e : n.toNat = k.toNat + (n - k).toNat := by omega
  have a1 : runOk X Y k = true := by
    rw [runOk, okTo_le h2 (by omega), Bool.and_true]
    simp [within]; omega
  have a2 : runOk X (richAt X Y k.toNat) (n - k) = true := by
    rw [e] at h2
    rw [runOk, okTo_add h2, Bool.and_true]
    simp [within]; omega
  refine ⟨(run_yes a1).1, (run_yes a1).2.1, ?_, ?_, ?_, (run_yes h).2.2⟩
  · rw [(run_yes a2).1, (run_yes h).1]
  · rw [(run_yes a2).2.1, (run_yes h).2.1, e, richAt_add]
  · rw [(run_yes a1).2.2, (run_yes a2).2.2, (run_yes h).2.2, e, taken_add]

set_option maxHeartbeats 1000000 in
theorem lawFnSmoothRun (a : Option Addr) (len cap : Nat) (w : World) (B : Bytes w a len) :
    Calls Try.prog 4 #[.slice a len cap] w fun e w' => e = .returned (.bool true) ∧ Below w.heap.size w w' := by
  obtain ⟨i0, hi, hz0, hz1, hz2⟩ := info_parts info_int
  have HB : Hid (Bytes w a len) := B
  clear B
  by_cases hbig : (4096 : Int) < (len : Int)
  · go_enter Try.func4, Try.ntmps4
    go_wp2_with fail
    refine (big_any a len cap _).mono ?_
    rw [decide_eq_true hbig]
    rintro e w1 ⟨rfl, rfl⟩
    go_wp2_with fail
    go_ret
    exact ⟨rfl, Below.refl _ _⟩
  · have ht : len ≤ 9223372036854775806 := by omega
    have HBG : Hid (decide ((4096 : Int) < (len : Int)) = false) := decide_eq_false hbig
    clear hbig
    go_enter Try.func4, Try.ntmps4
    go_wp2_with fail
    refine (big_any a len cap _).mono ?_
    rw [HBG.out]
    rintro e w1 ⟨rfl, rfl⟩
    go_wp2_with fail
    refine (drawSmoothRun_any a len cap _ HB.out ht).mono ?_
    rintro e w2 ⟨b, lb, cb, d, ld, cd, X, Y, n, rfl, Fb, Fd, hlb, hld, B2⟩
    have H2 : Hid (Below w1.heap.size w1 (w2.alloc (.cells #[.slice b lb cb, .slice d ld cd] 31)) ∧ Va (w2.alloc (.cells #[.slice b lb cb, .slice d ld cd] 31)) w2.heap.size b lb cb X d ld cd Y) := ⟨below_call B2 B2.size (below_new _ _), va_new Fb.ints Fd.ints⟩
    clear Fb Fd B2
    go_wp2_with fail
    generalize w2.alloc (.cells #[.slice b lb cb, .slice d ld cd] 31) = W2 at *
    generalize w2.heap.size = bx at *
    refine (implRun b lb cb X d ld cd Y n _ H2.out.2.one H2.out.2.two).mono ?_
    unfold RunPost
    obtain ⟨C, hC⟩ : ∃ C, C = runC X Y n := ⟨_, rfl⟩
    obtain ⟨R, hR⟩ : ∃ R, R = runR X Y n := ⟨_, rfl⟩
    obtain ⟨L, hL⟩ : ∃ L, L = runL X Y n := ⟨_, rfl⟩
    have hc24 := runC_len X Y n
    have hr24 := runR_len X Y n
    have hl3k := runL_len X Y n
    rw [← hC] at hc24
    rw [← hR] at hr24
    rw [← hL] at hl3k
    rw [← hC, ← hR, ← hL]
    have HC : Hid (C = runC X Y n ∧ R = runR X Y n ∧ L = runL X Y n) := ⟨hC, hR, hL⟩
    clear hC hR hL
    rintro e w3 ⟨yb, my, ky, yd, ny, oy, yl, ly, cy, rfl, Fb, Fd, Fl, _, _, _, B3⟩
    have my24 : (my : Int) ≤ 24 := by have := Fb.1; omega
    have ny24 : (ny : Int) ≤ 24 := by have := Fd.1; omega
    have ly3k : (ly : Int) ≤ 3000 := by have := Fl.1; omega
    have hly : L.length = ly := Fl.1
    have H3 : Hid (Below w1.heap.size w1 (w3.alloc (.cells #[.slice yb my ky, .slice yd ny oy] 31)) ∧ Va (w3.alloc (.cells #[.slice yb my ky, .slice yd ny oy] 31)) bx b lb cb X d ld cd Y ∧ Va (w3.alloc (.cells #[.slice yb my ky, .slice yd ny oy] 31)) w3.heap.size yb my ky C yd ny oy R ∧ Ints (w3.alloc (.cells #[.slice yb my ky, .slice yd ny oy] 31)) yl ly L) :=
      ⟨below_call (below_call H2.out.1 H2.out.1.size B3) (by have := H2.out.1.size; have := B3.size; omega) (below_new _ _), (H2.out.2.all B3).all (below_new _ _), va_new Fb.ints Fd.ints, Fl.ints.alloc _⟩
    clear Fb Fd Fl B3 H2
    have q0 := H3.out.2.1.pair.c0
    have q1 := H3.out.2.1.pair.c1
    go_wp2_with fail
    clear q0 q1
    generalize w3.alloc (.cells #[.slice yb my ky, .slice yd ny oy] 31) = W3 at *
    generalize w3.heap.size = by' at *
    refine (specRun b lb cb X d ld cd Y n _ H3.out.2.1.one H3.out.2.1.two (by omega) (by omega)).mono ?_
    unfold RunPost
    rw [← HC.out.1, ← HC.out.2.1, ← HC.out.2.2]
    rintro e w4 ⟨zb, mz, kz, zd, nz, oz, zl, lz, cz, rfl, Fb, Fd, Fl, _, _, _, B4⟩
    have H4 : Hid (Below w1.heap.size w1 (w4.alloc (.cells #[.slice zb mz kz, .slice zd nz oz] 31)) ∧ Va (w4.alloc (.cells #[.slice zb mz kz, .slice zd nz oz] 31)) bx b lb cb X d ld cd Y ∧ Va (w4.alloc (.cells #[.slice zb mz kz, .slice zd nz oz] 31)) by' yb my ky C yd ny oy R ∧ Ints (w4.alloc (.cells #[.slice zb mz kz, .slice zd nz oz] 31)) yl ly L ∧ Va (w4.alloc (.cells #[.slice zb mz kz, .slice zd nz oz] 31)) w4.heap.size zb mz kz C zd nz oz R ∧ Ints (w4.alloc (.cells #[.slice zb mz kz, .slice zd nz oz] 31)) zl lz L) :=
      ⟨below_call (below_call H3.out.1 H3.out.1.size B4) (by have := H3.out.1.size; have := B4.size; omega) (below_new _ _), (H3.out.2.1.all B4).all (below_new _ _), (H3.out.2.2.1.all B4).all (below_new _ _), (H3.out.2.2.2.kept B4).alloc _, va_new Fb.ints Fd.ints, Fl.ints.alloc _⟩
    clear Fb Fd Fl B4 H3
    have q0 := H4.out.2.2.1.pair.c0
    have q1 := H4.out.2.2.1.pair.c1
    go_wp2_with fail
    clear q0 q1
    generalize w4.alloc (.cells #[.slice zb mz kz, .slice zd nz oz] 31) = W4 at *
    generalize w4.heap.size = bz at *
    refine (likeSmooth_same yb my ky yd ny oy zb mz kz zd nz oz C R _ H4.out.2.2.1.one H4.out.2.2.1.two H4.out.2.2.2.2.1.one H4.out.2.2.2.2.1.two (by omega) (by omega)).mono ?_
    rintro e w5 ⟨rfl, B5⟩
    have H5 : Hid (Below w1.heap.size w1 w5 ∧ Va w5 bx b lb cb X d ld cd Y ∧ Va w5 by' yb my ky C yd ny oy R ∧ Ints w5 yl ly L ∧ Ints w5 zl lz L) := ⟨below_call H4.out.1 H4.out.1.size B5, H4.out.2.1.all B5, H4.out.2.2.1.all B5, H4.out.2.2.2.1.kept B5, H4.out.2.2.2.2.2.kept B5⟩
    clear B5 H4
    go_wp2_with fail
    refine (likeInts_same yl ly cy L zl lz cz _ H5.out.2.2.2.1 H5.out.2.2.2.2 (by omega)).mono ?_
    rintro e w6 ⟨rfl, B6⟩
    have H6 : Hid (Below w1.heap.size w1 w6 ∧ Va w6 bx b lb cb X d ld cd Y ∧ Va w6 by' yb my ky C yd ny oy R ∧ Ints w6 yl ly L) := ⟨below_call H5.out.1 H5.out.1.size B6, H5.out.2.1.all B6, H5.out.2.2.1.all B6, H5.out.2.2.2.1.kept B6⟩
    clear B6 H5
    by_cases hl0 : ly = 0
    · subst hl0
      go_wp2_with fail
      go_ret
      exact ⟨rfl, H6.out.1⟩
    · have hne0 : ((ly : Int) == 0) = false := by simpa using hl0
      have HOK : Hid (runOk X Y n = true) := by
        show _ = _
        cases h : runOk X Y n
        · have := HC.out.2.2
          rw [(run_no h).2.2] at this
          rw [this] at hly
          simp at hly
          omega
        · rfl
      have hn := run_parts HOK.out
      have n0 : 0 ≤ n := hn.1
      have n1 : n ≤ 3000 := hn.2.1
      clear hn
      go_wp2_with fail
      refine (roll_any a len cap 5 _ (HB.out.grown H6.out.1) ht).mono ?_
      rintro e w7 ⟨rfl, h, L7⟩
      have C7 : Hid (Cur .u64 57 w6.heap.size a len cap w7) := L7.cur (cur_new (HB.out.grown H6.out.1) ht h)
      have B7 := new_below L7
      have H7 : Hid (Below w1.heap.size w1 w7 ∧ Va w7 bx b lb cb X d ld cd Y ∧ Va w7 by' yb my ky C yd ny oy R ∧ Ints w7 yl ly L) := ⟨below_call H6.out.1 H6.out.1.size B7, H6.out.2.1.all B7, H6.out.2.2.1.all B7, H6.out.2.2.2.kept B7⟩
      clear B7
      go_wp2_with fail
      refine (dice_any _ _ a len cap _ _ C7.out (by omega)).mono ?_
      rintro e w8 ⟨k, rfl, k0, k1, _, L8⟩
      have B8 := new_below (L7.trans L8)
      have H8 : Hid (Below w1.heap.size w1 w8 ∧ Va w8 bx b lb cb X d ld cd Y ∧ Va w8 by' yb my ky C yd ny oy R ∧ Ints w8 yl ly L) := ⟨below_call H6.out.1 H6.out.1.size B8, H6.out.2.1.all B8, H6.out.2.2.1.all B8, H6.out.2.2.2.kept B8⟩
      obtain ⟨Z, hZ⟩ : ∃ Z, Z = richAt X Y k.toNat := ⟨_, rfl⟩
      obtain ⟨M, hM⟩ : ∃ M, M = runL X Y k := ⟨_, rfl⟩
      obtain ⟨O, hO⟩ : ∃ O, O = runL X Z (n - k) := ⟨_, rfl⟩
      have TP := two_parts HOK.out k0 (by omega)
      rw [← hZ, ← HC.out.1, ← HC.out.2.1, ← HC.out.2.2, ← hM, ← hO] at TP
      have hm3k := runL_len X Y k
      rw [← hM] at hm3k
      have ho3k := runL_len X Z (n - k)
      rw [← hO] at ho3k
      have HT : Hid (runC X Y k = X ∧ runR X Y k = Z ∧ runL X Y k = M ∧ runC X Z (n - k) = C ∧ runR X Z (n - k) = R ∧ runL X Z (n - k) = O ∧ M ++ O = L) := ⟨TP.1, TP.2.1, hM.symm, TP.2.2.1, TP.2.2.2.1, hO.symm, TP.2.2.2.2.1⟩
      clear hZ hM hO TP L7 L8 B8 H6 H7 C7
      have q0 := H8.out.2.1.pair.c0
      have q1 := H8.out.2.1.pair.c1
      go_wp2_with fail
      clear q0 q1
      refine (implRun b lb cb X d ld cd Y k _ H8.out.2.1.one H8.out.2.1.two).mono ?_
      unfold RunPost
      rw [HT.out.1, HT.out.2.1, HT.out.2.2.1]
      rintro e w9 ⟨vb, mv, kv, vd, nv, ov, vl, lv, cv, rfl, Fb, Fd, Fl, _, _, _, B9⟩
      have hlv : M.length = lv := Fl.1
      have H9 : Hid (Below w1.heap.size w1 (w9.alloc (.cells #[.slice vb mv kv, .slice vd nv ov] 31)) ∧ Va (w9.alloc (.cells #[.slice vb mv kv, .slice vd nv ov] 31)) by' yb my ky C yd ny oy R ∧ Ints (w9.alloc (.cells #[.slice vb mv kv, .slice vd nv ov] 31)) yl ly L ∧ Va (w9.alloc (.cells #[.slice vb mv kv, .slice vd nv ov] 31)) w9.heap.size vb mv kv X vd nv ov Z ∧ Ints (w9.alloc (.cells #[.slice vb mv kv, .slice vd nv ov] 31)) vl lv M) :=
        ⟨below_call (below_call H8.out.1 H8.out.1.size B9) (by have := H8.out.1.size; have := B9.size; omega) (below_new _ _), (H8.out.2.2.1.all B9).all (below_new _ _), (H8.out.2.2.2.kept B9).alloc _, va_new Fb.ints Fd.ints, Fl.ints.alloc _⟩
      clear Fb Fd Fl B9 H8
      go_wp2_with fail
      generalize w9.alloc (.cells #[.slice vb mv kv, .slice vd nv ov] 31) = W9 at *
      generalize w9.heap.size = bv at *
      refine (implRun vb mv kv X vd nv ov Z (n - k) _ H9.out.2.2.2.1.one H9.out.2.2.2.1.two).mono ?_
      unfold RunPost
      rw [HT.out.2.2.2.1, HT.out.2.2.2.2.1, HT.out.2.2.2.2.2.1]
      rintro e w10 ⟨ub, mu, ku, ud, nu, ou, ul, lu, cu, rfl, Fb, Fd, Fl, _, _, _, B10⟩
      have hlu : O.length = lu := Fl.1
      have mu24 : (mu : Int) ≤ 24 := by have := Fb.1; omega
      have nu24 : (nu : Int) ≤ 24 := by have := Fd.1; omega
      have H10 : Hid (Below w1.heap.size w1 (w10.alloc (.cells #[.slice ub mu ku, .slice ud nu ou] 31)) ∧ Va (w10.alloc (.cells #[.slice ub mu ku, .slice ud nu ou] 31)) by' yb my ky C yd ny oy R ∧ Ints (w10.alloc (.cells #[.slice ub mu ku, .slice ud nu ou] 31)) yl ly L ∧ Ints (w10.alloc (.cells #[.slice ub mu ku, .slice ud nu ou] 31)) vl lv M ∧ Va (w10.alloc (.cells #[.slice ub mu ku, .slice ud nu ou] 31)) w10.heap.size ub mu ku C ud nu ou R ∧ Ints (w10.alloc (.cells #[.slice ub mu ku, .slice ud nu ou] 31)) ul lu O) :=
        ⟨below_call (below_call H9.out.1 H9.out.1.size B10) (by have := H9.out.1.size; have := B10.size; omega) (below_new _ _), (H9.out.2.1.all B10).all (below_new _ _), (H9.out.2.2.1.kept B10).alloc _, (H9.out.2.2.2.2.kept B10).alloc _, va_new Fb.ints Fd.ints, Fl.ints.alloc _⟩
      clear Fb Fd Fl B10 H9
      have q0 := H10.out.2.1.pair.c0
      have q1 := H10.out.2.1.pair.c1
      go_wp2_with fail
      clear q0 q1
      generalize w10.alloc (.cells #[.slice ub mu ku, .slice ud nu ou] 31) = W10 at *
      generalize w10.heap.size = bu at *
      refine (likeSmooth_same ub mu ku ud nu ou yb my ky yd ny oy C R _ H10.out.2.2.2.2.1.one H10.out.2.2.2.2.1.two H10.out.2.1.one H10.out.2.1.two (by omega) (by omega)).mono ?_
      rintro e w11 ⟨rfl, B11⟩
      have H11 : Hid (Below w1.heap.size w1 w11 ∧ Ints w11 yl ly L ∧ Ints w11 vl lv M ∧ Ints w11 ul lu O) := ⟨below_call H10.out.1 H10.out.1.size B11, H10.out.2.2.1.kept B11, H10.out.2.2.2.1.kept B11, H10.out.2.2.2.2.2.kept B11⟩
      clear B11 H10
      go_wp2_with (at_builtin; refine wpList_append_guarded (by rfl) (.tmp 69) (.tmp 70) 27 rfl i0 Try.underlying27 hi hz0 hz1 hz2 _ _ _ [] rfl rfl (row_nil w11) _ _ _ M rfl (H11.out.2.2.1.alloc _) (by simp; omega) ?_)
      intro g12 c12 w12 R12 G12 D12
      have E12 : Hid (Row w12 g12 c12 M ∧ w11.heap.size ≤ g12 ∧ Below w11.heap.size w11 w12) := ⟨by simpa using R12, by rcases D12 with h | h <;> (try simp at h) <;> omega, (below_new w11 _).grown G12 (by simp) (fun j hj => by cases hj; exact Nat.le_refl _)⟩
      have H12 : Hid (Below w1.heap.size w1 w12 ∧ Ints w12 yl ly L ∧ Ints w12 ul lu O) := ⟨below_call H11.out.1 H11.out.1.size E12.out.2.2, H11.out.2.1.kept E12.out.2.2, H11.out.2.2.2.kept E12.out.2.2⟩
      clear R12 G12 D12
      go_wp2_with (at_builtin; refine wpList_append_guarded (by rfl) (.tmp 71) (.tmp 72) 27 rfl i0 Try.underlying27 hi hz0 hz1 hz2 _ _ _ M rfl (by omega) E12.out.1 _ _ _ O rfl H12.out.2.2 (by omega) ?_)
      intro g13 c13 w13 R13 G13 D13
      have H13 : Hid (Below w1.heap.size w1 w13 ∧ Ints w13 yl ly L ∧ Ints w13 (some ⟨g13, 0, none⟩) (lv + lu) L) := by
        have B13 : Below w11.heap.size w11 w13 := E12.out.2.2.grown G13 E12.out.2.2.size (fun j hj => by cases hj; exact E12.out.2.1)
        have h := R13.ints
        rw [HT.out.2.2.2.2.2.2, hly] at h
        have e : ly = lv + lu := by rw [← hly, ← HT.out.2.2.2.2.2.2, List.length_append, hlv, hlu]
        rw [e] at h
        exact ⟨below_call H11.out.1 H11.out.1.size B13, H11.out.2.1.kept B13, h⟩
      clear R13 G13 D13
      go_wp2_with fail
      refine (likeInts_same _ (lv + lu) c13 L yl ly cy _ H13.out.2.2 H13.out.2.1 (by omega)).mono ?_
      rintro e w14 ⟨rfl, B14⟩
      have H14 : Hid (Below w1.heap.size w1 w14) := below_call H13.out.1 H13.out.1.size B14
      clear B14
      go_wp2_with fail
      go_ret
      exact ⟨rfl, H14.out⟩

end Go.Proofs.Ytkfepehldjkedaa.Crew
