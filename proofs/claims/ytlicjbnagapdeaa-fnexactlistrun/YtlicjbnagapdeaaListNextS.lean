/-
  By spec: a copy of a List, what is left down the list.
-/
import Derived.Test.YtlicjbnagapdeaaListNextI
import Derived.Test.YtlicjbnagapdeaaIntsStep
import Derived.Test.YtlicjbnagapdeaaCrewSpec
import Derived.Deep.RegionHeld3
namespace Go.Proofs.Ytlicjbnagapdeaa.Crew
open Go.ChangeShapes Go.WideShapes Go.ChangeAt Go.RowKit

/-- spec.l8Copy: a copy in two blocks of its own. -/
theorem copy8_any (a : Option Addr) (len cap : Nat) (xs : List Int) (a' : Option Addr) (len' cap' : Nat) (ys : List Int) (t p : Int) (w : World) (I : Ints w a len xs) (J : Ints w a' len' ys) (hs : (len : Int) ≤ 1048576) (hs' : (len' : Int) ≤ 1048576) :
    Calls Try.prog 52 #[lv (.slice a len cap) (.slice a' len' cap') t p] w fun e w' => ∃ g c h d : Nat, e = .returned (lv (.slice (some ⟨g, 0, none⟩) len c) (.slice (some ⟨h, 0, none⟩) len' d) t p) ∧ Row w' g c xs ∧ Row w' h d ys ∧ w.heap.size ≤ g ∧ w.heap.size ≤ h ∧ g ≠ h ∧ Below w.heap.size w w' := by
  obtain ⟨W0, hW0⟩ : ∃ W0, W0 = (w.alloc (.cells #[.slice a len cap, .slice a' len' cap', .int .i64 t, .int .i64 p] 31)).alloc (.cells #[.slice none 0 0, .slice none 0 0, .int .i64 0, .int .i64 0] 31) := ⟨_, rfl⟩
  have hz : W0.heap.size = w.heap.size + 2 := by rw [hW0]; simp
  have T : Four W0 w.heap.size (.slice a len cap) (.slice a' len' cap') t p := by rw [hW0]; exact (four_new _ _ _ _ _ _).alloc _
  have P : Quad W0 (w.heap.size + 1) (.slice none 0 0) (.slice none 0 0) 0 0 := by
    rw [hW0]
    have := quad_new (w.alloc (.cells #[.slice a len cap, .slice a' len' cap', .int .i64 t, .int .i64 p] 31)) (.slice none 0 0) (.slice none 0 0) 0 0
    simpa using this
  have C : Below w.heap.size w W0 := by rw [hW0]; exact (below_new _ _).alloc (by simp) _
  have HI : Hid (Ints w a len xs ∧ Ints w a' len' ys) := ⟨I, J⟩
  clear I J
  go_enter Try.func52, Try.ntmps52
  go_wp2_with fail
  rw [← hW0]
  clear hW0
  have t0 := T.c0
  have t1 := T.c1
  have t2 := T.c2
  have t3 := T.c3
  go_region_held3 (fun w' => w'.cell? ⟨w.heap.size, 0, none⟩ = some (.slice a len cap) ∧ w'.cell? ⟨w.heap.size, 1, none⟩ = some (.slice a' len' cap') ∧ w'.cell? ⟨w.heap.size, 2, none⟩ = some (.int .i64 t) ∧ w'.cell? ⟨w.heap.size, 3, none⟩ = some (.int .i64 p)) (go_keep)
    (first | (go_at_call_of 56 (Value.slice a len cap); refine (copy_any a len cap xs _ ?_ hs).mono ?_; (first | (exact HI.out.1.kept C) | (exact HI.out.1.kept C.drew)); rintro e u1 ⟨g1, c1, rfl, R1, hg1, B1⟩; have T : Four u1 w.heap.size (.slice a len cap) (.slice a' len' cap') t p := (by first | (exact Four.all T B1) | (exact Four.all (w := W0.drew) T.drew B1)); have P : Quad u1 (w.heap.size + 1) (.slice none 0 0) (.slice none 0 0) 0 0 := (by first | (exact Quad.all P B1) | (exact Quad.all (w := W0.drew) P B1)); have C : Below w.heap.size w u1 := (by first | (exact below_call C C.size B1) | (exact below_call C.drew C.drew.size B1)); have t0 := T.c0; have t1 := T.c1; have t2 := T.c2; have t3 := T.c3; have p0 := P.c0; have p1 := P.c1; have p2 := P.c2; have p3 := P.c3; have f0 := P.fr 0; have f1 := P.fr 1; have f2 := P.fr 2; have f3 := P.fr 3; have m1 := T.lt; have m2 : ¬ w.heap.size = w.heap.size + 1 := Nat.ne_of_lt (Nat.lt_succ_self _)) | (go_at_call_of 56 (Value.slice a' len' cap'); refine (copy_any a' len' cap' ys _ ?_ hs').mono ?_; (first | (exact HI.out.2.kept C) | (exact HI.out.2.kept C.drew)); rintro e u2 ⟨g2, c2, rfl, R2, hg2, B2⟩; have T : Four u2 w.heap.size (.slice a len cap) (.slice a' len' cap') t p := (by first | (exact Four.all T B2) | (exact Four.all (w := W0.drew) T.drew B2)); have P : Quad u2 (w.heap.size + 1) (.slice none 0 0) (.slice none 0 0) 0 0 := (by first | (exact Quad.all P B2) | (exact Quad.all (w := W0.drew) P B2)); have C : Below w.heap.size w u2 := (by first | (exact below_call C C.size B2) | (exact below_call C.drew C.drew.size B2)); have t0 := T.c0; have t1 := T.c1; have t2 := T.c2; have t3 := T.c3; have p0 := P.c0; have p1 := P.c1; have p2 := P.c2; have p3 := P.c3; have f0 := P.fr 0; have f1 := P.fr 1; have f2 := P.fr 2; have f3 := P.fr 3; have m1 := T.lt; have m2 : ¬ w.heap.size = w.heap.size + 1 := Nat.ne_of_lt (Nat.lt_succ_self _)))
  have l1 := R1.lt
  have l0 := B1.size
  have h1 : W0.heap.size ≤ g1 := hg1
  have H : Hid (Row u2 g1 c1 xs ∧ Row u2 g2 c2 ys ∧ Quad u2 (w.heap.size + 1) (.slice none 0 0) (.slice none 0 0) 0 0 ∧ Below w.heap.size w u2) := ⟨R1.all B2, R2, P, C⟩
  clear hg1 l0 R1 R2 B1 B2 t0 t1 t2 t3 T P C
  go_wp2_with fail
  refine bodyPost_ret (ret_quad rfl rfl ((((H.out.2.2.1.set0 _).set1 _).set2 _).set3 _)) rfl ⟨_, _, _, _, rfl, ?_, ?_, ?_, ?_, ?_, ?_⟩
  · exact H.out.1.sets4 (by omega) _ _ _ _
  · exact H.out.2.1.sets4 (by omega) _ _ _ _
  · omega
  · omega
  · omega
  · exact below_sets4 H.out.2.2.2 (by omega) _ _ _ _

theorem specBy_order (a : Option Addr) (len cap : Nat) (ws : List Int) (w : World) (I : Ints w a len ws) (hc : crewOk ws = true) :
    Calls Try.prog 53 #[.slice a len cap] w fun e w' => ∃ g cp, e = .returned (.slice (some ⟨g, 0, none⟩) len cp) ∧ Row w' g cp (byW ws ws.length) ∧ w.heap.size ≤ g ∧ Below w.heap.size w w' := by
  have hl := I.1
  have hs : (len : Int) ≤ 1048576 := by have := crew_len hc; omega
  refine (specBy a len cap ws w I hs).mono ?_
  have e : byWeight ws = byW ws ws.length := by simp [byWeight, hc]
  rw [e, byW_length, hl]
  exact fun _ _ h => h

/-- What an append to a list of the call's own leaves. -/
theorem left_grown {w wr w1 : World} {x y : Value} {t p : Int} {g gO cO : Nat} {os : List Int} {o : Obj} (F : Four wr w.heap.size x y t p) (B : Below w.heap.size w wr) (RO : Row wr gO cO os) (hg : w.heap.size < g) (hne : g ≠ gO) (G : (wr.alloc o).drew.grownBy w1 (blk (some ⟨g, 0, none⟩))) : Four w1 w.heap.size x y t p ∧ Below w.heap.size w w1 ∧ Row w1 gO cO os := by
  refine ⟨(F.alloc o).drew.other G (by rw [blk_some]; simp; omega), ?_, (RO.alloc o).drew.other G (by rw [blk_some]; simpa using Ne.symm hne)⟩
  refine (B.alloc B.size o).drew.grown G ?_ (fun i hi => ?_)
  · have := B.size
    simp; omega
  · rw [blk_some] at hi
    have : g = i := Option.some.inj hi
    omega

set_option maxHeartbeats 2000000 in
/-- spec.LeftOf. -/
theorem specLeft (a : Option Addr) (len cap : Nat) (cs : List Int) (a' : Option Addr) (len' cap' : Nat) (hs : List Int) (t p : Int) (w : World) (I : Ints w a len cs) (J : Ints w a' len' hs) (hsz : (len : Int) ≤ 1048576) :
    Calls Try.prog 25 #[lv (.slice a len cap) (.slice a' len' cap') t p] w fun e w' => ∃ g cp, e = .returned (.slice (some ⟨g, 0, none⟩) (leftOf cs hs t p).length cp) ∧ Row w' g cp (leftOf cs hs t p) ∧ w.heap.size ≤ g ∧ Below w.heap.size w w' := by
  obtain ⟨W0, hW0⟩ : ∃ W0, W0 = (w.alloc (.cells #[.slice a len cap, .slice a' len' cap', .int .i64 t, .int .i64 p] 31)).alloc (.cells #[] 2) := ⟨_, rfl⟩
  have H0 : Hid (Four W0 w.heap.size (.slice a len cap) (.slice a' len' cap') t p ∧ Below w.heap.size w W0 ∧ Row W0 (w.heap.size + 1) 0 []) := by
    rw [hW0]
    refine ⟨(four_new _ _ _ _ _ _).alloc _, (below_new _ _).alloc (by simp) _, ?_⟩
    have := row_nil (w.alloc (.cells #[.slice a len cap, .slice a' len' cap', .int .i64 t, .int .i64 p] 31))
    simpa using this
  have HI : Hid (Ints w a len cs ∧ Ints w a' len' hs) := ⟨I, J⟩
  clear I J
  cases hk : listOk cs hs t p
  · have HK : Hid (listOk cs hs t p = false) := hk
    have e : leftOf cs hs t p = [] := by simp [leftOf, hk]
    rw [e]
    clear hk e
    go_enter Try.func25, Try.ntmps25
    go_wp2_with fail
    rw [← hW0]
    clear hW0
    refine (specListX a len cap cs a' len' cap' hs t p _ (HI.out.1.kept H0.out.2.1) (HI.out.2.kept H0.out.2.1) hsz).mono ?_
    rw [HK.out]
    rintro e w1 ⟨rfl, B1⟩
    have H1 : Hid (Below w.heap.size w w1 ∧ Row w1 (w.heap.size + 1) 0 []) := ⟨below_call H0.out.2.1 H0.out.2.1.size B1, H0.out.2.2.all B1⟩
    clear H0 B1
    go_wp2_with fail
    go_ret
    exact ⟨_, 0, rfl, H1.out.2, Nat.le_succ _, H1.out.1⟩
  · obtain ⟨n, rfl, R⟩ := right_of hk
    have e : leftOf cs hs t n = leftL cs hs := by simp [leftOf, hk]
    rw [e, leftL_length]
    have h24 := crew_len R.crew
    have hl := HI.out.1.1
    have hl' := HI.out.2.1
    have hll : len' = len := by have := R.len; simp only at this; omega
    subst hll
    have HK : Hid (listOk cs hs t (n : Int) = true ∧ Right cs ⟨hs, t, n⟩ ∧ cs.length = len' ∧ hs.length = len') := ⟨hk, R, hl, hl'⟩
    have n24 : (len' : Int) ≤ 24 := by omega
    rw [hl]
    clear hk R e h24 hl hl'
    obtain ⟨i0, hi, hz0, hz1, hz2⟩ := info_parts info_int
    go_enter Try.func25, Try.ntmps25
    go_wp2_with fail
    rw [← hW0]
    clear hW0
    refine (specListX a len' cap cs a' len' cap' hs t n _ (HI.out.1.kept H0.out.2.1) (HI.out.2.kept H0.out.2.1) hsz).mono ?_
    rw [HK.out.1]
    rintro e w1 ⟨rfl, B1⟩
    have H1 : Hid (Four w1 w.heap.size (.slice a len' cap) (.slice a' len' cap') t n ∧ Below w.heap.size w w1 ∧ Row w1 (w.heap.size + 1) 0 []) := ⟨H0.out.1.all B1, below_call H0.out.2.1 H0.out.2.1.size B1, H0.out.2.2.all B1⟩
    clear H0 B1
    have t0 := H1.out.1.c0
    go_wp2_with fail
    clear t0
    refine (specBy_order a len' cap cs _ (HI.out.1.kept H1.out.2.1) HK.out.2.1.crew).mono ?_
    rintro e w2 ⟨gO, cO, rfl, RO, hgO, B2⟩
    have hgl := H1.out.2.2.lt
    have H2 : Hid (Four w2 w.heap.size (.slice a len' cap) (.slice a' len' cap') t n ∧ Below w.heap.size w w2 ∧ Row w2 (w.heap.size + 1) 0 [] ∧ Row w2 gO cO (byW cs cs.length) ∧ w.heap.size + 1 < gO) := ⟨H1.out.1.all B2, below_call H1.out.2.1 H1.out.2.1.size B2, H1.out.2.2.all B2, RO, by omega⟩
    clear H1 B2 RO hgO hgl
    go_wp2_with fail
    go_loopw [3, 5] (fun o i wr => ∃ k g c : Nat, k ≤ len' ∧ i = .int .i64 k ∧ o = .slice (some ⟨g, 0, none⟩) k c ∧ Hid (Four wr w.heap.size (.slice a len' cap) (.slice a' len' cap') t n ∧ Below w.heap.size w wr ∧ Row wr g c ((leftL cs hs).take k) ∧ Row wr gO cO (byW cs cs.length) ∧ w.heap.size < g ∧ g ≠ gO)) (fun _ i _ => len' - (intOf i).toNat)
    case atStart => exact ⟨0, w.heap.size + 1, 0, Nat.zero_le _, rfl, rfl, H2.out.1, H2.out.2.1, H2.out.2.2.1, H2.out.2.2.2.1, Nat.lt_succ_self _, Nat.ne_of_lt H2.out.2.2.2.2⟩
    case round =>
      obtain ⟨k, g, c, hk, rfl, rfl, Q⟩ := hrel
      by_cases hlt : k < len'
      · have hkc : k < cs.length := by have := HK.out.2.2.1; omega
        obtain ⟨j, hj⟩ : ∃ j, j = ordN cs k := ⟨_, rfl⟩
        have hjc : j < cs.length := by rw [hj]; exact ordN_lt hkc
        have hjn : j < len' := by have := HK.out.2.2.1; omega
        have d0 := Q.out.2.2.2.1.cell (j := k) (by rw [byW_length]; exact hkc)
        rw [ordN_get hkc, ← hj] at d0
        obtain ⟨_, h0 | ⟨b, off, rfl, hb, hcc⟩⟩ := id HI.out.1
        · omega
        obtain ⟨_, h0 | ⟨b', off', rfl, hb', hcc'⟩⟩ := id HI.out.2
        · omega
        obtain ⟨x, hx⟩ : ∃ x, x = cs.getD j 0 := ⟨_, rfl⟩
        obtain ⟨y, hy⟩ : ∃ y, y = hs.getD j 0 := ⟨_, rfl⟩
        have z1 := hcc j hjn
        have z2 := hcc' j hjn
        rw [← hx] at z1
        rw [← hy] at z2
        have Z : Hid (w.cell? ⟨b, off + j, none⟩ = some (.int .i64 x) ∧ w.cell? ⟨b', off' + j, none⟩ = some (.int .i64 y) ∧ b < w.heap.size ∧ b' < w.heap.size) := ⟨z1, z2, hb, hb'⟩
        have c1 : wr.cell? ⟨b, off + j, none⟩ = some (.int .i64 x) := (Q.out.2.1.cell (p := ⟨b, off + j, none⟩) hb).trans z1
        have c2 : wr.cell? ⟨b', off' + j, none⟩ = some (.int .i64 y) := (Q.out.2.1.cell (p := ⟨b', off' + j, none⟩) hb').trans z2
        have bx := crew_get HK.out.2.1.crew j
        have by' := HK.out.2.1.had j hjc
        simp only at by'
        rw [← hx] at bx by'
        rw [← hy] at by'
        have t0 := Q.out.1.c0
        have t1 := Q.out.1.c1
        have hlt' : (k : Int) < (len' : Int) := by omega
        have hjn' : (j : Int) < (len' : Int) := by omega
        have hk0 : (0 : Int) ≤ (k : Int) := by omega
        have hj0 : (0 : Int) ≤ (j : Int) := by omega
        have HX : Hid (x - y = (leftL cs hs).getD k 0 ∧ k < (leftL cs hs).length ∧ ((leftL cs hs).take k).length = k ∧ k < (byW cs cs.length).length ∧ some (Value.int .i64 ((byW cs cs.length).getD k 0)) = some (.int .i64 (j : Int))) := ⟨by rw [leftL_get cs hs hkc, lef, ← hj, hx, hy], by rw [leftL_length]; exact hkc, by rw [List.length_take, leftL_length]; omega, by rw [byW_length]; exact hkc, by rw [ordN_get hkc, ← hj]⟩
        have HW : Hid (IntKind.i64.wrap (x - y) = x - y) := by
          show _ = _
          rw [IntKind.wrap_i64]
          omega
        have hgs := Q.out.2.2.1.lt
        have hws := Q.out.2.1.size
        have hwg := Q.out.2.2.2.2.1
        have d0' : Hid (wr.cell? ⟨gO, k, none⟩ = some (.int .i64 j)) := d0
        have hbs : b < wr.heap.size := by omega
        have hbs' : b' < wr.heap.size := by omega
        have hOs : gO < wr.heap.size := Q.out.2.2.2.1.lt
        have hxs : w.heap.size < wr.heap.size := Q.out.1.lt
        have hk6 : k ≤ 1000000 := by omega
        have hwd : w.heap.size ≤ (wr.alloc (.cells #[.int .i64 (IntKind.i64.wrap (x - y))] 2)).drew.heap.size := by simp; omega
        have hsd : (wr.alloc (.cells #[.int .i64 (IntKind.i64.wrap (x - y))] 2)).drew.heap.size = wr.heap.size + 1 := by simp
        have HN : Hid ((some ⟨g, 0, none⟩ : Option Addr) = none → c = 0) := fun h => by cases h
        have HD := hid hwd
        have HE := hid hsd
        clear hwd hsd
        clear hcc hcc' hx hy hj hkc hjc z1 z2
        go_wp2_with fail
        go_region_held3 (fun w' => w'.cell? ⟨w.heap.size, 0, none⟩ = some (.slice (some ⟨b, off, none⟩) len' cap) ∧ w'.cell? ⟨w.heap.size, 1, none⟩ = some (.slice (some ⟨b', off', none⟩) len' cap') ∧ w'.cell? ⟨gO, k, none⟩ = some (.int .i64 (j : Int)) ∧ w'.cell? ⟨b, off + j, none⟩ = some (.int .i64 x) ∧ w'.cell? ⟨b', off' + j, none⟩ = some (.int .i64 y)) (go_keep)
          ((refine step_append_own1 (by rfl) (.tmp 20) (.tmp 38) 27 (by rfl) i0 Try.underlying27 hi hz0 hz1 hz2 w.heap.size (some ⟨g, 0, none⟩) k c ((leftL cs hs).take k) (by rfl) (((Q.out.2.2.1.alloc _).drew).fit (Nat.le_of_lt Q.out.2.2.2.2.1) HX.out.2.2.1) HN.out ⟨wr.heap.size, 0, none⟩ 1 (IntKind.i64.wrap (x - y)) (by rfl) (ints_one wr (IntKind.i64.wrap (x - y)) _).drew hk6 HD.out (wr.heap.size + 1) HE.out ?_; intro g1 c1' w1 R1 G1 D1 O1; have L := left_grown Q.out.1 Q.out.2.1 Q.out.2.2.2.1 Q.out.2.2.2.2.1 Q.out.2.2.2.2.2 G1; have k0 := L.1.c0; have k1 := L.1.c1; have k2 := (L.2.2.cell (j := k) HX.out.2.2.2.1).trans HX.out.2.2.2.2; have k3 := (L.2.1.cell (p := ⟨b, off + j, none⟩) Z.out.2.2.1).trans Z.out.1; have k4 := (L.2.1.cell (p := ⟨b', off' + j, none⟩) Z.out.2.2.2).trans Z.out.2.1))
        have H3 : Hid (Row w1 g1 c1' ((leftL cs hs).take (k + 1)) ∧ Four w1 w.heap.size (.slice (some ⟨b, off, none⟩) len' cap) (.slice (some ⟨b', off', none⟩) len' cap') t n ∧ Below w.heap.size w w1 ∧ Row w1 gO cO (byW cs cs.length) ∧ w.heap.size < g1 ∧ g1 ≠ gO) := by
          refine ⟨?_, L.1, L.2.1, L.2.2, ?_, ?_⟩
          · rw [List.take_succ_eq_append_getElem HX.out.2.1]
            have e := HX.out.1
            simp only [List.getD, HX.out.2.1, List.getElem?_eq_getElem, Option.getD_some] at e
            rw [← e, ← HW.out]
            exact R1
          · rcases D1 with h | h
            · have : g1 = g := Option.some.inj h
              omega
            · omega
          · rcases D1 with h | h
            · have : g1 = g := Option.some.inj h
              rw [this]; exact Q.out.2.2.2.2.2
            · omega
        clear R1 G1 D1 O1 L k0 k1 k2 k3 k4
        go_wp2_with fail
        go_roundw
        case rel => exact ⟨k + 1, g1, c1', by omega, by go_num, by go_num, H3.out.2.1, H3.out.2.2.1, H3.out.1, H3.out.2.2.2.1, H3.out.2.2.2.2.1, H3.out.2.2.2.2.2⟩
        case measure => simp [intOf]; omega
      · have hlt' : ¬ (k : Int) < (len' : Int) := by omega
        have e : k = len' := by omega
        subst e
        go_wp2_with fail
        go_ret
        have h := Q.out.2.2.1
        rw [List.take_of_length_le (by rw [leftL_length, HK.out.2.2.1]; exact Nat.le_refl _)] at h
        exact ⟨_, _, rfl, h, Nat.le_of_lt Q.out.2.2.2.2.1, Q.out.2.1⟩

end Go.Proofs.Ytlicjbnagapdeaa.Crew
