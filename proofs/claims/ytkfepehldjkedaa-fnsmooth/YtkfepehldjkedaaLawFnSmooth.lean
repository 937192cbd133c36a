/-
  The law FnSmooth: whatever the bytes, it answers true and nothing that was there is written.
-/
import Derived.Test.YtkfepehldjkedaaLawFnSmoothRun
import Derived.Test.YtkfepehldjkedaaHands
import Derived.Test.YtkfepehldjkedaaTallied
import Derived.Test.YtkfepehldjkedaaLagLags
namespace Go.Proofs.Ytkfepehldjkedaa.Crew
open Go.ChangeShapes Go.WideShapes Go.ChangeAt Go.RowKit
open Go.Proofs.Ytkfepehldjkedaa.Draw

theorem cur_all {k : IntKind} {T : TypeId} {p : Nat} {a : Option Addr} {len cap : Nat} {w w' : World} (C : Cur k T p a len cap w) (B : Below w.heap.size w w') : Cur k T p a len cap w' := C.other (grown_all B) (by simp) (by simp)

/-- What is behind the first run. -/
theorem fair_run {xs : List Int} {N : Nat} (hc : crewOk xs = true) (h420 : sumI xs ≤ 420) (hN : sumI xs = (N : Int)) :
    runC xs (zerosOf xs) (N : Int) = xs ∧ runR xs (zerosOf xs) (N : Int) = zerosOf xs ∧ runL xs (zerosOf xs) (N : Int) = takenTo xs (zerosOf xs) N ∧ tally xs.length (takenTo xs (zerosOf xs) N) = xs ∧ smoothOk xs (zerosOf xs) = true := by
  have eN : (sumI xs).toNat = N := by omega
  have hk : runOk xs (zerosOf xs) (N : Int) = true := by
    rw [runOk, Int.toNat_natCast, fair_okTo hc (by omega), Bool.and_true]
    simp [within]; omega
  have fe := fair_end hc
  rw [eN] at fe
  exact ⟨(run_yes hk).1, by rw [(run_yes hk).2.1, Int.toNat_natCast]; exact fe.2, by rw [(run_yes hk).2.2, Int.toNat_natCast], fe.1, fair_okTo hc (by omega) 0⟩

theorem va_drew {w : World} {k : Nat} {a : Option Addr} {la ca : Nat} {xs : List Int} {b : Option Addr} {lb cb : Nat} {ys : List Int} (h : Va w k a la ca xs b lb cb ys) : Va w.drew k a la ca xs b lb cb ys := h.all ((Below.refl _ _).drew)

set_option maxHeartbeats 2000000 in
theorem lawFnSmooth (a : Option Addr) (len cap : Nat) (w : World) (B : Bytes w a len) :
    Calls Try.prog 3 #[.slice a len cap] w fun e w' => e = .returned (.bool true) ∧ Below w.heap.size w w' := by
  have HB : Hid (Bytes w a len) := B
  clear B
  by_cases hbig : (4096 : Int) < (len : Int)
  · go_enter Try.func3, Try.ntmps3
    go_wp2_with fail
    refine (big_any a len cap _).mono ?_
    rw [decide_eq_true hbig]
    rintro e w1 ⟨rfl, rfl⟩
    go_wp2_with fail
    go_ret
    exact ⟨rfl, Below.refl _ _⟩
  · have ht : len ≤ 9223372036854775806 := by omega
    have HBG : Hid (decide ((4096 : Int) < (len : Int)) = false) := decide_eq_false hbig
    clear hbig
    go_enter Try.func3, Try.ntmps3
    go_wp2_with fail
    refine (big_any a len cap _).mono ?_
    rw [HBG.out]
    rintro e w1 ⟨rfl, rfl⟩
    go_wp2_with fail
    refine (roll_any a len cap 4 _ HB.out ht).mono ?_
    rintro e w2 ⟨rfl, h, L2⟩
    have C2 := L2.cur (cur_new HB.out ht h)
    have B2 := new_below L2
    have p2 := C2.lt
    have H2 : Hid (Cur .u64 57 w1.heap.size a len cap w2 ∧ Below w1.heap.size w1 w2) := ⟨C2, B2⟩
    clear L2 C2 B2
    go_wp2_with fail
    refine (hands_any _ _ a len cap _ H2.out.1).mono ?_
    rintro e w3 ⟨g, cp, xs, rfl, O3, n1, n7, wt⟩
    obtain ⟨hcr, h420⟩ := hands_crew wt n1 n7
    have hT := crew_sum hcr
    obtain ⟨N, hN⟩ : ∃ N : Nat, sumI xs = (N : Int) := ⟨(sumI xs).toNat, by omega⟩
    obtain ⟨n, hn⟩ : ∃ n, n = xs.length := ⟨_, rfl⟩
    rw [← hn]
    have gb := O3.base
    have FR := fair_run hcr h420 hN
    have HX : Hid (crewOk xs = true ∧ xs.length = n ∧ sumI xs = (N : Int) ∧ newC xs = xs ∧ newR xs = zerosOf xs ∧ totalOf xs = (N : Int)) := ⟨hcr, hn.symm, hN, newC_yes hcr, newR_yes hcr, by rw [totalOf, if_pos hcr, hN]⟩
    have HF : Hid (runC xs (zerosOf xs) (N : Int) = xs ∧ runR xs (zerosOf xs) (N : Int) = zerosOf xs ∧ runL xs (zerosOf xs) (N : Int) = takenTo xs (zerosOf xs) N ∧ tally xs.length (takenTo xs (zerosOf xs) N) = xs ∧ smoothOk xs (zerosOf xs) = true) := FR
    have H3 : Hid (Cur .u64 57 w1.heap.size a len cap w3 ∧ Below w1.heap.size w1 w3 ∧ Row w3 g cp xs ∧ Ints w3 (some ⟨g, 0, none⟩) n xs) := ⟨O3.left.cur H2.out.1, H2.out.2.trans (left_below O3.left (Nat.le_refl _) p2), O3.row, by rw [hn]; exact O3.row.ints⟩
    have hN1 : (1 : Int) ≤ (N : Int) := by omega
    have hN2 : (N : Int) ≤ 420 := by omega
    have hn7 : (n : Int) ≤ 7 := by omega
    have hgp : w1.heap.size < g := by omega
    clear O3 H2 FR hcr h420 hT hN hn wt n1 n7 gb
    go_wp2_with fail
    refine (specTotal _ n cp xs _ H3.out.2.2.2 (by omega)).mono ?_
    rw [HX.out.2.2.2.2.2]
    rintro e w3' ⟨rfl, rfl⟩
    go_wp2_with fail
    refine (implNew _ n cp xs _ H3.out.2.2.2).mono ?_
    rw [HX.out.2.2.2.1, HX.out.2.2.2.2.1]
    rintro e w4 ⟨b, lb, cb, d, ld, cd, rfl, Fb, Fd, _, B4⟩
    have hlb : (lb : Int) ≤ 24 := by have := Fb.1; have := HX.out.2.1; omega
    have hld : (ld : Int) ≤ 24 := by have h2 := Fd.1; have := HX.out.2.1; simp [zerosOf] at h2; omega
    have H4 : Hid (Cur .u64 57 w1.heap.size a len cap (w4.alloc (.cells #[.slice b lb cb, .slice d ld cd] 31)) ∧ Below w1.heap.size w1 (w4.alloc (.cells #[.slice b lb cb, .slice d ld cd] 31)) ∧ Row (w4.alloc (.cells #[.slice b lb cb, .slice d ld cd] 31)) g cp xs ∧ Va (w4.alloc (.cells #[.slice b lb cb, .slice d ld cd] 31)) w4.heap.size b lb cb xs d ld cd (zerosOf xs)) :=
      ⟨cur_all (cur_all H3.out.1 B4) (below_new _ _), below_call (below_call H3.out.2.1 H3.out.2.1.size B4) (by have := H3.out.2.1.size; have := B4.size; omega) (below_new _ _), (H3.out.2.2.1.all B4).alloc _, va_new Fb.ints Fd.ints⟩
    clear Fb Fd B4 H3
    go_wp2_with fail
    generalize w4.alloc (.cells #[.slice b lb cb, .slice d ld cd] 31) = W4 at *
    generalize w4.heap.size = bx at *
    refine (implRun b lb cb xs d ld cd (zerosOf xs) (N : Int) _ H4.out.2.2.2.one H4.out.2.2.2.two).mono ?_
    unfold RunPost
    rw [HF.out.1, HF.out.2.1, HF.out.2.2.1]
    rintro e w5 ⟨yb, my, ky, yd, ny, oy, yl, ly, cy, rfl, Fb, Fd, Fl, _, _, _, B5⟩
    have hly : ly = N := by have := Fl.1; rw [taken_length] at this; omega
    subst hly
    obtain ⟨gl, hgl⟩ : ∃ gl, yl = some ⟨gl, 0, none⟩ := by
      rcases Fl.2 with ⟨h, _⟩ | ⟨g', h, _⟩
      · omega
      · exact ⟨g', h⟩
    subst hgl
    have Rl : Row w5 gl cy (takenTo xs (zerosOf xs) ly) := by
      rcases Fl.2 with ⟨h, _⟩ | ⟨g', h, _, R⟩
      · omega
      · cases h; exact R
    have hgl0 := (Fl.ge rfl).1
    simp only at hgl0
    have l4 := H4.out.1.lt
    have hcy : ly ≤ cy := by obtain ⟨_, _, h, _⟩ := Rl; rw [taken_length] at h; exact h
    have my24 : (my : Int) ≤ 24 := by have := Fb.1; have := HX.out.2.1; omega
    have ny24 : (ny : Int) ≤ 24 := by have h2 := Fd.1; have := HX.out.2.1; simp [zerosOf] at h2; omega
    have H5 : Hid (Cur .u64 57 w1.heap.size a len cap (w5.alloc (.cells #[.slice yb my ky, .slice yd ny oy] 31)) ∧ Below w1.heap.size w1 (w5.alloc (.cells #[.slice yb my ky, .slice yd ny oy] 31)) ∧ Row (w5.alloc (.cells #[.slice yb my ky, .slice yd ny oy] 31)) g cp xs ∧ Va (w5.alloc (.cells #[.slice yb my ky, .slice yd ny oy] 31)) bx b lb cb xs d ld cd (zerosOf xs) ∧ Va (w5.alloc (.cells #[.slice yb my ky, .slice yd ny oy] 31)) w5.heap.size yb my ky xs yd ny oy (zerosOf xs) ∧ Row (w5.alloc (.cells #[.slice yb my ky, .slice yd ny oy] 31)) gl cy (takenTo xs (zerosOf xs) ly)) :=
      ⟨cur_all (cur_all H4.out.1 B5) (below_new _ _), below_call (below_call H4.out.2.1 H4.out.2.1.size B5) (by have := H4.out.2.1.size; have := B5.size; omega) (below_new _ _), (H4.out.2.2.1.all B5).alloc _, (H4.out.2.2.2.all B5).all (below_new _ _), va_new Fb.ints Fd.ints, Rl.alloc _⟩
    clear Fb Fd Fl B5 H4 Rl
    go_wp2_with fail
    generalize w5.alloc (.cells #[.slice yb my ky, .slice yd ny oy] 31) = W5 at *
    generalize w5.heap.size = by' at *
    refine (tallied_any _ ly cy n (takenTo xs (zerosOf xs) ly) _ (by have := H5.out.2.2.2.2.2.ints; rwa [taken_length] at this) (by omega) (by omega)).mono ?_
    rintro e w6 ⟨rfl, R6, B6⟩
    have H6 : Hid (Cur .u64 57 w1.heap.size a len cap w6 ∧ Below w1.heap.size w1 w6 ∧ Row w6 g cp xs ∧ Va w6 bx b lb cb xs d ld cd (zerosOf xs) ∧ Va w6 by' yb my ky xs yd ny oy (zerosOf xs) ∧ Row w6 gl cy (takenTo xs (zerosOf xs) ly) ∧ Ints w6 (some ⟨W5.heap.size, 0, none⟩) n xs ∧ Ints w6 (some ⟨g, 0, none⟩) n xs) := by
      have e1 := HF.out.2.2.2.1
      rw [HX.out.2.1] at e1
      rw [e1] at R6
      refine ⟨cur_all H5.out.1 B6, below_call H5.out.2.1 H5.out.2.1.size B6, H5.out.2.2.1.all B6, H5.out.2.2.2.1.all B6, H5.out.2.2.2.2.1.all B6, H5.out.2.2.2.2.2.all B6, ?_, ?_⟩
      · have := R6.ints; rwa [HX.out.2.1] at this
      · have := (H5.out.2.2.1.all B6).ints; rwa [HX.out.2.1] at this
    clear R6 B6 H5
    generalize W5.heap.size = gt at *
    go_wp2_with fail
    refine (likeInts_same _ n n xs _ n cp _ H6.out.2.2.2.2.2.2.1 H6.out.2.2.2.2.2.2.2 (by omega)).mono ?_
    rintro e w7 ⟨rfl, B7⟩
    have H7 : Hid (Cur .u64 57 w1.heap.size a len cap w7 ∧ Below w1.heap.size w1 w7 ∧ Row w7 g cp xs ∧ Va w7 bx b lb cb xs d ld cd (zerosOf xs) ∧ Va w7 by' yb my ky xs yd ny oy (zerosOf xs) ∧ Row w7 gl cy (takenTo xs (zerosOf xs) ly)) := ⟨cur_all H6.out.1 B7, below_call H6.out.2.1 H6.out.2.1.size B7, H6.out.2.2.1.all B7, H6.out.2.2.2.1.all B7, H6.out.2.2.2.2.1.all B7, H6.out.2.2.2.2.2.1.all B7⟩
    clear B7 H6
    have q0 := H7.out.2.2.2.1.pair.c0
    have q1 := H7.out.2.2.2.1.pair.c1
    have r0 := H7.out.2.2.2.2.1.pair.c0
    have r1 := H7.out.2.2.2.2.1.pair.c1
    go_wp2_with fail
    clear q0 q1 r0 r1
    refine (likeSmooth_same yb my ky yd ny oy b lb cb d ld cd xs (zerosOf xs) _ H7.out.2.2.2.2.1.one H7.out.2.2.2.2.1.two H7.out.2.2.2.1.one H7.out.2.2.2.1.two (by omega) (by omega)).mono ?_
    rintro e w8 ⟨rfl, B8⟩
    have H8 : Hid (Cur .u64 57 w1.heap.size a len cap w8 ∧ Below w1.heap.size w1 w8 ∧ Row w8 g cp xs ∧ Va w8 by' yb my ky xs yd ny oy (zerosOf xs) ∧ Row w8 gl cy (takenTo xs (zerosOf xs) ly)) := ⟨cur_all H7.out.1 B8, below_call H7.out.2.1 H7.out.2.1.size B8, H7.out.2.2.1.all B8, H7.out.2.2.2.2.1.all B8, H7.out.2.2.2.2.2.all B8⟩
    clear B8 H7
    have r0 := H8.out.2.2.2.1.pair.c0
    have r1 := H8.out.2.2.2.1.pair.c1
    go_wp2_with fail
    clear r0 r1
    refine (implSmooth yb my ky xs yd ny oy (zerosOf xs) _ H8.out.2.2.2.1.one H8.out.2.2.2.1.two).mono ?_
    rw [HF.out.2.2.2.2]
    rintro e w9 ⟨rfl, B9⟩
    have H9 : Hid (Cur .u64 57 w1.heap.size a len cap w9 ∧ Below w1.heap.size w1 w9 ∧ Row w9 g cp xs ∧ Row w9 gl cy (takenTo xs (zerosOf xs) ly)) := ⟨cur_all H8.out.1 B9, below_call H8.out.2.1 H8.out.2.1.size B9, H8.out.2.2.1.all B9, H8.out.2.2.2.2.all B9⟩
    clear B9 H8
    have hll : ((ly : Int) != (ly : Int)) = false := by simp
    go_wp2_with fail
    refine (dice_any _ _ a len cap _ _ H9.out.1 (by omega)).mono ?_
    rintro e w10 ⟨k, rfl, k0, k1, _, L10⟩
    obtain ⟨K, rfl⟩ := Int.eq_ofNat_of_zero_le k0
    have p9 := H9.out.1.lt
    have H10 : Hid (Below w1.heap.size w1 w10 ∧ Row w10 g cp xs ∧ Row w10 gl cy (takenTo xs (zerosOf xs) ly)) := ⟨H9.out.2.1.trans (left_below L10 (Nat.le_refl _) p9), H9.out.2.2.1.other L10.1 (by simp; omega), H9.out.2.2.2.other L10.1 (by simp; omega)⟩
    clear L10 H9 p9
    have hK1 : (0 : Int) ≤ (K : Int) := by omega
    have hK2 : (K : Int) ≤ (cy : Int) := by omega
    have hKN : K ≤ ly := by omega
    go_wp2_with fail
    refine (tallied_any _ K cy n (takenTo xs (zerosOf xs) K) _ (by have h := (H10.out.2.2.cut K).ints; rw [taken_take xs (zerosOf xs) hKN, taken_length] at h; exact h) (by omega) (by omega)).mono ?_
    rintro e w11 ⟨rfl, R11, B11⟩
    have H11 : Hid (Below w1.heap.size w1 w11 ∧ Ints w11 (some ⟨g, 0, none⟩) n xs ∧ Ints w11 (some ⟨w10.heap.size, 0, none⟩) n (tally n (takenTo xs (zerosOf xs) K))) := by
      refine ⟨below_call H10.out.1 H10.out.1.size B11, ?_, ?_⟩
      · have := (H10.out.2.1.all B11).ints; rwa [HX.out.2.1] at this
      · have := R11.ints; rwa [tally_length] at this
    clear R11 B11 H10
    generalize w10.heap.size = gc at *
    have HL : Hid (∀ i, i < n → -(ly : Int) < lagOf xs (tally n (takenTo xs (zerosOf xs) K)) (i : Int)) := by
      intro i hi
      have h := (fair_lag HX.out.1 (k := K) (by omega) (i := i) (by rw [HX.out.2.1]; exact hi)).2
      rw [HX.out.2.1, HX.out.2.2.1] at h
      exact h
    have hng : wrap64 (-(ly : Int)) = -(ly : Int) := by
      unfold wrap64
      omega
    go_wp2_with fail
    go_loopw [12, 13, 14] (fun i _ _ wr => ∃ j : Nat, j ≤ n ∧ i = .int .i64 (j : Int) ∧ Hid (Below w1.heap.size w1 wr ∧ Ints wr (some ⟨g, 0, none⟩) n xs ∧ Ints wr (some ⟨gc, 0, none⟩) n (tally n (takenTo xs (zerosOf xs) K)))) (fun i _ _ _ => n - (intOf i).toNat)
    case atStart => exact ⟨0, Nat.zero_le _, rfl, H11⟩
    case round =>
      obtain ⟨j, hj, rfl, L⟩ := hrel
      by_cases hlt : j < n
      · have hlt' : (j : Int) < (n : Int) := by omega
        have hlag := HL.out j hlt
        obtain ⟨lg, hlg⟩ : ∃ lg, lg = lagOf xs (tally n (takenTo xs (zerosOf xs) K)) (j : Int) := ⟨_, rfl⟩
        rw [← hlg] at hlag
        go_wp2_with fail
        refine (specLagOf _ n cp xs _ n n (tally n (takenTo xs (zerosOf xs) K)) (j : Int) _ L.out.2.1 L.out.2.2 (by omega)).mono ?_
        rw [← hlg]
        clear hlg
        rintro e w12 ⟨rfl, B12⟩
        have L2 : Hid (Below w1.heap.size w1 w12 ∧ Ints w12 (some ⟨g, 0, none⟩) n xs ∧ Ints w12 (some ⟨gc, 0, none⟩) n (tally n (takenTo xs (zerosOf xs) K))) := ⟨below_call L.out.1 L.out.1.size B12, L.out.2.1.kept B12, L.out.2.2.kept B12⟩
        clear B12
        have hle : ¬ lg ≤ -(ly : Int) := by omega
        have hld2 : decide (lg ≤ -(ly : Int)) = false := by simpa using hle
        go_wp2_with fail
        go_roundw
        case rel => exact ⟨j + 1, by omega, by go_num, L2⟩
        case measure => simp [intOf]; omega
      · have hlt' : ¬ (j : Int) < (n : Int) := by omega
        go_wp2_with fail
        refine (drawSmoothNext_any a len cap _ (HB.out.grown L.out.1) ht).mono ?_
        rintro e w13 ⟨ub, mu, ku, ud, nu, ou, X, Y, rfl, Fb, Fd, hmu, hnu, B13⟩
        have H13 : Hid (Below w1.heap.size w1 (w13.alloc (.cells #[.slice ub mu ku, .slice ud nu ou] 31)) ∧ Va (w13.alloc (.cells #[.slice ub mu ku, .slice ud nu ou] 31)) w13.heap.size ub mu ku X ud nu ou Y) := ⟨below_call (below_call L.out.1 L.out.1.size B13) (by have := L.out.1.size; have := B13.size; omega) (below_new _ _), va_new Fb.ints Fd.ints⟩
        clear Fb Fd B13 L H11
        go_wp2_with fail
        generalize w13.alloc (.cells #[.slice ub mu ku, .slice ud nu ou] 31) = W13 at *
        generalize w13.heap.size = bu at *
        obtain ⟨C, hC⟩ : ∃ C, C = nextC X Y := ⟨_, rfl⟩
        obtain ⟨R, hR⟩ : ∃ R, R = nextR X Y := ⟨_, rfl⟩
        obtain ⟨t, ht'⟩ : ∃ t, t = nextK X Y := ⟨_, rfl⟩
        obtain ⟨q, hq⟩ : ∃ q, q = smoothOk X Y := ⟨_, rfl⟩
        have hc24 := nextC_len X Y
        have hr24 := nextR_len X Y
        rw [← hC] at hc24
        rw [← hR] at hr24
        have HC : Hid (C = nextC X Y ∧ R = nextR X Y ∧ t = nextK X Y ∧ q = smoothOk X Y) := ⟨hC, hR, ht', hq⟩
        clear hC hR ht' hq
        refine (implNext ub mu ku X ud nu ou Y _ H13.out.2.one H13.out.2.two).mono ?_
        rw [← HC.out.1, ← HC.out.2.1, ← HC.out.2.2.1]
        rintro e w14 ⟨vb, mv, kv, vd, nv, ov, rfl, Fb, Fd, _, B14⟩
        have hmv : (mv : Int) ≤ 24 := by have := Fb.1; omega
        have hnv : (nv : Int) ≤ 24 := by have := Fd.1; omega
        have H14 : Hid (Below w1.heap.size w1 (w14.alloc (.cells #[.slice vb mv kv, .slice vd nv ov] 31)) ∧ Va (w14.alloc (.cells #[.slice vb mv kv, .slice vd nv ov] 31)) bu ub mu ku X ud nu ou Y ∧ Va (w14.alloc (.cells #[.slice vb mv kv, .slice vd nv ov] 31)) w14.heap.size vb mv kv C vd nv ov R) := ⟨below_call (below_call H13.out.1 H13.out.1.size B14) (by have := H13.out.1.size; have := B14.size; omega) (below_new _ _), (H13.out.2.all B14).all (below_new _ _), va_new Fb.ints Fd.ints⟩
        clear Fb Fd B14 H13
        have q0 := H14.out.2.1.pair.c0
        have q1 := H14.out.2.1.pair.c1
        go_wp2_with fail
        clear q0 q1
        generalize w14.alloc (.cells #[.slice vb mv kv, .slice vd nv ov] 31) = W14 at *
        generalize w14.heap.size = bv at *
        refine (specNext ub mu ku X ud nu ou Y _ H14.out.2.1.one H14.out.2.1.two (by omega)).mono ?_
        rw [← HC.out.1, ← HC.out.2.1, ← HC.out.2.2.1]
        rintro e w15 ⟨zb, mz, kz, zd, nz, oz, rfl, Fb, Fd, _, B15⟩
        have H15 : Hid (Below w1.heap.size w1 (w15.alloc (.cells #[.slice zb mz kz, .slice zd nz oz] 31)) ∧ Va (w15.alloc (.cells #[.slice zb mz kz, .slice zd nz oz] 31)) bu ub mu ku X ud nu ou Y ∧ Va (w15.alloc (.cells #[.slice zb mz kz, .slice zd nz oz] 31)) bv vb mv kv C vd nv ov R ∧ Va (w15.alloc (.cells #[.slice zb mz kz, .slice zd nz oz] 31)) w15.heap.size zb mz kz C zd nz oz R) := ⟨below_call (below_call H14.out.1 H14.out.1.size B15) (by have := H14.out.1.size; have := B15.size; omega) (below_new _ _), (H14.out.2.1.all B15).all (below_new _ _), (H14.out.2.2.all B15).all (below_new _ _), va_new Fb.ints Fd.ints⟩
        clear Fb Fd B15 H14
        have htt : (t == t) = true := by simp
        go_upto_region 21 with fail
        generalize w15.alloc (.cells #[.slice zb mz kz, .slice zd nz oz] 31) = W15 at *
        generalize w15.heap.size = bz at *
        have q0 := H15.out.2.1.pair.c0
        have q1 := H15.out.2.1.pair.c1
        have q2 := H15.out.2.2.1.pair.c0
        have q3 := H15.out.2.2.1.pair.c1
        have q4 := H15.out.2.2.2.pair.c0
        have q5 := H15.out.2.2.2.pair.c1
        go_region_held3 (fun w' => w'.cell? ⟨bu, 0, none⟩ = some (.slice ub mu ku) ∧ w'.cell? ⟨bu, 1, none⟩ = some (.slice ud nu ou) ∧ w'.cell? ⟨bv, 0, none⟩ = some (.slice vb mv kv) ∧ w'.cell? ⟨bv, 1, none⟩ = some (.slice vd nv ov) ∧ w'.cell? ⟨bz, 0, none⟩ = some (.slice zb mz kz) ∧ w'.cell? ⟨bz, 1, none⟩ = some (.slice zd nz oz)) (go_keep) (first | (go_at_call 17; refine (likeSmooth_same vb mv kv vd nv ov zb mz kz zd nz oz C R _ H15.out.2.2.1.one.drew H15.out.2.2.1.two.drew H15.out.2.2.2.one.drew H15.out.2.2.2.two.drew (by omega) (by omega)).mono ?_; rintro e w16 ⟨rfl, B16⟩; have H16 : Hid (Below w1.heap.size w1 w16 ∧ Va w16 bu ub mu ku X ud nu ou Y ∧ Va w16 bv vb mv kv C vd nv ov R ∧ Va w16 bz zb mz kz C zd nz oz R) := ⟨below_call (w1 := W15.drew) H15.out.1.drew H15.out.1.drew.size B16, Va.all (va_drew H15.out.2.1) B16, Va.all (va_drew H15.out.2.2.1) B16, Va.all (va_drew H15.out.2.2.2) B16⟩; have q0 := H16.out.2.1.pair.c0; have q1 := H16.out.2.1.pair.c1; have q2 := H16.out.2.2.1.pair.c0; have q3 := H16.out.2.2.1.pair.c1; have q4 := H16.out.2.2.2.pair.c0; have q5 := H16.out.2.2.2.pair.c1; clear B16) | (go_at_call 18; refine (implSmooth ub mu ku X ud nu ou Y _ H16.out.2.1.one H16.out.2.1.two).mono ?_; rw [← HC.out.2.2.2]; rintro e w17 ⟨rfl, B17⟩; have H17 : Hid (Below w1.heap.size w1 w17 ∧ Va w17 bu ub mu ku X ud nu ou Y ∧ Va w17 bv vb mv kv C vd nv ov R ∧ Va w17 bz zb mz kz C zd nz oz R) := ⟨below_call H16.out.1 H16.out.1.size B17, H16.out.2.1.all B17, H16.out.2.2.1.all B17, H16.out.2.2.2.all B17⟩; have q0 := H17.out.2.1.pair.c0; have q1 := H17.out.2.1.pair.c1; have q2 := H17.out.2.2.1.pair.c0; have q3 := H17.out.2.2.1.pair.c1; have q4 := H17.out.2.2.2.pair.c0; have q5 := H17.out.2.2.2.pair.c1; clear B17) | (go_at_call 24; refine (specSmooth ub mu ku X ud nu ou Y _ H17.out.2.1.one H17.out.2.1.two (by omega)).mono ?_; rw [← HC.out.2.2.2]; rintro e w18 ⟨rfl, B18⟩; have H18 : Hid (Below w1.heap.size w1 w18 ∧ Va w18 bu ub mu ku X ud nu ou Y ∧ Va w18 bv vb mv kv C vd nv ov R ∧ Va w18 bz zb mz kz C zd nz oz R) := ⟨below_call H17.out.1 H17.out.1.size B18, H17.out.2.1.all B18, H17.out.2.2.1.all B18, H17.out.2.2.2.all B18⟩; have q0 := H18.out.2.1.pair.c0; have q1 := H18.out.2.1.pair.c1; have q2 := H18.out.2.2.1.pair.c0; have q3 := H18.out.2.2.1.pair.c1; have q4 := H18.out.2.2.2.pair.c0; have q5 := H18.out.2.2.2.pair.c1; clear B18))
        all_goals
          go_wp2_with fail
          go_ret
          exact ⟨rfl, H18.out.1⟩

end Go.Proofs.Ytkfepehldjkedaa.Crew
