/-
  The law FnStride: whatever the bytes, it answers true and nothing that was there is written.
-/
import Derived.Test.YtdneohbgdhoigaaStrideRunI
import Derived.Test.YtdneohbgdhoigaaDrawStride
import Derived.Test.YtdneohbgdhoigaaHands
import Derived.Test.YtdneohbgdhoigaaTallied
import Derived.Test.YtdneohbgdhoigaaLikeInts
namespace Go.Proofs.Ytdneohbgdhoigaa.Crew
open Go.ChangeShapes Go.WideShapes Go.ChangeAt Go.RowKit
open Go.Proofs.Ytdneohbgdhoigaa.Draw

/-- Who it was, counted, are the counts. -/
theorem tally_who {cs : List Int} (hc : crewOk cs = true) (k : Nat) : tally cs.length (whoTo cs (zerosOf cs) k) = countsAt cs (zerosOf cs) k := by
  induction k with
  | zero => rfl
  | succ k ih =>
    rw [whoTo_succ, tally_snoc, ih, countsAt_succ, turnL, tally1]
    have := last_in hc (countsAt cs (zerosOf cs) k)
    rw [if_pos (by omega), Int.toNat_natCast]

theorem stride_zero {xs : List Int} (hc : crewOk xs = true) {K : Nat} (hK : (K : Int) ≤ 420) : strideOk xs (zerosOf xs) (K : Int) = true ∧ strideC xs (zerosOf xs) (K : Int) = countsAt xs (zerosOf xs) K ∧ strideL xs (zerosOf xs) (K : Int) = whoTo xs (zerosOf xs) K := by
  have hk : strideOk xs (zerosOf xs) (K : Int) = true := by
    have e1 : within (K : Int) 0 3000 = true := by simp [within]; omega
    have e2 : decide (sumI (zerosOf xs) + (K : Int) ≤ 1000000) = true := by rw [zerosOf, sum_zeros]; simp; omega
    rw [strideOk, zero_ok hc, e1, e2]; rfl
  have h := stride_yes hk
  rw [Int.toNat_natCast] at h
  exact ⟨hk, h⟩

/-- Nobody is further by more than a turn of its own. -/
theorem even_less {xs : List Int} (hc : crewOk xs = true) (K : Nat) {i k : Nat} (hi : i < xs.length) (hk : k < xs.length) :
    Ratio.fracLess ((countsAt xs (zerosOf xs) K).getD k 0) (xs.getD k 0) ((countsAt xs (zerosOf xs) K).getD i 0 - 1) (xs.getD i 0) = false := by
  have E := evenly_at hc K i k hi hk
  rw [Ratio.fracLess, decide_eq_false (Int.not_lt.2 E), Bool.and_false]

/-- What the law knows: the dice, the crew, nothing yet for each. -/
structure Fs (w1 : World) (a : Option Addr) (len cap g cp n gz : Nat) (xs : List Int) (W : World) : Prop where
  bel : Below w1.heap.size w1 W
  cur : Cur .u64 44 w1.heap.size a len cap W
  crew : Row W g cp xs
  noth : Row W gz n (zerosOf xs)
  lx : xs.length = n
  ng : w1.heap.size < g
  nz : w1.heap.size < gz

theorem Fs.all {w1 : World} {a : Option Addr} {len cap g cp n gz : Nat} {xs : List Int} {W W' : World} (h : Fs w1 a len cap g cp n gz xs W) (B : Below W.heap.size W W') : Fs w1 a len cap g cp n gz xs W' :=
  ⟨below_call h.bel h.bel.size B, h.cur.other (grown_all B) (by simp) (by simp), h.crew.all B, h.noth.all B, h.lx, h.ng, h.nz⟩

theorem Fs.left {w1 : World} {a : Option Addr} {len cap g cp n gz : Nat} {xs : List Int} {W W' : World} (h : Fs w1 a len cap g cp n gz xs W) (L : Draw.Left .u64 44 w1.heap.size a len cap W W') : Fs w1 a len cap g cp n gz xs W' :=
  ⟨h.bel.trans (left_below L (Nat.le_refl _) h.cur.lt), L.cur h.cur, h.crew.other L.1 (by have := h.ng; simp; omega), h.noth.other L.1 (by have := h.nz; simp; omega), h.lx, h.ng, h.nz⟩

theorem Fs.ints {w1 : World} {a : Option Addr} {len cap g cp n gz : Nat} {xs : List Int} {W : World} (h : Fs w1 a len cap g cp n gz xs W) : Ints W (some ⟨g, 0, none⟩) n xs := by
  have := h.crew.ints
  rwa [h.lx] at this

theorem Fs.zero {w1 : World} {a : Option Addr} {len cap g cp n gz : Nat} {xs : List Int} {W : World} (h : Fs w1 a len cap g cp n gz xs W) : Ints W (some ⟨gz, 0, none⟩) n (zerosOf xs) := by
  have := h.noth.ints
  rwa [show (zerosOf xs).length = n by simp [zerosOf, h.lx]] at this

theorem Fit.row {w : World} {base : Nat} {a : Option Addr} {len cap : Nat} {xs : List Int} (h : Fit w base a len cap xs) (h0 : 0 < len) : ∃ g, a = some ⟨g, 0, none⟩ ∧ base ≤ g ∧ Row w g cap xs := by
  rcases h.2 with ⟨e, _⟩ | ⟨g, e, hb, R⟩
  · omega
  · exact ⟨g, e, hb, R⟩

set_option maxHeartbeats 2000000 in
set_option maxRecDepth 100000 in
theorem lawFnStride (a : Option Addr) (len cap : Nat) (w : World) (B : Bytes w a len) :
    Calls Try.prog 3 #[.slice a len cap] w fun e w' => e = .returned (.bool true) ∧ Below w.heap.size w w' := by
  have HB : Hid (Bytes w a len) := B
  clear B
  by_cases hbig : (4096 : Int) < (len : Int)
  · go_enter Try.func3, Try.ntmps3
    go_wp2_with fail
    refine (big_any a len cap _).mono ?_
    rw [decide_eq_true hbig]
    rintro e w1 ⟨rfl, rfl⟩
    go_wp2_with fail
    go_ret
    exact ⟨rfl, Below.refl _ _⟩
  · have ht : len ≤ 9223372036854775806 := by omega
    have HBG : Hid (decide ((4096 : Int) < (len : Int)) = false) := decide_eq_false hbig
    have HT : Hid (len ≤ 9223372036854775806) := ht
    clear hbig ht
    go_enter Try.func3, Try.ntmps3
    go_wp2_with fail
    refine (big_any a len cap _).mono ?_
    rw [HBG.out]
    rintro e w1 ⟨rfl, rfl⟩
    go_wp2_with fail
    refine (roll_any a len cap 6 _ HB.out HT.out).mono ?_
    rintro e w2 ⟨rfl, h, L2⟩
    have C2 := L2.cur (cur_new HB.out HT.out h)
    have B2 := new_below L2
    have p2 := C2.lt
    have H2 : Hid (Cur .u64 44 w1.heap.size a len cap w2 ∧ Below w1.heap.size w1 w2) := ⟨C2, B2⟩
    clear L2 C2 B2
    go_wp2_with fail
    refine (hands_any _ _ a len cap _ H2.out.1).mono ?_
    rintro e w3 ⟨g, cp, xs, rfl, O3, n1, n7, wt⟩
    obtain ⟨hcr, h420⟩ := hands_crew wt n1 n7
    have hT := crew_sum hcr
    obtain ⟨N, hN⟩ : ∃ N : Nat, sumI xs = (N : Int) := ⟨(sumI xs).toNat, by omega⟩
    obtain ⟨n, hn⟩ : ∃ n, n = xs.length := ⟨_, rfl⟩
    rw [← hn]
    have gb := O3.base
    have hend := evenly_end hcr
    rw [show (sumI xs).toNat = N by omega] at hend
    have HX : Hid (crewOk xs = true ∧ xs.length = n ∧ totalOf xs = (N : Int) ∧ countsAt xs (zerosOf xs) N = xs) := ⟨hcr, hn.symm, by rw [totalOf, if_pos hcr, hN], hend⟩
    have H3 : Hid (Cur .u64 44 w1.heap.size a len cap w3 ∧ Below w1.heap.size w1 w3 ∧ Row w3 g cp xs ∧ Ints w3 (some ⟨g, 0, none⟩) n xs) := ⟨O3.left.cur H2.out.1, H2.out.2.trans (left_below O3.left (Nat.le_refl _) p2), O3.row, by rw [hn]; exact O3.row.ints⟩
    have hN1 : (1 : Int) ≤ (N : Int) := by omega
    have hN2 : (N : Int) ≤ 420 := by omega
    have hn7 : (n : Int) ≤ 7 := by omega
    have hn1 : 0 < n := by omega
    have hgp : w1.heap.size < g := by omega
    clear O3 H2 hcr h420 hT hN hn wt n1 n7 gb hend
    have hmk := made_ints n (by omega)
    go_wp2_with fail
    refine (specTotal _ n cp xs _ H3.out.2.2.2 (by omega)).mono ?_
    rw [HX.out.2.2.1]
    rintro e w3' ⟨rfl, rfl⟩
    have H4 : Hid (Fs w1 a len cap g cp n w3'.heap.size xs (w3'.alloc (.cells (zeros n) 2))) := by
      refine ⟨below_call H3.out.2.1 H3.out.2.1.size (below_new _ _), H3.out.1.other (grown_all (below_new _ _)) (by simp) (by simp), H3.out.2.2.1.alloc _, ?_, HX.out.2.1, hgp, H3.out.1.lt⟩
      rw [zerosOf, HX.out.2.1]
      exact row_zeros _ n (by omega)
    clear H3
    go_wp2_with fail
    generalize w3'.alloc (.cells (zeros n) 2) = W4 at *
    generalize w3'.heap.size = gz at *
    refine (implStrideRun _ n cp xs _ n n (zerosOf xs) (N : Int) _ H4.out.ints H4.out.zero).mono ?_
    unfold StridePost
    rw [(stride_zero HX.out.1 hN2).2.1, (stride_zero HX.out.1 hN2).2.2, HX.out.2.2.2]
    rintro e w5 ⟨yb, my, ky, yd, ny, oy, rfl, Fb, Fd, _, B5⟩
    have hmy : my = n := by have := Fb.1; have := HX.out.2.1; omega
    have hny : ny = N := by have := Fd.1; rw [whoTo_length] at this; omega
    subst hmy hny
    obtain ⟨gl, rfl, hgl, Rl⟩ := Fd.row (by omega)
    have l4 := H4.out.cur.lt
    have hoy : ny ≤ oy := by obtain ⟨_, _, h, _⟩ := Rl; rw [whoTo_length] at h; exact h
    have H5 : Hid (Fs w1 a len cap g cp my gz xs w5 ∧ Ints w5 yb my xs ∧ Row w5 gl oy (whoTo xs (zerosOf xs) ny) ∧ w1.heap.size < gl) := ⟨H4.out.all B5, Fb.ints, Rl, by omega⟩
    clear H4 Fb Fd B5 Rl hgl l4
    go_wp2_with fail
    refine (likeInts_same yb my ky xs _ my cp _ H5.out.2.1 H5.out.1.ints (by omega)).mono ?_
    rintro e w6 ⟨rfl, B6⟩
    have H6 : Hid (Fs w1 a len cap g cp my gz xs w6 ∧ Row w6 gl oy (whoTo xs (zerosOf xs) ny) ∧ w1.heap.size < gl) := ⟨H5.out.1.all B6, H5.out.2.2.1.all B6, H5.out.2.2.2⟩
    clear H5 B6
    go_wp2_with fail
    refine (tallied_any _ ny oy my (whoTo xs (zerosOf xs) ny) _ (by have := H6.out.2.1.ints; rwa [whoTo_length] at this) (by omega) (by omega)).mono ?_
    rintro e w7 ⟨rfl, R7, B7⟩
    have H7 : Hid (Fs w1 a len cap g cp my gz xs w7 ∧ Row w7 gl oy (whoTo xs (zerosOf xs) ny) ∧ w1.heap.size < gl ∧ Ints w7 (some ⟨w6.heap.size, 0, none⟩) my xs) := by
      refine ⟨H6.out.1.all B7, H6.out.2.1.all B7, H6.out.2.2, ?_⟩
      have e1 := tally_who HX.out.1 ny
      rw [HX.out.2.1, HX.out.2.2.2] at e1
      rw [e1] at R7
      have := R7.ints
      rwa [HX.out.2.1] at this
    clear H6 R7 B7
    generalize w6.heap.size = gt at *
    go_wp2_with fail
    refine (likeInts_same _ my my xs _ my cp _ H7.out.2.2.2 H7.out.1.ints (by omega)).mono ?_
    rintro e w8 ⟨rfl, B8⟩
    have H8 : Hid (Fs w1 a len cap g cp my gz xs w8 ∧ Row w8 gl oy (whoTo xs (zerosOf xs) ny) ∧ w1.heap.size < gl) := ⟨H7.out.1.all B8, H7.out.2.1.all B8, H7.out.2.2.1⟩
    clear H7 B8
    go_wp2_with fail
    refine (dice_any _ _ a len cap _ _ H8.out.1.cur (by omega)).mono ?_
    rintro e w9 ⟨k, rfl, k0, k1, _, L9⟩
    obtain ⟨K, rfl⟩ := Int.eq_ofNat_of_zero_le k0
    have H9 : Hid (Fs w1 a len cap g cp my gz xs w9 ∧ Row w9 gl oy (whoTo xs (zerosOf xs) ny)) := ⟨H8.out.1.left L9, H8.out.2.1.other L9.1 (by have := H8.out.2.2; simp; omega)⟩
    clear H8 L9
    have hKN : K ≤ ny := by omega
    have hK2 : (K : Int) ≤ 420 := by omega
    go_wp2_with fail
    refine (implStrideRun _ my cp xs _ my my (zerosOf xs) (K : Int) _ H9.out.1.ints H9.out.1.zero).mono ?_
    unfold StridePost
    rw [(stride_zero HX.out.1 hK2).2.1, (stride_zero HX.out.1 hK2).2.2]
    rintro e w10 ⟨sb, ms, ks, sd, ns, os, rfl, Fb, Fd, _, B10⟩
    have hms : ms = my := by have := Fb.1; rw [countsAt_length] at this; have := HX.out.2.1; simp [zerosOf] at *; omega
    have hns : ns = K := by have := Fd.1; rw [whoTo_length] at this; omega
    subst hms hns
    obtain ⟨gs, rfl, _, Rs⟩ := Fb.row (by omega)
    have H10 : Hid (Below w1.heap.size w1 w10 ∧ Ints w10 (some ⟨g, 0, none⟩) ms xs ∧ Ints w10 (some ⟨gs, 0, none⟩) ms (countsAt xs (zerosOf xs) ns) ∧ Ints w10 sd ns (whoTo xs (zerosOf xs) ns) ∧ Ints w10 (some ⟨gl, 0, none⟩) ns (whoTo xs (zerosOf xs) ns)) := by
      refine ⟨below_call H9.out.1.bel H9.out.1.bel.size B10, (H9.out.1.all B10).ints, Fb.ints, Fd.ints, ?_⟩
      have h := ((H9.out.2.all B10).cut ns).ints
      rwa [whoTo_take xs (zerosOf xs) hKN, whoTo_length] at h
    clear H9 Fb Fd B10 Rs
    have hns1 : (0 : Int) ≤ (ns : Int) := by omega
    have hns2 : (ns : Int) ≤ (oy : Int) := by omega
    have hmm : ((ms : Int) != (ms : Int)) = false := by simp
    go_wp2_with fail
    refine (likeInts_same sd ns os (whoTo xs (zerosOf xs) ns) _ ns oy _ H10.out.2.2.2.1 H10.out.2.2.2.2 (by omega)).mono ?_
    rintro e w11 ⟨rfl, B11⟩
    have H11 : Hid (Below w1.heap.size w1 w11 ∧ Ints w11 (some ⟨g, 0, none⟩) ms xs ∧ Ints w11 (some ⟨gs, 0, none⟩) ms (countsAt xs (zerosOf xs) ns)) := ⟨below_call H10.out.1 H10.out.1.size B11, H10.out.2.1.kept B11, H10.out.2.2.1.kept B11⟩
    clear H10 B11
    have HK : Hid (∀ i, 0 ≤ (countsAt xs (zerosOf xs) ns).getD i 0 ∧ (countsAt xs (zerosOf xs) ns).getD i 0 ≤ 2000000) := fun i => by
      have C := counted_at (zero_ok HX.out.1) ns
      have h1 := C.nat i
      have h2 := C.top i
      omega
    go_wp2_with fail
    go_loopw [11, 12] (fun i _ wr => ∃ j : Nat, j ≤ ms ∧ i = .int .i64 (j : Int) ∧ Hid (Below w1.heap.size w1 wr ∧ Ints wr (some ⟨g, 0, none⟩) ms xs ∧ Ints wr (some ⟨gs, 0, none⟩) ms (countsAt xs (zerosOf xs) ns))) (fun i _ _ => ms - (intOf i).toNat)
    case atStart => exact ⟨0, Nat.zero_le _, rfl, H11⟩
    case round =>
      obtain ⟨j, hj, rfl, L⟩ := hrel
      by_cases hlt : j < ms
      · have hlt' : (j : Int) < (ms : Int) := by omega
        go_wp2_with fail
        go_loopw [12] (fun i wr => ∃ q : Nat, q ≤ ms ∧ i = .int .i64 (q : Int) ∧ Hid (Below w1.heap.size w1 wr ∧ Ints wr (some ⟨g, 0, none⟩) ms xs ∧ Ints wr (some ⟨gs, 0, none⟩) ms (countsAt xs (zerosOf xs) ns))) (fun i _ => ms - (intOf i).toNat)
        case atStart => exact ⟨0, Nat.zero_le _, rfl, L⟩
        case round =>
          obtain ⟨q, hq, rfl, M⟩ := hrel
          by_cases hql : q < ms
          · have hql' : (q : Int) < (ms : Int) := by omega
            obtain ⟨_, _, e1, hb1, cj⟩ := M.out.2.1.cell (k := j) hlt
            cases e1
            obtain ⟨_, _, e2, _, cq⟩ := M.out.2.1.cell (k := q) hql
            cases e2
            obtain ⟨_, _, e3, hb3, nj⟩ := M.out.2.2.cell (k := j) hlt
            cases e3
            obtain ⟨_, _, e4, _, nq⟩ := M.out.2.2.cell (k := q) hql
            cases e4
            rw [Nat.zero_add] at cj cq nj nq
            have bj := HK.out j
            have F := fun u => Ratio.implLess ((countsAt xs (zerosOf xs) ns).getD q 0) (xs.getD q 0) ((countsAt xs (zerosOf xs) ns).getD j 0 - 1) (xs.getD j 0) u
            have hF := even_less HX.out.1 ns (i := j) (k := q) (by have := HX.out.2.1; omega) (by have := HX.out.2.1; omega)
            simp only [hF] at F
            clear hF
            generalize (countsAt xs (zerosOf xs) ns).getD j 0 = n1 at *
            generalize (countsAt xs (zerosOf xs) ns).getD q 0 = n2 at *
            generalize xs.getD j 0 = c1 at *
            generalize xs.getD q 0 = c2 at *
            have F2 : ∀ u : World, _ := F
            have k1 : ∀ x : Kin wr, x.u.cell? ⟨g, j, none⟩ = some (.int .i64 c1) := fun x => x.cell hb1 cj
            have k2 : ∀ x : Kin wr, x.u.cell? ⟨g, q, none⟩ = some (.int .i64 c2) := fun x => x.cell hb1 cq
            have k3 : ∀ x : Kin wr, x.u.cell? ⟨gs, j, none⟩ = some (.int .i64 n1) := fun x => x.cell hb3 nj
            have k4 : ∀ x : Kin wr, x.u.cell? ⟨gs, q, none⟩ = some (.int .i64 n2) := fun x => x.cell hb3 nq
            clear cj cq nj nq F
            by_cases hpos : 0 < n1
            · go_wp2_with fail
              refine wp_region_kin (by kernel_rfl) (by kernel_rfl) (fun hne => ?_)
              repeat (go_big_quiet_step ((go_at_call 14; exact kin_calls (F2 _))))
              refine wpQuiet_nil ?_
              rintro _ ⟨x, rfl⟩
              have M2 : Hid (Below w1.heap.size w1 x.u ∧ Ints x.u (some ⟨g, 0, none⟩) ms xs ∧ Ints x.u (some ⟨gs, 0, none⟩) ms (countsAt xs (zerosOf xs) ns)) := ⟨below_call M.out.1 M.out.1.size x.b, M.out.2.1.kept x.b, M.out.2.2.kept x.b⟩
              clear k1 k2 k3 k4
              go_wp2_with fail
              go_roundw
              case rel => exact ⟨q + 1, by omega, by go_num, M2⟩
              case measure => simp [intOf]; omega
            · have hpos' : decide (0 < n1) = false := by simpa using hpos
              go_wp2_with fail
              refine wp_region_kin (by kernel_rfl) (by kernel_rfl) (fun hne => ?_)
              repeat (go_big_quiet_step ((go_at_call 14; exact kin_calls (F2 _))))
              refine wpQuiet_nil ?_
              rintro _ ⟨x, rfl⟩
              have M2 : Hid (Below w1.heap.size w1 x.u ∧ Ints x.u (some ⟨g, 0, none⟩) ms xs ∧ Ints x.u (some ⟨gs, 0, none⟩) ms (countsAt xs (zerosOf xs) ns)) := ⟨below_call M.out.1 M.out.1.size x.b, M.out.2.1.kept x.b, M.out.2.2.kept x.b⟩
              clear k1 k2 k3 k4
              go_wp2_with fail
              go_roundw
              case rel => exact ⟨q + 1, by omega, by go_num, M2⟩
              case measure => simp [intOf]; omega
          · have e : q = ms := by omega
            subst e
            clear hq hql
            go_wp2_with fail
            go_roundw
            case rel => exact ⟨j + 1, by omega, by go_num, M⟩
            case measure => simp [intOf]; omega
      · have hlt' : ¬ (j : Int) < (ms : Int) := by omega
        go_wp2_with fail
        refine (drawStrideNext_any a len cap _ (HB.out.grown L.out.1) HT.out).mono ?_
        rintro e w13 ⟨nu, mu, gu, cu, gv, cv, us, vs, rfl, Iu, Iv, hnu, hmu, B13⟩
        have H13 : Hid (Below w1.heap.size w1 w13 ∧ Ints w13 (some ⟨gu, 0, none⟩) nu us ∧ Ints w13 (some ⟨gv, 0, none⟩) mu vs) := ⟨below_call L.out.1 L.out.1.size B13, Iu, Iv⟩
        clear L H11 Iu Iv B13
        go_wp2_with fail
        refine (drawStrideRun_any a len cap _ (HB.out.grown H13.out.1) HT.out).mono ?_
        rintro e w14 ⟨ne, me, ge, ce, gf, cf, es, fs, x, rfl, Ie, If, hne, hme, B14⟩
        have H14 : Hid (Below w1.heap.size w1 w14 ∧ Ints w14 (some ⟨gu, 0, none⟩) nu us ∧ Ints w14 (some ⟨gv, 0, none⟩) mu vs ∧ Ints w14 (some ⟨ge, 0, none⟩) ne es ∧ Ints w14 (some ⟨gf, 0, none⟩) me fs) := ⟨below_call H13.out.1 H13.out.1.size B14, H13.out.2.1.kept B14, H13.out.2.2.kept B14, Ie, If⟩
        clear H13 Ie If B14
        have hc24 := strideC_len es fs x
        have hd3k := strideL_len es fs x
        obtain ⟨P, hP⟩ : ∃ P, P = strideC es fs x := ⟨_, rfl⟩
        obtain ⟨Q, hQ⟩ : ∃ Q, Q = strideL es fs x := ⟨_, rfl⟩
        rw [← hP] at hc24
        rw [← hQ] at hd3k
        have HC : Hid (P = strideC es fs x ∧ Q = strideL es fs x) := ⟨hP, hQ⟩
        clear hP hQ
        go_wp2_with fail
        refine (implStrideRun _ ne ce es _ me cf fs x _ H14.out.2.2.2.1 H14.out.2.2.2.2).mono ?_
        unfold StridePost
        rw [← HC.out.1, ← HC.out.2]
        rintro e w15 ⟨pb, mp, kp, qb, mq, kq, rfl, Fp, Fq, _, B15⟩
        have hmp : (mp : Int) ≤ 24 := by have := Fp.1; omega
        have hmq : (mq : Int) ≤ 3000 := by have := Fq.1; omega
        have H15 : Hid (Below w1.heap.size w1 w15 ∧ Ints w15 (some ⟨gu, 0, none⟩) nu us ∧ Ints w15 (some ⟨gv, 0, none⟩) mu vs ∧ Ints w15 (some ⟨ge, 0, none⟩) ne es ∧ Ints w15 (some ⟨gf, 0, none⟩) me fs ∧ Ints w15 pb mp P ∧ Ints w15 qb mq Q) := ⟨below_call H14.out.1 H14.out.1.size B15, H14.out.2.1.kept B15, H14.out.2.2.1.kept B15, H14.out.2.2.2.1.kept B15, H14.out.2.2.2.2.kept B15, Fp.ints, Fq.ints⟩
        clear H14 Fp Fq B15
        go_wp2_with fail
        refine (specStrideRun _ ne ce es _ me cf fs x _ H15.out.2.2.2.1 H15.out.2.2.2.2.1 (by omega) (by omega)).mono ?_
        unfold StridePost
        rw [← HC.out.1, ← HC.out.2]
        rintro e w16 ⟨yb, my, ky, zb, mz, kz, rfl, Fp, Fq, _, B16⟩
        have H16 : Hid (Below w1.heap.size w1 w16 ∧ Ints w16 (some ⟨gu, 0, none⟩) nu us ∧ Ints w16 (some ⟨gv, 0, none⟩) mu vs ∧ Ints w16 pb mp P ∧ Ints w16 qb mq Q ∧ Ints w16 yb my P ∧ Ints w16 zb mz Q) := ⟨below_call H15.out.1 H15.out.1.size B16, H15.out.2.1.kept B16, H15.out.2.2.1.kept B16, H15.out.2.2.2.2.2.1.kept B16, H15.out.2.2.2.2.2.2.kept B16, Fp.ints, Fq.ints⟩
        clear H15 Fp Fq B16
        go_wp2_with fail
        refine (implStrideNext _ nu cu us _ mu cv vs _ H16.out.2.1 H16.out.2.2.1).mono ?_
        rintro e w17 ⟨rfl, B17⟩
        have H17 : Hid (Below w1.heap.size w1 w17 ∧ Ints w17 (some ⟨gu, 0, none⟩) nu us ∧ Ints w17 (some ⟨gv, 0, none⟩) mu vs ∧ Ints w17 pb mp P ∧ Ints w17 qb mq Q ∧ Ints w17 yb my P ∧ Ints w17 zb mz Q) := ⟨below_call H16.out.1 H16.out.1.size B17, H16.out.2.1.kept B17, H16.out.2.2.1.kept B17, H16.out.2.2.2.1.kept B17, H16.out.2.2.2.2.1.kept B17, H16.out.2.2.2.2.2.1.kept B17, H16.out.2.2.2.2.2.2.kept B17⟩
        clear H16 B17
        go_wp2_with fail
        refine (specStrideNext _ nu cu us _ mu cv vs _ H17.out.2.1 H17.out.2.2.1 (by omega)).mono ?_
        rintro e w18 ⟨rfl, B18⟩
        have H18 : Hid (Below w1.heap.size w1 w18 ∧ Ints w18 pb mp P ∧ Ints w18 qb mq Q ∧ Ints w18 yb my P ∧ Ints w18 zb mz Q) := ⟨below_call H17.out.1 H17.out.1.size B18, H17.out.2.2.2.1.kept B18, H17.out.2.2.2.2.1.kept B18, H17.out.2.2.2.2.2.1.kept B18, H17.out.2.2.2.2.2.2.kept B18⟩
        clear H17 B18
        have hee : (strideNext us vs == strideNext us vs) = true := by simp
        go_wp2_with fail
        refine (likeInts_same pb mp kp P yb my ky _ H18.out.2.1 H18.out.2.2.2.1 (by omega)).mono ?_
        rintro e w19 ⟨rfl, B19⟩
        have H19 : Hid (Below w1.heap.size w1 w19 ∧ Ints w19 qb mq Q ∧ Ints w19 zb mz Q) := ⟨below_call H18.out.1 H18.out.1.size B19, H18.out.2.2.1.kept B19, H18.out.2.2.2.2.kept B19⟩
        clear H18 B19
        go_wp2_with fail
        refine (likeInts_same qb mq kq Q zb mz kz _ H19.out.2.1 H19.out.2.2 (by omega)).mono ?_
        rintro e w20 ⟨rfl, B20⟩
        have H20 : Hid (Below w1.heap.size w1 w20) := below_call H19.out.1 H19.out.1.size B20
        clear H19 B20
        go_wp2_with fail
        go_ret
        exact ⟨rfl, H20.out⟩

end Go.Proofs.Ytdneohbgdhoigaa.Crew
