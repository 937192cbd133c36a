/-
  A run of the last: spec.StrideRun.
-/
import Derived.Test.YtdneohbgdhoigaaStrideNextS
namespace Go.Proofs.Ytdneohbgdhoigaa.Crew
open Go.ChangeShapes Go.WideShapes Go.ChangeAt Go.RowKit

/-- May it be run so far? -/
def strideOk (cs ns : List Int) (n : Int) : Bool := countsOk cs ns && within n 0 3000 && decide (sumI ns + n ≤ 1000000)

def strideC (cs ns : List Int) (n : Int) : List Int := if strideOk cs ns n then countsAt cs ns n.toNat else []

def strideL (cs ns : List Int) (n : Int) : List Int := if strideOk cs ns n then whoTo cs ns n.toNat else []

theorem stride_yes {cs ns : List Int} {n : Int} (h : strideOk cs ns n = true) : strideC cs ns n = countsAt cs ns n.toNat ∧ strideL cs ns n = whoTo cs ns n.toNat := by
  rw [strideC, strideL, if_pos h, if_pos h]
  exact ⟨rfl, rfl⟩

theorem stride_no {cs ns : List Int} {n : Int} (h : strideOk cs ns n = false) : strideC cs ns n = [] ∧ strideL cs ns n = [] := by
  rw [strideC, strideL, if_neg (by simp [h]), if_neg (by simp [h])]
  exact ⟨rfl, rfl⟩

/-- What a run answers. -/
def StridePost (cs ns : List Int) (n : Int) (w : World) (e : Ending) (w' : World) : Prop :=
  ∃ b lb cb d ld cd, e = .returned (.tuple #[.slice b lb cb, .slice d ld cd]) ∧ Fit w' w.heap.size b lb cb (strideC cs ns n) ∧ Fit w' w.heap.size d ld cd (strideL cs ns n) ∧ Apart b d ∧ Below w.heap.size w w'

/-- Nothing and nothing. -/
theorem stride_end {cs ns : List Int} {n : Int} (h : strideOk cs ns n = false) {w X : World} {g : Nat} (hX : X.heap.size = g) (B : Below w.heap.size w X) :
    StridePost cs ns n w (.returned (.tuple #[.slice (some ⟨g, 0, none⟩) 0 0, .slice (some ⟨g + 1, 0, none⟩) 0 0])) ((X.alloc (.cells #[] 2)).alloc (.cells #[] 2)) := by
  subst hX
  have hs := B.size
  have r2 : Row ((X.alloc (.cells #[] 2)).alloc (.cells #[] 2)) (X.heap.size + 1) 0 [] := by
    have := row_nil (X.alloc (.cells #[] 2))
    simpa using this
  refine ⟨_, _, _, _, _, _, rfl, ?_, ?_, fun x y hx hy => (by cases hx; cases hy; simp), (B.alloc hs _).alloc (by simp; omega) _⟩
  · rw [(stride_no h).1]; exact ((row_nil X).alloc _).fit hs rfl
  · rw [(stride_no h).2]; exact r2.fit (by omega) rfl

/-- What the loop of a run knows: the counts in block g, who it was in block h. -/
structure Sr (w : World) (g cg h ch : Nat) (xs ys : List Int) (wr : World) : Prop where
  bel : Below w.heap.size w wr
  cnt : Row wr g cg xs
  out : Row wr h ch ys
  lg : w.heap.size ≤ g
  lh : w.heap.size ≤ h
  ne : g ≠ h

theorem Sr.all {w : World} {g cg h ch : Nat} {xs ys : List Int} {wr w' : World} (H : Sr w g cg h ch xs ys wr) (B : Below wr.heap.size wr w') : Sr w g cg h ch xs ys w' :=
  ⟨below_call H.bel H.bel.size B, H.cnt.all B, H.out.all B, H.lg, H.lh, H.ne⟩

theorem Sr.set {w : World} {g cg h ch : Nat} {xs ys : List Int} {wr : World} (H : Sr w g cg h ch xs ys wr) (j : Nat) (v : Int) : Sr w g cg h ch (xs.set j v) ys (wr.setCell ⟨g, j, none⟩ (.int .i64 v)) :=
  ⟨below_set H.bel H.lg _, H.cnt.set j v, H.out.past (Ne.symm H.ne) _, H.lg, H.lh, H.ne⟩

theorem Sr.append {w : World} {g cg h ch : Nat} {xs ys zs : List Int} {wr w' : World} (H : Sr w g cg h ch xs ys wr) {h' ch' : Nat} (R : Row w' h' ch' zs) (G : wr.grownBy w' (some h)) (D : h' = h ∨ h' = wr.heap.size) : Sr w g cg h' ch' xs zs w' := by
  have hs := H.bel.size
  have hg := H.cnt.lt
  refine ⟨H.bel.grown G hs (fun i e => by cases e; exact H.lh), H.cnt.other G (by simpa using H.ne), R, H.lg, ?_, ?_⟩
  · rcases D with rfl | rfl
    · exact H.lh
    · exact hs
  · rcases D with rfl | rfl
    · exact H.ne
    · omega

theorem Sr.answer {w : World} {g cg h ch : Nat} {cs ns : List Int} {wr : World} {N : Nat} {lg lh : Nat} (H : Sr w g cg h ch (countsAt cs ns N) (whoTo cs ns N) wr) (hk : strideOk cs ns (N : Int) = true) (hl : (countsAt cs ns N).length = lg) (hh : (whoTo cs ns N).length = lh) :
    StridePost cs ns (N : Int) w (.returned (.tuple #[.slice (some ⟨g, 0, none⟩) lg cg, .slice (some ⟨h, 0, none⟩) lh ch])) wr := by
  refine ⟨_, _, _, _, _, _, rfl, ?_, ?_, fun x y hx hy => (by cases hx; cases hy; exact H.ne), H.bel⟩
  · rw [(stride_yes hk).1, Int.toNat_natCast]; exact H.cnt.fit H.lg hl
  · rw [(stride_yes hk).2, Int.toNat_natCast]; exact H.out.fit H.lh hh

theorem sr_start {w w1 : World} {g cg : Nat} {xs : List Int} (B : Below w.heap.size w w1) (R : Row w1 g cg xs) (hg : w.heap.size ≤ g) : Sr w g cg w1.heap.size 0 xs [] (w1.alloc (.cells #[] 2)) :=
  ⟨below_call B B.size (below_new _ _), R.alloc _, row_nil w1, hg, B.size, Nat.ne_of_lt R.lt⟩

theorem ints_put {X : World} {n : Nat} (h : X.heap.size = n) (x : Int) (t : TypeId) : Ints (X.alloc (.cells #[.int .i64 x] t)) (some ⟨n, 0, none⟩) 1 [x] := by
  subst h
  exact ints_one X x t

set_option maxHeartbeats 2000000 in
/-- spec.StrideRun at every two slices and number. -/
theorem specStrideRun (a : Option Addr) (len cap : Nat) (cs : List Int) (a' : Option Addr) (len' cap' : Nat) (ns : List Int) (n : Int) (w : World) (I : Ints w a len cs) (J : Ints w a' len' ns) (hs : (len : Int) ≤ 1048576) (hs' : (len' : Int) ≤ 1048576) :
    Calls Try.prog 17 #[.slice a len cap, .slice a' len' cap', .int .i64 n] w (StridePost cs ns n w) := by
  obtain ⟨i0, hi, hz0, hz1, hz2⟩ := info_parts info_int
  have HI : Hid (Ints w a len cs ∧ Ints w a' len' ns) := ⟨I, J⟩
  clear I J
  cases hk : countsOk cs ns
  · have HK : Hid (countsOk cs ns = false) := hk
    have HN : Hid (strideOk cs ns n = false) := by show _ = _; rw [strideOk, hk]; rfl
    clear hk
    go_enter Try.func17, Try.ntmps17
    go_wp2_with fail
    refine (specCounts a len cap cs a' len' cap' ns _ HI.out.1 HI.out.2 hs).mono ?_
    rw [HK.out]
    rintro e w1 ⟨rfl, rfl⟩
    go_wp2_with fail
    go_ret2
    exact stride_end HN.out rfl (Below.refl _ _)
  cases hw : within n 0 3000
  · have HK : Hid (countsOk cs ns = true ∧ within n 0 3000 = false) := ⟨hk, hw⟩
    have HN : Hid (strideOk cs ns n = false) := by show _ = _; rw [strideOk, hk, hw]; rfl
    clear hk hw
    go_enter Try.func17, Try.ntmps17
    go_wp2_with fail
    refine (specCounts a len cap cs a' len' cap' ns _ HI.out.1 HI.out.2 hs).mono ?_
    rw [HK.out.1]
    rintro e w1 ⟨rfl, rfl⟩
    go_wp2_with fail
    refine (specSteps_any n _).mono ?_
    rw [HK.out.2]
    rintro e w1 ⟨rfl, rfl⟩
    go_wp2_with fail
    go_ret2
    exact stride_end HN.out rfl (Below.refl _ _)
  have b1 := within_yes hw
  have S := cnts_small (counts_parts hk).2.2.1
  have C := counted_start hk
  have hc24 := crew_len C.crew
  have bsum := S.part ns.length (Nat.le_refl _)
  rw [List.take_of_length_le (Nat.le_refl _)] at bsum
  have hlen' : ns.length = len' := HI.out.2.1
  have hlen : cs.length = len := HI.out.1.1
  have hln := C.len
  have b2 : -24000000000 ≤ sumI ns ∧ sumI ns ≤ 24000000000 := by omega
  by_cases hm : sumI ns + n ≤ 1000000
  · have hm' : ¬ 1000000 < sumI ns + n := by omega
    have hd : decide (1000000 < sumI ns + n) = false := by simp; omega
    obtain ⟨N, rfl⟩ := Int.eq_ofNat_of_zero_le b1.1
    have HN : Hid (strideOk cs ns (N : Int) = true) := by show _ = _; rw [strideOk, hk, hw, decide_eq_true hm]; rfl
    have HK : Hid (countsOk cs ns = true ∧ within (N : Int) 0 3000 = true ∧ cs.length = len ∧ ns.length = len' ∧ ns.length = cs.length) := ⟨hk, hw, hlen, hlen', hln⟩
    generalize hS : sumI ns = T at *
    have HT : Hid (sumI ns = T) := hS
    clear hk hw hm bsum hlen hlen' hln hS
    have l24 : (len' : Int) ≤ 24 := by have := HK.out; omega
    go_enter Try.func17, Try.ntmps17
    go_wp2_with fail
    refine (specCounts a len cap cs a' len' cap' ns _ HI.out.1 HI.out.2 hs).mono ?_
    rw [HK.out.1]
    rintro e w1 ⟨rfl, rfl⟩
    go_wp2_with fail
    refine (specSteps_any (N : Int) _).mono ?_
    rw [HK.out.2.1]
    rintro e w1 ⟨rfl, rfl⟩
    go_wp2_with fail
    refine (sum_any a' len' cap' ns _ HI.out.2 hs' S).mono ?_
    rw [HT.out]
    rintro e w1 ⟨rfl, rfl⟩
    go_wp2_with fail
    refine (copy_any a' len' cap' ns _ HI.out.2 hs').mono ?_
    rintro e w2 ⟨g, cg, rfl, R2, hg2, B2⟩
    have H2 : Hid (Sr w1 g cg w2.heap.size 0 (countsAt cs ns 0) (whoTo cs ns 0) (w2.alloc (.cells #[] 2))) := sr_start B2 R2 hg2
    clear R2 hg2 B2
    go_wp2_with fail
    generalize w2.alloc (.cells #[] 2) = w3 at *
    generalize w2.heap.size = h0 at *
    go_loopw [2, 8] (fun v o wr => ∃ (k h ch : Nat), v = .int .i64 ((N : Int) - k) ∧ o = .slice (some ⟨h, 0, none⟩) k ch ∧ k ≤ N ∧ Hid (Sr w1 g cg h ch (countsAt cs ns k) (whoTo cs ns k) wr)) (fun v _ _ => (intOf v).toNat)
    case atStart => exact ⟨0, h0, 0, by simp, rfl, Nat.zero_le _, H2⟩
    case round =>
      obtain ⟨k, h, ch, rfl, rfl, hk, H⟩ := hrel
      by_cases hlt : k < N
      · have hlt' : (0 : Int) < (N : Int) - (k : Int) := by omega
        have Ck := counted_at HK.out.1 k
        have hcl : (countsAt cs ns k).length = len' := by rw [countsAt_length, HK.out.2.2.2.1]
        go_wp2_with fail
        refine (next_any a len cap cs _ len' cg (countsAt cs ns k) k (by omega) Ck _ (HI.out.1.kept H.out.bel) (by have := H.out.cnt.ints; rwa [hcl] at this)).mono ?_
        rintro e w4 ⟨rfl, B4⟩
        have hti := last_in Ck.crew (countsAt cs ns k)
        obtain ⟨t, ht⟩ : ∃ t, t = lastOf cs (countsAt cs ns k) := ⟨_, rfl⟩
        obtain ⟨v, hv⟩ : ∃ v, v = (countsAt cs ns k).getD t 0 := ⟨_, rfl⟩
        have bv := Ck.nat t
        have bt := Ck.top t
        rw [← hv] at bv bt
        rw [← ht] at hti ⊢
        have H4 : Hid (Sr w1 g cg h ch (countsAt cs ns k) (whoTo cs ns k) w4) := H.out.all B4
        have c1 : w4.cell? ⟨g, t, none⟩ = some (.int .i64 v) := by rw [hv]; exact H4.out.cnt.cell (by rw [hcl]; have := HK.out; omega)
        have f1 := H4.out.cnt.frozen t
        have htl : (t : Int) < (len' : Int) := by have := HK.out; omega
        have hv1 : v + 1 ≤ 2000000 := by omega
        have HV : Hid (t = lastOf cs (countsAt cs ns k) ∧ v = (countsAt cs ns k).getD t 0) := ⟨ht, hv⟩
        have H5 : Hid (Sr w1 g cg h ch (countsAt cs ns (k + 1)) (whoTo cs ns k) (w4.setCell ⟨g, t, none⟩ (.int .i64 (v + 1)))) := by
          have := H4.out.set t (v + 1)
          rw [countsAt_succ, turnL, ← HV.out.1, ← HV.out.2]
          exact this
        clear B4 hti ht hv hcl H
        go_wp2_with (at_builtin; refine wpList_append_ints rfl (.tmp 46) (.tmp 48) 27 rfl i0 Try.underlying27 hi hz0 hz1 hz2 h k ch (whoTo cs ns k) rfl (whoTo_length cs ns k).symm (H5.out.out.alloc _) _ _ _ [(t : Int)] rfl (ints_put (by simp) (t : Int) _) (by rw [whoTo_length]; omega) ?_)
        intro h6 c6 w6 R6 G6 D6
        have H6 : Hid (Sr w1 g cg h6 c6 (countsAt cs ns (k + 1)) (whoTo cs ns (k + 1)) w6) := by
          rw [whoTo_succ, ← HV.out.1]
          exact (H5.out.all (below_new _ _)).append R6 G6 (by simpa using D6)
        clear R6 G6 D6 c1 f1
        go_wp2_with fail
        go_roundw
        case rel => exact ⟨k + 1, h6, c6, by go_num, rfl, by omega, H6⟩
        case measure => simp [intOf]; omega
      · have hlt' : ¬ (0 : Int) < (N : Int) - (k : Int) := by omega
        go_wp2_with fail
        go_ret2
        have e : k = N := by omega
        subst e
        exact H.out.answer HN.out (by rw [countsAt_length, HK.out.2.2.2.1]) (whoTo_length _ _ _)
  · have hm' : 1000000 < sumI ns + n := by omega
    have hd : decide (1000000 < sumI ns + n) = true := by simp; omega
    have HN : Hid (strideOk cs ns n = false) := by show _ = _; rw [strideOk, decide_eq_false hm, Bool.and_false]
    have HK : Hid (countsOk cs ns = true ∧ within n 0 3000 = true) := ⟨hk, hw⟩
    generalize hS : sumI ns = T at *
    have HT : Hid (sumI ns = T) := hS
    clear hk hw hm bsum hlen hlen' hln hS
    go_enter Try.func17, Try.ntmps17
    go_wp2_with fail
    refine (specCounts a len cap cs a' len' cap' ns _ HI.out.1 HI.out.2 hs).mono ?_
    rw [HK.out.1]
    rintro e w1 ⟨rfl, rfl⟩
    go_wp2_with fail
    refine (specSteps_any n _).mono ?_
    rw [HK.out.2]
    rintro e w1 ⟨rfl, rfl⟩
    go_wp2_with fail
    refine (sum_any a' len' cap' ns _ HI.out.2 hs' S).mono ?_
    rw [HT.out]
    rintro e w1 ⟨rfl, rfl⟩
    go_wp2_with fail
    go_ret2
    exact stride_end HN.out rfl (Below.refl _ _)

end Go.Proofs.Ytdneohbgdhoigaa.Crew
