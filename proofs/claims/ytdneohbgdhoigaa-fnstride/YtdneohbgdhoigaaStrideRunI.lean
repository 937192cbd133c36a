/-
  A run of the last: impl.StrideRun.
-/
import Derived.Test.YtdneohbgdhoigaaStrideRunS
namespace Go.Proofs.Ytdneohbgdhoigaa.Crew
open Go.ChangeShapes Go.WideShapes Go.ChangeAt Go.RowKit

/-- A store into a block that is none of the line's. -/
theorem Ln.past {w0 w : World} {b : Nat} {ca : Option Addr} {la cca : Nat} {cs : List Int} {g lg cg : Nat} {ns : List Int} {r lh ch : Nat} {ws : List Int} (h : Ln w0 w b ca la cca cs g lg cg ns (some ⟨r, 0, none⟩) lh ch ws) {T : Nat} (h0 : w0.heap.size ≤ T) (h1 : T ≠ b) (h2 : T ≠ g) (h3 : T ≠ r) (j : Nat) (v : Value) :
    Ln w0 (w.setCell ⟨T, j, none⟩ v) b ca la cca cs g lg cg ns (some ⟨r, 0, none⟩) lh ch ws :=
  ⟨below_set h.bel h0 _, h.crew, h.line.past (Ne.symm h1) _, h.cnt.past (Ne.symm h2) _, h.cntl, h.wait.other (grown_at w T j v) (fun x hx => by cases hx; simpa using Ne.symm h3), h.lob, h.log, h.bg, h.hb, h.hg, h.nil⟩

/-- What the loop of impl's run knows: a line, and who it was at the head of block T. -/
structure Ir (w : World) (b : Nat) (a : Option Addr) (len cap : Nat) (cs : List Int) (g len' cg : Nat) (ns : List Int) (T N k g1 c1 : Nat) (ws : List Int) (wr : World) : Prop where
  line : Lined w wr b a len cap cs g len' cg (countsAt cs ns k) g1 c1 ws
  out : Row wr T N (whoTo cs ns k ++ List.replicate (N - k) 0)
  lo : w.heap.size ≤ T
  nb : T ≠ b
  ng : T ≠ g
  nh : T ≠ g1

theorem fill_step {l : List Int} {k N : Nat} (x : Int) (hl : l.length = k) (hk : k < N) : (l ++ List.replicate (N - k) 0).set k x = (l ++ [x]) ++ List.replicate (N - (k + 1)) 0 := by
  rw [show N - k = (N - (k + 1)) + 1 by omega, List.replicate_succ, List.set_append_right _ _ (by omega), hl, Nat.sub_self, List.set_cons_zero, List.append_assoc]
  rfl

theorem Ir.next {w : World} {b : Nat} {a : Option Addr} {len cap : Nat} {cs : List Int} {g len' cg : Nat} {ns : List Int} {T N k g1 c1 g2 c2 : Nat} {ws us : List Int} {wr w' : World} (h : Ir w b a len cap cs g len' cg ns T N k g1 c1 ws wr) (P : Turned w wr w' b a len cap cs g len' cg (turnL cs (countsAt cs ns k)) g1 g2 c2 us) (hk : k < N) :
    Row w' T N (whoTo cs ns k ++ List.replicate (N - k) 0) ∧ Ir w b a len cap cs g len' cg ns T N (k + 1) g2 c2 us (w'.setCell ⟨T, k, none⟩ (.int .i64 ((lastOf cs (countsAt cs ns k) : Nat) : Int))) := by
  have hT := h.out.lt
  have R : Row w' T N (whoTo cs ns k ++ List.replicate (N - k) 0) := by
    obtain ⟨cur, hh, r⟩ := h.out
    exact ⟨cur, by rw [P.only.block T hT h.nb h.ng (fun x hx => by cases hx; exact Ne.symm h.nh)]; exact hh, r⟩
  have n2 : T ≠ g2 := by
    rcases P.lies with e | e
    · rw [e]; exact h.nh
    · omega
  refine ⟨R, ⟨⟨P.line.line.past h.lo h.nb h.ng n2 _ _, P.line.perm, P.line.heap⟩, ?_, h.lo, h.nb, h.ng, n2⟩⟩
  have := R.set k ((lastOf cs (countsAt cs ns k) : Nat) : Int)
  rw [fill_step _ (whoTo_length cs ns k) hk] at this
  exact this

theorem ir_start {w w1 : World} {b : Nat} {a : Option Addr} {len cap : Nat} {cs : List Int} {g len' cg : Nat} {ns : List Int} {N g1 c1 : Nat} {ws : List Int} (L : Lined w w1 b a len cap cs g len' cg ns g1 c1 ws) (hN : (N : Int) ≤ 3000) (h0 : 0 < len) :
    Ir w b a len cap cs g len' cg ns w1.heap.size N 0 g1 c1 ws (w1.alloc (.cells (zeros N) 2)) := by
  have hb := L.line.line.lt
  have hg := L.line.cnt.lt
  obtain ⟨r, e, _, R, _⟩ := L.line.row h0
  cases e
  have hr := R.lt
  have z := row_zeros_at (X := w1) rfl N (by omega)
  exact ⟨⟨L.line.all (below_new _ _), L.perm, L.heap⟩, by simpa [whoTo] using z, L.line.bel.size, by omega, by omega, by omega⟩

theorem Ir.answer {w : World} {b : Nat} {a : Option Addr} {len cap : Nat} {cs : List Int} {g len' cg : Nat} {ns : List Int} {T N g1 c1 : Nat} {ws : List Int} {wr : World} (h : Ir w b a len cap cs g len' cg ns T N N g1 c1 ws wr) (hk : strideOk cs ns (N : Int) = true) :
    StridePost cs ns (N : Int) w (.returned (.tuple #[.slice (some ⟨g, 0, none⟩) len' cg, .slice (some ⟨T, 0, none⟩) N N])) wr := by
  have R := h.out
  rw [Nat.sub_self, List.replicate_zero, List.append_nil] at R
  refine ⟨_, _, _, _, _, _, rfl, ?_, ?_, fun x y hx hy => (by cases hx; cases hy; exact Ne.symm h.ng), h.line.line.bel⟩
  · rw [(stride_yes hk).1, Int.toNat_natCast]; exact h.line.line.cnt.fit h.line.line.log h.line.line.cntl
  · rw [(stride_yes hk).2, Int.toNat_natCast]; exact R.fit h.lo (whoTo_length _ _ _)

theorem strideC_len (cs ns : List Int) (n : Int) : (strideC cs ns n).length ≤ 24 := by
  cases h : strideOk cs ns n
  · rw [(stride_no h).1]; simp
  · rw [(stride_yes h).1, countsAt_length]
    simp only [strideOk, Bool.and_eq_true] at h
    have C := counted_start h.1.1
    rw [C.len]
    exact (crew_len C.crew).2

theorem strideL_len (cs ns : List Int) (n : Int) : (strideL cs ns n).length ≤ 3000 := by
  cases h : strideOk cs ns n
  · rw [(stride_no h).2]; simp
  · rw [(stride_yes h).2, whoTo_length]
    simp only [strideOk, Bool.and_eq_true] at h
    have := within_yes h.1.2
    omega

set_option maxHeartbeats 2000000 in
/-- impl.StrideRun at every two slices and number. -/
theorem implStrideRun (a : Option Addr) (len cap : Nat) (cs : List Int) (a' : Option Addr) (len' cap' : Nat) (ns : List Int) (n : Int) (w : World) (I : Ints w a len cs) (J : Ints w a' len' ns) :
    Calls Try.prog 10 #[.slice a len cap, .slice a' len' cap', .int .i64 n] w (StridePost cs ns n w) := by
  have HI : Hid (Ints w a len cs ∧ Ints w a' len' ns) := ⟨I, J⟩
  clear I J
  cases hk : countsOk cs ns
  · have HK : Hid (countsOk cs ns = false) := hk
    have HN : Hid (strideOk cs ns n = false) := by show _ = _; rw [strideOk, hk]; rfl
    clear hk
    go_enter Try.func10, Try.ntmps10
    go_wp2_with fail
    refine (implCounts a len cap cs a' len' cap' ns _ HI.out.1 HI.out.2).mono ?_
    rw [HK.out]
    rintro e w1 ⟨rfl, rfl⟩
    go_wp2_with fail
    go_ret2
    exact stride_end HN.out rfl (Below.refl _ _)
  cases hw : within n 0 3000
  · have HK : Hid (countsOk cs ns = true ∧ within n 0 3000 = false) := ⟨hk, hw⟩
    have HN : Hid (strideOk cs ns n = false) := by show _ = _; rw [strideOk, hk, hw]; rfl
    clear hk hw
    go_enter Try.func10, Try.ntmps10
    go_wp2_with fail
    refine (implCounts a len cap cs a' len' cap' ns _ HI.out.1 HI.out.2).mono ?_
    rw [HK.out.1]
    rintro e w1 ⟨rfl, rfl⟩
    go_wp2_with fail
    refine (steps_any n _).mono ?_
    rw [HK.out.2]
    rintro e w1 ⟨rfl, rfl⟩
    go_wp2_with fail
    go_ret2
    exact stride_end HN.out rfl (Below.refl _ _)
  have b1 := within_yes hw
  have C := counted_start hk
  have hc24 := crew_len C.crew
  obtain ⟨N, rfl⟩ := Int.eq_ofNat_of_zero_le b1.1
  have hmk := made_ints N (by omega)
  have HK : Hid (countsOk cs ns = true ∧ within (N : Int) 0 3000 = true ∧ cs.length = len ∧ 0 < len) := ⟨hk, hw, HI.out.1.1, by have := HI.out.1.1; omega⟩
  clear hw
  have hok := ok_at hk N
  cases hz : countsOk cs (countsAt cs ns N)
  · have HZ : Hid (countsOk cs (countsAt cs ns N) = false) := hz
    have HN : Hid (strideOk cs ns (N : Int) = false) := by show _ = _; rw [strideOk, ← hok, hz, Bool.and_false]
    clear hz hok hk
    go_enter Try.func10, Try.ntmps10
    go_wp2_with fail
    refine (implCounts a len cap cs a' len' cap' ns _ HI.out.1 HI.out.2).mono ?_
    rw [HK.out.1]
    rintro e w1 ⟨rfl, rfl⟩
    go_wp2_with fail
    refine (steps_any (N : Int) _).mono ?_
    rw [HK.out.2.1]
    rintro e w1 ⟨rfl, rfl⟩
    go_wp2_with fail
    refine (lineOf_any a len cap cs a' len' cap' ns _ HI.out.1 HI.out.2 HK.out.1).mono ?_
    rintro e w2 ⟨b, g, cg, g1, c1, ws, rfl, L⟩
    have H2 : Hid (Ir w1 b a len cap cs g len' cg ns w2.heap.size N 0 g1 c1 ws (w2.alloc (.cells (zeros N) 2))) := ir_start L b1.2 HK.out.2.2.2
    clear L
    go_wp2_with fail
    generalize w2.alloc (.cells (zeros N) 2) = w3 at *
    generalize w2.heap.size = T at *
    go_loopw [29] (fun v wr => ∃ (k g1 c1 : Nat) (ws : List Int), v = .int .i64 k ∧ k ≤ N ∧ Hid (Ir w1 b a len cap cs g len' cg ns T N k g1 c1 ws wr)) (fun v _ => N - (intOf v).toNat)
    case atStart => exact ⟨0, g1, c1, ws, rfl, Nat.zero_le _, H2⟩
    case round =>
      obtain ⟨k, g1, c1, ws, rfl, hk, H⟩ := hrel
      by_cases hlt : k < N
      · have hlt' : (k : Int) < (N : Int) := by omega
        go_wp2_with fail
        refine (takeTurn_any w1 b a len cap cs g len' cg (countsAt cs ns k) g1 c1 ws k (by omega) (counted_at HK.out.1 k) _ H.out.line).mono ?_
        rintro e w4 ⟨rfl, g2, c2, us, P⟩
        obtain ⟨R4, I4⟩ := H.out.next P hlt
        obtain ⟨y, cT⟩ : ∃ y, w4.cell? ⟨T, k, none⟩ = some (.int .i64 y) := ⟨_, R4.cell (j := k) (by simp [whoTo_length]; omega)⟩
        have fT := R4.frozen k
        have H5 : Hid _ := I4
        clear R4 I4 P
        go_wp2_with fail
        go_roundw
        case rel => exact ⟨k + 1, g2, c2, us, by go_num, by omega, H5⟩
        case measure => simp [intOf]; omega
      · have hlt' : ¬ (k : Int) < (N : Int) := by omega
        have e : k = N := by omega
        subst e
        have c1' := H.out.line.line.line.c1
        go_wp2_with fail
        clear c1'
        have hcl := H.out.line.line.cntl
        refine (implCounts a len cap cs _ len' cg (countsAt cs ns k) _ H.out.line.line.ints (by have := H.out.line.line.cnt.ints; rwa [hcl] at this)).mono ?_
        rw [HZ.out]
        rintro e w5 ⟨rfl, rfl⟩
        go_wp2_with fail
        go_ret2
        exact stride_end HN.out rfl H.out.line.line.bel
  · have HZ : Hid (countsOk cs (countsAt cs ns N) = true) := hz
    have HN : Hid (strideOk cs ns (N : Int) = true) := by show _ = _; rw [strideOk, ← hok, hz, hk, HK.out.2.1]; rfl
    clear hz hok hk
    go_enter Try.func10, Try.ntmps10
    go_wp2_with fail
    refine (implCounts a len cap cs a' len' cap' ns _ HI.out.1 HI.out.2).mono ?_
    rw [HK.out.1]
    rintro e w1 ⟨rfl, rfl⟩
    go_wp2_with fail
    refine (steps_any (N : Int) _).mono ?_
    rw [HK.out.2.1]
    rintro e w1 ⟨rfl, rfl⟩
    go_wp2_with fail
    refine (lineOf_any a len cap cs a' len' cap' ns _ HI.out.1 HI.out.2 HK.out.1).mono ?_
    rintro e w2 ⟨b, g, cg, g1, c1, ws, rfl, L⟩
    have H2 : Hid (Ir w1 b a len cap cs g len' cg ns w2.heap.size N 0 g1 c1 ws (w2.alloc (.cells (zeros N) 2))) := ir_start L b1.2 HK.out.2.2.2
    clear L
    go_wp2_with fail
    generalize w2.alloc (.cells (zeros N) 2) = w3 at *
    generalize w2.heap.size = T at *
    go_loopw [29] (fun v wr => ∃ (k g1 c1 : Nat) (ws : List Int), v = .int .i64 k ∧ k ≤ N ∧ Hid (Ir w1 b a len cap cs g len' cg ns T N k g1 c1 ws wr)) (fun v _ => N - (intOf v).toNat)
    case atStart => exact ⟨0, g1, c1, ws, rfl, Nat.zero_le _, H2⟩
    case round =>
      obtain ⟨k, g1, c1, ws, rfl, hk, H⟩ := hrel
      by_cases hlt : k < N
      · have hlt' : (k : Int) < (N : Int) := by omega
        go_wp2_with fail
        refine (takeTurn_any w1 b a len cap cs g len' cg (countsAt cs ns k) g1 c1 ws k (by omega) (counted_at HK.out.1 k) _ H.out.line).mono ?_
        rintro e w4 ⟨rfl, g2, c2, us, P⟩
        obtain ⟨R4, I4⟩ := H.out.next P hlt
        obtain ⟨y, cT⟩ : ∃ y, w4.cell? ⟨T, k, none⟩ = some (.int .i64 y) := ⟨_, R4.cell (j := k) (by simp [whoTo_length]; omega)⟩
        have fT := R4.frozen k
        have H5 : Hid _ := I4
        clear R4 I4 P
        go_wp2_with fail
        go_roundw
        case rel => exact ⟨k + 1, g2, c2, us, by go_num, by omega, H5⟩
        case measure => simp [intOf]; omega
      · have hlt' : ¬ (k : Int) < (N : Int) := by omega
        have e : k = N := by omega
        subst e
        have c1' := H.out.line.line.line.c1
        go_wp2_with fail
        clear c1'
        have hcl := H.out.line.line.cntl
        refine (implCounts a len cap cs _ len' cg (countsAt cs ns k) _ H.out.line.line.ints (by have := H.out.line.line.cnt.ints; rwa [hcl] at this)).mono ?_
        rw [HZ.out]
        rintro e w5 ⟨rfl, rfl⟩
        have c1' := H.out.line.line.line.c1
        go_wp2_with fail
        go_ret2
        exact H.out.answer HN.out

end Go.Proofs.Ytdneohbgdhoigaa.Crew
