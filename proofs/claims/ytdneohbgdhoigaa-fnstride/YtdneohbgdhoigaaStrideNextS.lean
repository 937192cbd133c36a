/-
  Who has come least far: spec's and impl's StrideNext.
-/
import Derived.Test.YtdneohbgdhoigaaLineTurn
namespace Go.Proofs.Ytdneohbgdhoigaa.Crew
open Go.ChangeShapes Go.WideShapes Go.ChangeAt Go.RowKit

theorem lastTo_yes {cs ns : List Int} {k : Nat} (h : early cs ns (k : Int) ((lastTo cs ns k : Nat) : Int) = true) : lastTo cs ns (k + 1) = k := by rw [lastTo, if_pos h]

theorem lastTo_no {cs ns : List Int} {k : Nat} (h : early cs ns (k : Int) ((lastTo cs ns k : Nat) : Int) = false) : lastTo cs ns (k + 1) = lastTo cs ns k := by rw [lastTo, if_neg (by simp [h])]

/-- spec.l7Next. -/
theorem next_any (a : Option Addr) (len cap : Nat) (cs : List Int) (a' : Option Addr) (len' cap' : Nat) (ns : List Int) (m : Nat) (hm : m ≤ 3000) (C : Counted cs ns m) (w : World) (I : Ints w a len cs) (J : Ints w a' len' ns) :
    Calls Try.prog 39 #[.slice a len cap, .slice a' len' cap'] w fun e w' => e = .returned (.int .i64 ((lastOf cs ns : Nat) : Int)) ∧ Below w.heap.size w w' := by
  have h24 := crew_len C.crew
  have hl := I.1
  have hl' := J.1
  have l24 : (len : Int) ≤ 24 := by omega
  have H0 : Hid (Ints w a len cs ∧ Ints w a' len' ns ∧ cs.length = len ∧ ns.length = len' ∧ len' = len ∧ 0 < len) := ⟨I, J, hl, hl', by have := C.len; omega, by omega⟩
  clear I J hl hl' h24
  go_enter Try.func39, Try.ntmps39
  go_wp2_with fail
  go_loopw [5, 6] (fun v i wr => ∃ (k q : Nat), i = .int .i64 k ∧ v = .int .i64 q ∧ 0 < k ∧ k ≤ len ∧ (q : Int) < (k : Int) ∧ Hid (q = lastTo cs ns k ∧ Below w.heap.size w wr)) (fun _ i _ => len - (intOf i).toNat)
  case atStart => exact ⟨1, 0, rfl, rfl, by omega, by have := H0.out.2.2.2.2.2; omega, by omega, (lastTo_one cs ns).symm, Below.refl _ _⟩
  case round =>
    obtain ⟨k, q, rfl, rfl, hk0, hk, hq, H⟩ := hrel
    by_cases hlt : k < len
    · have hlt' : (k : Int) < (len : Int) := by omega
      have hq' : (q : Int) < (len : Int) := by omega
      have hlt2 : (k : Int) < (len' : Int) := by have := H0.out.2.2.2.2.1; omega
      have hq2 : (q : Int) < (len' : Int) := by have := H0.out.2.2.2.2.1; omega
      obtain ⟨b1, o1, rfl, hb1, ck⟩ := (H0.out.1.kept H.out.2).cell (k := k) hlt
      obtain ⟨_, _, e1, _, cq⟩ := (H0.out.1.kept H.out.2).cell (k := q) (by omega)
      cases e1
      obtain ⟨b2, o2, rfl, hb2, nk⟩ := (H0.out.2.1.kept H.out.2).cell (k := k) (by omega)
      obtain ⟨_, _, e2, _, nq⟩ := (H0.out.2.1.kept H.out.2).cell (k := q) (by omega)
      cases e2
      have F := fun u => Ratio.specLess (ns.getD k 0) (cs.getD k 0) (ns.getD q 0) (cs.getD q 0) u
      have hF := frac_early C hm (i := k) (j := q) (by have := H0.out.2.2.1; omega) (by have := H0.out.2.2.1; omega)
      generalize ns.getD k 0 = n1 at *
      generalize cs.getD k 0 = c1 at *
      generalize ns.getD q 0 = n2 at *
      generalize cs.getD q 0 = c2 at *
      have k1 : ∀ x : Kin wr, x.u.cell? ⟨b1, o1 + k, none⟩ = some (.int .i64 c1) := fun x => x.cell hb1 ck
      have k2 : ∀ x : Kin wr, x.u.cell? ⟨b1, o1 + q, none⟩ = some (.int .i64 c2) := fun x => x.cell hb1 cq
      have k3 : ∀ x : Kin wr, x.u.cell? ⟨b2, o2 + k, none⟩ = some (.int .i64 n1) := fun x => x.cell hb2 nk
      have k4 : ∀ x : Kin wr, x.u.cell? ⟨b2, o2 + q, none⟩ = some (.int .i64 n2) := fun x => x.cell hb2 nq
      simp only [hF] at F
      have F2 : ∀ u, Calls Try.prog 55 #[.int .i64 n1, .int .i64 c1, .int .i64 n2, .int .i64 c2] u fun e w' => e = .returned (.bool (early cs ns (k : Int) (q : Int))) ∧ Below u.heap.size u w' := fun u => (F u).mono (fun e w' h => ⟨h.1, by rw [h.2]; exact Below.refl _ _⟩)
      clear ck cq nk nq F hF
      cases hE : early cs ns (k : Int) (q : Int)
      · have E : Hid (early cs ns (k : Int) (q : Int) = false) := hE
        simp only [hE] at F2
        clear hE
        go_wp2_with fail
        refine wp_region_kin (by kernel_rfl) (by kernel_rfl) (fun hne => ?_)
        repeat (go_big_quiet_step ((go_at_call 55; exact kin_calls (F2 _))))
        refine wpQuiet_nil ?_
        rintro _ ⟨x, rfl⟩
        clear k1 k2 k3 k4
        go_wp2_with fail
        go_roundw
        case rel =>
          refine ⟨k + 1, q, by go_num, rfl, by omega, by omega, by omega, ?_, below_call H.out.2 H.out.2.size x.b⟩
          have h := E.out
          rw [H.out.1] at h ⊢
          rw [lastTo_no h]
        case measure => simp [intOf]; omega
      · have E : Hid (early cs ns (k : Int) (q : Int) = true) := hE
        simp only [hE] at F2
        clear hE
        go_wp2_with fail
        refine wp_region_kin (by kernel_rfl) (by kernel_rfl) (fun hne => ?_)
        repeat (go_big_quiet_step ((go_at_call 55; exact kin_calls (F2 _))))
        refine wpQuiet_nil ?_
        rintro _ ⟨x, rfl⟩
        clear k1 k2 k3 k4
        go_wp2_with fail
        go_roundw
        case rel =>
          refine ⟨k + 1, k, by go_num, rfl, by omega, by omega, by omega, ?_, below_call H.out.2 H.out.2.size x.b⟩
          have h := E.out
          rw [H.out.1] at h
          rw [lastTo_yes h]
        case measure => simp [intOf]; omega
    · have hlt' : ¬ (k : Int) < (len : Int) := by omega
      go_wp2_with fail
      go_ret
      have e : k = len := by omega
      have e2 : q = lastOf cs ns := by rw [H.out.1, lastOf, H0.out.2.2.1, e]
      exact ⟨by rw [← e2]; rfl, H.out.2⟩

/-- What StrideNext answers. -/
def strideNext (cs ns : List Int) : Int := if countsOk cs ns then ((lastOf cs ns : Nat) : Int) else -1

theorem strideNext_yes {cs ns : List Int} (h : countsOk cs ns = true) : strideNext cs ns = ((lastOf cs ns : Nat) : Int) := by rw [strideNext, if_pos h]

theorem strideNext_no {cs ns : List Int} (h : countsOk cs ns = false) : strideNext cs ns = -1 := by rw [strideNext, if_neg (by simp [h])]

/-- spec.StrideNext at every two slices. -/
theorem specStrideNext (a : Option Addr) (len cap : Nat) (cs : List Int) (a' : Option Addr) (len' cap' : Nat) (ns : List Int) (w : World) (I : Ints w a len cs) (J : Ints w a' len' ns) (hs : (len : Int) ≤ 1048576) :
    Calls Try.prog 19 #[.slice a len cap, .slice a' len' cap'] w fun e w' => e = .returned (.int .i64 (strideNext cs ns)) ∧ Below w.heap.size w w' := by
  have HI : Hid (Ints w a len cs ∧ Ints w a' len' ns) := ⟨I, J⟩
  clear I J
  cases hc : countsOk cs ns
  · rw [strideNext_no hc]
    have HC : Hid (countsOk cs ns = false) := hc
    clear hc
    go_enter Try.func19, Try.ntmps19
    go_wp2_with fail
    refine (specCounts a len cap cs a' len' cap' ns _ HI.out.1 HI.out.2 hs).mono ?_
    rw [HC.out]
    rintro e w1 ⟨rfl, rfl⟩
    go_wp2_with fail
    go_ret
    exact ⟨rfl, Below.refl _ _⟩
  · rw [strideNext_yes hc]
    have C := counted_start hc
    have HC : Hid (countsOk cs ns = true) := hc
    clear hc
    go_enter Try.func19, Try.ntmps19
    go_wp2_with fail
    refine (specCounts a len cap cs a' len' cap' ns _ HI.out.1 HI.out.2 hs).mono ?_
    rw [HC.out]
    rintro e w1 ⟨rfl, rfl⟩
    go_wp2_with fail
    refine (next_any a len cap cs a' len' cap' ns 0 (by omega) C _ HI.out.1 HI.out.2).mono ?_
    rintro e w2 ⟨rfl, B2⟩
    go_wp2_with fail
    go_ret
    exact ⟨rfl, B2⟩

/-- impl.StrideNext at every two slices. -/
theorem implStrideNext (a : Option Addr) (len cap : Nat) (cs : List Int) (a' : Option Addr) (len' cap' : Nat) (ns : List Int) (w : World) (I : Ints w a len cs) (J : Ints w a' len' ns) :
    Calls Try.prog 18 #[.slice a len cap, .slice a' len' cap'] w fun e w' => e = .returned (.int .i64 (strideNext cs ns)) ∧ Below w.heap.size w w' := by
  have HI : Hid (Ints w a len cs ∧ Ints w a' len' ns) := ⟨I, J⟩
  clear I J
  cases hc : countsOk cs ns
  · rw [strideNext_no hc]
    have HC : Hid (countsOk cs ns = false) := hc
    clear hc
    go_enter Try.func18, Try.ntmps18
    go_wp2_with fail
    refine (implCounts a len cap cs a' len' cap' ns _ HI.out.1 HI.out.2).mono ?_
    rw [HC.out]
    rintro e w1 ⟨rfl, rfl⟩
    go_wp2_with fail
    go_ret
    exact ⟨rfl, Below.refl _ _⟩
  · rw [strideNext_yes hc]
    have C := counted_start hc
    have HC : Hid (countsOk cs ns = true) := hc
    clear hc
    go_enter Try.func18, Try.ntmps18
    go_wp2_with fail
    refine (implCounts a len cap cs a' len' cap' ns _ HI.out.1 HI.out.2).mono ?_
    rw [HC.out]
    rintro e w1 ⟨rfl, rfl⟩
    go_wp2_with fail
    refine (lineOf_any a len cap cs a' len' cap' ns _ HI.out.1 HI.out.2 HC.out).mono ?_
    rintro e w2 ⟨b, g, cg, g1, c1, ws, rfl, L⟩
    have hla : cs.length = len := HI.out.1.1
    have h24 := crew_len C.crew
    have htop : gd ws 0 = ((lastOf cs ns : Nat) : Int) := top_last (by omega) (by rw [hla]; exact L.perm) (by rw [hla]; exact L.heap)
    obtain ⟨r, er, _, R, hl, _⟩ := L.line.row (by omega)
    cases er
    have HL : Hid (Below w1.heap.size w1 w2 ∧ Line w2 b (.slice a len cap) (.slice (some ⟨g, 0, none⟩) len' cg) (.slice (some ⟨g1, 0, none⟩) len c1) ∧ Row w2 g1 c1 ws ∧ ws.length = len ∧ 0 < len ∧ gd ws 0 = ((lastOf cs ns : Nat) : Int)) := ⟨L.line.bel, L.line.line, R, hl, by omega, htop⟩
    clear L R hl htop hla h24
    go_wp2_with fail
    refine (last_at b _ _ g1 len c1 ws _ HL.out.2.1 HL.out.2.2.1 HL.out.2.2.2.1 HL.out.2.2.2.2.1).mono ?_
    rw [HL.out.2.2.2.2.2]
    rintro e w3 ⟨rfl, rfl⟩
    go_wp2_with fail
    go_ret
    exact ⟨rfl, HL.out.1⟩

end Go.Proofs.Ytdneohbgdhoigaa.Crew
