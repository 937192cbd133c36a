/-
  Down the list: impl.ListOk.
-/
import Derived.Test.YtlicjbnagapdeaaListBase
namespace Go.Proofs.Ytlicjbnagapdeaa.Crew
open Go.ChangeShapes Go.WideShapes Go.ChangeAt Go.RowKit

/-- impl.ListOk. -/
theorem implListX (a : Option Addr) (len cap : Nat) (cs : List Int) (a' : Option Addr) (len' cap' : Nat) (hs : List Int) (t p : Int) (w : World) (I : Ints w a len cs) (J : Ints w a' len' hs) :
    Calls Try.prog 16 #[lv (.slice a len cap) (.slice a' len' cap') t p] w fun e w' => e = .returned (.bool (listOk cs hs t p)) ∧ Below w.heap.size w w' := by
  have HI : Hid (Ints (w.alloc (.cells (lc (.slice a len cap) (.slice a' len' cap') t p) 31)) a len cs) := I.alloc _
  have HJ : Hid (Ints (w.alloc (.cells (lc (.slice a len cap) (.slice a' len' cap') t p) 31)) a' len' hs) := J.alloc _
  have HB : Hid (Below w.heap.size w (w.alloc (.cells (lc (.slice a len cap) (.slice a' len' cap') t p) 31))) := below_new _ _
  have hl := I.1
  have hl' := J.1
  clear I J
  cases hc : crewOk cs
  · have e : listOk cs hs t p = false := by simp [listOk, hc]
    rw [e]
    have HC : Hid (crewOk cs = false) := hc
    clear hc e
    go_enter Try.func16, Try.ntmps16
    go_wp2_with fail
    refine (implCrewOk a len cap cs _ HI.out).mono ?_
    rw [HC.out]
    rintro e w' ⟨rfl, rfl⟩
    go_wp2_with fail
    go_ret
    exact ⟨rfl, HB.out⟩
  · have HC : Hid (crewOk cs = true) := hc
    have hs24 : (len : Int) ≤ 24 := by have := crew_len hc; omega
    have hs1 : (1 : Int) ≤ (len : Int) := by have := crew_len hc; omega
    by_cases hll : len' = len
    · have hne : ((len' : Int) != (len : Int)) = false := by simp [hll]
      cases hw : within p 0 ((len : Int) - 1)
      · have e : listOk cs hs t p = false := by
          rw [listOk, hl, hw]; simp
        rw [e]
        have hp := within_no hw
        clear hc e hw hll
        by_cases hp0 : p < 0
        · go_enter Try.func16, Try.ntmps16
          go_wp2_with fail
          refine (implCrewOk a len cap cs _ HI.out).mono ?_
          rw [HC.out]
          rintro e w' ⟨rfl, rfl⟩
          go_wp2_with fail
          go_ret
          exact ⟨rfl, HB.out⟩
        · have hd : decide (p < 0) = false := by simp; omega
          have hp1 : (len : Int) ≤ p := by omega
          clear hp
          go_enter Try.func16, Try.ntmps16
          go_wp2_with fail
          refine (implCrewOk a len cap cs _ HI.out).mono ?_
          rw [HC.out]
          rintro e w' ⟨rfl, rfl⟩
          go_wp2_with fail
          go_ret
          exact ⟨rfl, HB.out⟩
      · have HW : Hid (within p 0 ((len : Int) - 1) = true) := hw
        have hp := within_yes hw
        have hd : decide (p < 0) = false := by simp; omega
        have hp1 : ¬ (len : Int) ≤ p := by omega
        have hd1 : decide ((len : Int) ≤ p) = false := by simp; omega
        have LL : Hid (hs.length = cs.length ∧ hs.length = len' ∧ cs.length = len ∧ len' = len) := ⟨by omega, by omega, by omega, hll⟩
        have hs24' : (len' : Int) ≤ 24 := by omega
        clear hc hl hl' hll hw
        go_enter Try.func16, Try.ntmps16
        go_wp2_with fail
        refine (implCrewOk a len cap cs _ HI.out).mono ?_
        rw [HC.out]
        rintro e w' ⟨rfl, rfl⟩
        go_wp2_with fail
        have HQ : Hid (Quad (w.alloc (.cells #[.slice a len cap, .slice a' len' cap', .int .i64 t, .int .i64 p] 31)) w.heap.size (.slice a len cap) (.slice a' len' cap') t p ∧ Ints (w.alloc (.cells #[.slice a len cap, .slice a' len' cap', .int .i64 t, .int .i64 p] 31)) a len cs ∧ Ints (w.alloc (.cells #[.slice a len cap, .slice a' len' cap', .int .i64 t, .int .i64 p] 31)) a' len' hs ∧ Below w.heap.size w (w.alloc (.cells #[.slice a len cap, .slice a' len' cap', .int .i64 t, .int .i64 p] 31))) := ⟨quad_new w _ _ t p, HI.out, HJ.out, HB.out⟩
        clear HI HJ HB hp
        generalize w.alloc (.cells #[.slice a len cap, .slice a' len' cap', .int .i64 t, .int .i64 p] 31) = W at *
        go_loopw [3, 4, 34] (fun _ _ i wr => ∃ k : Nat, k ≤ len' ∧ i = .int .i64 k ∧ Hid (hadTo cs hs k = true) ∧ Hid (Quad wr w.heap.size (.slice a len cap) (.slice a' len' cap') t p ∧ Ints wr a len cs ∧ Ints wr a' len' hs ∧ Below w.heap.size w wr)) (fun _ _ i _ => len' - (intOf i).toNat)
        case atStart => exact ⟨0, Nat.zero_le _, rfl, by show _ = _; rfl, HQ⟩
        case round =>
          obtain ⟨k, hk, rfl, A, Q⟩ := hrel
          have r0 := Q.out.1.c0
          have r1 := Q.out.1.c1
          have r2 := Q.out.1.c2
          by_cases hlt : k < len'
          · obtain ⟨_, h0 | ⟨b, off, rfl, hb, hcc⟩⟩ := id Q.out.2.1
            · have := LL.out; omega
            obtain ⟨_, h0 | ⟨b', off', rfl, hb', hcc'⟩⟩ := id Q.out.2.2.1
            · omega
            obtain ⟨x, hx⟩ : ∃ x, x = hs.getD k 0 := ⟨_, rfl⟩
            obtain ⟨c, hc⟩ : ∃ c, c = cs.getD k 0 := ⟨_, rfl⟩
            have c1 := hcc' k hlt
            have c2 := hcc k (by have := LL.out; omega)
            rw [← hx] at c1
            rw [← hc] at c2
            have X : Hid (x = hs.getD k 0 ∧ c = cs.getD k 0) := ⟨hx, hc⟩
            have hlt' : (k : Int) < (len' : Int) := by omega
            have hlt2 : (k : Int) < (len : Int) := by have := LL.out; omega
            clear hcc hcc' hx hc
            by_cases hx0 : x < 0
            · go_wp2_with fail
              go_ret
              have : listOk cs hs t p = false := by
                have h := hadTo_no (cs := cs) (hs := hs) (n := hs.length) (k := k) (by have := LL.out; omega) (by rw [← X.out.1, ← X.out.2]; exact decide_eq_false (fun h => by omega))
                rw [listOk, h]; simp
              exact ⟨by rw [this]; rfl, Q.out.2.2.2⟩
            · have hd0 : decide (x < 0) = false := by simp; omega
              by_cases hxc : c < x
              · go_wp2_with fail
                go_ret
                have : listOk cs hs t p = false := by
                  have h := hadTo_no (cs := cs) (hs := hs) (n := hs.length) (k := k) (by have := LL.out; omega) (by rw [← X.out.1, ← X.out.2]; exact decide_eq_false (fun h => by omega))
                  rw [listOk, h]; simp
                exact ⟨by rw [this]; rfl, Q.out.2.2.2⟩
              · have hdx : decide (c < x) = false := by simp; omega
                have HX : Hid (within x 0 c = true) := decide_eq_true ⟨by omega, by omega⟩
                go_wp2_with fail
                go_roundw
                case rel => exact ⟨k + 1, by omega, by go_num, by show _ = _; rw [hadTo, A.out, ← X.out.1, ← X.out.2, HX.out]; rfl, Q.out⟩
                case measure => simp [intOf]; omega
          · have hlt' : ¬ (k : Int) < (len' : Int) := by omega
            have hA : Hid (hadTo cs hs hs.length = true) := by
              have h := A.out
              have e : k = hs.length := by have := LL.out; omega
              rwa [e] at h
            have T := hid (fun n => sumOf_any a' len' cap' hs (wr.drewN n) (ints_drewN Q.out.2.2.1 n) (by omega) (hads_small HC.out hA.out))
            go_wp2_with fail
            go_quiet ((go_at_call 45; exact Calls.quiet_of_same (T.out _)))
            go_wp2_with fail
            go_ret
            refine ⟨?_, below_drewN Q.out.2.2.2 _⟩
            rw [listOk_end HC.out LL.out.1 (by rw [LL.out.2.2.1]; exact HW.out) hA.out]
            simp [BEq.beq]
    · have hne : ((len' : Int) != (len : Int)) = true := by simp; omega
      have e : listOk cs hs t p = false := by
        have : ¬ hs.length = cs.length := by omega
        simp [listOk, this]
      rw [e]
      clear hc e
      go_enter Try.func16, Try.ntmps16
      go_wp2_with fail
      refine (implCrewOk a len cap cs _ HI.out).mono ?_
      rw [HC.out]
      rintro e w' ⟨rfl, rfl⟩
      go_wp2_with fail
      go_ret
      exact ⟨rfl, HB.out⟩

end Go.Proofs.Ytlicjbnagapdeaa.Crew
