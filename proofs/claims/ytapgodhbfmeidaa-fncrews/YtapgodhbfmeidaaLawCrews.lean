/-
  The law FnCrews: whatever the code, it answers true and nothing that was there is written.
-/
import Derived.Test.YtapgodhbfmeidaaCrewSpec
import Derived.Test.YtapgodhbfmeidaaLikeInts
import Derived.Test.YtapgodhbfmeidaaSortOrder
import Derived.Test.YtapgodhbfmeidaaDrawCrew
import Derived.Test.YtapgodhbfmeidaaBig
namespace Go.Proofs.Ytapgodhbfmeidaa.Crew
open Go.ChangeShapes Go.WideShapes Go.ChangeAt Go.RowKit
open Go.Proofs.Ytapgodhbfmeidaa.Draw (Bytes big_any drawByWeight_any)

theorem crews_long (a : Option Addr) (len cap : Nat) (w : World) (hb : (4096 : Int) < (len : Int)) :
    Calls Try.prog 3 #[.slice a len cap] w fun e w' => e = .returned (.bool true) ∧ Below w.heap.size w w' := by
  have hd : decide (4096 < (len : Int)) = true := by simp; omega
  go_enter Try.func3, Try.ntmps3
  go_wp2_with fail
  refine (big_any a len cap _).mono ?_
  rintro e w1 ⟨rfl, rfl⟩
  rw [hd]
  clear hd
  go_wp2_with fail
  go_ret
  exact ⟨rfl, Below.refl _ _⟩

theorem crews_short (a : Option Addr) (len cap : Nat) (w : World) (B : Bytes w a len) (hb : ¬ (4096 : Int) < (len : Int)) :
    Calls Try.prog 3 #[.slice a len cap] w fun e w' => e = .returned (.bool true) ∧ Below w.heap.size w w' := by
  have ht : len ≤ 9223372036854775806 := by omega
  have hd : decide (4096 < (len : Int)) = false := by simp; omega
  go_enter Try.func3, Try.ntmps3
  go_wp2_with fail
  refine (big_any a len cap _).mono ?_
  rintro e w1 ⟨rfl, rfl⟩
  rw [hd]
  clear hd
  go_wp2_with fail
  refine (drawByWeight_any a len cap _ B ht).mono ?_
  rintro e w2 ⟨gc, cc, xs, rfl, Rc, hgc, hl30, B2⟩
  clear B
  obtain ⟨n, hn⟩ : ∃ n, n = xs.length := ⟨_, rfl⟩
  have Ic := Rc.ints
  rw [← hn] at hl30 Ic ⊢
  have hn30 : (n : Int) ≤ 30 := by omega
  have NL : Hid (n = xs.length) := hn
  clear hn hl30
  obtain ⟨m, hm⟩ : ∃ m, m = (byWeight xs).length := ⟨_, rfl⟩
  have hm24 : (m : Int) ≤ 24 := by have := byWeight_len xs; omega
  have HM : Hid (m = (byWeight xs).length) := hm
  clear hm
  go_wp2_with fail
  refine (implBy _ _ _ xs _ Ic).mono ?_
  rw [← HM.out]
  rintro e w3 ⟨gl, cl, rfl, Rl, hgl, B3⟩
  have C3 := B2.trans (B3.mono B2.size)
  have Ic3 := Ic.kept B3
  have Rc3 := Rc.all B3
  clear Ic Rc B3
  go_wp2_with fail
  refine (specBy _ _ _ xs _ Ic3 (by omega)).mono ?_
  rw [← HM.out]
  rintro e w4 ⟨gs, cs, rfl, Rs, hgs, B4⟩
  have C4 := C3.trans (B4.mono C3.size)
  have Ic4 := Ic3.kept B4
  have Rc4 := Rc3.all B4
  have Rl4 := Rl.all B4
  clear Ic3 Rc3 Rl B4
  have J1 := Rl4.ints
  have J2 := Rs.ints
  rw [← HM.out] at J1 J2
  go_wp2_with fail
  refine (likeInts_same _ _ _ _ _ _ _ _ J1 J2 (by omega)).mono ?_
  rintro e w5 ⟨rfl, B5⟩
  clear J1 J2
  have C5 : Hid (Below w1.heap.size w1 w5) := C4.trans (B5.mono C4.size)
  have Ic5 : Hid (Ints w5 (some ⟨gc, 0, none⟩) n xs) := Ic4.kept B5
  have Rc5 : Hid (Row w5 gc cc xs) := Rc4.all B5
  have Rl5 : Hid (Row w5 gl cl (byWeight xs)) := Rl4.all B5
  clear Ic4 Rc4 Rl4 Rs B5 C4 C3 B2
  have h1 : (crewOk xs != crewOk xs) = false := by simp
  have h2 : (totalOf xs != totalOf xs) = false := by simp
  go_wp2_with fail
  refine (implCrewOk _ _ _ xs _ Ic5.out).mono ?_
  rintro e w6 ⟨rfl, hw6⟩
  subst hw6
  go_wp2_with fail
  refine (specCrewOk _ _ _ xs _ Ic5.out (by omega)).mono ?_
  rintro e w6 ⟨rfl, hw6⟩
  subst hw6
  go_wp2_with fail
  refine (implTotal _ _ _ xs _ Ic5.out).mono ?_
  rintro e w6 ⟨rfl, hw6⟩
  subst hw6
  go_wp2_with fail
  refine (specTotal _ _ _ xs _ Ic5.out (by omega)).mono ?_
  rintro e w6 ⟨rfl, hw6⟩
  subst hw6
  go_wp2_with fail
  refine (specCrewOk _ _ _ xs _ Ic5.out (by omega)).mono ?_
  rintro e w6 ⟨rfl, hw6⟩
  subst hw6
  clear h1 h2
  cases hc : crewOk xs
  · have hm0 : m = 0 := by rw [HM.out]; simp [byWeight, hc]
    have htt : totalOf xs = -1 := by simp [totalOf, hc]
    subst hm0
    clear hc
    go_wp2_with fail
    refine (implTotal _ _ _ xs _ Ic5.out).mono ?_
    rw [htt]
    rintro e w6 ⟨rfl, hw6⟩
    subst hw6
    clear htt
    go_wp2_with fail
    go_ret
    exact ⟨rfl, C5.out⟩
  · have hmn : m = n := by rw [HM.out, NL.out]; simp [byWeight, hc, byW_length]
    have RB : Hid (Row w6 gl cl (byW xs n)) := by
      have := Rl5.out
      rw [show byWeight xs = byW xs n by rw [NL.out]; simp [byWeight, hc]] at this
      exact this
    have hn1 : 1 ≤ n := by have := crew_len hc; have := NL.out; omega
    subst hmn
    clear hc Rl5
    go_wp2_with fail
    go_loopw [5, 6, 7] (fun i _ _ wr => ∃ k : Nat, 1 ≤ k ∧ k ≤ m ∧ i = .int .i64 k ∧ Hid (Below w6.heap.size w6 wr)) (fun i _ _ _ => m - (intOf i).toNat)
    case atStart => exact ⟨1, by omega, hn1, rfl, Below.refl _ _⟩
    case round =>
      obtain ⟨k, hk1, hk, rfl, BR⟩ := hrel
      by_cases hlt : k < m
      · obtain ⟨x, y, hx, hy, hxe, hye, hno, hsame⟩ := byW_next xs m k (by omega) hlt
        have d1 := (RB.out.all BR.out).cell (j := k - 1) (by rw [byW_length]; omega)
        have d2 := (RB.out.all BR.out).cell (j := k) (by rw [byW_length]; omega)
        rw [hxe] at d1
        rw [hye] at d2
        obtain ⟨p, hp⟩ : ∃ p, p = xs.getD x 0 := ⟨_, rfl⟩
        obtain ⟨q, hq⟩ : ∃ q, q = xs.getD y 0 := ⟨_, rfl⟩
        have e1 := (Rc5.out.all BR.out).cell (j := x) (by have := NL.out; omega)
        have e2 := (Rc5.out.all BR.out).cell (j := y) (by have := NL.out; omega)
        rw [← hp] at e1 hno hsame
        rw [← hq] at e2 hno hsame
        have hki : (k : Int) < (m : Int) := by omega
        have hxi : (x : Int) < (m : Int) := by omega
        have hyi : (y : Int) < (m : Int) := by omega
        have hd1 : decide (p < q) = false := by simpa using hno
        clear hxe hye hp hq
        by_cases hpq : p = q
        · have hyx := hsame hpq
          have hd2 : decide ((y : Int) < (x : Int)) = false := by simpa using hyx
          have hd3 : decide (y < x) = false := by simp; omega
          subst hpq
          clear hsame
          go_wp2_with fail
          go_quiet (fail)
          go_wp2_with fail
          go_roundw
          case rel => exact ⟨k + 1, by omega, by omega, by go_num, below_drewN BR.out _⟩
          case measure => simp [intOf]; omega
        · have hd2 : (p == q) = false := by simpa using hpq
          clear hsame
          go_wp2_with fail
          go_quiet (fail)
          go_wp2_with fail
          go_roundw
          case rel => exact ⟨k + 1, by omega, by omega, by go_num, below_drewN BR.out _⟩
          case measure => simp [intOf]; omega
      · have hki : ¬ (k : Int) < (m : Int) := by omega
        go_wp2_with fail
        go_ret
        exact ⟨by simp, C5.out.trans (BR.out.mono C5.out.size)⟩

/-- The law FnCrews. -/
theorem lawCrews (a : Option Addr) (len cap : Nat) (w : World) (B : Bytes w a len) :
    Calls Try.prog 3 #[.slice a len cap] w fun e w' => e = .returned (.bool true) ∧ Below w.heap.size w w' := by
  by_cases hb : (4096 : Int) < (len : Int)
  · exact crews_long a len cap w hb
  · exact crews_short a len cap w B hb

end Go.Proofs.Ytapgodhbfmeidaa.Crew
