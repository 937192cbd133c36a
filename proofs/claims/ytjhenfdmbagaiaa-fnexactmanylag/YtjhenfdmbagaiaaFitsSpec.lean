/-
  spec.FitsOn at every slice of Shares and every number of processors; the law FnExactFitsOn.
-/
import Derived.Test.YtjhenfdmbagaiaaFitsOn
namespace Go.Proofs.Ytjhenfdmbagaiaa.Crew
open Go.ChangeShapes Go.WideShapes Go.ChangeAt Go.RowKit Go.Proofs.Ytjhenfdmbagaiaa.Win

theorem specFits_in (a : Option Addr) (len cap : Nat) (ps : List Shr) (n : Int) (w : World) (I : Shs w a len ps) (hs : (len : Int) ≤ 24) (hp : procsOk n = true) :
    Calls Try.prog 47 #[.slice a len cap, .int .i64 n] w fun e w' => e = .returned (.bool (fitsOn ps n)) ∧ Below w.heap.size w w' := by
  have HI : Hid (Shs w a len ps) := I
  have hl := I.1
  obtain ⟨n1, n8⟩ := procs_yes hp
  obtain ⟨m, hm⟩ : ∃ m : Int, m = (wholeN ps : Int) := ⟨_, rfl⟩
  have m1 : 0 ≤ m ∧ m ≤ 24 := by have := wholeN_le ps; omega
  obtain ⟨m0, m24⟩ := m1
  have HM : Hid (m = (wholeN ps : Int)) := hm
  have HL : Hid (ps.length = len) := hl
  have HP : Hid (procsOk n = true) := hp
  have hd : decide ((24 : Int) < (len : Int)) = false := by simp; omega
  clear I hl hm
  go_enter Try.func47, Try.ntmps47
  go_wp2_with fail
  refine (specProcs n _).mono ?_
  rintro e wq ⟨rfl, rfl⟩
  rw [hp]
  clear hp
  go_wp2_with fail
  go_loopw [5, 6, 7] (fun u v i wr => ∃ (k : Nat) (den sum : Int), k ≤ len ∧ i = .int .i64 k ∧ u = .int .i64 den ∧ v = .int .i64 sum ∧ 0 ≤ den ∧ den ≤ 100000000 ∧ 0 ≤ sum ∧ sum ≤ 100000000 * (k : Int) ∧ Hid (parts (ps.take k) = some (den, sum)) ∧ Hid (Below wq.heap.size wq wr)) (fun _ _ i _ => len - (intOf i).toNat)
  case atStart => exact ⟨0, 0, 0, Nat.zero_le _, rfl, rfl, rfl, by omega, by omega, by omega, by omega, by show _ = _; simp [parts], Below.refl _ _⟩
  case round =>
    obtain ⟨k, den, sum, hk, rfl, rfl, rfl, d0, d1, s0, s1, E, B⟩ := hrel
    by_cases hlt : k < len
    · obtain ⟨hl1, h0 | ⟨b1, off1, rfl, hb1, hc1⟩⟩ := HI.out.kept B.out
      · omega
      obtain ⟨x, hx⟩ : ∃ x, x = (ps.getD k (0, 0)).1 := ⟨_, rfl⟩
      obtain ⟨y, hy⟩ : ∃ y, y = (ps.getD k (0, 0)).2 := ⟨_, rfl⟩
      obtain ⟨p0, p1⟩ := hc1 k hlt
      rw [← hx] at p0
      rw [← hy] at p1
      have hlt' : (k : Int) < (len : Int) := by omega
      have S : Hid (parts (ps.take (k + 1)) = partStep (some (den, sum)) (x, y)) := by
        rw [parts_step (by omega), E.out, hx, hy]
        exact rfl
      have bs := B.out.size
      have BC : Hid (∀ w1, Below (wr.alloc (.cells #[.int .i64 x, .int .i64 y] 42)).heap.size (wr.alloc (.cells #[.int .i64 x, .int .i64 y] 42)) w1 → Below wq.heap.size wq w1) := fun w1 b => (B.out.alloc bs _).trans (b.mono (by simp; omega))
      clear hc1 hx hy
      cases hok : shareOk x y
      · have D : Hid (parts ps = none) := parts_dead (k := k + 1) (by rw [S.out]; exact step_bad hok)
        go_wp2_with fail
        refine (specShareOk x y _).mono ?_
        rintro e w2 ⟨rfl, b2⟩
        rw [hok]
        have B2 := BC.out _ b2
        go_wp2_with fail
        go_ret
        exact ⟨by rw [fits_none D.out]; rfl, B2⟩
      · obtain ⟨x1, x2, y2⟩ := share_yes hok
        by_cases hxy : x = y
        · have D : Hid (parts (ps.take (k + 1)) = some (den, sum)) := by rw [S.out]; exact step_whole hok hxy
          have hn : (x == y) = true := by simp [hxy]
          clear hxy
          go_wp2_with fail
          refine (specShareOk x y _).mono ?_
          rintro e w2 ⟨rfl, b2⟩
          rw [hok]
          obtain ⟨k0, k1, k2⟩ := box_call b2
          have B2 : Hid (Below wq.heap.size wq w2) := BC.out _ b2
          clear b2
          go_wp2_with fail
          go_roundw
          case rel => exact ⟨k + 1, den, sum, by omega, by go_num, rfl, rfl, d0, d1, s0, by omega, D, B2⟩
          case measure => simp [intOf]; omega
        · have hn : (x == y) = false := by simp [hxy]
          by_cases hd : den = 0
          · have D : Hid (parts (ps.take (k + 1)) = some (y, sum + x)) := by rw [S.out]; exact step_more hok hxy (.inl hd)
            have hm : (den != 0) = false := by simp [hd]
            clear hxy hd
            go_wp2_with fail
            refine (specShareOk x y _).mono ?_
            rintro e w2 ⟨rfl, b2⟩
            rw [hok]
            obtain ⟨k0, k1, k2⟩ := box_call b2
            have B2 : Hid (Below wq.heap.size wq w2) := BC.out _ b2
            clear b2
            go_wp2_with fail
            go_roundw
            case rel => exact ⟨k + 1, y, sum + x, by omega, by go_num, rfl, by go_num, by omega, by omega, by omega, by omega, D, B2⟩
            case measure => simp [intOf]; omega
          · have hm : (den != 0) = true := by simp [hd]
            by_cases hy : y = den
            · have D : Hid (parts (ps.take (k + 1)) = some (y, sum + x)) := by rw [S.out]; exact step_more hok hxy (.inr hy)
              have hq : (den != y) = false := by simp [hy]
              clear hxy hd hy
              go_wp2_with fail
              refine (specShareOk x y _).mono ?_
              rintro e w2 ⟨rfl, b2⟩
              rw [hok]
              obtain ⟨k0, k1, k2⟩ := box_call b2
              have B2 : Hid (Below wq.heap.size wq w2) := BC.out _ b2
              clear b2
              go_wp2_with fail
              go_roundw
              case rel => exact ⟨k + 1, y, sum + x, by omega, by go_num, rfl, by go_num, by omega, by omega, by omega, by omega, D, B2⟩
              case measure => simp [intOf]; omega
            · have D : Hid (parts ps = none) := parts_dead (k := k + 1) (by rw [S.out]; exact step_two hok hxy hd hy)
              have hq : (den != y) = true := by simp; omega
              clear hxy hd hy
              go_wp2_with fail
              refine (specShareOk x y _).mono ?_
              rintro e w2 ⟨rfl, b2⟩
              rw [hok]
              obtain ⟨k0, k1, k2⟩ := box_call b2
              have B2 : Hid (Below wq.heap.size wq w2) := BC.out _ b2
              clear b2
              go_wp2_with fail
              go_ret
              exact ⟨by rw [fits_none D.out]; rfl, B2.out⟩
    · have hlt' : ¬ (k : Int) < (len : Int) := by omega
      have EF : Hid (parts ps = some (den, sum)) := by
        have := E.out
        rw [List.take_of_length_le (by have := HI.out.1; omega)] at this
        exact this
      have s2 : sum ≤ 2400000000 := by omega
      clear s1
      by_cases hw : m ≤ n
      · have F : Hid (fitsOn ps n = decide (sum ≤ den * (n - m))) := by rw [HM.out]; exact fits_is HP.out (by have := HL.out; omega) EF.out (by rw [← HM.out]; exact hw)
        obtain ⟨t0, t1⟩ := den_mul (d := n - m) d0 d1 (by omega) (by omega)
        have hge : decide (m ≤ n) = true := by simp; omega
        go_wp2_with fail
        refine (specWhole a len cap ps _ (HI.out.kept B.out) (by omega)).mono ?_
        rw [← HM.out]
        rintro e w2 ⟨rfl, B2⟩
        have C2 : Hid (Below wq.heap.size wq w2) := B.out.trans (B2.mono B.out.size)
        clear B2
        go_wp2_with fail
        refine (specWhole a len cap ps _ (HI.out.kept C2.out) (by omega)).mono ?_
        rw [← HM.out]
        rintro e w3 ⟨rfl, B3⟩
        have C3 : Hid (Below wq.heap.size wq w3) := C2.out.trans (B3.mono C2.out.size)
        clear B3
        go_wp2_with fail
        go_ret
        exact ⟨by rw [F.out]; rfl, C3.out⟩
      · have F : Hid (fitsOn ps n = false) := fits_many (by rw [← HM.out]; exact hw)
        have hge : decide (m ≤ n) = false := by simp; omega
        go_wp2_with fail
        refine (specWhole a len cap ps _ (HI.out.kept B.out) (by omega)).mono ?_
        rw [← HM.out]
        rintro e w2 ⟨rfl, B2⟩
        have C2 : Hid (Below wq.heap.size wq w2) := B.out.trans (B2.mono B.out.size)
        clear B2
        go_wp2_with fail
        go_ret
        exact ⟨by rw [F.out]; rfl, C2.out⟩

theorem specFits (a : Option Addr) (len cap : Nat) (ps : List Shr) (n : Int) (w : World) (I : Shs w a len ps) (hs : (len : Int) ≤ 1048576) :
    Calls Try.prog 47 #[.slice a len cap, .int .i64 n] w fun e w' => e = .returned (.bool (fitsOn ps n)) ∧ Below w.heap.size w w' := by
  have hl := I.1
  cases hp : procsOk n
  · have F : Hid (fitsOn ps n = false) := fits_procs hp
    clear hl I
    go_enter Try.func47, Try.ntmps47
    go_wp2_with fail
    refine (specProcs n _).mono ?_
    rintro e wq ⟨rfl, rfl⟩
    rw [hp]
    go_wp2_with fail
    go_ret
    exact ⟨by rw [F.out]; rfl, Below.refl _ _⟩
  · by_cases h24 : (24 : Int) < (len : Int)
    · have F : Hid (fitsOn ps n = false) := fits_long (by omega)
      have hd : decide ((24 : Int) < (len : Int)) = true := by simp; omega
      clear hl I
      go_enter Try.func47, Try.ntmps47
      go_wp2_with fail
      refine (specProcs n _).mono ?_
      rintro e wq ⟨rfl, rfl⟩
      rw [hp]
      go_wp2_with fail
      go_ret
      exact ⟨by rw [F.out]; rfl, Below.refl _ _⟩
    · exact specFits_in a len cap ps n w I (by omega) hp

end Go.Proofs.Ytjhenfdmbagaiaa.Crew
