/-
  Down the list: impl.ListOk.
-/
import Derived.Test.YtcmeimfjedakeaaGreatListBase
import Derived.Test.YtcmeimfjedakeaaGreatShopOuter
import Derived.Test.YtcmeimfjedakeaaGreatShopBox
import Derived.Test.YtcmeimfjedakeaaGreatShopInner
import Derived.Test.YtcmeimfjedakeaaGreatTaskMath
namespace Go.Proofs.YtcmeimfjedakeaaGreat.Crew
open Go.ChangeShapes Go.WideShapes Go.ChangeAt Go.RowKit

/-- impl.ListOk. -/
theorem implListX (a : Option Addr) (len cap : Nat) (cs : List Int) (a' : Option Addr) (len' cap' : Nat) (hs : List Int) (t p : Int) (w : World) (I : Ints w a len cs) (J : Ints w a' len' hs) :
    Calls Tryz.prog 222 #[lv (.slice a len cap) (.slice a' len' cap') t p] w fun e w' => e = .returned (.bool (listOk cs hs t p)) ∧ Below w.heap.size w w' := by
  have HI : Hid (Ints (w.alloc (.cells (lc (.slice a len cap) (.slice a' len' cap') t p) 31)) a len cs) := I.alloc _
  have HJ : Hid (Ints (w.alloc (.cells (lc (.slice a len cap) (.slice a' len' cap') t p) 31)) a' len' hs) := J.alloc _
  have HB : Hid (Below w.heap.size w (w.alloc (.cells (lc (.slice a len cap) (.slice a' len' cap') t p) 31))) := below_new _ _
  have hl := I.1
  have hl' := J.1
  clear I J
  cases hc : crewOk cs
  · have e : listOk cs hs t p = false := by simp [listOk, hc]
    rw [e]
    have HC : Hid (crewOk cs = false) := hc
    clear hc e
    go_enter Tryz.func222, Tryz.ntmps222
    go_wp2_with fail
    refine (implCrewOk a len cap cs _ HI.out).mono ?_
    rw [HC.out]
    rintro e w' ⟨rfl, rfl⟩
    go_wp2_with fail
    go_ret
    exact ⟨rfl, HB.out⟩
  · have HC : Hid (crewOk cs = true) := hc
    have hs24 : (len : Int) ≤ 24 := by have := crew_len hc; omega
    have hs1 : (1 : Int) ≤ (len : Int) := by have := crew_len hc; omega
    by_cases hll : len' = len
    · have hne : ((len' : Int) != (len : Int)) = false := by simp [hll]
      cases hw : within p 0 ((len : Int) - 1)
      · have e : listOk cs hs t p = false := by
          rw [listOk, hl, hw]; simp
        rw [e]
        have hp := within_no hw
        clear hc e hw hll
        by_cases hp0 : p < 0
        · go_enter Tryz.func222, Tryz.ntmps222
          go_wp2_with fail
          refine (implCrewOk a len cap cs _ HI.out).mono ?_
          rw [HC.out]
          rintro e w' ⟨rfl, rfl⟩
          go_wp2_with fail
          go_ret
          exact ⟨rfl, HB.out⟩
        · have hd : decide (p < 0) = false := by simp; omega
          have hp1 : (len : Int) ≤ p := by omega
          clear hp
          go_enter Tryz.func222, Tryz.ntmps222
          go_wp2_with fail
          refine (implCrewOk a len cap cs _ HI.out).mono ?_
          rw [HC.out]
          rintro e w' ⟨rfl, rfl⟩
          go_wp2_with fail
          go_ret
          exact ⟨rfl, HB.out⟩
      · have HW : Hid (within p 0 ((len : Int) - 1) = true) := hw
        have hp := within_yes hw
        have hd : decide (p < 0) = false := by simp; omega
        have hp1 : ¬ (len : Int) ≤ p := by omega
        have hd1 : decide ((len : Int) ≤ p) = false := by simp; omega
        have LL : Hid (hs.length = cs.length ∧ hs.length = len' ∧ cs.length = len ∧ len' = len) := ⟨by omega, by omega, by omega, hll⟩
        have hs24' : (len' : Int) ≤ 24 := by omega
        clear hc hl hl' hll hw
        go_enter Tryz.func222, Tryz.ntmps222
        go_wp2_with fail
        refine (implCrewOk a len cap cs _ HI.out).mono ?_
        rw [HC.out]
        rintro e w' ⟨rfl, rfl⟩
        go_wp2_with fail
        have HQ : Hid (Quad (w.alloc (.cells #[.slice a len cap, .slice a' len' cap', .int .i64 t, .int .i64 p] 31)) w.heap.size (.slice a len cap) (.slice a' len' cap') t p ∧ Ints (w.alloc (.cells #[.slice a len cap, .slice a' len' cap', .int .i64 t, .int .i64 p] 31)) a len cs ∧ Ints (w.alloc (.cells #[.slice a len cap, .slice a' len' cap', .int .i64 t, .int .i64 p] 31)) a' len' hs ∧ Below w.heap.size w (w.alloc (.cells #[.slice a len cap, .slice a' len' cap', .int .i64 t, .int .i64 p] 31))) := ⟨quad_new w _ _ t p, HI.out, HJ.out, HB.out⟩
        clear HI HJ HB hp
        generalize w.alloc (.cells #[.slice a len cap, .slice a' len' cap', .int .i64 t, .int .i64 p] 31) = W at *
        go_loopw [3, 4, 34] (fun _ _ i wr => ∃ k : Nat, k ≤ len' ∧ i = .int .i64 k ∧ Hid (hadTo cs hs k = true) ∧ Hid (Quad wr w.heap.size (.slice a len cap) (.slice a' len' cap') t p ∧ Ints wr a len cs ∧ Ints wr a' len' hs ∧ Below w.heap.size w wr)) (fun _ _ i _ => len' - (intOf i).toNat)
        case atStart => exact ⟨0, Nat.zero_le _, rfl, by show _ = _; rfl, HQ⟩
        case round =>
          obtain ⟨k, hk, rfl, A, Q⟩ := hrel
          have r0 := Q.out.1.c0
          have r1 := Q.out.1.c1
          have r2 := Q.out.1.c2
          by_cases hlt : k < len'
          · obtain ⟨_, h0 | ⟨b, off, rfl, hb, hcc⟩⟩ := id Q.out.2.1
            · have := LL.out; omega
            obtain ⟨_, h0 | ⟨b', off', rfl, hb', hcc'⟩⟩ := id Q.out.2.2.1
            · omega
            obtain ⟨x, hx⟩ : ∃ x, x = hs.getD k 0 := ⟨_, rfl⟩
            obtain ⟨c, hc⟩ : ∃ c, c = cs.getD k 0 := ⟨_, rfl⟩
            have c1 := hcc' k hlt
            have c2 := hcc k (by have := LL.out; omega)
            rw [← hx] at c1
            rw [← hc] at c2
            have X : Hid (x = hs.getD k 0 ∧ c = cs.getD k 0) := ⟨hx, hc⟩
            have hlt' : (k : Int) < (len' : Int) := by omega
            have hlt2 : (k : Int) < (len : Int) := by have := LL.out; omega
            clear hcc hcc' hx hc
            by_cases hx0 : x < 0
            · go_wp2_with fail
              go_ret
              have : listOk cs hs t p = false := by
                have h := hadTo_no (cs := cs) (hs := hs) (n := hs.length) (k := k) (by have := LL.out; omega) (by rw [← X.out.1, ← X.out.2]; exact decide_eq_false (fun h => by omega))
                rw [listOk, h]; simp
              exact ⟨by rw [this]; rfl, Q.out.2.2.2⟩
            · have hd0 : decide (x < 0) = false := by simp; omega
              by_cases hxc : c < x
              · go_wp2_with fail
                go_ret
                have : listOk cs hs t p = false := by
                  have h := hadTo_no (cs := cs) (hs := hs) (n := hs.length) (k := k) (by have := LL.out; omega) (by rw [← X.out.1, ← X.out.2]; exact decide_eq_false (fun h => by omega))
                  rw [listOk, h]; simp
                exact ⟨by rw [this]; rfl, Q.out.2.2.2⟩
              · have hdx : decide (c < x) = false := by simp; omega
                have HX : Hid (within x 0 c = true) := decide_eq_true ⟨by omega, by omega⟩
                go_wp2_with fail
                go_roundw
                case rel => exact ⟨k + 1, by omega, by go_num, by show _ = _; rw [hadTo, A.out, ← X.out.1, ← X.out.2, HX.out]; rfl, Q.out⟩
                case measure => simp [intOf]; omega
          · have hlt' : ¬ (k : Int) < (len' : Int) := by omega
            have hA : Hid (hadTo cs hs hs.length = true) := by
              have h := A.out
              have e : k = hs.length := by have := LL.out; omega
              rwa [e] at h
            have T := hid (fun n => sumOf_any a' len' cap' hs (wr.drewN n) (ints_drewN Q.out.2.2.1 n) (by omega) (hads_small HC.out hA.out))
            go_wp2_with fail
            go_quiet ((go_at_call 213; exact Calls.quiet_of_same (T.out _)))
            go_wp2_with fail
            go_ret
            refine ⟨?_, below_drewN Q.out.2.2.2 _⟩
            rw [listOk_end HC.out LL.out.1 (by rw [LL.out.2.2.1]; exact HW.out) hA.out]
            simp [BEq.beq]
    · have hne : ((len' : Int) != (len : Int)) = true := by simp; omega
      have e : listOk cs hs t p = false := by
        have : ¬ hs.length = cs.length := by omega
        simp [listOk, this]
      rw [e]
      clear hc e
      go_enter Tryz.func222, Tryz.ntmps222
      go_wp2_with fail
      refine (implCrewOk a len cap cs _ HI.out).mono ?_
      rw [HC.out]
      rintro e w' ⟨rfl, rfl⟩
      go_wp2_with fail
      go_ret
      exact ⟨rfl, HB.out⟩

end Go.Proofs.YtcmeimfjedakeaaGreat.Crew

/-
  slices.Equal at []int64 and []Share. (Written by wip/tools/gen_equali.py.)
-/
namespace Go.Proofs.YtcmeimfjedakeaaGreat.Crew
open Go.ChangeShapes Go.WideShapes Go.ChangeAt Go.RowKit

theorem eqInts_at (a : Option Addr) (len cap : Nat) (xs : List Int) (a' : Option Addr) (len' cap' : Nat) (ys : List Int) (w : World) (I : Ints w a len xs) (J : Ints w a' len' ys) (hs : (len : Int) ≤ 1048576) :
    Calls Tryz.prog 52 #[.slice a len cap, .slice a' len' cap'] w fun e w' => e = .returned (.bool (decide (xs = ys))) ∧ Below w.heap.size w w' := by
  have HI : Hid (Ints w a len xs) := I
  have HJ : Hid (Ints w a' len' ys) := J
  have hl := I.1
  have hl' := J.1
  clear I J
  by_cases hlen : len = len'
  · subst hlen
    have hne : ((len : Int) != (len : Int)) = false := by simp
    have HL : Hid (xs.length = len ∧ ys.length = len) := ⟨hl, hl'⟩
    clear hl hl'
    go_enter Tryz.func52, Tryz.ntmps52
    go_wp2_with fail
    go_loopw [5, 13] (fun _ i wr => ∃ k : Nat, k ≤ len ∧ i = .int .i64 k ∧ Hid (sameTo xs ys k ∧ Below w.heap.size w wr)) (fun _ i _ => len - (intOf i).toNat)
    case atStart => exact ⟨0, Nat.zero_le _, rfl, fun j hj => by omega, Below.refl _ _⟩
    case round =>
      obtain ⟨k, hk, rfl, R⟩ := hrel
      by_cases hlt : k < len
      · obtain ⟨_, h0 | ⟨b, off, rfl, hb, hc⟩⟩ := HI.out.kept R.out.2
        · omega
        obtain ⟨_, h0 | ⟨b', off', rfl, hb', hc'⟩⟩ := HJ.out.kept R.out.2
        · omega
        have c0 := hc k hlt
        have c1 := hc' k hlt
        obtain ⟨x, hx⟩ : ∃ x, x = xs.getD k 0 := ⟨_, rfl⟩
        obtain ⟨y, hy⟩ : ∃ y, y = ys.getD k 0 := ⟨_, rfl⟩
        rw [← hx] at c0
        rw [← hy] at c1
        have hlt' : (k : Int) < (len : Int) := by omega
        have HX : Hid (x = xs.getD k 0 ∧ y = ys.getD k 0) := ⟨hx, hy⟩
        clear hc hc' hx hy
        by_cases he : x = y
        · have hb1 : (x != y) = false := by simp [he]
          have HE : Hid (sameTo xs ys (k + 1)) := fun j hj => by
            by_cases e : j = k
            · rw [e, ← HX.out.1, ← HX.out.2, he]
            · exact R.out.1 j (by omega)
          clear he
          go_wp2_with fail
          go_quiet (fail)
          have RN : Hid (Below w.heap.size w (wr.drewN nq)) := below_drewN R.out.2 _
          generalize wr.drewN nq = wx at RN ⊢
          go_wp2_with fail
          go_roundw
          case rel => exact ⟨k + 1, by omega, by go_num, HE.out, RN.out⟩
          case measure => simp [intOf]; omega
        · have hb1 : (x != y) = true := by simp [he]
          have HE : Hid (decide (xs = ys) = false) := decide_eq_false (same_no (by rw [← HX.out.1, ← HX.out.2]; exact he))
          clear he
          go_wp2_with fail
          go_quiet (fail)
          have RN : Hid (Below w.heap.size w (wr.drewN nq)) := below_drewN R.out.2 _
          generalize wr.drewN nq = wx at RN ⊢
          go_wp2_with fail
          go_ret
          exact ⟨by rw [HE.out]; rfl, RN.out⟩
      · have hlt' : ¬ (k : Int) < (len : Int) := by omega
        have e : k = len := by omega
        subst e
        have HE : Hid (decide (xs = ys) = true) := decide_eq_true (same_all (HL.out.1.trans HL.out.2.symm) (by rw [HL.out.1]; exact R.out.1))
        go_wp2_with fail
        go_ret
        exact ⟨by rw [HE.out]; rfl, R.out.2⟩
  · have hne : ((len : Int) != (len' : Int)) = true := by simp; omega
    have HE : Hid (decide (xs = ys) = false) := decide_eq_false (fun e => hlen (by rw [← hl, ← hl', e]))
    clear hl hl' hlen
    go_enter Tryz.func52, Tryz.ntmps52
    go_wp2_with fail
    go_ret
    exact ⟨by rw [HE.out]; rfl, Below.refl _ _⟩

theorem eqShs_at (a : Option Addr) (len cap : Nat) (xs : List Shr) (a' : Option Addr) (len' cap' : Nat) (ys : List Shr) (w : World) (I : Shs w a len xs) (J : Shs w a' len' ys) (hs : (len : Int) ≤ 1048576) :
    Calls Tryz.prog 229 #[.slice a len cap, .slice a' len' cap'] w fun e w' => e = .returned (.bool (decide (xs = ys))) ∧ Below w.heap.size w w' := by
  have HI : Hid (Shs w a len xs) := I
  have HJ : Hid (Shs w a' len' ys) := J
  have hl := I.1
  have hl' := J.1
  clear I J
  by_cases hlen : len = len'
  · subst hlen
    have hne : ((len : Int) != (len : Int)) = false := by simp
    have HL : Hid (xs.length = len ∧ ys.length = len) := ⟨hl, hl'⟩
    clear hl hl'
    go_enter Tryz.func229, Tryz.ntmps229
    go_wp2_with fail
    go_loopw [5, 13] (fun _ i wr => ∃ k : Nat, k ≤ len ∧ i = .int .i64 k ∧ Hid ((∀ j, j < k → xs.getD j (0, 0) = ys.getD j (0, 0)) ∧ Below w.heap.size w wr)) (fun _ i _ => len - (intOf i).toNat)
    case atStart => exact ⟨0, Nat.zero_le _, rfl, fun j hj => by omega, Below.refl _ _⟩
    case round =>
      obtain ⟨k, hk, rfl, R⟩ := hrel
      by_cases hlt : k < len
      · obtain ⟨_, h0 | ⟨b, off, rfl, hb, hc⟩⟩ := HI.out.kept R.out.2
        · omega
        obtain ⟨_, h0 | ⟨b', off', rfl, hb', hc'⟩⟩ := HJ.out.kept R.out.2
        · omega
        obtain ⟨c0, c1⟩ := hc k hlt
        obtain ⟨d0, d1⟩ := hc' k hlt
        obtain ⟨x, hx⟩ : ∃ x, x = xs.getD k (0, 0) := ⟨_, rfl⟩
        obtain ⟨y, hy⟩ : ∃ y, y = ys.getD k (0, 0) := ⟨_, rfl⟩
        rw [← hx] at c0 c1
        rw [← hy] at d0 d1
        have hlt' : (k : Int) < (len : Int) := by omega
        have HX : Hid (x = xs.getD k (0, 0) ∧ y = ys.getD k (0, 0)) := ⟨hx, hy⟩
        clear hc hc' hx hy
        obtain ⟨x1, x2⟩ := x
        obtain ⟨y1, y2⟩ := y
        simp only at c0 c1 d0 d1
        by_cases he : x1 = y1 ∧ x2 = y2
        · obtain ⟨rfl, rfl⟩ := he
          have hb1 : (x1 == x1) = true := by simp
          have hb2 : (x2 == x2) = true := by simp
          have HE : Hid (∀ j, j < k + 1 → xs.getD j (0, 0) = ys.getD j (0, 0)) := fun j hj => by
            by_cases e : j = k
            · rw [e, ← HX.out.1, ← HX.out.2]
            · exact R.out.1 j (by omega)
          go_wp2_with fail
          go_quiet (fail)
          have RN : Hid (Below w.heap.size w (wr.drewN nq)) := below_drewN R.out.2 _
          generalize wr.drewN nq = wx at RN ⊢
          go_wp2_with fail
          go_roundw
          case rel => exact ⟨k + 1, by omega, by go_num, HE.out, RN.out⟩
          case measure => simp [intOf]; omega
        · have HE : Hid (decide (xs = ys) = false) := decide_eq_false (fun e => he (by have h1 := HX.out.1; have h2 := HX.out.2; rw [e, ← h2] at h1; exact ⟨congrArg Prod.fst h1, congrArg Prod.snd h1⟩))
          by_cases h1 : x1 = y1
          · have h2 : ¬ x2 = y2 := fun e => he ⟨h1, e⟩
            subst h1
            have hb1 : (x1 == x1) = true := by simp
            have hb2 : (x2 == y2) = false := by simpa using h2
            clear he h2
            go_wp2_with fail
            go_quiet (fail)
            have RN : Hid (Below w.heap.size w (wr.drewN nq)) := below_drewN R.out.2 _
            generalize wr.drewN nq = wx at RN ⊢
            go_wp2_with fail
            go_ret
            exact ⟨by rw [HE.out]; rfl, RN.out⟩
          · have hb1 : (x1 == y1) = false := by simpa using h1
            clear he h1
            go_wp2_with fail
            go_quiet (fail)
            have RN : Hid (Below w.heap.size w (wr.drewN nq)) := below_drewN R.out.2 _
            generalize wr.drewN nq = wx at RN ⊢
            go_wp2_with fail
            go_ret
            exact ⟨by rw [HE.out]; rfl, RN.out⟩
      · have hlt' : ¬ (k : Int) < (len : Int) := by omega
        have e : k = len := by omega
        subst e
        have HE : Hid (decide (xs = ys) = true) := decide_eq_true (shs_all (HL.out.1.trans HL.out.2.symm) (by rw [HL.out.1]; exact R.out.1))
        go_wp2_with fail
        go_ret
        exact ⟨by rw [HE.out]; rfl, R.out.2⟩
  · have hne : ((len : Int) != (len' : Int)) = true := by simp; omega
    have HE : Hid (decide (xs = ys) = false) := decide_eq_false (fun e => hlen (by rw [← hl, ← hl', e]))
    clear hl hl' hlen
    go_enter Tryz.func229, Tryz.ntmps229
    go_wp2_with fail
    go_ret
    exact ⟨by rw [HE.out]; rfl, Below.refl _ _⟩

end Go.Proofs.YtcmeimfjedakeaaGreat.Crew

/-
  A Shop in the making beside its boxes; stores of Smooth, List, Many into a Shop's block. (Written by wip/tools/gen_shopmake.py.)
-/
namespace Go.Proofs.YtcmeimfjedakeaaGreat.Crew
open Go.ChangeShapes Go.WideShapes Go.ChangeAt Go.RowKit

/-- Boxes of the call's own, and a Shop in the making that lies in none of them: its slices are elder ones (O) or of the call's own. -/
structure Wkb (O : Bs) (w0 X : World) (l : List (Nat × LT × SD)) (M : LT) (D : SD) : Prop where
  bag : Bag w0 X l
  own : Own X M D
  par : Parts M
  frm : ∀ j, Has M j → O j ∨ w0.heap.size ≤ j
  off : ∀ (i : Nat) (e : Nat × LT × SD), l[i]? = some e → ¬ Has M e.1

theorem Wkb.all {O : Bs} {w0 X Y : World} {l : List (Nat × LT × SD)} {M : LT} {D : SD} (h : Wkb O w0 X l M D) (k : Below X.heap.size X Y) : Wkb O w0 Y l M D :=
  ⟨h.bag.all k, h.own.still (fun j hj => k.block j (h.own.lt j hj)), h.par, h.frm, h.off⟩

theorem Wkb.drew {O : Bs} {w0 X : World} {l : List (Nat × LT × SD)} {M : LT} {D : SD} (h : Wkb O w0 X l M D) : Wkb O w0 X.drew l M D := h.all (below_drewN (Below.refl _ _) 1)

theorem has_zl' {j : Nat} : ¬ Has zl j := by
  rintro ⟨i, hi, h⟩
  have : LT.at zl i = none := by
    rcases i with _ | _ | _ | _ | _ | _ | _ | _ | _ | _ | i
    all_goals first | rfl | omega
  rw [this] at h
  cases h

/-- Nothing is made yet. -/
theorem wkb_zl {O : Bs} {w0 X : World} {l : List (Nat × LT × SD)} (h : Bag w0 X l) (p q lt la yq yt w : Int) : Wkb O w0 X l zl ⟨p, q, [], [], [], [], [], [], [], [], lt, la, [], [], yq, yt, w⟩ :=
  ⟨h, (mk_zl 0 X p q lt la yq yt w).own, (mk_zl 0 X p q lt la yq yt w).par, fun _ hj => absurd hj has_zl', fun _ _ _ => has_zl'⟩

theorem wkb_in {w0 : World} {M : LT} {D : SD} (O : Own w0 M D) (P : Parts M) : Wkb (Has M) w0 w0 [] M D :=
  ⟨bag_nil _, O, P, fun _ h => .inl h, fun _ _ h => by simp at h⟩

theorem Wkb.nums {O : Bs} {w0 X : World} {l : List (Nat × LT × SD)} {M : LT} {D : SD} (h : Wkb O w0 X l M D) (p q lt la yq yt w : Int) : Wkb O w0 X l M { D with p := p, q := q, lt := lt, la := la, yq := yq, yt := yt, w := w } :=
  ⟨h.bag, ⟨h.own.t, h.own.m, h.own.c, h.own.n, h.own.s, h.own.r, h.own.l, h.own.h, h.own.y, h.own.z⟩, h.par, h.frm, h.off⟩

/-- A new box. -/
theorem Wkb.add {O : Bs} {w0 X Y : World} {l : List (Nat × LT × SD)} {M : LT} {D : SD} (h : Wkb O w0 X l M D) (k : Below X.heap.size X Y) {b : Nat} {L : LT} {d : SD} (hb : b = X.heap.size) (S : Shp Y b L d) : Wkb O w0 Y (l ++ [(b, L, d)]) M D := by
  have h' := h.all k
  refine ⟨h.bag.add k hb S, h'.own, h.par, h.frm, fun i e hi => ?_⟩
  by_cases hl : i < l.length
  · rw [List.getElem?_append_left hl] at hi
    exact h.off i e hi
  · rw [List.getElem?_append_right (by omega)] at hi
    rcases hk : i - l.length with _ | k
    · rw [hk] at hi
      cases hi
      intro hj
      have := h.own.lt _ hj
      show False
      omega
    · rw [hk] at hi
      simp at hi

/-- A box is given another Shop. -/
theorem Wkb.put {O : Bs} {w0 X Y : World} {l : List (Nat × LT × SD)} {M : LT} {D : SD} (h : Wkb O w0 X l M D) (i : Nat) {b : Nat} {L L' : LT} {d d' : SD} (hi : l[i]? = some (b, L, d)) (S : Shp Y b L' d') (g : X.grownBy Y (some b)) : Wkb O w0 Y (l.set i (b, L', d')) M D := by
  have hil : i < l.length := (List.getElem?_eq_some_iff.1 hi).1
  refine ⟨h.bag.put i hi S g, h.own.still (fun j hj => g.block j (h.own.lt j hj) ?_), h.par, h.frm, fun j e hj => ?_⟩
  · intro e
    cases e
    exact h.off i _ hi hj
  · by_cases e' : i = j
    · subst e'
      rw [List.getElem?_set_self hil] at hj
      cases hj
      show ¬ Has M b
      exact h.off i (b, L, d) hi
    · rw [List.getElem?_set_ne e'] at hj
      exact h.off j e hj

theorem has_old {L M : LT} (k : Nat) (sm : ∀ i, i < 10 → i ≠ k → M.at i = L.at i) {n : Nat} (ge : ∀ x, M.at k = some x → n ≤ x.block) {j : Nat} (h : Has M j) : Has L j ∨ n ≤ j := by
  obtain ⟨i, hi, hb⟩ := h
  by_cases h1 : i = k
  · subst h1
    cases hx : M.at i with
    | none => rw [hx] at hb; cases hb
    | some x =>
      rw [hx] at hb
      cases hb
      exact .inr (ge x hx)
  · rw [sm i hi h1] at hb
    exact .inl ⟨i, hi, hb⟩

/-- A slice more. -/
theorem Wkb.put_t {O : Bs} {w0 X Y : World} {l : List (Nat × LT × SD)} {M : LT} {D : SD} (h : Wkb O w0 X l M D) (B : Below X.heap.size X Y) {N : SL} {xs : List Tsk} (G : TFit Y X.heap.size N.a N.n N.c xs) : Wkb O w0 Y l { M with t := N } { D with t := xs } := by
  have h' := h.all B
  have G' := G
  have ge : ∀ x, N.a = some x → X.heap.size ≤ x.block := fun x hx => (Rec.fit.ge G' hx).1
  have sm : ∀ i, i < 10 → i ≠ 0 → LT.at { M with t := N } i = M.at i := fun i hi hne => by
    rcases i with _ | _ | _ | _ | _ | _ | _ | _ | _ | _ | i
    all_goals first | rfl | omega
  refine ⟨h'.bag, ⟨G.mono (Nat.zero_le _), h'.own.m, h'.own.c, h'.own.n, h'.own.s, h'.own.r, h'.own.l, h'.own.h, h'.own.y, h'.own.z⟩, parts_put h.own h.par 0 (by decide) sm ge, fun j hj => ?_, fun i e hi hj => ?_⟩
  · rcases has_old 0 sm ge hj with h1 | h1
    · exact h.frm j h1
    · exact .inr (Nat.le_trans h.bag.bel.size h1)
  · rcases has_old 0 sm ge hj with h1 | h1
    · exact h.off i e hi h1
    · have := (h.bag.shp i e.1 e.2.1 e.2.2 hi).1.lt
      omega

/-- A slice more. -/
theorem Wkb.put_m {O : Bs} {w0 X Y : World} {l : List (Nat × LT × SD)} {M : LT} {D : SD} (h : Wkb O w0 X l M D) (B : Below X.heap.size X Y) {N : SL} {xs : List Int} (G : Fit Y X.heap.size N.a N.n N.c xs) : Wkb O w0 Y l { M with m := N } { D with m := xs } := by
  have h' := h.all B
  have G' := G
  have ge : ∀ x, N.a = some x → X.heap.size ≤ x.block := fun x hx => (Fit.ge G' hx).1
  have sm : ∀ i, i < 10 → i ≠ 1 → LT.at { M with m := N } i = M.at i := fun i hi hne => by
    rcases i with _ | _ | _ | _ | _ | _ | _ | _ | _ | _ | i
    all_goals first | rfl | omega
  refine ⟨h'.bag, ⟨h'.own.t, G.mono (Nat.zero_le _), h'.own.c, h'.own.n, h'.own.s, h'.own.r, h'.own.l, h'.own.h, h'.own.y, h'.own.z⟩, parts_put h.own h.par 1 (by decide) sm ge, fun j hj => ?_, fun i e hi hj => ?_⟩
  · rcases has_old 1 sm ge hj with h1 | h1
    · exact h.frm j h1
    · exact .inr (Nat.le_trans h.bag.bel.size h1)
  · rcases has_old 1 sm ge hj with h1 | h1
    · exact h.off i e hi h1
    · have := (h.bag.shp i e.1 e.2.1 e.2.2 hi).1.lt
      omega

/-- A slice more. -/
theorem Wkb.put_c {O : Bs} {w0 X Y : World} {l : List (Nat × LT × SD)} {M : LT} {D : SD} (h : Wkb O w0 X l M D) (B : Below X.heap.size X Y) {N : SL} {xs : List Int} (G : Fit Y X.heap.size N.a N.n N.c xs) : Wkb O w0 Y l { M with c := N } { D with c := xs } := by
  have h' := h.all B
  have G' := G
  have ge : ∀ x, N.a = some x → X.heap.size ≤ x.block := fun x hx => (Fit.ge G' hx).1
  have sm : ∀ i, i < 10 → i ≠ 2 → LT.at { M with c := N } i = M.at i := fun i hi hne => by
    rcases i with _ | _ | _ | _ | _ | _ | _ | _ | _ | _ | i
    all_goals first | rfl | omega
  refine ⟨h'.bag, ⟨h'.own.t, h'.own.m, G.mono (Nat.zero_le _), h'.own.n, h'.own.s, h'.own.r, h'.own.l, h'.own.h, h'.own.y, h'.own.z⟩, parts_put h.own h.par 2 (by decide) sm ge, fun j hj => ?_, fun i e hi hj => ?_⟩
  · rcases has_old 2 sm ge hj with h1 | h1
    · exact h.frm j h1
    · exact .inr (Nat.le_trans h.bag.bel.size h1)
  · rcases has_old 2 sm ge hj with h1 | h1
    · exact h.off i e hi h1
    · have := (h.bag.shp i e.1 e.2.1 e.2.2 hi).1.lt
      omega

/-- A slice more. -/
theorem Wkb.put_n {O : Bs} {w0 X Y : World} {l : List (Nat × LT × SD)} {M : LT} {D : SD} (h : Wkb O w0 X l M D) (B : Below X.heap.size X Y) {N : SL} {xs : List Int} (G : Fit Y X.heap.size N.a N.n N.c xs) : Wkb O w0 Y l { M with n := N } { D with n := xs } := by
  have h' := h.all B
  have G' := G
  have ge : ∀ x, N.a = some x → X.heap.size ≤ x.block := fun x hx => (Fit.ge G' hx).1
  have sm : ∀ i, i < 10 → i ≠ 3 → LT.at { M with n := N } i = M.at i := fun i hi hne => by
    rcases i with _ | _ | _ | _ | _ | _ | _ | _ | _ | _ | i
    all_goals first | rfl | omega
  refine ⟨h'.bag, ⟨h'.own.t, h'.own.m, h'.own.c, G.mono (Nat.zero_le _), h'.own.s, h'.own.r, h'.own.l, h'.own.h, h'.own.y, h'.own.z⟩, parts_put h.own h.par 3 (by decide) sm ge, fun j hj => ?_, fun i e hi hj => ?_⟩
  · rcases has_old 3 sm ge hj with h1 | h1
    · exact h.frm j h1
    · exact .inr (Nat.le_trans h.bag.bel.size h1)
  · rcases has_old 3 sm ge hj with h1 | h1
    · exact h.off i e hi h1
    · have := (h.bag.shp i e.1 e.2.1 e.2.2 hi).1.lt
      omega

/-- A slice more. -/
theorem Wkb.put_s {O : Bs} {w0 X Y : World} {l : List (Nat × LT × SD)} {M : LT} {D : SD} (h : Wkb O w0 X l M D) (B : Below X.heap.size X Y) {N : SL} {xs : List Int} (G : Fit Y X.heap.size N.a N.n N.c xs) : Wkb O w0 Y l { M with s := N } { D with s := xs } := by
  have h' := h.all B
  have G' := G
  have ge : ∀ x, N.a = some x → X.heap.size ≤ x.block := fun x hx => (Fit.ge G' hx).1
  have sm : ∀ i, i < 10 → i ≠ 4 → LT.at { M with s := N } i = M.at i := fun i hi hne => by
    rcases i with _ | _ | _ | _ | _ | _ | _ | _ | _ | _ | i
    all_goals first | rfl | omega
  refine ⟨h'.bag, ⟨h'.own.t, h'.own.m, h'.own.c, h'.own.n, G.mono (Nat.zero_le _), h'.own.r, h'.own.l, h'.own.h, h'.own.y, h'.own.z⟩, parts_put h.own h.par 4 (by decide) sm ge, fun j hj => ?_, fun i e hi hj => ?_⟩
  · rcases has_old 4 sm ge hj with h1 | h1
    · exact h.frm j h1
    · exact .inr (Nat.le_trans h.bag.bel.size h1)
  · rcases has_old 4 sm ge hj with h1 | h1
    · exact h.off i e hi h1
    · have := (h.bag.shp i e.1 e.2.1 e.2.2 hi).1.lt
      omega

/-- A slice more. -/
theorem Wkb.put_r {O : Bs} {w0 X Y : World} {l : List (Nat × LT × SD)} {M : LT} {D : SD} (h : Wkb O w0 X l M D) (B : Below X.heap.size X Y) {N : SL} {xs : List Int} (G : Fit Y X.heap.size N.a N.n N.c xs) : Wkb O w0 Y l { M with r := N } { D with r := xs } := by
  have h' := h.all B
  have G' := G
  have ge : ∀ x, N.a = some x → X.heap.size ≤ x.block := fun x hx => (Fit.ge G' hx).1
  have sm : ∀ i, i < 10 → i ≠ 5 → LT.at { M with r := N } i = M.at i := fun i hi hne => by
    rcases i with _ | _ | _ | _ | _ | _ | _ | _ | _ | _ | i
    all_goals first | rfl | omega
  refine ⟨h'.bag, ⟨h'.own.t, h'.own.m, h'.own.c, h'.own.n, h'.own.s, G.mono (Nat.zero_le _), h'.own.l, h'.own.h, h'.own.y, h'.own.z⟩, parts_put h.own h.par 5 (by decide) sm ge, fun j hj => ?_, fun i e hi hj => ?_⟩
  · rcases has_old 5 sm ge hj with h1 | h1
    · exact h.frm j h1
    · exact .inr (Nat.le_trans h.bag.bel.size h1)
  · rcases has_old 5 sm ge hj with h1 | h1
    · exact h.off i e hi h1
    · have := (h.bag.shp i e.1 e.2.1 e.2.2 hi).1.lt
      omega

/-- A slice more. -/
theorem Wkb.put_l {O : Bs} {w0 X Y : World} {l : List (Nat × LT × SD)} {M : LT} {D : SD} (h : Wkb O w0 X l M D) (B : Below X.heap.size X Y) {N : SL} {xs : List Int} (G : Fit Y X.heap.size N.a N.n N.c xs) : Wkb O w0 Y l { M with l := N } { D with l := xs } := by
  have h' := h.all B
  have G' := G
  have ge : ∀ x, N.a = some x → X.heap.size ≤ x.block := fun x hx => (Fit.ge G' hx).1
  have sm : ∀ i, i < 10 → i ≠ 6 → LT.at { M with l := N } i = M.at i := fun i hi hne => by
    rcases i with _ | _ | _ | _ | _ | _ | _ | _ | _ | _ | i
    all_goals first | rfl | omega
  refine ⟨h'.bag, ⟨h'.own.t, h'.own.m, h'.own.c, h'.own.n, h'.own.s, h'.own.r, G.mono (Nat.zero_le _), h'.own.h, h'.own.y, h'.own.z⟩, parts_put h.own h.par 6 (by decide) sm ge, fun j hj => ?_, fun i e hi hj => ?_⟩
  · rcases has_old 6 sm ge hj with h1 | h1
    · exact h.frm j h1
    · exact .inr (Nat.le_trans h.bag.bel.size h1)
  · rcases has_old 6 sm ge hj with h1 | h1
    · exact h.off i e hi h1
    · have := (h.bag.shp i e.1 e.2.1 e.2.2 hi).1.lt
      omega

/-- A slice more. -/
theorem Wkb.put_h {O : Bs} {w0 X Y : World} {l : List (Nat × LT × SD)} {M : LT} {D : SD} (h : Wkb O w0 X l M D) (B : Below X.heap.size X Y) {N : SL} {xs : List Int} (G : Fit Y X.heap.size N.a N.n N.c xs) : Wkb O w0 Y l { M with h := N } { D with h := xs } := by
  have h' := h.all B
  have G' := G
  have ge : ∀ x, N.a = some x → X.heap.size ≤ x.block := fun x hx => (Fit.ge G' hx).1
  have sm : ∀ i, i < 10 → i ≠ 7 → LT.at { M with h := N } i = M.at i := fun i hi hne => by
    rcases i with _ | _ | _ | _ | _ | _ | _ | _ | _ | _ | i
    all_goals first | rfl | omega
  refine ⟨h'.bag, ⟨h'.own.t, h'.own.m, h'.own.c, h'.own.n, h'.own.s, h'.own.r, h'.own.l, G.mono (Nat.zero_le _), h'.own.y, h'.own.z⟩, parts_put h.own h.par 7 (by decide) sm ge, fun j hj => ?_, fun i e hi hj => ?_⟩
  · rcases has_old 7 sm ge hj with h1 | h1
    · exact h.frm j h1
    · exact .inr (Nat.le_trans h.bag.bel.size h1)
  · rcases has_old 7 sm ge hj with h1 | h1
    · exact h.off i e hi h1
    · have := (h.bag.shp i e.1 e.2.1 e.2.2 hi).1.lt
      omega

/-- A slice more. -/
theorem Wkb.put_y {O : Bs} {w0 X Y : World} {l : List (Nat × LT × SD)} {M : LT} {D : SD} (h : Wkb O w0 X l M D) (B : Below X.heap.size X Y) {N : SL} {xs : List Shr} (G : SFit Y X.heap.size N.a N.n N.c xs) : Wkb O w0 Y l { M with y := N } { D with y := xs } := by
  have h' := h.all B
  have G' := G
  have ge : ∀ x, N.a = some x → X.heap.size ≤ x.block := fun x hx => (SFit.ge G' hx).1
  have sm : ∀ i, i < 10 → i ≠ 8 → LT.at { M with y := N } i = M.at i := fun i hi hne => by
    rcases i with _ | _ | _ | _ | _ | _ | _ | _ | _ | _ | i
    all_goals first | rfl | omega
  refine ⟨h'.bag, ⟨h'.own.t, h'.own.m, h'.own.c, h'.own.n, h'.own.s, h'.own.r, h'.own.l, h'.own.h, G.mono (Nat.zero_le _), h'.own.z⟩, parts_put h.own h.par 8 (by decide) sm ge, fun j hj => ?_, fun i e hi hj => ?_⟩
  · rcases has_old 8 sm ge hj with h1 | h1
    · exact h.frm j h1
    · exact .inr (Nat.le_trans h.bag.bel.size h1)
  · rcases has_old 8 sm ge hj with h1 | h1
    · exact h.off i e hi h1
    · have := (h.bag.shp i e.1 e.2.1 e.2.2 hi).1.lt
      omega

/-- A slice more. -/
theorem Wkb.put_z {O : Bs} {w0 X Y : World} {l : List (Nat × LT × SD)} {M : LT} {D : SD} (h : Wkb O w0 X l M D) (B : Below X.heap.size X Y) {N : SL} {xs : List Int} (G : Fit Y X.heap.size N.a N.n N.c xs) : Wkb O w0 Y l { M with z := N } { D with z := xs } := by
  have h' := h.all B
  have G' := G
  have ge : ∀ x, N.a = some x → X.heap.size ≤ x.block := fun x hx => (Fit.ge G' hx).1
  have sm : ∀ i, i < 10 → i ≠ 9 → LT.at { M with z := N } i = M.at i := fun i hi hne => by
    rcases i with _ | _ | _ | _ | _ | _ | _ | _ | _ | _ | i
    all_goals first | rfl | omega
  refine ⟨h'.bag, ⟨h'.own.t, h'.own.m, h'.own.c, h'.own.n, h'.own.s, h'.own.r, h'.own.l, h'.own.h, h'.own.y, G.mono (Nat.zero_le _)⟩, parts_put h.own h.par 9 (by decide) sm ge, fun j hj => ?_, fun i e hi hj => ?_⟩
  · rcases has_old 9 sm ge hj with h1 | h1
    · exact h.frm j h1
    · exact .inr (Nat.le_trans h.bag.bel.size h1)
  · rcases has_old 9 sm ge hj with h1 | h1
    · exact h.off i e hi h1
    · have := (h.bag.shp i e.1 e.2.1 e.2.2 hi).1.lt
      omega

/-- Two slices more, of one call. -/
theorem Wkb.put_sr {O : Bs} {w0 X Y : World} {l : List (Nat × LT × SD)} {M : LT} {D : SD} (h : Wkb O w0 X l M D) (B : Below X.heap.size X Y) {N N2 : SL} {xs : List Int} {ys : List Int} (G : Fit Y X.heap.size N.a N.n N.c xs) (G2 : Fit Y X.heap.size N2.a N2.n N2.c ys) (ap : Apart N.a N2.a) : Wkb O w0 Y l { M with s := N, r := N2 } { D with s := xs, r := ys } := by
  have h' := h.all B
  have G' := G
  have G2' := G2
  have ge : ∀ x, N.a = some x → X.heap.size ≤ x.block := fun x hx => (Fit.ge G' hx).1
  have ge2 : ∀ x, N2.a = some x → X.heap.size ≤ x.block := fun x hx => (Fit.ge G2' hx).1
  have sm : ∀ i, i < 10 → i ≠ 4 → i ≠ 5 → LT.at { M with s := N, r := N2 } i = M.at i := fun i hi hne hne2 => by
    rcases i with _ | _ | _ | _ | _ | _ | _ | _ | _ | _ | i
    all_goals first | rfl | omega
  have old : ∀ j, Has { M with s := N, r := N2 } j → Has M j ∨ X.heap.size ≤ j := by
    rintro j ⟨i, hi, hb⟩
    by_cases h1 : i = 4
    · subst h1
      have hb' : blk N.a = some j := hb
      cases hx : N.a with
      | none => rw [hx] at hb'; cases hb'
      | some x =>
        rw [hx] at hb'
        cases hb'
        exact .inr (ge x hx)
    · by_cases h2 : i = 5
      · subst h2
        have hb' : blk N2.a = some j := hb
        cases hx : N2.a with
        | none => rw [hx] at hb'; cases hb'
        | some x =>
          rw [hx] at hb'
          cases hb'
          exact .inr (ge2 x hx)
      · rw [sm i hi h1 h2] at hb
        exact .inl ⟨i, hi, hb⟩
  have P1 := parts_put (M := { M with s := N }) h.own h.par 4 (by decide) (fun i hi hne => by
    rcases i with _ | _ | _ | _ | _ | _ | _ | _ | _ | _ | i
    all_goals first | rfl | omega) ge
  have PP : Parts { M with s := N, r := N2 } := by
    intro i j hi hj hij x y hx hy
    by_cases h1 : i = 5
    · subst h1
      have hx' : N2.a = some x := hx
      by_cases h2 : j = 4
      · subst h2
        exact fun e => ap y x hy hx' e.symm
      · rw [sm j hj h2 (fun e => hij e.symm)] at hy
        have := h.own.lt y.block ⟨j, hj, by rw [hy]; rfl⟩
        have := ge2 x hx'
        omega
    · by_cases h2 : j = 5
      · subst h2
        have hy' : N2.a = some y := hy
        by_cases h3 : i = 4
        · subst h3
          exact ap x y hx hy'
        · rw [sm i hi h3 h1] at hx
          have := h.own.lt x.block ⟨i, hi, by rw [hx]; rfl⟩
          have := ge2 y hy'
          omega
      · have e1 : ∀ i, i < 10 → i ≠ 5 → LT.at { M with s := N, r := N2 } i = LT.at { M with s := N } i := fun i hi hne => by
          rcases i with _ | _ | _ | _ | _ | _ | _ | _ | _ | _ | i
          all_goals first | rfl | omega
        rw [e1 i hi h1] at hx
        rw [e1 j hj h2] at hy
        exact P1 i j hi hj hij x y hx hy
  refine ⟨h'.bag, ⟨h'.own.t, h'.own.m, h'.own.c, h'.own.n, G.mono (Nat.zero_le _), G2.mono (Nat.zero_le _), h'.own.l, h'.own.h, h'.own.y, h'.own.z⟩, PP, fun j hj => ?_, fun i e hi hj => ?_⟩
  · rcases old j hj with h1 | h1
    · exact h.frm j h1
    · exact .inr (Nat.le_trans h.bag.bel.size h1)
  · rcases old _ hj with h1 | h1
    · exact h.off i e hi h1
    · have := (h.bag.shp i e.1 e.2.1 e.2.2 hi).1.lt
      omega

/-- Two slices more, of one call. -/
theorem Wkb.put_lh {O : Bs} {w0 X Y : World} {l : List (Nat × LT × SD)} {M : LT} {D : SD} (h : Wkb O w0 X l M D) (B : Below X.heap.size X Y) {N N2 : SL} {xs : List Int} {ys : List Int} (G : Fit Y X.heap.size N.a N.n N.c xs) (G2 : Fit Y X.heap.size N2.a N2.n N2.c ys) (ap : Apart N.a N2.a) : Wkb O w0 Y l { M with l := N, h := N2 } { D with l := xs, h := ys } := by
  have h' := h.all B
  have G' := G
  have G2' := G2
  have ge : ∀ x, N.a = some x → X.heap.size ≤ x.block := fun x hx => (Fit.ge G' hx).1
  have ge2 : ∀ x, N2.a = some x → X.heap.size ≤ x.block := fun x hx => (Fit.ge G2' hx).1
  have sm : ∀ i, i < 10 → i ≠ 6 → i ≠ 7 → LT.at { M with l := N, h := N2 } i = M.at i := fun i hi hne hne2 => by
    rcases i with _ | _ | _ | _ | _ | _ | _ | _ | _ | _ | i
    all_goals first | rfl | omega
  have old : ∀ j, Has { M with l := N, h := N2 } j → Has M j ∨ X.heap.size ≤ j := by
    rintro j ⟨i, hi, hb⟩
    by_cases h1 : i = 6
    · subst h1
      have hb' : blk N.a = some j := hb
      cases hx : N.a with
      | none => rw [hx] at hb'; cases hb'
      | some x =>
        rw [hx] at hb'
        cases hb'
        exact .inr (ge x hx)
    · by_cases h2 : i = 7
      · subst h2
        have hb' : blk N2.a = some j := hb
        cases hx : N2.a with
        | none => rw [hx] at hb'; cases hb'
        | some x =>
          rw [hx] at hb'
          cases hb'
          exact .inr (ge2 x hx)
      · rw [sm i hi h1 h2] at hb
        exact .inl ⟨i, hi, hb⟩
  have P1 := parts_put (M := { M with l := N }) h.own h.par 6 (by decide) (fun i hi hne => by
    rcases i with _ | _ | _ | _ | _ | _ | _ | _ | _ | _ | i
    all_goals first | rfl | omega) ge
  have PP : Parts { M with l := N, h := N2 } := by
    intro i j hi hj hij x y hx hy
    by_cases h1 : i = 7
    · subst h1
      have hx' : N2.a = some x := hx
      by_cases h2 : j = 6
      · subst h2
        exact fun e => ap y x hy hx' e.symm
      · rw [sm j hj h2 (fun e => hij e.symm)] at hy
        have := h.own.lt y.block ⟨j, hj, by rw [hy]; rfl⟩
        have := ge2 x hx'
        omega
    · by_cases h2 : j = 7
      · subst h2
        have hy' : N2.a = some y := hy
        by_cases h3 : i = 6
        · subst h3
          exact ap x y hx hy'
        · rw [sm i hi h3 h1] at hx
          have := h.own.lt x.block ⟨i, hi, by rw [hx]; rfl⟩
          have := ge2 y hy'
          omega
      · have e1 : ∀ i, i < 10 → i ≠ 7 → LT.at { M with l := N, h := N2 } i = LT.at { M with l := N } i := fun i hi hne => by
          rcases i with _ | _ | _ | _ | _ | _ | _ | _ | _ | _ | i
          all_goals first | rfl | omega
        rw [e1 i hi h1] at hx
        rw [e1 j hj h2] at hy
        exact P1 i j hi hj hij x y hx hy
  refine ⟨h'.bag, ⟨h'.own.t, h'.own.m, h'.own.c, h'.own.n, h'.own.s, h'.own.r, G.mono (Nat.zero_le _), G2.mono (Nat.zero_le _), h'.own.y, h'.own.z⟩, PP, fun j hj => ?_, fun i e hi hj => ?_⟩
  · rcases old j hj with h1 | h1
    · exact h.frm j h1
    · exact .inr (Nat.le_trans h.bag.bel.size h1)
  · rcases old _ hj with h1 | h1
    · exact h.off i e hi h1
    · have := (h.bag.shp i e.1 e.2.1 e.2.2 hi).1.lt
      omega

/-- Two slices more, of one call. -/
theorem Wkb.put_yz {O : Bs} {w0 X Y : World} {l : List (Nat × LT × SD)} {M : LT} {D : SD} (h : Wkb O w0 X l M D) (B : Below X.heap.size X Y) {N N2 : SL} {xs : List Shr} {ys : List Int} (G : SFit Y X.heap.size N.a N.n N.c xs) (G2 : Fit Y X.heap.size N2.a N2.n N2.c ys) (ap : Apart N.a N2.a) : Wkb O w0 Y l { M with y := N, z := N2 } { D with y := xs, z := ys } := by
  have h' := h.all B
  have G' := G
  have G2' := G2
  have ge : ∀ x, N.a = some x → X.heap.size ≤ x.block := fun x hx => (SFit.ge G' hx).1
  have ge2 : ∀ x, N2.a = some x → X.heap.size ≤ x.block := fun x hx => (Fit.ge G2' hx).1
  have sm : ∀ i, i < 10 → i ≠ 8 → i ≠ 9 → LT.at { M with y := N, z := N2 } i = M.at i := fun i hi hne hne2 => by
    rcases i with _ | _ | _ | _ | _ | _ | _ | _ | _ | _ | i
    all_goals first | rfl | omega
  have old : ∀ j, Has { M with y := N, z := N2 } j → Has M j ∨ X.heap.size ≤ j := by
    rintro j ⟨i, hi, hb⟩
    by_cases h1 : i = 8
    · subst h1
      have hb' : blk N.a = some j := hb
      cases hx : N.a with
      | none => rw [hx] at hb'; cases hb'
      | some x =>
        rw [hx] at hb'
        cases hb'
        exact .inr (ge x hx)
    · by_cases h2 : i = 9
      · subst h2
        have hb' : blk N2.a = some j := hb
        cases hx : N2.a with
        | none => rw [hx] at hb'; cases hb'
        | some x =>
          rw [hx] at hb'
          cases hb'
          exact .inr (ge2 x hx)
      · rw [sm i hi h1 h2] at hb
        exact .inl ⟨i, hi, hb⟩
  have P1 := parts_put (M := { M with y := N }) h.own h.par 8 (by decide) (fun i hi hne => by
    rcases i with _ | _ | _ | _ | _ | _ | _ | _ | _ | _ | i
    all_goals first | rfl | omega) ge
  have PP : Parts { M with y := N, z := N2 } := by
    intro i j hi hj hij x y hx hy
    by_cases h1 : i = 9
    · subst h1
      have hx' : N2.a = some x := hx
      by_cases h2 : j = 8
      · subst h2
        exact fun e => ap y x hy hx' e.symm
      · rw [sm j hj h2 (fun e => hij e.symm)] at hy
        have := h.own.lt y.block ⟨j, hj, by rw [hy]; rfl⟩
        have := ge2 x hx'
        omega
    · by_cases h2 : j = 9
      · subst h2
        have hy' : N2.a = some y := hy
        by_cases h3 : i = 8
        · subst h3
          exact ap x y hx hy'
        · rw [sm i hi h3 h1] at hx
          have := h.own.lt x.block ⟨i, hi, by rw [hx]; rfl⟩
          have := ge2 y hy'
          omega
      · have e1 : ∀ i, i < 10 → i ≠ 9 → LT.at { M with y := N, z := N2 } i = LT.at { M with y := N } i := fun i hi hne => by
          rcases i with _ | _ | _ | _ | _ | _ | _ | _ | _ | _ | i
          all_goals first | rfl | omega
        rw [e1 i hi h1] at hx
        rw [e1 j hj h2] at hy
        exact P1 i j hi hj hij x y hx hy
  refine ⟨h'.bag, ⟨h'.own.t, h'.own.m, h'.own.c, h'.own.n, h'.own.s, h'.own.r, h'.own.l, h'.own.h, G.mono (Nat.zero_le _), G2.mono (Nat.zero_le _)⟩, PP, fun j hj => ?_, fun i e hi hj => ?_⟩
  · rcases old j hj with h1 | h1
    · exact h.frm j h1
    · exact .inr (Nat.le_trans h.bag.bel.size h1)
  · rcases old _ hj with h1 | h1
    · exact h.off i e hi h1
    · have := (h.bag.shp i e.1 e.2.1 e.2.2 hi).1.lt
      omega

/-- What a way's begun answers: the Shop that it was given, and more slices. -/
def BgPost (M : LT) (D : SD) (w : World) (e : Ending) (w' : World) : Prop := ∃ M', e = .returned (sv M' D) ∧ Own w' M' D ∧ Parts M' ∧ (∀ j, Has M' j → Has M j ∨ w.heap.size ≤ j) ∧ Below w.heap.size w w'

theorem Wkb.begun {O : Bs} {w0 X Y : World} {l : List (Nat × LT × SD)} {M M' : LT} {D D' : SD} (h : Wkb O w0 X l M D) (B : Below X.heap.size X Y) (o : Own Y M' D') (p : Parts M') (f : ∀ j, Has M' j → Has M j ∨ X.heap.size ≤ j) : Wkb O w0 Y l M' D' := by
  refine ⟨h.bag.all B, o, p, fun j hj => ?_, fun i e hi hj => ?_⟩
  · rcases f j hj with h1 | h1
    · exact h.frm j h1
    · exact .inr (Nat.le_trans h.bag.bel.size h1)
  · rcases f _ hj with h1 | h1
    · exact h.off i e hi h1
    · have := (h.bag.shp i e.1 e.2.1 e.2.2 hi).1.lt
      omega

theorem Wkb.post {w0 X : World} {l : List (Nat × LT × SD)} {M : LT} {D : SD} (h : Wkb (fun _ => False) w0 X l M D) : Mk w0.heap.size X M D :=
  ⟨h.own, h.par, fun j hj => by rcases h.frm j hj with h1 | h1; exact h1.elim; exact h1⟩

theorem size_sm : (Tryz.prog.info? 29).map (·.size) = some 2 := by kernel_rfl

theorem sh_set_sm_op {op : Oper} {a : Act} {w : World} {K : Act → World → Prop} {Q : Exit → Act → World → Prop} {x y : Operand} (ho : op.op = .store 29 x y) {b : Nat} {L : LT} {d : SD} {g1 g2 : Option Addr} {j1 c1 j2 c2 : Nat}
    (hx : a.eval x = .pointer (some ⟨b, 6, none⟩)) (hy : a.eval y = .agg #[.slice g1 j1 c1, .slice g2 j2 c2]) (S : Shp w b L d) (h : ∀ W, Shp W b { L with s := ⟨g1, j1, c1⟩, r := ⟨g2, j2, c2⟩ } d → w.grownBy W (some b) → K (a.put op.dst undef) W) : op.wp Tryz.prog a w K Q := by
  refine wp_store_mid 29 x y ho b 6 #[.slice g1 j1 c1, .slice g2 j2 c2] hx hy (fun j hj => ?_) size_sm (all_oneCell_toArray (cs := [.slice g1 j1 c1, .slice g2 j2 c2]) (by intro v hv; simp only [List.mem_cons, List.not_mem_nil, or_false] at hv; rcases hv with rfl | rfl <;> rfl)) (h _ ((S.set_s ⟨g1, j1, c1⟩).set_r ⟨g2, j2, c2⟩) ((grown_at _ _ _ _).trans (grown_at _ _ _ _)))
  have hj' : j < 2 := hj
  have h1 := S.there (6 + j) (by omega)
  simpa using h1

theorem sh_set_sm {ops : Array Oper} {rest : List Oper} {a : Act} {w : World} {Q : Exit → Act → World → Prop} {dst : Option Tmp} {x y : Operand} {ty : TypeId} {pos : String} {af : Array Edge} {b : Nat} {L : LT} {d : SD} {g1 g2 : Option Addr} {j1 c1 j2 c2 : Nat}
    (hx : a.eval x = .pointer (some ⟨b, 6, none⟩)) (hy : a.eval y = .agg #[.slice g1 j1 c1, .slice g2 j2 c2]) (S : Shp w b L d) (h : ∀ W, Shp W b { L with s := ⟨g1, j1, c1⟩, r := ⟨g2, j2, c2⟩ } d → w.grownBy W (some b) → wpList Tryz.prog ops Q rest (a.put dst undef) W) :
    wpList Tryz.prog ops Q (⟨dst, .store 29 x y, ty, pos, af, none⟩ :: rest) a w := by
  refine wpList_plain rfl fun K hK => ?_
  exact sh_set_sm_op (op := ⟨dst, .store 29 x y, ty, pos, af, none⟩) (K := K) (Q := Q) rfl hx hy S (fun W S' G => hK _ _ (h W S' G))

theorem size_ls : (Tryz.prog.info? 31).map (·.size) = some 4 := by kernel_rfl

theorem sh_set_ls_op {op : Oper} {a : Act} {w : World} {K : Act → World → Prop} {Q : Exit → Act → World → Prop} {x y : Operand} (ho : op.op = .store 31 x y) {b : Nat} {L : LT} {d : SD} {g1 g2 : Option Addr} {j1 c1 j2 c2 : Nat} {t p : Int}
    (hx : a.eval x = .pointer (some ⟨b, 8, none⟩)) (hy : a.eval y = .agg #[.slice g1 j1 c1, .slice g2 j2 c2, .int .i64 t, .int .i64 p]) (S : Shp w b L d) (h : ∀ W, Shp W b { L with l := ⟨g1, j1, c1⟩, h := ⟨g2, j2, c2⟩ } { d with lt := t, la := p } → w.grownBy W (some b) → K (a.put op.dst undef) W) : op.wp Tryz.prog a w K Q := by
  refine wp_store_mid 31 x y ho b 8 #[.slice g1 j1 c1, .slice g2 j2 c2, .int .i64 t, .int .i64 p] hx hy (fun j hj => ?_) size_ls (all_oneCell_toArray (cs := [.slice g1 j1 c1, .slice g2 j2 c2, .int .i64 t, .int .i64 p]) (by intro v hv; simp only [List.mem_cons, List.not_mem_nil, or_false] at hv; rcases hv with rfl | rfl | rfl | rfl <;> rfl)) (h _ ((((S.set_l ⟨g1, j1, c1⟩).set_h ⟨g2, j2, c2⟩).set_lt t).set_la p) ((((grown_at _ _ _ _).trans (grown_at _ _ _ _)).trans (grown_at _ _ _ _)).trans (grown_at _ _ _ _)))
  have hj' : j < 4 := hj
  have h1 := S.there (8 + j) (by omega)
  simpa using h1

theorem sh_set_ls {ops : Array Oper} {rest : List Oper} {a : Act} {w : World} {Q : Exit → Act → World → Prop} {dst : Option Tmp} {x y : Operand} {ty : TypeId} {pos : String} {af : Array Edge} {b : Nat} {L : LT} {d : SD} {g1 g2 : Option Addr} {j1 c1 j2 c2 : Nat} {t p : Int}
    (hx : a.eval x = .pointer (some ⟨b, 8, none⟩)) (hy : a.eval y = .agg #[.slice g1 j1 c1, .slice g2 j2 c2, .int .i64 t, .int .i64 p]) (S : Shp w b L d) (h : ∀ W, Shp W b { L with l := ⟨g1, j1, c1⟩, h := ⟨g2, j2, c2⟩ } { d with lt := t, la := p } → w.grownBy W (some b) → wpList Tryz.prog ops Q rest (a.put dst undef) W) :
    wpList Tryz.prog ops Q (⟨dst, .store 31 x y, ty, pos, af, none⟩ :: rest) a w := by
  refine wpList_plain rfl fun K hK => ?_
  exact sh_set_ls_op (op := ⟨dst, .store 31 x y, ty, pos, af, none⟩) (K := K) (Q := Q) rfl hx hy S (fun W S' G => hK _ _ (h W S' G))

theorem size_mn : (Tryz.prog.info? 34).map (·.size) = some 4 := by kernel_rfl

theorem sh_set_mn_op {op : Oper} {a : Act} {w : World} {K : Act → World → Prop} {Q : Exit → Act → World → Prop} {x y : Operand} (ho : op.op = .store 34 x y) {b : Nat} {L : LT} {d : SD} {g1 g2 : Option Addr} {j1 c1 j2 c2 : Nat} {t p : Int}
    (hx : a.eval x = .pointer (some ⟨b, 12, none⟩)) (hy : a.eval y = .agg #[.slice g1 j1 c1, .slice g2 j2 c2, .int .i64 t, .int .i64 p]) (S : Shp w b L d) (h : ∀ W, Shp W b { L with y := ⟨g1, j1, c1⟩, z := ⟨g2, j2, c2⟩ } { d with yq := t, yt := p } → w.grownBy W (some b) → K (a.put op.dst undef) W) : op.wp Tryz.prog a w K Q := by
  refine wp_store_mid 34 x y ho b 12 #[.slice g1 j1 c1, .slice g2 j2 c2, .int .i64 t, .int .i64 p] hx hy (fun j hj => ?_) size_mn (all_oneCell_toArray (cs := [.slice g1 j1 c1, .slice g2 j2 c2, .int .i64 t, .int .i64 p]) (by intro v hv; simp only [List.mem_cons, List.not_mem_nil, or_false] at hv; rcases hv with rfl | rfl | rfl | rfl <;> rfl)) (h _ ((((S.set_y ⟨g1, j1, c1⟩).set_z ⟨g2, j2, c2⟩).set_yq t).set_yt p) ((((grown_at _ _ _ _).trans (grown_at _ _ _ _)).trans (grown_at _ _ _ _)).trans (grown_at _ _ _ _)))
  have hj' : j < 4 := hj
  have h1 := S.there (12 + j) (by omega)
  simpa using h1

theorem sh_set_mn {ops : Array Oper} {rest : List Oper} {a : Act} {w : World} {Q : Exit → Act → World → Prop} {dst : Option Tmp} {x y : Operand} {ty : TypeId} {pos : String} {af : Array Edge} {b : Nat} {L : LT} {d : SD} {g1 g2 : Option Addr} {j1 c1 j2 c2 : Nat} {t p : Int}
    (hx : a.eval x = .pointer (some ⟨b, 12, none⟩)) (hy : a.eval y = .agg #[.slice g1 j1 c1, .slice g2 j2 c2, .int .i64 t, .int .i64 p]) (S : Shp w b L d) (h : ∀ W, Shp W b { L with y := ⟨g1, j1, c1⟩, z := ⟨g2, j2, c2⟩ } { d with yq := t, yt := p } → w.grownBy W (some b) → wpList Tryz.prog ops Q rest (a.put dst undef) W) :
    wpList Tryz.prog ops Q (⟨dst, .store 34 x y, ty, pos, af, none⟩ :: rest) a w := by
  refine wpList_plain rfl fun K hK => ?_
  exact sh_set_mn_op (op := ⟨dst, .store 34 x y, ty, pos, af, none⟩) (K := K) (Q := Q) rfl hx hy S (fun W S' G => hK _ _ (h W S' G))

end Go.Proofs.YtcmeimfjedakeaaGreat.Crew

/-
  impl's isRight of each way, withoutOwn. (Written by wip/tools/gen_shoprighti2.py.)
-/
namespace Go.Proofs.YtcmeimfjedakeaaGreat.Crew
open Go.ChangeShapes Go.WideShapes Go.ChangeAt Go.RowKit

theorem Shp.drew {w : World} {b : Nat} {L : LT} {d : SD} (h : Shp w b L d) : Shp w.drew b L d := h.all (below_drewN (Below.refl _ _) 1)

theorem sh_loadg {ops : Array Oper} {rest : List Oper} {a : Act} {w : World} {Q : Exit → Act → World → Prop} {dst : Option Tmp} {x : Operand} {ty : TypeId} {pos : String} {af : Array Edge} {gd : Option (Nat × Bool)} {b : Nat} {L : LT} {d : SD}
    (hw : Region.wanted (⟨dst, .load 36 x, ty, pos, af, gd⟩ : Oper) (yielded ops a.tmps) = true) (hx : a.eval x = .pointer (some ⟨b, 0, none⟩)) (S : Shp w b L d) (h : wpList Tryz.prog ops Q rest (a.put dst (sv L d)) w) :
    wpList Tryz.prog ops Q (⟨dst, .load 36 x, ty, pos, af, gd⟩ :: rest) a w :=
  wpList_step (fun K hK => by rw [if_pos hw]; exact sh_load_op rfl hx S (hK _ _ h))

theorem part_zero {P : Program} {w : World} {b : Nat} {T : TypeId} (h : w.heap[b]? = some (.cells #[] T (0, 0))) (hT : P.cellsOf T = 0) : (partAt ⟨b, 0, none⟩ 0 0).run P w = .ok ⟨b, 0, none⟩ w := by
  have hs : w.shape? b = some (T, 0) := by
    simp [World.shape?, h]
  have hv : (viewAt b).run P w = .ok none w := by
    simp [viewAt, hs]
  have hb : (byteOf ⟨b, 0, none⟩).run P w = .ok 0 w := by
    simp [byteOf, noView, hv, hs, hT]
  simp [partAt, hb]

set_option maxRecDepth 100000 in
set_option maxHeartbeats 8000000 in
theorem right_one (L : LT) (d : SD) (w : World) (I : Rd w L d) (hs : Short L) :
    Calls Tryz.prog 209 #[.agg #[], sv L d] w fun e w' => e = .returned (.bool (countsOk d.c d.n)) ∧ Below w.heap.size w w' := by
  have HI : Hid (Rd w L d) := I
  obtain ⟨s0, s1, s2, s3, s4, s5, s6, s7, s8, s9⟩ := short_parts hs
  have HSH : Hid (Short L) := hs
  clear I hs
  go_enter Tryz.func209, Tryz.ntmps209
  go_wp2_with (refine sh_box rfl ?_)
  intro W1 b1 hW1 S1 B1
  have B1' : Below w.heap.size w W1 := below_call (below_new _ _) (by simp) B1
  have HS : Hid (Shp W1 b1 L d ∧ Below w.heap.size w W1) := ⟨S1, B1'⟩
  clear S1 B1 hW1
  obtain ⟨c0, c1, c2, c3, c4, c5, c6, c7, c8, c9, c10, c11, c12, c13, c14, c15, c16⟩ := HS.out.1.bx.shop
  have m0 := HS.out.1.lt
  go_wp2_with fail
  refine (implCounts L.c.a L.c.n L.c.c d.c L.n.a L.n.n L.n.c d.n _ (HI.out.c.kept HS.out.2) (HI.out.n.kept HS.out.2)).mono ?_
  rintro e W2 ⟨rfl, rfl⟩
  go_wp2_with fail
  go_ret
  exact ⟨rfl, HS.out.2⟩

set_option maxRecDepth 100000 in
set_option maxHeartbeats 8000000 in
theorem right_smooth (L : LT) (d : SD) (w : World) (I : Rd w L d) (hs : Short L) :
    Calls Tryz.prog 215 #[.agg #[], sv L d] w fun e w' => e = .returned (.bool (countsOk d.c d.n && (smoothOk d.s d.r && decide (d.s = d.c)))) ∧ Below w.heap.size w w' := by
  have HI : Hid (Rd w L d) := I
  obtain ⟨s0, s1, s2, s3, s4, s5, s6, s7, s8, s9⟩ := short_parts hs
  have HSH : Hid (Short L) := hs
  clear I hs
  obtain ⟨res, hres⟩ : ∃ res, res = (countsOk d.c d.n && (smoothOk d.s d.r && decide (d.s = d.c))) := ⟨_, rfl⟩
  rw [← hres]
  cases h1 : countsOk d.c d.n
  · have HF : Hid (countsOk d.c d.n = false ∧ True ∧ True ∧ res = false) := ⟨h1, trivial, trivial, by rw [hres, h1]; rfl⟩
    clear h1 hres
    go_enter Tryz.func215, Tryz.ntmps215
    go_wp2_with (refine sh_box rfl ?_)
    intro W1 b1 hW1 S1 B1
    have hz : W1.heap[w.heap.size]? = some (.cells #[] 126 (0, 0)) := by rw [B1.block _ (by simp)]; exact heap_alloc_new w _
    have fp := part_zero hz (by kernel_rfl : Tryz.prog.cellsOf 126 = 0)
    clear hz
    have B1' : Below w.heap.size w W1 := below_call (below_new _ _) (by simp) B1
    have HS : Hid (Shp W1 b1 L d ∧ Below w.heap.size w W1) := ⟨S1, B1'⟩
    clear S1 B1 hW1
    obtain ⟨c0, c1, c2, c3, c4, c5, c6, c7, c8, c9, c10, c11, c12, c13, c14, c15, c16⟩ := HS.out.1.bx.shop
    have m0 := HS.out.1.lt
    go_wp2_with (refine sh_loadg rfl rfl HS.out.1 ?_)
    refine (right_one L d _ (HI.out.kept HS.out.2) HSH.out).mono ?_
    rw [HF.out.1]
    rintro e W2 ⟨rfl, B⟩
    clear c0 c1 c2 c3 c4 c5 c6 c7 c8 c9 c10 c11 c12 c13 c14 c15 c16 m0
    have HS' : Hid (Shp W2 b1 L d ∧ Below w.heap.size w W2) := ⟨HS.out.1.all B, below_call HS.out.2 HS.out.2.size B⟩
    clear HS B
    have HS := HS'
    clear HS'
    obtain ⟨c0, c1, c2, c3, c4, c5, c6, c7, c8, c9, c10, c11, c12, c13, c14, c15, c16⟩ := HS.out.1.bx.shop
    have m0 := HS.out.1.lt
    go_wp2_with fail
    go_ret
    exact ⟨by rw [HF.out.2.2.2]; rfl, HS.out.2⟩
  · cases h2 : smoothOk d.s d.r
    · have HF : Hid (countsOk d.c d.n = true ∧ smoothOk d.s d.r = false ∧ True ∧ res = false) := ⟨h1, h2, trivial, by rw [hres, h1, h2]; rfl⟩
      clear h1 h2 hres
      go_enter Tryz.func215, Tryz.ntmps215
      go_wp2_with (refine sh_box rfl ?_)
      intro W1 b1 hW1 S1 B1
      have hz : W1.heap[w.heap.size]? = some (.cells #[] 126 (0, 0)) := by rw [B1.block _ (by simp)]; exact heap_alloc_new w _
      have fp := part_zero hz (by kernel_rfl : Tryz.prog.cellsOf 126 = 0)
      clear hz
      have B1' : Below w.heap.size w W1 := below_call (below_new _ _) (by simp) B1
      have HS : Hid (Shp W1 b1 L d ∧ Below w.heap.size w W1) := ⟨S1, B1'⟩
      clear S1 B1 hW1
      obtain ⟨c0, c1, c2, c3, c4, c5, c6, c7, c8, c9, c10, c11, c12, c13, c14, c15, c16⟩ := HS.out.1.bx.shop
      have m0 := HS.out.1.lt
      go_wp2_with (refine sh_loadg rfl rfl HS.out.1 ?_)
      refine (right_one L d _ (HI.out.kept HS.out.2) HSH.out).mono ?_
      rw [HF.out.1]
      rintro e W2 ⟨rfl, B⟩
      clear c0 c1 c2 c3 c4 c5 c6 c7 c8 c9 c10 c11 c12 c13 c14 c15 c16 m0
      have HS' : Hid (Shp W2 b1 L d ∧ Below w.heap.size w W2) := ⟨HS.out.1.all B, below_call HS.out.2 HS.out.2.size B⟩
      clear HS B
      have HS := HS'
      clear HS'
      obtain ⟨c0, c1, c2, c3, c4, c5, c6, c7, c8, c9, c10, c11, c12, c13, c14, c15, c16⟩ := HS.out.1.bx.shop
      have m0 := HS.out.1.lt
      go_wp2_with (refine sh_loadg rfl rfl HS.out.1 ?_)
      refine (implSmooth L.s.a L.s.n L.s.c d.s L.r.a L.r.n L.r.c d.r _ (HI.out.s.kept HS.out.2) (HI.out.r.kept HS.out.2)).mono ?_
      rw [HF.out.2.1]
      rintro e W3 ⟨rfl, B⟩
      clear c0 c1 c2 c3 c4 c5 c6 c7 c8 c9 c10 c11 c12 c13 c14 c15 c16 m0
      have HS' : Hid (Shp W3 b1 L d ∧ Below w.heap.size w W3) := ⟨HS.out.1.all B, below_call HS.out.2 HS.out.2.size B⟩
      clear HS B
      have HS := HS'
      clear HS'
      obtain ⟨c0, c1, c2, c3, c4, c5, c6, c7, c8, c9, c10, c11, c12, c13, c14, c15, c16⟩ := HS.out.1.bx.shop
      have m0 := HS.out.1.lt
      go_wp2_with fail
      go_ret
      exact ⟨by rw [HF.out.2.2.2]; rfl, HS.out.2⟩
    · obtain ⟨bq, hq⟩ : ∃ bq, bq = decide (d.s = d.c) := ⟨_, rfl⟩
      have HF : Hid (countsOk d.c d.n = true ∧ smoothOk d.s d.r = true ∧ decide (d.s = d.c) = bq ∧ res = bq) := ⟨h1, h2, hq.symm, by rw [hres, h1, h2, hq]; rfl⟩
      clear h1 h2 hq hres
      go_enter Tryz.func215, Tryz.ntmps215
      go_wp2_with (refine sh_box rfl ?_)
      intro W1 b1 hW1 S1 B1
      have hz : W1.heap[w.heap.size]? = some (.cells #[] 126 (0, 0)) := by rw [B1.block _ (by simp)]; exact heap_alloc_new w _
      have fp := part_zero hz (by kernel_rfl : Tryz.prog.cellsOf 126 = 0)
      clear hz
      have B1' : Below w.heap.size w W1 := below_call (below_new _ _) (by simp) B1
      have HS : Hid (Shp W1 b1 L d ∧ Below w.heap.size w W1) := ⟨S1, B1'⟩
      clear S1 B1 hW1
      obtain ⟨c0, c1, c2, c3, c4, c5, c6, c7, c8, c9, c10, c11, c12, c13, c14, c15, c16⟩ := HS.out.1.bx.shop
      have m0 := HS.out.1.lt
      go_wp2_with (refine sh_loadg rfl rfl HS.out.1 ?_)
      refine (right_one L d _ (HI.out.kept HS.out.2) HSH.out).mono ?_
      rw [HF.out.1]
      rintro e W2 ⟨rfl, B⟩
      clear c0 c1 c2 c3 c4 c5 c6 c7 c8 c9 c10 c11 c12 c13 c14 c15 c16 m0
      have HS' : Hid (Shp W2 b1 L d ∧ Below w.heap.size w W2) := ⟨HS.out.1.all B, below_call HS.out.2 HS.out.2.size B⟩
      clear HS B
      have HS := HS'
      clear HS'
      obtain ⟨c0, c1, c2, c3, c4, c5, c6, c7, c8, c9, c10, c11, c12, c13, c14, c15, c16⟩ := HS.out.1.bx.shop
      have m0 := HS.out.1.lt
      go_wp2_with (refine sh_loadg rfl rfl HS.out.1 ?_)
      refine (implSmooth L.s.a L.s.n L.s.c d.s L.r.a L.r.n L.r.c d.r _ (HI.out.s.kept HS.out.2) (HI.out.r.kept HS.out.2)).mono ?_
      rw [HF.out.2.1]
      rintro e W3 ⟨rfl, B⟩
      clear c0 c1 c2 c3 c4 c5 c6 c7 c8 c9 c10 c11 c12 c13 c14 c15 c16 m0
      have HS' : Hid (Shp W3 b1 L d ∧ Below w.heap.size w W3) := ⟨HS.out.1.all B, below_call HS.out.2 HS.out.2.size B⟩
      clear HS B
      have HS := HS'
      clear HS'
      obtain ⟨c0, c1, c2, c3, c4, c5, c6, c7, c8, c9, c10, c11, c12, c13, c14, c15, c16⟩ := HS.out.1.bx.shop
      have m0 := HS.out.1.lt
      go_wp2_with (refine sh_loadg rfl rfl HS.out.1 ?_)
      refine (eqInts_at L.s.a L.s.n L.s.c d.s L.c.a L.c.n L.c.c d.c _ (HI.out.s.kept HS.out.2) (HI.out.c.kept HS.out.2) s4).mono ?_
      rw [HF.out.2.2.1]
      rintro e W4 ⟨rfl, B⟩
      clear c0 c1 c2 c3 c4 c5 c6 c7 c8 c9 c10 c11 c12 c13 c14 c15 c16 m0
      have HS' : Hid (Shp W4 b1 L d ∧ Below w.heap.size w W4) := ⟨HS.out.1.all B, below_call HS.out.2 HS.out.2.size B⟩
      clear HS B
      have HS := HS'
      clear HS'
      obtain ⟨c0, c1, c2, c3, c4, c5, c6, c7, c8, c9, c10, c11, c12, c13, c14, c15, c16⟩ := HS.out.1.bx.shop
      have m0 := HS.out.1.lt
      go_wp2_with fail
      go_ret
      exact ⟨by rw [HF.out.2.2.2]; rfl, HS.out.2⟩

set_option maxRecDepth 100000 in
set_option maxHeartbeats 8000000 in
theorem right_list (L : LT) (d : SD) (w : World) (I : Rd w L d) (hs : Short L) :
    Calls Tryz.prog 220 #[.agg #[], sv L d] w fun e w' => e = .returned (.bool (countsOk d.c d.n && (listOk d.l d.h d.lt d.la && decide (d.l = d.c)))) ∧ Below w.heap.size w w' := by
  have HI : Hid (Rd w L d) := I
  obtain ⟨s0, s1, s2, s3, s4, s5, s6, s7, s8, s9⟩ := short_parts hs
  have HSH : Hid (Short L) := hs
  clear I hs
  obtain ⟨res, hres⟩ : ∃ res, res = (countsOk d.c d.n && (listOk d.l d.h d.lt d.la && decide (d.l = d.c))) := ⟨_, rfl⟩
  rw [← hres]
  cases h1 : countsOk d.c d.n
  · have HF : Hid (countsOk d.c d.n = false ∧ True ∧ True ∧ res = false) := ⟨h1, trivial, trivial, by rw [hres, h1]; rfl⟩
    clear h1 hres
    go_enter Tryz.func220, Tryz.ntmps220
    go_wp2_with (refine sh_box rfl ?_)
    intro W1 b1 hW1 S1 B1
    have hz : W1.heap[w.heap.size]? = some (.cells #[] 127 (0, 0)) := by rw [B1.block _ (by simp)]; exact heap_alloc_new w _
    have fp := part_zero hz (by kernel_rfl : Tryz.prog.cellsOf 127 = 0)
    clear hz
    have B1' : Below w.heap.size w W1 := below_call (below_new _ _) (by simp) B1
    have HS : Hid (Shp W1 b1 L d ∧ Below w.heap.size w W1) := ⟨S1, B1'⟩
    clear S1 B1 hW1
    obtain ⟨c0, c1, c2, c3, c4, c5, c6, c7, c8, c9, c10, c11, c12, c13, c14, c15, c16⟩ := HS.out.1.bx.shop
    have m0 := HS.out.1.lt
    go_wp2_with (refine sh_loadg rfl rfl HS.out.1 ?_)
    refine (right_one L d _ (HI.out.kept HS.out.2) HSH.out).mono ?_
    rw [HF.out.1]
    rintro e W2 ⟨rfl, B⟩
    clear c0 c1 c2 c3 c4 c5 c6 c7 c8 c9 c10 c11 c12 c13 c14 c15 c16 m0
    have HS' : Hid (Shp W2 b1 L d ∧ Below w.heap.size w W2) := ⟨HS.out.1.all B, below_call HS.out.2 HS.out.2.size B⟩
    clear HS B
    have HS := HS'
    clear HS'
    obtain ⟨c0, c1, c2, c3, c4, c5, c6, c7, c8, c9, c10, c11, c12, c13, c14, c15, c16⟩ := HS.out.1.bx.shop
    have m0 := HS.out.1.lt
    go_wp2_with fail
    go_ret
    exact ⟨by rw [HF.out.2.2.2]; rfl, HS.out.2⟩
  · cases h2 : listOk d.l d.h d.lt d.la
    · have HF : Hid (countsOk d.c d.n = true ∧ listOk d.l d.h d.lt d.la = false ∧ True ∧ res = false) := ⟨h1, h2, trivial, by rw [hres, h1, h2]; rfl⟩
      clear h1 h2 hres
      go_enter Tryz.func220, Tryz.ntmps220
      go_wp2_with (refine sh_box rfl ?_)
      intro W1 b1 hW1 S1 B1
      have hz : W1.heap[w.heap.size]? = some (.cells #[] 127 (0, 0)) := by rw [B1.block _ (by simp)]; exact heap_alloc_new w _
      have fp := part_zero hz (by kernel_rfl : Tryz.prog.cellsOf 127 = 0)
      clear hz
      have B1' : Below w.heap.size w W1 := below_call (below_new _ _) (by simp) B1
      have HS : Hid (Shp W1 b1 L d ∧ Below w.heap.size w W1) := ⟨S1, B1'⟩
      clear S1 B1 hW1
      obtain ⟨c0, c1, c2, c3, c4, c5, c6, c7, c8, c9, c10, c11, c12, c13, c14, c15, c16⟩ := HS.out.1.bx.shop
      have m0 := HS.out.1.lt
      go_wp2_with (refine sh_loadg rfl rfl HS.out.1 ?_)
      refine (right_one L d _ (HI.out.kept HS.out.2) HSH.out).mono ?_
      rw [HF.out.1]
      rintro e W2 ⟨rfl, B⟩
      clear c0 c1 c2 c3 c4 c5 c6 c7 c8 c9 c10 c11 c12 c13 c14 c15 c16 m0
      have HS' : Hid (Shp W2 b1 L d ∧ Below w.heap.size w W2) := ⟨HS.out.1.all B, below_call HS.out.2 HS.out.2.size B⟩
      clear HS B
      have HS := HS'
      clear HS'
      obtain ⟨c0, c1, c2, c3, c4, c5, c6, c7, c8, c9, c10, c11, c12, c13, c14, c15, c16⟩ := HS.out.1.bx.shop
      have m0 := HS.out.1.lt
      go_wp2_with (refine sh_loadg rfl rfl HS.out.1 ?_)
      refine (implListX L.l.a L.l.n L.l.c d.l L.h.a L.h.n L.h.c d.h d.lt d.la _ (HI.out.l.kept HS.out.2) (HI.out.h.kept HS.out.2)).mono ?_
      rw [HF.out.2.1]
      rintro e W3 ⟨rfl, B⟩
      clear c0 c1 c2 c3 c4 c5 c6 c7 c8 c9 c10 c11 c12 c13 c14 c15 c16 m0
      have HS' : Hid (Shp W3 b1 L d ∧ Below w.heap.size w W3) := ⟨HS.out.1.all B, below_call HS.out.2 HS.out.2.size B⟩
      clear HS B
      have HS := HS'
      clear HS'
      obtain ⟨c0, c1, c2, c3, c4, c5, c6, c7, c8, c9, c10, c11, c12, c13, c14, c15, c16⟩ := HS.out.1.bx.shop
      have m0 := HS.out.1.lt
      go_wp2_with fail
      go_ret
      exact ⟨by rw [HF.out.2.2.2]; rfl, HS.out.2⟩
    · obtain ⟨bq, hq⟩ : ∃ bq, bq = decide (d.l = d.c) := ⟨_, rfl⟩
      have HF : Hid (countsOk d.c d.n = true ∧ listOk d.l d.h d.lt d.la = true ∧ decide (d.l = d.c) = bq ∧ res = bq) := ⟨h1, h2, hq.symm, by rw [hres, h1, h2, hq]; rfl⟩
      clear h1 h2 hq hres
      go_enter Tryz.func220, Tryz.ntmps220
      go_wp2_with (refine sh_box rfl ?_)
      intro W1 b1 hW1 S1 B1
      have hz : W1.heap[w.heap.size]? = some (.cells #[] 127 (0, 0)) := by rw [B1.block _ (by simp)]; exact heap_alloc_new w _
      have fp := part_zero hz (by kernel_rfl : Tryz.prog.cellsOf 127 = 0)
      clear hz
      have B1' : Below w.heap.size w W1 := below_call (below_new _ _) (by simp) B1
      have HS : Hid (Shp W1 b1 L d ∧ Below w.heap.size w W1) := ⟨S1, B1'⟩
      clear S1 B1 hW1
      obtain ⟨c0, c1, c2, c3, c4, c5, c6, c7, c8, c9, c10, c11, c12, c13, c14, c15, c16⟩ := HS.out.1.bx.shop
      have m0 := HS.out.1.lt
      go_wp2_with (refine sh_loadg rfl rfl HS.out.1 ?_)
      refine (right_one L d _ (HI.out.kept HS.out.2) HSH.out).mono ?_
      rw [HF.out.1]
      rintro e W2 ⟨rfl, B⟩
      clear c0 c1 c2 c3 c4 c5 c6 c7 c8 c9 c10 c11 c12 c13 c14 c15 c16 m0
      have HS' : Hid (Shp W2 b1 L d ∧ Below w.heap.size w W2) := ⟨HS.out.1.all B, below_call HS.out.2 HS.out.2.size B⟩
      clear HS B
      have HS := HS'
      clear HS'
      obtain ⟨c0, c1, c2, c3, c4, c5, c6, c7, c8, c9, c10, c11, c12, c13, c14, c15, c16⟩ := HS.out.1.bx.shop
      have m0 := HS.out.1.lt
      go_wp2_with (refine sh_loadg rfl rfl HS.out.1 ?_)
      refine (implListX L.l.a L.l.n L.l.c d.l L.h.a L.h.n L.h.c d.h d.lt d.la _ (HI.out.l.kept HS.out.2) (HI.out.h.kept HS.out.2)).mono ?_
      rw [HF.out.2.1]
      rintro e W3 ⟨rfl, B⟩
      clear c0 c1 c2 c3 c4 c5 c6 c7 c8 c9 c10 c11 c12 c13 c14 c15 c16 m0
      have HS' : Hid (Shp W3 b1 L d ∧ Below w.heap.size w W3) := ⟨HS.out.1.all B, below_call HS.out.2 HS.out.2.size B⟩
      clear HS B
      have HS := HS'
      clear HS'
      obtain ⟨c0, c1, c2, c3, c4, c5, c6, c7, c8, c9, c10, c11, c12, c13, c14, c15, c16⟩ := HS.out.1.bx.shop
      have m0 := HS.out.1.lt
      go_wp2_with (refine sh_loadg rfl rfl HS.out.1 ?_)
      refine (eqInts_at L.l.a L.l.n L.l.c d.l L.c.a L.c.n L.c.c d.c _ (HI.out.l.kept HS.out.2) (HI.out.c.kept HS.out.2) s6).mono ?_
      rw [HF.out.2.2.1]
      rintro e W4 ⟨rfl, B⟩
      clear c0 c1 c2 c3 c4 c5 c6 c7 c8 c9 c10 c11 c12 c13 c14 c15 c16 m0
      have HS' : Hid (Shp W4 b1 L d ∧ Below w.heap.size w W4) := ⟨HS.out.1.all B, below_call HS.out.2 HS.out.2.size B⟩
      clear HS B
      have HS := HS'
      clear HS'
      obtain ⟨c0, c1, c2, c3, c4, c5, c6, c7, c8, c9, c10, c11, c12, c13, c14, c15, c16⟩ := HS.out.1.bx.shop
      have m0 := HS.out.1.lt
      go_wp2_with fail
      go_ret
      exact ⟨by rw [HF.out.2.2.2]; rfl, HS.out.2⟩

end Go.Proofs.YtcmeimfjedakeaaGreat.Crew

/-
  impl's isRight of several processors. (Written by wip/tools/gen_shoprighti2.py.)
-/
namespace Go.Proofs.YtcmeimfjedakeaaGreat.Crew
open Go.ChangeShapes Go.WideShapes Go.ChangeAt Go.RowKit

set_option maxRecDepth 100000 in
set_option maxHeartbeats 8000000 in
theorem rightM_no (L : LT) (d : SD) (w : World) (I : Rd w L d) (hs : Short L) (h1 : manyOk d.y d.z d.yq d.yt = false) :
    Calls Tryz.prog 224 #[.agg #[], sv L d] w fun e w' => e = .returned (.bool false) ∧ Below w.heap.size w w' := by
  have HI : Hid (Rd w L d) := I
  obtain ⟨s0, s1, s2, s3, s4, s5, s6, s7, s8, s9⟩ := short_parts hs
  have HSH : Hid (Short L) := hs
  clear I hs
  have HF : Hid (manyOk d.y d.z d.yq d.yt = false ∧ True) := ⟨h1, trivial⟩
  clear h1
  go_enter Tryz.func224, Tryz.ntmps224
  go_wp2_with (refine sh_box rfl ?_)
  intro W1 b1 hW1 S1 B1
  have B1' : Below w.heap.size w W1 := below_call (below_new _ _) (by simp) B1
  clear hW1
  go_wp2_with fail
  have HS : Hid (Shp W1.drew b1 L d ∧ Below w.heap.size w W1.drew) := ⟨S1.drew, below_call B1' B1'.size (below_drewN (Below.refl _ _) 1)⟩
  clear S1 B1 B1'
  refine wp_region_held_drew (S := fun w' => Shp w' b1 L d) (by kernel_rfl) HS.out.1 (fun hHeld => ?_)
  refine tk_go 0 (v := ?r1v0) ?r1h0 ?_
  case r1h0 => intro w hSw; have hcs := (show Shp w b1 L d from hSw).bx.shop; go_simp; try with_reducible rfl
  refine tk_go 1 (v := ?r1v1) ?r1h1 ?_
  case r1h1 => intro w hSw; have hcs := (show Shp w b1 L d from hSw).bx.shop; go_simp; try with_reducible rfl
  refine wpAnyH_ready (rs := [2]) (by kernel_rfl) (by simp) ?_
  refine AllReadyH.cons rfl (fun K hK => ?_) AllReadyH.nil
  go_simp
  refine (implManyX L.y.a L.y.n L.y.c d.y L.z.a L.z.n L.z.c d.z d.yq d.yt _ (HI.out.y.kept HS.out.2) (HI.out.z.kept HS.out.2) s8).mono ?_
  rw [HF.out.1]
  rintro e u ⟨rfl, B⟩
  have HS' : Hid (Shp u b1 L d ∧ Below w.heap.size w u) := ⟨HS.out.1.all B, below_call HS.out.2 HS.out.2.size B⟩
  clear B
  clear HS
  have HS := HS'
  clear HS'
  have SX : (fun w' => Shp w' b1 L d) u := HS.out.1

  go_wp2_with fail
  refine hK.out _ _ SX (fun hHeld => ?_)
  clear hK K
  refine tk_go 3 (v := ?r1v3) ?r1h3 ?_
  case r1h3 => intro w hSw; have hcs := (show Shp w b1 L d from hSw).bx.shop; go_simp; try with_reducible rfl
  refine tk_no 4 ?_
  refine tk_no 5 ?_
  refine tk_no 6 ?_
  refine tk_no 7 ?_
  refine tk_no 8 ?_
  refine tk_no 9 ?_
  refine tk_go 10 (v := ?r1v10) ?r1h10 ?_
  case r1h10 => intro w hSw; simp only [nrm]; have hcs := (show Shp w b1 L d from hSw).bx.shop; go_simp; try with_reducible rfl
  refine tk_go 11 (v := ?r1v11) ?r1h11 ?_
  case r1h11 => intro w hSw; simp only [nrm]; have hcs := (show Shp w b1 L d from hSw).bx.shop; go_simp; try with_reducible rfl
  refine tk_no 12 ?_
  refine tk_no 13 ?_
  refine tk_no 14 ?_
  refine tk_no 15 ?_
  refine tk_no 16 ?_
  refine tk_no 17 ?_
  refine tk_no 18 ?_
  refine tk_no 19 ?_
  refine tk_no 20 ?_
  refine tk_go 21 (v := ?r1v21) ?r1h21 ?_
  case r1h21 => intro w hSw; simp only [nrm]; have hcs := (show Shp w b1 L d from hSw).bx.shop; go_simp; try with_reducible rfl
  refine tk_go 22 (v := ?r1v22) ?r1h22 ?_
  case r1h22 => intro w hSw; simp only [nrm]; have hcs := (show Shp w b1 L d from hSw).bx.shop; go_simp; try with_reducible rfl
  refine tk_no 23 ?_
  refine tk_no 24 ?_
  refine tk_no 25 ?_
  refine tk_no 26 ?_
  refine tk_no 27 ?_
  refine tk_no 28 ?_
  refine tk_go 29 (v := ?r1v29) ?r1h29 ?_
  case r1h29 => intro w hSw; simp only [nrm]; have hcs := (show Shp w b1 L d from hSw).bx.shop; go_simp; try with_reducible rfl
  refine tk_go 30 (v := ?r1v30) ?r1h30 ?_
  case r1h30 => intro w hSw; simp only [nrm]; have hcs := (show Shp w b1 L d from hSw).bx.shop; go_simp; try with_reducible rfl
  refine wpAnyH_done (by kernel_rfl) ?_ _
  simp only [Act.put, nrm]
  clear hHeld
  go_wp2_with fail
  go_ret
  exact ⟨rfl, HS.out.2⟩

set_option maxRecDepth 100000 in
set_option maxHeartbeats 8000000 in
theorem rightM_procs (L : LT) (d : SD) (w : World) (I : Rd w L d) (hs : Short L) (h1 : manyOk d.y d.z d.yq d.yt = true) (h2 : ¬ d.yq = d.q) :
    Calls Tryz.prog 224 #[.agg #[], sv L d] w fun e w' => e = .returned (.bool false) ∧ Below w.heap.size w w' := by
  have HI : Hid (Rd w L d) := I
  obtain ⟨s0, s1, s2, s3, s4, s5, s6, s7, s8, s9⟩ := short_parts hs
  have HSH : Hid (Short L) := hs
  clear I hs
  have HF : Hid (manyOk d.y d.z d.yq d.yt = true ∧ True) := ⟨h1, trivial⟩
  have hbq : (d.yq == d.q) = false := by simpa using h2
  clear h1 h2
  go_enter Tryz.func224, Tryz.ntmps224
  go_wp2_with (refine sh_box rfl ?_)
  intro W1 b1 hW1 S1 B1
  have B1' : Below w.heap.size w W1 := below_call (below_new _ _) (by simp) B1
  clear hW1
  go_wp2_with fail
  have HS : Hid (Shp W1.drew b1 L d ∧ Below w.heap.size w W1.drew) := ⟨S1.drew, below_call B1' B1'.size (below_drewN (Below.refl _ _) 1)⟩
  clear S1 B1 B1'
  refine wp_region_held_drew (S := fun w' => Shp w' b1 L d) (by kernel_rfl) HS.out.1 (fun hHeld => ?_)
  refine tk_go 0 (v := ?r2v0) ?r2h0 ?_
  case r2h0 => intro w hSw; have hcs := (show Shp w b1 L d from hSw).bx.shop; go_simp; try with_reducible rfl
  refine tk_go 1 (v := ?r2v1) ?r2h1 ?_
  case r2h1 => intro w hSw; have hcs := (show Shp w b1 L d from hSw).bx.shop; go_simp; try with_reducible rfl
  refine wpAnyH_ready (rs := [2]) (by kernel_rfl) (by simp) ?_
  refine AllReadyH.cons rfl (fun K hK => ?_) AllReadyH.nil
  go_simp
  refine (implManyX L.y.a L.y.n L.y.c d.y L.z.a L.z.n L.z.c d.z d.yq d.yt _ (HI.out.y.kept HS.out.2) (HI.out.z.kept HS.out.2) s8).mono ?_
  rw [HF.out.1]
  rintro e u ⟨rfl, B⟩
  have HS' : Hid (Shp u b1 L d ∧ Below w.heap.size w u) := ⟨HS.out.1.all B, below_call HS.out.2 HS.out.2.size B⟩
  clear B
  clear HS
  have HS := HS'
  clear HS'
  have SX : (fun w' => Shp w' b1 L d) u := HS.out.1

  go_wp2_with fail
  refine hK.out _ _ SX (fun hHeld => ?_)
  clear hK K
  refine tk_go 3 (v := ?r2v3) ?r2h3 ?_
  case r2h3 => intro w hSw; have hcs := (show Shp w b1 L d from hSw).bx.shop; go_simp; try with_reducible rfl
  refine tk_go 4 (v := ?r2v4) ?r2h4 ?_
  case r2h4 => intro w hSw; simp only [nrm]; have hcs := (show Shp w b1 L d from hSw).bx.shop; go_simp; try with_reducible rfl
  refine tk_go 5 (v := ?r2v5) ?r2h5 ?_
  case r2h5 => intro w hSw; simp only [nrm]; have hcs := (show Shp w b1 L d from hSw).bx.shop; go_simp; try with_reducible rfl
  refine tk_go 6 (v := ?r2v6) ?r2h6 ?_
  case r2h6 => intro w hSw; simp only [nrm]; have hcs := (show Shp w b1 L d from hSw).bx.shop; go_simp; try with_reducible rfl
  refine tk_go 7 (v := ?r2v7) ?r2h7 ?_
  case r2h7 => intro w hSw; simp only [nrm]; have hcs := (show Shp w b1 L d from hSw).bx.shop; go_simp; try with_reducible rfl
  refine tk_go 8 (v := ?r2v8) ?r2h8 ?_
  case r2h8 => intro w hSw; simp only [nrm]; have hcs := (show Shp w b1 L d from hSw).bx.shop; go_simp; try with_reducible rfl
  refine tk_go 9 (v := ?r2v9) ?r2h9 ?_
  case r2h9 => intro w hSw; simp only [nrm]; have hcs := (show Shp w b1 L d from hSw).bx.shop; go_simp; try with_reducible rfl
  refine tk_go 10 (v := ?r2v10) ?r2h10 ?_
  case r2h10 => intro w hSw; simp only [nrm]; have hcs := (show Shp w b1 L d from hSw).bx.shop; go_simp; try with_reducible rfl
  refine tk_go 11 (v := ?r2v11) ?r2h11 ?_
  case r2h11 => intro w hSw; simp only [nrm]; have hcs := (show Shp w b1 L d from hSw).bx.shop; go_simp; try with_reducible rfl
  refine tk_no 12 ?_
  refine tk_no 13 ?_
  refine tk_no 14 ?_
  refine tk_no 15 ?_
  refine tk_no 16 ?_
  refine tk_no 17 ?_
  refine tk_no 18 ?_
  refine tk_no 19 ?_
  refine tk_no 20 ?_
  refine tk_go 21 (v := ?r2v21) ?r2h21 ?_
  case r2h21 => intro w hSw; simp only [nrm]; have hcs := (show Shp w b1 L d from hSw).bx.shop; go_simp; try with_reducible rfl
  refine tk_go 22 (v := ?r2v22) ?r2h22 ?_
  case r2h22 => intro w hSw; simp only [nrm]; have hcs := (show Shp w b1 L d from hSw).bx.shop; go_simp; try with_reducible rfl
  refine tk_no 23 ?_
  refine tk_no 24 ?_
  refine tk_no 25 ?_
  refine tk_no 26 ?_
  refine tk_no 27 ?_
  refine tk_no 28 ?_
  refine tk_go 29 (v := ?r2v29) ?r2h29 ?_
  case r2h29 => intro w hSw; simp only [nrm]; have hcs := (show Shp w b1 L d from hSw).bx.shop; go_simp; try with_reducible rfl
  refine tk_go 30 (v := ?r2v30) ?r2h30 ?_
  case r2h30 => intro w hSw; simp only [nrm]; have hcs := (show Shp w b1 L d from hSw).bx.shop; go_simp; try with_reducible rfl
  refine wpAnyH_done (by kernel_rfl) ?_ _
  simp only [Act.put, nrm]
  clear hHeld
  go_wp2_with fail
  go_ret
  exact ⟨rfl, HS.out.2⟩

set_option maxRecDepth 100000 in
set_option maxHeartbeats 8000000 in
theorem rightM_shares (L : LT) (d : SD) (w : World) (I : Rd w L d) (hs : Short L) (h1 : manyOk d.y d.z d.yq d.yt = true) (h2 : d.yq = d.q) (h3 : ¬ d.y = adjusted d.c d.q) :
    Calls Tryz.prog 224 #[.agg #[], sv L d] w fun e w' => e = .returned (.bool false) ∧ Below w.heap.size w w' := by
  have HI : Hid (Rd w L d) := I
  obtain ⟨s0, s1, s2, s3, s4, s5, s6, s7, s8, s9⟩ := short_parts hs
  have HSH : Hid (Short L) := hs
  clear I hs
  have HF : Hid (manyOk d.y d.z d.yq d.yt = true ∧ decide (d.y = adjusted d.c d.q) = false ∧ True) := ⟨h1, decide_eq_false h3, trivial⟩
  have hbq : (d.yq == d.q) = true := by simp [h2]
  clear h1 h2 h3
  go_enter Tryz.func224, Tryz.ntmps224
  go_wp2_with (refine sh_box rfl ?_)
  intro W1 b1 hW1 S1 B1
  have B1' : Below w.heap.size w W1 := below_call (below_new _ _) (by simp) B1
  clear hW1
  go_wp2_with fail
  have HS : Hid (Shp W1.drew b1 L d ∧ Below w.heap.size w W1.drew) := ⟨S1.drew, below_call B1' B1'.size (below_drewN (Below.refl _ _) 1)⟩
  clear S1 B1 B1'
  refine wp_region_held_drew (S := fun w' => Shp w' b1 L d) (by kernel_rfl) HS.out.1 (fun hHeld => ?_)
  refine tk_go 0 (v := ?r3v0) ?r3h0 ?_
  case r3h0 => intro w hSw; have hcs := (show Shp w b1 L d from hSw).bx.shop; go_simp; try with_reducible rfl
  refine tk_go 1 (v := ?r3v1) ?r3h1 ?_
  case r3h1 => intro w hSw; have hcs := (show Shp w b1 L d from hSw).bx.shop; go_simp; try with_reducible rfl
  refine wpAnyH_ready (rs := [2]) (by kernel_rfl) (by simp) ?_
  refine AllReadyH.cons rfl (fun K hK => ?_) AllReadyH.nil
  go_simp
  refine (implManyX L.y.a L.y.n L.y.c d.y L.z.a L.z.n L.z.c d.z d.yq d.yt _ (HI.out.y.kept HS.out.2) (HI.out.z.kept HS.out.2) s8).mono ?_
  rw [HF.out.1]
  rintro e u ⟨rfl, B⟩
  have HS' : Hid (Shp u b1 L d ∧ Below w.heap.size w u) := ⟨HS.out.1.all B, below_call HS.out.2 HS.out.2.size B⟩
  clear B
  clear HS
  have HS := HS'
  clear HS'
  have SX : (fun w' => Shp w' b1 L d) u := HS.out.1

  go_wp2_with fail
  refine hK.out _ _ SX (fun hHeld => ?_)
  clear hK K
  refine tk_go 3 (v := ?r3v3) ?r3h3 ?_
  case r3h3 => intro w hSw; have hcs := (show Shp w b1 L d from hSw).bx.shop; go_simp; try with_reducible rfl
  refine tk_go 4 (v := ?r3v4) ?r3h4 ?_
  case r3h4 => intro w hSw; simp only [nrm]; have hcs := (show Shp w b1 L d from hSw).bx.shop; go_simp; try with_reducible rfl
  refine tk_go 5 (v := ?r3v5) ?r3h5 ?_
  case r3h5 => intro w hSw; simp only [nrm]; have hcs := (show Shp w b1 L d from hSw).bx.shop; go_simp; try with_reducible rfl
  refine tk_go 6 (v := ?r3v6) ?r3h6 ?_
  case r3h6 => intro w hSw; simp only [nrm]; have hcs := (show Shp w b1 L d from hSw).bx.shop; go_simp; try with_reducible rfl
  refine tk_go 7 (v := ?r3v7) ?r3h7 ?_
  case r3h7 => intro w hSw; simp only [nrm]; have hcs := (show Shp w b1 L d from hSw).bx.shop; go_simp; try with_reducible rfl
  refine tk_go 8 (v := ?r3v8) ?r3h8 ?_
  case r3h8 => intro w hSw; simp only [nrm]; have hcs := (show Shp w b1 L d from hSw).bx.shop; go_simp; try with_reducible rfl
  refine tk_go 9 (v := ?r3v9) ?r3h9 ?_
  case r3h9 => intro w hSw; simp only [nrm]; have hcs := (show Shp w b1 L d from hSw).bx.shop; go_simp; try with_reducible rfl
  refine tk_go 10 (v := ?r3v10) ?r3h10 ?_
  case r3h10 => intro w hSw; simp only [nrm]; have hcs := (show Shp w b1 L d from hSw).bx.shop; go_simp; try with_reducible rfl
  refine tk_go 11 (v := ?r3v11) ?r3h11 ?_
  case r3h11 => intro w hSw; simp only [nrm]; have hcs := (show Shp w b1 L d from hSw).bx.shop; go_simp; try with_reducible rfl
  refine tk_go 12 (v := ?r3v12) ?r3h12 ?_
  case r3h12 => intro w hSw; simp only [nrm]; have hcs := (show Shp w b1 L d from hSw).bx.shop; go_simp; try with_reducible rfl
  refine tk_go 13 (v := ?r3v13) ?r3h13 ?_
  case r3h13 => intro w hSw; simp only [nrm]; have hcs := (show Shp w b1 L d from hSw).bx.shop; go_simp; try with_reducible rfl
  refine tk_go 14 (v := ?r3v14) ?r3h14 ?_
  case r3h14 => intro w hSw; simp only [nrm]; have hcs := (show Shp w b1 L d from hSw).bx.shop; go_simp; try with_reducible rfl
  refine tk_go 15 (v := ?r3v15) ?r3h15 ?_
  case r3h15 => intro w hSw; simp only [nrm]; have hcs := (show Shp w b1 L d from hSw).bx.shop; go_simp; try with_reducible rfl
  refine tk_go 16 (v := ?r3v16) ?r3h16 ?_
  case r3h16 => intro w hSw; simp only [nrm]; have hcs := (show Shp w b1 L d from hSw).bx.shop; go_simp; try with_reducible rfl
  refine tk_go 17 (v := ?r3v17) ?r3h17 ?_
  case r3h17 => intro w hSw; simp only [nrm]; have hcs := (show Shp w b1 L d from hSw).bx.shop; go_simp; try with_reducible rfl
  refine tk_go 18 (v := ?r3v18) ?r3h18 ?_
  case r3h18 => intro w hSw; simp only [nrm]; have hcs := (show Shp w b1 L d from hSw).bx.shop; go_simp; try with_reducible rfl
  refine wpAnyH_ready (rs := [19]) (by kernel_rfl) (by simp) ?_
  refine AllReadyH.cons rfl (fun K hK => ?_) AllReadyH.nil
  go_simp
  refine (implAdj L.c.a L.c.n L.c.c d.c d.q _ (HI.out.c.kept HS.out.2)).mono ?_
  rintro e u ⟨g, cp, rfl, R, hg, B⟩
  have HS' : Hid (Shp u b1 L d ∧ Below w.heap.size w u) := ⟨HS.out.1.all B, below_call HS.out.2 HS.out.2.size B⟩
  clear B
  have HR : Hid (SRow u g cp (adjusted d.c d.q)) := R
  clear R
  clear HS
  have HS := HS'
  clear HS'
  have SX : (fun w' => Shp w' b1 L d) u := HS.out.1

  go_wp2_with fail
  refine hK.out _ _ SX (fun hHeld => ?_)
  clear hK K
  refine wpAnyH_ready (rs := [20]) (by kernel_rfl) (by simp) ?_
  refine AllReadyH.cons rfl (fun K hK => ?_) AllReadyH.nil
  go_simp
  refine (eqShs_at L.y.a L.y.n L.y.c d.y (some ⟨g, 0, none⟩) _ cp (adjusted d.c d.q) _ (HI.out.y.kept HS.out.2) HR.out.shs s8).mono ?_
  rw [HF.out.2.1]
  rintro e u ⟨rfl, B⟩
  have HS' : Hid (Shp u b1 L d ∧ Below w.heap.size w u) := ⟨HS.out.1.all B, below_call HS.out.2 HS.out.2.size B⟩
  clear B
  clear HS
  have HS := HS'
  clear HS'
  have SX : (fun w' => Shp w' b1 L d) u := HS.out.1

  go_wp2_with fail
  refine hK.out _ _ SX (fun hHeld => ?_)
  clear hK K
  refine tk_go 21 (v := ?r3v21) ?r3h21 ?_
  case r3h21 => intro w hSw; have hcs := (show Shp w b1 L d from hSw).bx.shop; go_simp; try with_reducible rfl
  refine tk_go 22 (v := ?r3v22) ?r3h22 ?_
  case r3h22 => intro w hSw; simp only [nrm]; have hcs := (show Shp w b1 L d from hSw).bx.shop; go_simp; try with_reducible rfl
  refine tk_no 23 ?_
  refine tk_no 24 ?_
  refine tk_no 25 ?_
  refine tk_no 26 ?_
  refine tk_no 27 ?_
  refine tk_no 28 ?_
  refine tk_go 29 (v := ?r3v29) ?r3h29 ?_
  case r3h29 => intro w hSw; simp only [nrm]; have hcs := (show Shp w b1 L d from hSw).bx.shop; go_simp; try with_reducible rfl
  refine tk_go 30 (v := ?r3v30) ?r3h30 ?_
  case r3h30 => intro w hSw; simp only [nrm]; have hcs := (show Shp w b1 L d from hSw).bx.shop; go_simp; try with_reducible rfl
  refine wpAnyH_done (by kernel_rfl) ?_ _
  simp only [Act.put, nrm]
  clear hHeld
  go_wp2_with fail
  go_ret
  exact ⟨rfl, HS.out.2⟩

set_option maxRecDepth 100000 in
set_option maxHeartbeats 8000000 in
theorem rightM_yes (L : LT) (d : SD) (w : World) (I : Rd w L d) (hs : Short L) (h1 : manyOk d.y d.z d.yq d.yt = true) (h2 : d.yq = d.q) (h3 : d.y = adjusted d.c d.q) (b : Bool) (h4 : decide (d.z = d.n) = b) :
    Calls Tryz.prog 224 #[.agg #[], sv L d] w fun e w' => e = .returned (.bool b) ∧ Below w.heap.size w w' := by
  have HI : Hid (Rd w L d) := I
  obtain ⟨s0, s1, s2, s3, s4, s5, s6, s7, s8, s9⟩ := short_parts hs
  have HSH : Hid (Short L) := hs
  clear I hs
  have HF : Hid (manyOk d.y d.z d.yq d.yt = true ∧ decide (d.y = adjusted d.c d.q) = true ∧ decide (d.z = d.n) = b) := ⟨h1, decide_eq_true h3, h4⟩
  have hbq : (d.yq == d.q) = true := by simp [h2]
  clear h1 h2 h3 h4
  go_enter Tryz.func224, Tryz.ntmps224
  go_wp2_with (refine sh_box rfl ?_)
  intro W1 b1 hW1 S1 B1
  have B1' : Below w.heap.size w W1 := below_call (below_new _ _) (by simp) B1
  clear hW1
  go_wp2_with fail
  have HS : Hid (Shp W1.drew b1 L d ∧ Below w.heap.size w W1.drew) := ⟨S1.drew, below_call B1' B1'.size (below_drewN (Below.refl _ _) 1)⟩
  clear S1 B1 B1'
  refine wp_region_held_drew (S := fun w' => Shp w' b1 L d) (by kernel_rfl) HS.out.1 (fun hHeld => ?_)
  refine tk_go 0 (v := ?r4v0) ?r4h0 ?_
  case r4h0 => intro w hSw; have hcs := (show Shp w b1 L d from hSw).bx.shop; go_simp; try with_reducible rfl
  refine tk_go 1 (v := ?r4v1) ?r4h1 ?_
  case r4h1 => intro w hSw; have hcs := (show Shp w b1 L d from hSw).bx.shop; go_simp; try with_reducible rfl
  refine wpAnyH_ready (rs := [2]) (by kernel_rfl) (by simp) ?_
  refine AllReadyH.cons rfl (fun K hK => ?_) AllReadyH.nil
  go_simp
  refine (implManyX L.y.a L.y.n L.y.c d.y L.z.a L.z.n L.z.c d.z d.yq d.yt _ (HI.out.y.kept HS.out.2) (HI.out.z.kept HS.out.2) s8).mono ?_
  rw [HF.out.1]
  rintro e u ⟨rfl, B⟩
  have HS' : Hid (Shp u b1 L d ∧ Below w.heap.size w u) := ⟨HS.out.1.all B, below_call HS.out.2 HS.out.2.size B⟩
  clear B
  clear HS
  have HS := HS'
  clear HS'
  have SX : (fun w' => Shp w' b1 L d) u := HS.out.1

  go_wp2_with fail
  refine hK.out _ _ SX (fun hHeld => ?_)
  clear hK K
  refine tk_go 3 (v := ?r4v3) ?r4h3 ?_
  case r4h3 => intro w hSw; have hcs := (show Shp w b1 L d from hSw).bx.shop; go_simp; try with_reducible rfl
  refine tk_go 4 (v := ?r4v4) ?r4h4 ?_
  case r4h4 => intro w hSw; simp only [nrm]; have hcs := (show Shp w b1 L d from hSw).bx.shop; go_simp; try with_reducible rfl
  refine tk_go 5 (v := ?r4v5) ?r4h5 ?_
  case r4h5 => intro w hSw; simp only [nrm]; have hcs := (show Shp w b1 L d from hSw).bx.shop; go_simp; try with_reducible rfl
  refine tk_go 6 (v := ?r4v6) ?r4h6 ?_
  case r4h6 => intro w hSw; simp only [nrm]; have hcs := (show Shp w b1 L d from hSw).bx.shop; go_simp; try with_reducible rfl
  refine tk_go 7 (v := ?r4v7) ?r4h7 ?_
  case r4h7 => intro w hSw; simp only [nrm]; have hcs := (show Shp w b1 L d from hSw).bx.shop; go_simp; try with_reducible rfl
  refine tk_go 8 (v := ?r4v8) ?r4h8 ?_
  case r4h8 => intro w hSw; simp only [nrm]; have hcs := (show Shp w b1 L d from hSw).bx.shop; go_simp; try with_reducible rfl
  refine tk_go 9 (v := ?r4v9) ?r4h9 ?_
  case r4h9 => intro w hSw; simp only [nrm]; have hcs := (show Shp w b1 L d from hSw).bx.shop; go_simp; try with_reducible rfl
  refine tk_go 10 (v := ?r4v10) ?r4h10 ?_
  case r4h10 => intro w hSw; simp only [nrm]; have hcs := (show Shp w b1 L d from hSw).bx.shop; go_simp; try with_reducible rfl
  refine tk_go 11 (v := ?r4v11) ?r4h11 ?_
  case r4h11 => intro w hSw; simp only [nrm]; have hcs := (show Shp w b1 L d from hSw).bx.shop; go_simp; try with_reducible rfl
  refine tk_go 12 (v := ?r4v12) ?r4h12 ?_
  case r4h12 => intro w hSw; simp only [nrm]; have hcs := (show Shp w b1 L d from hSw).bx.shop; go_simp; try with_reducible rfl
  refine tk_go 13 (v := ?r4v13) ?r4h13 ?_
  case r4h13 => intro w hSw; simp only [nrm]; have hcs := (show Shp w b1 L d from hSw).bx.shop; go_simp; try with_reducible rfl
  refine tk_go 14 (v := ?r4v14) ?r4h14 ?_
  case r4h14 => intro w hSw; simp only [nrm]; have hcs := (show Shp w b1 L d from hSw).bx.shop; go_simp; try with_reducible rfl
  refine tk_go 15 (v := ?r4v15) ?r4h15 ?_
  case r4h15 => intro w hSw; simp only [nrm]; have hcs := (show Shp w b1 L d from hSw).bx.shop; go_simp; try with_reducible rfl
  refine tk_go 16 (v := ?r4v16) ?r4h16 ?_
  case r4h16 => intro w hSw; simp only [nrm]; have hcs := (show Shp w b1 L d from hSw).bx.shop; go_simp; try with_reducible rfl
  refine tk_go 17 (v := ?r4v17) ?r4h17 ?_
  case r4h17 => intro w hSw; simp only [nrm]; have hcs := (show Shp w b1 L d from hSw).bx.shop; go_simp; try with_reducible rfl
  refine tk_go 18 (v := ?r4v18) ?r4h18 ?_
  case r4h18 => intro w hSw; simp only [nrm]; have hcs := (show Shp w b1 L d from hSw).bx.shop; go_simp; try with_reducible rfl
  refine wpAnyH_ready (rs := [19]) (by kernel_rfl) (by simp) ?_
  refine AllReadyH.cons rfl (fun K hK => ?_) AllReadyH.nil
  go_simp
  refine (implAdj L.c.a L.c.n L.c.c d.c d.q _ (HI.out.c.kept HS.out.2)).mono ?_
  rintro e u ⟨g, cp, rfl, R, hg, B⟩
  have HS' : Hid (Shp u b1 L d ∧ Below w.heap.size w u) := ⟨HS.out.1.all B, below_call HS.out.2 HS.out.2.size B⟩
  clear B
  have HR : Hid (SRow u g cp (adjusted d.c d.q)) := R
  clear R
  clear HS
  have HS := HS'
  clear HS'
  have SX : (fun w' => Shp w' b1 L d) u := HS.out.1

  go_wp2_with fail
  refine hK.out _ _ SX (fun hHeld => ?_)
  clear hK K
  refine wpAnyH_ready (rs := [20]) (by kernel_rfl) (by simp) ?_
  refine AllReadyH.cons rfl (fun K hK => ?_) AllReadyH.nil
  go_simp
  refine (eqShs_at L.y.a L.y.n L.y.c d.y (some ⟨g, 0, none⟩) _ cp (adjusted d.c d.q) _ (HI.out.y.kept HS.out.2) HR.out.shs s8).mono ?_
  rw [HF.out.2.1]
  rintro e u ⟨rfl, B⟩
  have HS' : Hid (Shp u b1 L d ∧ Below w.heap.size w u) := ⟨HS.out.1.all B, below_call HS.out.2 HS.out.2.size B⟩
  clear B
  clear HS
  have HS := HS'
  clear HS'
  have SX : (fun w' => Shp w' b1 L d) u := HS.out.1

  go_wp2_with fail
  refine hK.out _ _ SX (fun hHeld => ?_)
  clear hK K
  refine tk_go 21 (v := ?r4v21) ?r4h21 ?_
  case r4h21 => intro w hSw; have hcs := (show Shp w b1 L d from hSw).bx.shop; go_simp; try with_reducible rfl
  refine tk_go 22 (v := ?r4v22) ?r4h22 ?_
  case r4h22 => intro w hSw; simp only [nrm]; have hcs := (show Shp w b1 L d from hSw).bx.shop; go_simp; try with_reducible rfl
  refine tk_go 23 (v := ?r4v23) ?r4h23 ?_
  case r4h23 => intro w hSw; simp only [nrm]; have hcs := (show Shp w b1 L d from hSw).bx.shop; go_simp; try with_reducible rfl
  refine tk_go 24 (v := ?r4v24) ?r4h24 ?_
  case r4h24 => intro w hSw; simp only [nrm]; have hcs := (show Shp w b1 L d from hSw).bx.shop; go_simp; try with_reducible rfl
  refine tk_go 25 (v := ?r4v25) ?r4h25 ?_
  case r4h25 => intro w hSw; simp only [nrm]; have hcs := (show Shp w b1 L d from hSw).bx.shop; go_simp; try with_reducible rfl
  refine tk_go 26 (v := ?r4v26) ?r4h26 ?_
  case r4h26 => intro w hSw; simp only [nrm]; have hcs := (show Shp w b1 L d from hSw).bx.shop; go_simp; try with_reducible rfl
  refine tk_go 27 (v := ?r4v27) ?r4h27 ?_
  case r4h27 => intro w hSw; simp only [nrm]; have hcs := (show Shp w b1 L d from hSw).bx.shop; go_simp; try with_reducible rfl
  refine wpAnyH_ready (rs := [28]) (by kernel_rfl) (by simp) ?_
  refine AllReadyH.cons rfl (fun K hK => ?_) AllReadyH.nil
  go_simp
  refine (eqInts_at L.z.a L.z.n L.z.c d.z L.n.a L.n.n L.n.c d.n _ (HI.out.z.kept HS.out.2) (HI.out.n.kept HS.out.2) s9).mono ?_
  rw [HF.out.2.2]
  rintro e u ⟨rfl, B⟩
  have HS' : Hid (Shp u b1 L d ∧ Below w.heap.size w u) := ⟨HS.out.1.all B, below_call HS.out.2 HS.out.2.size B⟩
  clear B
  clear HS
  have HS := HS'
  clear HS'
  have SX : (fun w' => Shp w' b1 L d) u := HS.out.1

  go_wp2_with fail
  refine hK.out _ _ SX (fun hHeld => ?_)
  clear hK K
  refine tk_go 29 (v := ?r4v29) ?r4h29 ?_
  case r4h29 => intro w hSw; have hcs := (show Shp w b1 L d from hSw).bx.shop; go_simp; try with_reducible rfl
  refine tk_go 30 (v := ?r4v30) ?r4h30 ?_
  case r4h30 => intro w hSw; simp only [nrm]; have hcs := (show Shp w b1 L d from hSw).bx.shop; go_simp; try with_reducible rfl
  refine wpAnyH_done (by kernel_rfl) ?_ _
  simp only [Act.put, nrm]
  clear hHeld
  go_wp2_with fail
  go_ret
  exact ⟨rfl, HS.out.2⟩

theorem right_many (L : LT) (d : SD) (w : World) (I : Rd w L d) (hs : Short L) :
    Calls Tryz.prog 224 #[.agg #[], sv L d] w fun e w' => e = .returned (.bool (manyOk d.y d.z d.yq d.yt && decide (d.yq = d.q) && decide (d.y = adjusted d.c d.q) && decide (d.n = d.z))) ∧ Below w.heap.size w w' := by
  cases h1 : manyOk d.y d.z d.yq d.yt
  · exact rightM_no L d w I hs h1
  by_cases h2 : d.yq = d.q
  · by_cases h3 : d.y = adjusted d.c d.q
    · have := rightM_yes L d w I hs h1 h2 h3 (decide (d.n = d.z)) (by simp only [eq_comm])
      rw [decide_eq_true h2, decide_eq_true h3]
      exact this
    · have := rightM_shares L d w I hs h1 h2 h3
      rw [decide_eq_false h3]
      simpa using this
  · have := rightM_procs L d w I hs h1 h2
    rw [decide_eq_false h2]
    simpa using this

/-- What a Policy keeps, where there are Members, is right. -/
def rightB (d : SD) : Bool :=
  if d.p = 5 then manyOk d.y d.z d.yq d.yt && decide (d.yq = d.q) && decide (d.y = adjusted d.c d.q) && decide (d.n = d.z)
  else if d.p = 1 then countsOk d.c d.n && (smoothOk d.s d.r && decide (d.s = d.c))
  else if d.p = 3 then countsOk d.c d.n && (listOk d.l d.h d.lt d.la && decide (d.l = d.c))
  else countsOk d.c d.n

theorem right_inner {d : SD} : rightB d = innerB d := by
  unfold rightB innerB
  split
  · rfl
  · split
    · rfl
    · split
      · rename_i h
        simp [h]
      · rename_i h
        simp [h]

theorem finds_right1 (w : World) : (method (Tryz.prog.types.size + 100) 126 (.agg #[]) "loop.example/g00763/impl.isRight").run Tryz.prog w = .ok (215, .agg #[]) w := by kernel_rfl

theorem finds_right2 (w : World) : (method (Tryz.prog.types.size + 100) 151 (.agg #[]) "loop.example/g00763/impl.isRight").run Tryz.prog w = .ok (209, .agg #[]) w := by kernel_rfl

theorem finds_right3 (w : World) : (method (Tryz.prog.types.size + 100) 127 (.agg #[]) "loop.example/g00763/impl.isRight").run Tryz.prog w = .ok (220, .agg #[]) w := by kernel_rfl

theorem finds_right4 (w : World) : (method (Tryz.prog.types.size + 100) 152 (.agg #[]) "loop.example/g00763/impl.isRight").run Tryz.prog w = .ok (209, .agg #[]) w := by kernel_rfl

theorem finds_right5 (w : World) : (method (Tryz.prog.types.size + 100) 128 (.agg #[]) "loop.example/g00763/impl.isRight").run Tryz.prog w = .ok (224, .agg #[]) w := by kernel_rfl

end Go.Proofs.YtcmeimfjedakeaaGreat.Crew

/-
  impl.withoutOwn. (Written by wip/tools/gen_shoprighti2.py.)
-/
namespace Go.Proofs.YtcmeimfjedakeaaGreat.Crew
open Go.ChangeShapes Go.WideShapes Go.ChangeAt Go.RowKit

/-- The Shop less what its way keeps. -/
def cutD (d : SD) : SD := if d.p = 1 then { d with s := [], r := [] } else if d.p = 3 then { d with l := [], h := [], lt := 0, la := 0 } else if d.p = 5 then { d with y := [], z := [], yq := 0, yt := 0 } else d

def cutL (p : Int) (L : LT) : LT := if p = 1 then { L with s := nl, r := nl } else if p = 3 then { L with l := nl, h := nl } else if p = 5 then { L with y := nl, z := nl } else L

theorem cut_rd {w : World} {L : LT} {d : SD} (h : Rd w L d) : Rd w (cutL d.p L) (cutD d) := by
  have hi : Ints w nl.a nl.n [] := ⟨rfl, .inl rfl⟩
  have hy : Shs w nl.a nl.n [] := ⟨rfl, .inl rfl⟩
  unfold cutL cutD
  split
  · exact ⟨h.t, h.m, h.c, h.n, hi, hi, h.l, h.h, h.y, h.z⟩
  · split
    · exact ⟨h.t, h.m, h.c, h.n, h.s, h.r, hi, hi, h.y, h.z⟩
    · split
      · exact ⟨h.t, h.m, h.c, h.n, h.s, h.r, h.l, h.h, hy, hi⟩
      · exact h

theorem as1_1 (w : World) : (Instr.typeAssert (.iface 126 (.agg #[])) 68 126 true).run Tryz.prog w = .ok (.tuple #[.agg #[], .bool true]) w := by kernel_rfl

theorem as1_3 (w : World) : (Instr.typeAssert (.iface 126 (.agg #[])) 68 127 true).run Tryz.prog w = .ok (.tuple #[.agg #[], .bool false]) w := by kernel_rfl

theorem as1_5 (w : World) : (Instr.typeAssert (.iface 126 (.agg #[])) 68 128 true).run Tryz.prog w = .ok (.tuple #[.agg #[], .bool false]) w := by kernel_rfl

theorem as2_1 (w : World) : (Instr.typeAssert (.iface 151 (.agg #[])) 68 126 true).run Tryz.prog w = .ok (.tuple #[.agg #[], .bool false]) w := by kernel_rfl

theorem as2_3 (w : World) : (Instr.typeAssert (.iface 151 (.agg #[])) 68 127 true).run Tryz.prog w = .ok (.tuple #[.agg #[], .bool false]) w := by kernel_rfl

theorem as2_5 (w : World) : (Instr.typeAssert (.iface 151 (.agg #[])) 68 128 true).run Tryz.prog w = .ok (.tuple #[.agg #[], .bool false]) w := by kernel_rfl

theorem as3_1 (w : World) : (Instr.typeAssert (.iface 127 (.agg #[])) 68 126 true).run Tryz.prog w = .ok (.tuple #[.agg #[], .bool false]) w := by kernel_rfl

theorem as3_3 (w : World) : (Instr.typeAssert (.iface 127 (.agg #[])) 68 127 true).run Tryz.prog w = .ok (.tuple #[.agg #[], .bool true]) w := by kernel_rfl

theorem as3_5 (w : World) : (Instr.typeAssert (.iface 127 (.agg #[])) 68 128 true).run Tryz.prog w = .ok (.tuple #[.agg #[], .bool false]) w := by kernel_rfl

theorem as4_1 (w : World) : (Instr.typeAssert (.iface 152 (.agg #[])) 68 126 true).run Tryz.prog w = .ok (.tuple #[.agg #[], .bool false]) w := by kernel_rfl

theorem as4_3 (w : World) : (Instr.typeAssert (.iface 152 (.agg #[])) 68 127 true).run Tryz.prog w = .ok (.tuple #[.agg #[], .bool false]) w := by kernel_rfl

theorem as4_5 (w : World) : (Instr.typeAssert (.iface 152 (.agg #[])) 68 128 true).run Tryz.prog w = .ok (.tuple #[.agg #[], .bool false]) w := by kernel_rfl

theorem as5_1 (w : World) : (Instr.typeAssert (.iface 128 (.agg #[])) 68 126 true).run Tryz.prog w = .ok (.tuple #[.agg #[], .bool false]) w := by kernel_rfl

theorem as5_3 (w : World) : (Instr.typeAssert (.iface 128 (.agg #[])) 68 127 true).run Tryz.prog w = .ok (.tuple #[.agg #[], .bool false]) w := by kernel_rfl

theorem as5_5 (w : World) : (Instr.typeAssert (.iface 128 (.agg #[])) 68 128 true).run Tryz.prog w = .ok (.tuple #[.agg #[], .bool true]) w := by kernel_rfl

set_option maxRecDepth 100000 in
set_option maxHeartbeats 8000000 in
theorem without_1 (L : LT) (d : SD) (w : World) :
    Calls Tryz.prog 54 #[.iface 126 (.agg #[]), sv L d] w fun e w' => e = .returned (sv { L with s := nl, r := nl } { d with s := [], r := [] }) ∧ Below w.heap.size w w' := by
  have a1 := as1_1
  go_enter Tryz.func54, Tryz.ntmps54
  go_wp2_with (refine sh_box rfl ?_)
  intro W1 b1 e1 S1 B1
  have HA : Hid (Bag w W1 [(b1, L, d)]) := (bag_nil w).add B1 e1 S1
  clear e1 S1 B1
  go_wp2_with (refine sh_alloc ?_)
  intro W2 b2 e2 S2 B2
  have HB : Hid (Bag w W2 [(b1, L, d), (b2, zl, SD.zero)]) := HA.out.add B2 e2 S2
  clear e2 S2 B2 HA
  go_wp2_with (refine sh_set_sm rfl rfl (HB.out.get 0 rfl) ?_)
  intro W3 S3 G3
  have HC : Hid (Bag w W3 [(b1, { L with s := nl, r := nl }, { d with s := [], r := [] }), (b2, zl, SD.zero)]) := HB.out.put 0 rfl S3 G3
  clear S3 G3 HB
  go_wp2_with (first | (refine sh_loadg rfl rfl (HC.out.get 0 rfl) ?_) | (refine sh_store (L := { L with s := nl, r := nl }) (d := { d with s := [], r := [] }) rfl rfl (HC.out.get 1 rfl) ?_))
  intro W4 S4 G4
  have HD : Hid (Bag w W4 [(b1, { L with s := nl, r := nl }, { d with s := [], r := [] }), (b2, { L with s := nl, r := nl }, { d with s := [], r := [] })]) := HC.out.put 1 rfl S4 G4
  clear S4 G4 HC
  go_wp2_with fail
  exact bodyPost_ret (ret_shop rfl rfl (HD.out.get 1 rfl)) rfl ⟨rfl, HD.out.bel⟩

set_option maxRecDepth 100000 in
set_option maxHeartbeats 8000000 in
theorem without_2 (L : LT) (d : SD) (w : World) :
    Calls Tryz.prog 54 #[.iface 151 (.agg #[]), sv L d] w fun e w' => e = .returned (sv L d) ∧ Below w.heap.size w w' := by
  have a1 := as2_1
  have a3 := as2_3
  have a5 := as2_5
  go_enter Tryz.func54, Tryz.ntmps54
  go_wp2_with (refine sh_box rfl ?_)
  intro W1 b1 e1 S1 B1
  have HA : Hid (Bag w W1 [(b1, L, d)]) := (bag_nil w).add B1 e1 S1
  clear e1 S1 B1
  go_wp2_with (refine sh_alloc ?_)
  intro W2 b2 e2 S2 B2
  have HB : Hid (Bag w W2 [(b1, L, d), (b2, zl, SD.zero)]) := HA.out.add B2 e2 S2
  clear e2 S2 B2 HA
  go_wp2_with (first | (refine sh_loadg rfl rfl (HB.out.get 0 rfl) ?_) | (refine sh_store (L := L) (d := d) rfl rfl (HB.out.get 1 rfl) ?_))
  intro W4 S4 G4
  have HD : Hid (Bag w W4 [(b1, L, d), (b2, L, d)]) := HB.out.put 1 rfl S4 G4
  clear S4 G4 HB
  go_wp2_with fail
  exact bodyPost_ret (ret_shop rfl rfl (HD.out.get 1 rfl)) rfl ⟨rfl, HD.out.bel⟩

set_option maxRecDepth 100000 in
set_option maxHeartbeats 8000000 in
theorem without_3 (L : LT) (d : SD) (w : World) :
    Calls Tryz.prog 54 #[.iface 127 (.agg #[]), sv L d] w fun e w' => e = .returned (sv { L with l := nl, h := nl } { d with l := [], h := [], lt := 0, la := 0 }) ∧ Below w.heap.size w w' := by
  have a1 := as3_1
  have a3 := as3_3
  go_enter Tryz.func54, Tryz.ntmps54
  go_wp2_with (refine sh_box rfl ?_)
  intro W1 b1 e1 S1 B1
  have HA : Hid (Bag w W1 [(b1, L, d)]) := (bag_nil w).add B1 e1 S1
  clear e1 S1 B1
  go_wp2_with (refine sh_alloc ?_)
  intro W2 b2 e2 S2 B2
  have HB : Hid (Bag w W2 [(b1, L, d), (b2, zl, SD.zero)]) := HA.out.add B2 e2 S2
  clear e2 S2 B2 HA
  go_wp2_with (refine sh_set_ls rfl rfl (HB.out.get 0 rfl) ?_)
  intro W3 S3 G3
  have HC : Hid (Bag w W3 [(b1, { L with l := nl, h := nl }, { d with l := [], h := [], lt := 0, la := 0 }), (b2, zl, SD.zero)]) := HB.out.put 0 rfl S3 G3
  clear S3 G3 HB
  go_wp2_with (first | (refine sh_loadg rfl rfl (HC.out.get 0 rfl) ?_) | (refine sh_store (L := { L with l := nl, h := nl }) (d := { d with l := [], h := [], lt := 0, la := 0 }) rfl rfl (HC.out.get 1 rfl) ?_))
  intro W4 S4 G4
  have HD : Hid (Bag w W4 [(b1, { L with l := nl, h := nl }, { d with l := [], h := [], lt := 0, la := 0 }), (b2, { L with l := nl, h := nl }, { d with l := [], h := [], lt := 0, la := 0 })]) := HC.out.put 1 rfl S4 G4
  clear S4 G4 HC
  go_wp2_with fail
  exact bodyPost_ret (ret_shop rfl rfl (HD.out.get 1 rfl)) rfl ⟨rfl, HD.out.bel⟩

set_option maxRecDepth 100000 in
set_option maxHeartbeats 8000000 in
theorem without_4 (L : LT) (d : SD) (w : World) :
    Calls Tryz.prog 54 #[.iface 152 (.agg #[]), sv L d] w fun e w' => e = .returned (sv L d) ∧ Below w.heap.size w w' := by
  have a1 := as4_1
  have a3 := as4_3
  have a5 := as4_5
  go_enter Tryz.func54, Tryz.ntmps54
  go_wp2_with (refine sh_box rfl ?_)
  intro W1 b1 e1 S1 B1
  have HA : Hid (Bag w W1 [(b1, L, d)]) := (bag_nil w).add B1 e1 S1
  clear e1 S1 B1
  go_wp2_with (refine sh_alloc ?_)
  intro W2 b2 e2 S2 B2
  have HB : Hid (Bag w W2 [(b1, L, d), (b2, zl, SD.zero)]) := HA.out.add B2 e2 S2
  clear e2 S2 B2 HA
  go_wp2_with (first | (refine sh_loadg rfl rfl (HB.out.get 0 rfl) ?_) | (refine sh_store (L := L) (d := d) rfl rfl (HB.out.get 1 rfl) ?_))
  intro W4 S4 G4
  have HD : Hid (Bag w W4 [(b1, L, d), (b2, L, d)]) := HB.out.put 1 rfl S4 G4
  clear S4 G4 HB
  go_wp2_with fail
  exact bodyPost_ret (ret_shop rfl rfl (HD.out.get 1 rfl)) rfl ⟨rfl, HD.out.bel⟩

set_option maxRecDepth 100000 in
set_option maxHeartbeats 8000000 in
theorem without_5 (L : LT) (d : SD) (w : World) :
    Calls Tryz.prog 54 #[.iface 128 (.agg #[]), sv L d] w fun e w' => e = .returned (sv { L with y := nl, z := nl } { d with y := [], z := [], yq := 0, yt := 0 }) ∧ Below w.heap.size w w' := by
  have a1 := as5_1
  have a3 := as5_3
  have a5 := as5_5
  go_enter Tryz.func54, Tryz.ntmps54
  go_wp2_with (refine sh_box rfl ?_)
  intro W1 b1 e1 S1 B1
  have HA : Hid (Bag w W1 [(b1, L, d)]) := (bag_nil w).add B1 e1 S1
  clear e1 S1 B1
  go_wp2_with (refine sh_alloc ?_)
  intro W2 b2 e2 S2 B2
  have HB : Hid (Bag w W2 [(b1, L, d), (b2, zl, SD.zero)]) := HA.out.add B2 e2 S2
  clear e2 S2 B2 HA
  go_wp2_with (refine sh_set_mn rfl rfl (HB.out.get 0 rfl) ?_)
  intro W3 S3 G3
  have HC : Hid (Bag w W3 [(b1, { L with y := nl, z := nl }, { d with y := [], z := [], yq := 0, yt := 0 }), (b2, zl, SD.zero)]) := HB.out.put 0 rfl S3 G3
  clear S3 G3 HB
  go_wp2_with (first | (refine sh_loadg rfl rfl (HC.out.get 0 rfl) ?_) | (refine sh_store (L := { L with y := nl, z := nl }) (d := { d with y := [], z := [], yq := 0, yt := 0 }) rfl rfl (HC.out.get 1 rfl) ?_))
  intro W4 S4 G4
  have HD : Hid (Bag w W4 [(b1, { L with y := nl, z := nl }, { d with y := [], z := [], yq := 0, yt := 0 }), (b2, { L with y := nl, z := nl }, { d with y := [], z := [], yq := 0, yt := 0 })]) := HC.out.put 1 rfl S4 G4
  clear S4 G4 HC
  go_wp2_with fail
  exact bodyPost_ret (ret_shop rfl rfl (HD.out.get 1 rfl)) rfl ⟨rfl, HD.out.bel⟩

end Go.Proofs.YtcmeimfjedakeaaGreat.Crew
