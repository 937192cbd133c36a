/-
  container/heap's down over a line.
-/
import Derived.Test.YtdneohbgdhoigaaHeapPush
namespace Go.Proofs.Ytdneohbgdhoigaa.Crew
open Go.ChangeShapes Go.WideShapes Go.ChangeAt Go.RowKit

/-- What a sift down knows at a round. -/
structure Sift (w0 w wr : World) (b : Nat) (ca : Option Addr) (la cca : Nat) (cs : List Int) (g lg cg : Nat) (ns : List Int) (ha : Option Addr) (lh ch : Nat) (ws us : List Int) (n k : Nat) : Prop where
  line : Ln w0 wr b ca la cca cs g lg cg ns ha lh ch us
  sink : Sinking (aheadOf cs ns) (gd us) n k
  inside : Inside cs.length us
  perm : us.Perm ws
  only : Only b g ha w wr
  rest : ∀ q, n ≤ q → gd us q = gd ws q

/-- What a sift down leaves. -/
def Sifted (w0 w : World) (b : Nat) (ca : Option Addr) (la cca : Nat) (cs : List Int) (g lg cg : Nat) (ns : List Int) (ha : Option Addr) (lh ch : Nat) (ws : List Int) (n : Nat) (w' : World) : Prop :=
  ∃ us, Ln w0 w' b ca la cca cs g lg cg ns ha lh ch us ∧ us.Perm ws ∧ Heaped (aheadOf cs ns) (gd us) n ∧ Only b g ha w w' ∧ ∀ q, n ≤ q → gd us q = gd ws q

theorem Sift.all {w0 w wr wx : World} {b : Nat} {ca : Option Addr} {la cca : Nat} {cs : List Int} {g lg cg : Nat} {ns : List Int} {ha : Option Addr} {lh ch : Nat} {ws us : List Int} {n k : Nat} (h : Sift w0 w wr b ca la cca cs g lg cg ns ha lh ch ws us n k) (B : Below wr.heap.size wr wx) : Sift w0 w wx b ca la cca cs g lg cg ns ha lh ch ws us n k :=
  ⟨h.line.all B, h.sink, h.inside, h.perm, h.only.trans (only_below B), h.rest⟩

theorem Sift.leaf {w0 w wr : World} {b : Nat} {ca : Option Addr} {la cca : Nat} {cs : List Int} {g lg cg : Nat} {ns : List Int} {ha : Option Addr} {lh ch : Nat} {ws us : List Int} {n k : Nat} (h : Sift w0 w wr b ca la cca cs g lg cg ns ha lh ch ws us n k) (hn : n ≤ 2 * k + 1) : Sifted w0 w b ca la cca cs g lg cg ns ha lh ch ws n wr :=
  ⟨us, h.line, h.perm, sinking_leaf h.sink hn, h.only, h.rest⟩

theorem Sift.stop {w0 w wr : World} {b : Nat} {ca : Option Addr} {la cca : Nat} {cs : List Int} {g lg cg : Nat} {ns : List Int} {ha : Option Addr} {lh ch : Nat} {ws us : List Int} {n k j : Nat} (h : Sift w0 w wr b ca la cca cs g lg cg ns ha lh ch ws us n k) (U : LeastUnder (aheadOf cs ns) (gd us) n k j) (hj : aheadOf cs ns (gd us j) (gd us k) = false) : Sifted w0 w b ca la cca cs g lg cg ns ha lh ch ws n wr :=
  ⟨us, h.line, h.perm, sinking_end (ahead_order cs ns) h.sink U hj, h.only, h.rest⟩

theorem Sift.next {w0 w wr wx : World} {b : Nat} {ca : Option Addr} {la cca : Nat} {cs : List Int} {g lg cg : Nat} {ns : List Int} {ha : Option Addr} {lh ch : Nat} {ws us : List Int} {n k j : Nat} (h : Sift w0 w wr b ca la cca cs g lg cg ns ha lh ch ws us n k) (U : LeastUnder (aheadOf cs ns) (gd us) n k j) (hn : n ≤ lh) (hj : aheadOf cs ns (gd us j) (gd us k) = true) (L : Ln w0 wx b ca la cca cs g lg cg ns ha lh ch (swapL us k j)) (O : Only b g ha wr wx) : Sift w0 w wx b ca la cca cs g lg cg ns ha lh ch ws (swapL us k j) n j := by
  have hl := h.line.wait.1
  have hU := U
  obtain ⟨j0, jn, jp, _⟩ := hU
  refine ⟨L, ?_, inside_swap h.inside (by omega) (by omega), (swapL_perm us (by omega) (by omega)).trans h.perm, h.only.trans O, fun q hq => ?_⟩
  · rw [gd_swap us (by omega) (by omega)]
    exact sinking_step (ahead_order cs ns) h.sink U hj
  · rw [gd_swap us (by omega) (by omega), swapF_k (gd us) (by omega) (by omega)]
    exact h.rest q hq

theorem least_one {lt : Int → Int → Bool} (hr : ∀ a, lt a a = false) {f : Nat → Int} {n k j : Nat} (hj : j = 2 * k + 1) (hn : j < n) (h2 : n ≤ j + 1) : LeastUnder lt f n k j :=
  ⟨by omega, hn, by omega, fun q h0 hq hp => by
    have : q = j := by omega
    rw [this]; exact hr _⟩

theorem least_left {lt : Int → Int → Bool} (hr : ∀ a, lt a a = false) {f : Nat → Int} {n k j : Nat} (hj : j = 2 * k + 1) (hn : j < n) (h : lt (f (j + 1)) (f j) = false) : LeastUnder lt f n k j :=
  ⟨by omega, hn, by omega, fun q h0 hq hp => by
    rcases (show q = j ∨ q = j + 1 by omega) with e | e
    · rw [e]; exact hr _
    · rw [e]; exact h⟩

theorem least_right {lt : Int → Int → Bool} (O : Ordered lt) (hr : ∀ a, lt a a = false) {f : Nat → Int} {n k j : Nat} (hj : j = 2 * k + 1) (hn : j + 1 < n) (h : lt (f (j + 1)) (f j) = true) : LeastUnder lt f n k (j + 1) :=
  ⟨by omega, hn, by omega, fun q h0 hq hp => by
    rcases (show q = j ∨ q = j + 1 by omega) with e | e
    · rw [e]; exact O.asym _ _ h
    · rw [e]; exact hr _⟩

set_option maxHeartbeats 4000000 in
theorem down_at (w0 : World) (b : Nat) (ca : Option Addr) (la cca : Nat) (cs : List Int) (g lg cg : Nat) (ns : List Int) (ha : Option Addr) (lh ch : Nat) (m : Nat) (hm : m ≤ 3000) (C : Counted cs ns m) (ws : List Int) (w : World) (L : Ln w0 w b ca la cca cs g lg cg ns ha lh ch ws)
    (n : Nat) (hn : n ≤ lh) (h25 : (lh : Int) ≤ 25) (R : Sinking (aheadOf cs ns) (gd ws) n 0) (N : Inside cs.length ws) :
    Calls Try.prog 58 #[.iface 47 (.pointer (some ⟨b, 0, none⟩)), .int .i64 0, .int .i64 n] w fun e w' => ∃ v : Bool, e = .returned (.bool v) ∧ Sifted w0 w b ca la cca cs g lg cg ns ha lh ch ws n w' := by
  have fL := finds_less (some ⟨b, 0, none⟩)
  have fS := finds_swap (some ⟨b, 0, none⟩)
  have hn25 : (n : Int) ≤ 25 := by omega
  have H0 : Hid (Ln w0 w b ca la cca cs g lg cg ns ha lh ch ws ∧ Sinking (aheadOf cs ns) (gd ws) n 0 ∧ Inside cs.length ws) := ⟨L, R, N⟩
  clear L R N
  go_enter Try.func58, Try.ntmps58
  go_wp2_with fail
  go_loopw [7] (fun v wr => ∃ (k : Nat) (us : List Int), v = .int .i64 k ∧ (k : Int) ≤ 25 ∧ k ≤ n ∧ Hid (Sift w0 w wr b ca la cca cs g lg cg ns ha lh ch ws us n k)) (fun v _ => n - (intOf v).toNat)
  case atStart => exact ⟨0, ws, rfl, by omega, by omega, H0.out.1, H0.out.2.1, H0.out.2.2, List.Perm.refl _, only_refl _ _ _ _, fun _ _ => rfl⟩
  case round =>
    obtain ⟨k, us, rfl, hk, hkn, H⟩ := hrel
    obtain ⟨j, hj⟩ : ∃ j, j = 2 * k + 1 := ⟨_, rfl⟩
    have e : 2 * (k : Int) + 1 = (j : Int) := by omega
    have HJ : Hid (j = 2 * k + 1) := hj
    clear hj
    by_cases hl : n ≤ j
    · have hl' : (n : Int) ≤ (j : Int) := by omega
      go_wp2_with fail
      go_ret
      exact ⟨_, rfl, H.out.leaf (by have := HJ.out; omega)⟩
    · have hl' : ¬ (n : Int) ≤ (j : Int) := by omega
      have hj0 : ¬ (j : Int) < 0 := by omega
      have hd : decide ((j : Int) < 0) = false := by simp
      obtain ⟨j2, hj2⟩ : ∃ j2, j2 = j + 1 := ⟨_, rfl⟩
      have e2 : (j : Int) + 1 = (j2 : Int) := by omega
      have J2 : Hid (j2 = j + 1) := hj2
      have hkj : k < j := by have := HJ.out; omega
      have hul := H.out.line.wait.1
      obtain ⟨x, hx, hxn⟩ := H.out.inside j (by omega)
      obtain ⟨y, hy, hyn⟩ := H.out.inside k (by omega)
      by_cases h2 : j2 < n
      · obtain ⟨z, hz, hzn⟩ := H.out.inside j2 (by omega)
        have X : Hid (gd us j = (x : Int) ∧ gd us j2 = (z : Int) ∧ gd us k = (y : Int) ∧ x < cs.length ∧ z < cs.length ∧ y < cs.length) := ⟨hx, hz, hy, hxn, hzn, hyn⟩
        clear hul hx hy hxn hyn hz hzn hj2
        have h2' : (j2 : Int) < (n : Int) := by omega
        go_wp2_with fail
        refine (less_at w0 b ca la cca cs g lg cg ns ha lh ch us _ H.out.line m hm C j2 j (by omega) (by omega) z x X.out.2.1 X.out.1 X.out.2.2.2.2.1 X.out.2.2.2.1).mono ?_
        rintro e3 w3 ⟨rfl, B3⟩
        have H3 : Hid (Sift w0 w w3 b ca la cca cs g lg cg ns ha lh ch ws us n k) := H.out.all B3
        clear B3
        cases hp : aheadOf cs ns (gd us j2) (gd us j)
        · have P : Hid (aheadOf cs ns (gd us j2) (gd us j) = false) := hp
          clear hp
          go_wp2_with fail
          refine (less_at w0 b ca la cca cs g lg cg ns ha lh ch us _ H3.out.line m hm C j k (by omega) (by omega) x y X.out.1 X.out.2.2.1 X.out.2.2.2.1 X.out.2.2.2.2.2).mono ?_
          rintro e4 w4 ⟨rfl, B4⟩
          have H4 : Hid (Sift w0 w w4 b ca la cca cs g lg cg ns ha lh ch ws us n k) := H3.out.all B4
          clear B4
          cases hq : aheadOf cs ns (gd us j) (gd us k)
          · have Q : Hid (aheadOf cs ns (gd us j) (gd us k) = false) := hq
            clear hq
            go_wp2_with fail
            go_ret
            exact ⟨_, rfl, H4.out.stop (least_left (ahead_self cs ns) HJ.out (by omega) (by have := P.out; rwa [J2.out] at this)) Q.out⟩
          · have Q : Hid (aheadOf cs ns (gd us j) (gd us k) = true) := hq
            clear hq
            go_wp2_with fail
            refine (swap_at w0 b ca la cca cs g lg cg ns ha lh ch us _ H4.out.line k j (by omega) (by omega)).mono ?_
            rintro e5 w5 ⟨rfl, L5, O5⟩
            have H5 : Hid (Sift w0 w w5 b ca la cca cs g lg cg ns ha lh ch ws (swapL us k j) n j) := H4.out.next (least_left (ahead_self cs ns) HJ.out (by omega) (by have := P.out; rwa [J2.out] at this)) hn Q.out L5 O5
            clear L5 O5
            go_wp2_with fail
            go_roundw
            case rel => exact ⟨j, _, rfl, by omega, by omega, H5⟩
            case measure => have := HJ.out; simp [intOf]; omega
        · have P : Hid (aheadOf cs ns (gd us j2) (gd us j) = true) := hp
          clear hp
          go_wp2_with fail
          refine (less_at w0 b ca la cca cs g lg cg ns ha lh ch us _ H3.out.line m hm C j2 k (by omega) (by omega) z y X.out.2.1 X.out.2.2.1 X.out.2.2.2.2.1 X.out.2.2.2.2.2).mono ?_
          rintro e4 w4 ⟨rfl, B4⟩
          have H4 : Hid (Sift w0 w w4 b ca la cca cs g lg cg ns ha lh ch ws us n k) := H3.out.all B4
          clear B4
          cases hq : aheadOf cs ns (gd us j2) (gd us k)
          · have Q : Hid (aheadOf cs ns (gd us j2) (gd us k) = false) := hq
            clear hq
            go_wp2_with fail
            go_ret
            exact ⟨_, rfl, H4.out.stop (by rw [J2.out]; exact least_right (ahead_order cs ns) (ahead_self cs ns) HJ.out (by have := J2.out; omega) (by have := P.out; rwa [J2.out] at this)) Q.out⟩
          · have Q : Hid (aheadOf cs ns (gd us j2) (gd us k) = true) := hq
            clear hq
            go_wp2_with fail
            refine (swap_at w0 b ca la cca cs g lg cg ns ha lh ch us _ H4.out.line k j2 (by omega) (by omega)).mono ?_
            rintro e5 w5 ⟨rfl, L5, O5⟩
            have H5 : Hid (Sift w0 w w5 b ca la cca cs g lg cg ns ha lh ch ws (swapL us k j2) n j2) := H4.out.next (by rw [J2.out]; exact least_right (ahead_order cs ns) (ahead_self cs ns) HJ.out (by have := J2.out; omega) (by have := P.out; rwa [J2.out] at this)) hn Q.out L5 O5
            clear L5 O5
            go_wp2_with fail
            go_roundw
            case rel => exact ⟨j2, _, rfl, by omega, by omega, H5⟩
            case measure => have := HJ.out; simp [intOf]; omega
      · have X : Hid (gd us j = (x : Int) ∧ True ∧ gd us k = (y : Int) ∧ x < cs.length ∧ True ∧ y < cs.length) := ⟨hx, trivial, hy, hxn, trivial, hyn⟩
        have hjn : n ≤ j + 1 := by omega
        clear hul hx hy hxn hyn hj2
        have h2' : ¬ (j2 : Int) < (n : Int) := by omega
        have hd2 : decide ((j2 : Int) < (n : Int)) = false := by simp; omega
        go_wp2_with fail
        refine (less_at w0 b ca la cca cs g lg cg ns ha lh ch us _ H.out.line m hm C j k (by omega) (by omega) x y X.out.1 X.out.2.2.1 X.out.2.2.2.1 X.out.2.2.2.2.2).mono ?_
        rintro e4 w4 ⟨rfl, B4⟩
        have H4 : Hid (Sift w0 w w4 b ca la cca cs g lg cg ns ha lh ch ws us n k) := H.out.all B4
        clear B4
        cases hq : aheadOf cs ns (gd us j) (gd us k)
        · have Q : Hid (aheadOf cs ns (gd us j) (gd us k) = false) := hq
          clear hq
          go_wp2_with fail
          go_ret
          exact ⟨_, rfl, H4.out.stop (least_one (ahead_self cs ns) HJ.out (by omega) (by omega)) Q.out⟩
        · have Q : Hid (aheadOf cs ns (gd us j) (gd us k) = true) := hq
          clear hq
          go_wp2_with fail
          refine (swap_at w0 b ca la cca cs g lg cg ns ha lh ch us _ H4.out.line k j (by omega) (by omega)).mono ?_
          rintro e5 w5 ⟨rfl, L5, O5⟩
          have H5 : Hid (Sift w0 w w5 b ca la cca cs g lg cg ns ha lh ch ws (swapL us k j) n j) := H4.out.next (least_one (ahead_self cs ns) HJ.out (by omega) (by omega)) hn Q.out L5 O5
          clear L5 O5
          go_wp2_with fail
          go_roundw
          case rel => exact ⟨j, _, rfl, by omega, by omega, H5⟩
          case measure => have := HJ.out; simp [intOf]; omega

end Go.Proofs.Ytdneohbgdhoigaa.Crew
