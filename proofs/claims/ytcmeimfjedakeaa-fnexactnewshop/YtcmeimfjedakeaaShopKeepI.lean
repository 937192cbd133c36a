/-
  impl's parts of a Shop: crewOf, keepsNothing. (Written by wip/tools/gen_shoprighti.py.)
-/
import Derived.Test.YtcmeimfjedakeaaShopBox
import Derived.Test.YtcmeimfjedakeaaShopOkA
import Derived.Test.YtcmeimfjedakeaaTaskMakeI
namespace Go.Proofs.Ytcmeimfjedakeaa.Crew
open Go.ChangeShapes Go.WideShapes Go.ChangeAt Go.RowKit

/-- The weights of those of the first k that are ready. -/
def crwTo (xs : List Tsk) : Nat → List Int
  | 0 => []
  | k + 1 => if (xs.getD k tz).s = 1 then crwTo xs k ++ [(xs.getD k tz).w] else crwTo xs k

theorem crwTo_len (xs : List Tsk) (k : Nat) : (crwTo xs k).length ≤ k := by
  induction k with
  | zero => exact Nat.le_refl _
  | succ k ih =>
    rw [crwTo]
    split
    · rw [List.length_append]
      show _ + 1 ≤ _
      omega
    · omega

theorem find_prefix {xs : List Tsk} (h : tasksOk xs = true) {k : Nat} (hk : k < xs.length) : findT xs (xs.getD k tz).i = k := by
  have asc : ∀ d i, i + d < xs.length → d ≠ 0 → (xs.getD i tz).i < (xs.getD (i + d) tz).i := by
    intro d
    induction d with
    | zero => intro i _ h; exact absurd rfl h
    | succ d ih =>
      intro i hi _
      have h1 := (ok_at h (k := i + (d + 1)) hi).2
      have e : i + (d + 1) - 1 = i + d := by omega
      rw [e] at h1
      rcases h1 with h1 | h1
      · omega
      · by_cases hd : d = 0
        · subst hd
          exact h1
        · exact Int.lt_trans (ih i (by omega) hd) h1
  have at_ : ∀ j, j ≤ k → findTo xs (xs.getD k tz).i j = j := by
    intro j
    induction j with
    | zero => intro _; rfl
    | succ j ih =>
      intro hj
      refine findTo_step (ih (by omega)) ?_
      have := asc (k - j) j (by omega) (by omega)
      rw [show j + (k - j) = k by omega] at this
      omega
  have e := findTo_hit (at_ k (Nat.le_refl _)) rfl hk
  rw [findT, e, if_pos hk]

theorem cwTo_append (t : List Tsk) (ids ys : List Int) : ∀ k, k ≤ ids.length → cwTo t (ids ++ ys) k = cwTo t ids k
  | 0, _ => rfl
  | k + 1, h => by
    rw [cwTo, cwTo, cwTo_append t ids ys k (by omega)]
    congr 3
    simp [List.getD, List.getElem?_append_left (show k < ids.length by omega)]

theorem crw_to {t : List Tsk} (h : tasksOk t = true) : ∀ k, k ≤ t.length → cw t (rdyTo t k) = crwTo t k
  | 0, _ => rfl
  | k + 1, hk => by
    have ih := crw_to h k (by omega)
    rw [rdyTo, crwTo]
    split
    · rw [cw, List.length_append, List.length_singleton, cwTo, cwTo_append _ _ _ _ (Nat.le_refl _), ← ih, cw]
      congr 2
      have e : (rdyTo t k ++ [(t.getD k tz).i]).getD (rdyTo t k).length 0 = (t.getD k tz).i := by simp [List.getD]
      rw [e, theT, find_prefix h (by omega)]
      simp
    · exact ih

/-- The weights in the order of ReadyOf. -/
theorem crw_all {t : List Tsk} (h : tasksOk t = true) : cw t (rdyL t) = crwTo t t.length := by
  rw [rdyL, h]
  exact crw_to h _ (Nat.le_refl _)

set_option maxRecDepth 100000 in
theorem implCrewOf (a : Option Addr) (len cap : Nat) (ps : List Tsk) (w : World) (I : Tsks w a len ps) (hs : (len : Int) ≤ 1048576) :
    Calls Try.prog 35 #[.slice a len cap] w fun e w' => ∃ g n c : Nat, e = .returned (.slice (some ⟨g, 0, none⟩) n c) ∧ Fit w' w.heap.size (some ⟨g, 0, none⟩) n c (crwTo ps len) ∧ Below w.heap.size w w' := by
  obtain ⟨i0, hi, hz0, hz1, hz2⟩ := info_parts info_int
  have HI : Hid (Tsks w a len ps) := I
  have HL : Hid (ps.length = len) := I.1
  have R0 : Hid (Row (w.alloc (.cells #[] 2)) w.heap.size 0 [] ∧ Below w.heap.size w (w.alloc (.cells #[] 2))) := ⟨row_nil w, below_new _ _⟩
  have hz : (w.alloc (.cells #[] 2)).heap.size = w.heap.size + 1 := by simp
  clear I
  have H1 := R0
  go_enter Try.func35, Try.ntmps35
  go_wp2_with fail
  go_loopw [3, 5, 9] (fun q _ i wr => ∃ k m g c : Nat, k ≤ len ∧ i = .int .i64 k ∧ q = .slice (some ⟨g, 0, none⟩) m c ∧ Hid ((crwTo ps k).length = m ∧ Row wr g c (crwTo ps k) ∧ w.heap.size ≤ g ∧ Below w.heap.size w wr)) (fun _ _ i _ => len - (intOf i).toNat)
  case atStart => exact ⟨0, 0, w.heap.size, 0, Nat.zero_le _, rfl, rfl, rfl, H1.out.1, Nat.le_refl _, H1.out.2⟩
  case round =>
    obtain ⟨k, m, g, c, hkl, rfl, rfl, R⟩ := hrel
    by_cases hlt : k < len
    · obtain ⟨_, h0 | ⟨b, off, rfl, hb, hc⟩⟩ := tsks_parts (HI.out.kept R.out.2.2.2)
      · omega
      obtain ⟨c0, c1, c2, c3⟩ := hc k hlt
      obtain ⟨x, hx⟩ : ∃ x, x = ps.getD k tz := ⟨_, rfl⟩
      rw [← hx] at c0 c1 c2 c3
      obtain ⟨xi, xw, xs, xh⟩ := x
      simp only at c0 c1 c2 c3
      have hlt' : (k : Int) < (len : Int) := by omega
      have HX : Hid (ps.getD k tz = ⟨xi, xw, xs, xh⟩) := hx.symm
      have hm := crwTo_len ps k
      rw [R.out.1] at hm
      clear hc hx
      by_cases hy1 : xs = 1
      · have HA : Hid (crwTo ps (k + 1) = crwTo ps k ++ [xw]) := by show _ = _; rw [crwTo, HX.out, if_pos hy1]
        have hb1 : (xs == (1 : Int)) = true := by simp [hy1]
        have RX : Hid (Row (wr.alloc (.cells #[.int .i64 xi, .int .i64 xw, .int .i64 xs, .int .i64 xh] 84)) g c (crwTo ps k) ∧ Below w.heap.size w (wr.alloc (.cells #[.int .i64 xi, .int .i64 xw, .int .i64 xs, .int .i64 xh] 84))) := ⟨R.out.2.1.alloc _, below_call R.out.2.2.2 R.out.2.2.2.size (below_new _ _)⟩
        clear hy1
        go_wp2_with (at_builtin; refine wpList_append_ints rfl (.tmp 16) (.tmp 19) 23 rfl i0 Try.underlying23 hi hz0 hz1 hz2 _ _ _ (crwTo ps k) rfl R.out.1.symm (RX.out.1.alloc _) _ _ _ [xw] rfl (int_at (by simp) xw) (by rw [R.out.1]; omega) ?_)
        intro g4 c4 w4 R4 G4 D4
        have R5 : Hid ((crwTo ps (k + 1)).length = m + 1 ∧ Row w4 g4 c4 (crwTo ps (k + 1)) ∧ w.heap.size ≤ g4 ∧ Below w.heap.size w w4) := by
          have h1 := R.out.2.2.1
          have h2 := R.out.2.2.2.size
          have h3 := RX.out.2.size
          rw [HA.out]
          exact ⟨by rw [List.length_append, R.out.1]; rfl, R4, by first | omega | (simp at D4; omega), (RX.out.2.alloc h3 _).grown G4 (by simp; omega) (fun i hi => by cases hi; exact h1)⟩
        clear R4 G4 D4
        go_wp2_with fail
        go_roundw
        case rel => exact ⟨k + 1, m + 1, g4, c4, by omega, by go_num, rfl, R5⟩
        case measure => simp [intOf]; omega
      · have HA : Hid (crwTo ps (k + 1) = crwTo ps k) := by show _ = _; rw [crwTo, HX.out, if_neg hy1]
        have hb1 : (xs == (1 : Int)) = false := by simpa using hy1
        have RX : Hid (Row (wr.alloc (.cells #[.int .i64 xi, .int .i64 xw, .int .i64 xs, .int .i64 xh] 84)) g c (crwTo ps k) ∧ Below w.heap.size w (wr.alloc (.cells #[.int .i64 xi, .int .i64 xw, .int .i64 xs, .int .i64 xh] 84))) := ⟨R.out.2.1.alloc _, below_call R.out.2.2.2 R.out.2.2.2.size (below_new _ _)⟩
        clear hy1
        go_wp2_with fail
        go_roundw
        case rel => exact ⟨k + 1, m, g, c, by omega, by go_num, rfl, by rw [HA.out]; exact ⟨R.out.1, RX.out.1, R.out.2.2.1, RX.out.2⟩⟩
        case measure => simp [intOf]; omega
    · have hlt' : ¬ (k : Int) < (len : Int) := by omega
      have he : k = len := by omega
      subst he
      go_wp2_with fail
      go_ret
      exact ⟨g, m, c, rfl, R.out.2.1.fit R.out.2.2.1 R.out.1, R.out.2.2.2⟩


/-- Nothing is kept. -/
def keepB (d : SD) : Bool := noS d.s d.r && noL d.l d.h d.lt d.la && noM d.y d.z d.yq d.yt

set_option maxRecDepth 100000 in
set_option maxHeartbeats 8000000 in
theorem implKeeps (L : LT) (d : SD) (w : World) (I : Rd w L d) :
    Calls Try.prog 36 #[sv L d] w fun e w' => e = .returned (.bool (keepB d)) ∧ Below w.heap.size w w' := by
  have HL : Hid (d.s.length = L.s.n ∧ d.r.length = L.r.n ∧ d.l.length = L.l.n ∧ d.h.length = L.h.n ∧ d.y.length = L.y.n ∧ d.z.length = L.z.n) := ⟨I.s.1, I.r.1, I.l.1, I.h.1, I.y.1, I.z.1⟩
  clear I
  by_cases h0 : L.s.n = 0
  · by_cases h1 : L.r.n = 0
    · by_cases h2 : L.l.n = 0
      · by_cases h3 : L.h.n = 0
        · by_cases h4 : d.lt = 0
          · by_cases h5 : d.la = 0
            · by_cases h6 : L.y.n = 0
              · by_cases h7 : L.z.n = 0
                · by_cases h8 : d.yq = 0
                  · by_cases h9 : d.yt = 0
                    · have hb0 : ((L.s.n : Int) == (0 : Int)) = true := by simp; omega
                      have hb1 : ((L.r.n : Int) == (0 : Int)) = true := by simp; omega
                      have hb2 : ((L.l.n : Int) == (0 : Int)) = true := by simp; omega
                      have hb3 : ((L.h.n : Int) == (0 : Int)) = true := by simp; omega
                      have hb4 : (d.lt == (0 : Int)) = true := by simp; omega
                      have hb5 : (d.la == (0 : Int)) = true := by simp; omega
                      have hb6 : ((L.y.n : Int) == (0 : Int)) = true := by simp; omega
                      have hb7 : ((L.z.n : Int) == (0 : Int)) = true := by simp; omega
                      have hb8 : (d.yq == (0 : Int)) = true := by simp; omega
                      have hb9 : (d.yt == (0 : Int)) = true := by simp; omega
                      have HE : Hid (keepB d = true) := by
                        show _ = _
                        obtain ⟨l0, l1, l2, l3, l4, l5⟩ := HL.out
                        rw [keepB, noS, noL, noM, l0, l1, l2, l3, l4, l5]
                        simp [h0, h1, h2, h3, h4, h5, h6, h7, h8, h9]
                      clear h0 h1 h2 h3 h4 h5 h6 h7 h8 h9
                      go_enter Try.func36, Try.ntmps36
                      go_wp2_with (refine sh_box rfl ?_)
                      intro W b hW S B
                      have HB : Hid (Below w.heap.size w W) := B
                      clear B hW
                      obtain ⟨c0, c1, c2, c3, c4, c5, c6, c7, c8, c9, c10, c11, c12, c13, c14, c15, c16⟩ := S.bx.shop
                      have m0 := S.lt
                      clear S
                      go_wp2_with fail
                      go_ret
                      exact ⟨by rw [HE.out]; rfl, HB.out⟩
                    · have hb0 : ((L.s.n : Int) == (0 : Int)) = true := by simp; omega
                      have hb1 : ((L.r.n : Int) == (0 : Int)) = true := by simp; omega
                      have hb2 : ((L.l.n : Int) == (0 : Int)) = true := by simp; omega
                      have hb3 : ((L.h.n : Int) == (0 : Int)) = true := by simp; omega
                      have hb4 : (d.lt == (0 : Int)) = true := by simp; omega
                      have hb5 : (d.la == (0 : Int)) = true := by simp; omega
                      have hb6 : ((L.y.n : Int) == (0 : Int)) = true := by simp; omega
                      have hb7 : ((L.z.n : Int) == (0 : Int)) = true := by simp; omega
                      have hb8 : (d.yq == (0 : Int)) = true := by simp; omega
                      have hb9 : (d.yt == (0 : Int)) = false := by simp; omega
                      have HE : Hid (keepB d = false) := by
                        show _ = _
                        obtain ⟨l0, l1, l2, l3, l4, l5⟩ := HL.out
                        rw [keepB, noS, noL, noM, l0, l1, l2, l3, l4, l5]
                        simp [h0, h1, h2, h3, h4, h5, h6, h7, h8, h9]
                      clear h0 h1 h2 h3 h4 h5 h6 h7 h8 h9
                      go_enter Try.func36, Try.ntmps36
                      go_wp2_with (refine sh_box rfl ?_)
                      intro W b hW S B
                      have HB : Hid (Below w.heap.size w W) := B
                      clear B hW
                      obtain ⟨c0, c1, c2, c3, c4, c5, c6, c7, c8, c9, c10, c11, c12, c13, c14, c15, c16⟩ := S.bx.shop
                      have m0 := S.lt
                      clear S
                      go_wp2_with fail
                      go_ret
                      exact ⟨by rw [HE.out]; rfl, HB.out⟩
                  · have hb0 : ((L.s.n : Int) == (0 : Int)) = true := by simp; omega
                    have hb1 : ((L.r.n : Int) == (0 : Int)) = true := by simp; omega
                    have hb2 : ((L.l.n : Int) == (0 : Int)) = true := by simp; omega
                    have hb3 : ((L.h.n : Int) == (0 : Int)) = true := by simp; omega
                    have hb4 : (d.lt == (0 : Int)) = true := by simp; omega
                    have hb5 : (d.la == (0 : Int)) = true := by simp; omega
                    have hb6 : ((L.y.n : Int) == (0 : Int)) = true := by simp; omega
                    have hb7 : ((L.z.n : Int) == (0 : Int)) = true := by simp; omega
                    have hb8 : (d.yq == (0 : Int)) = false := by simp; omega
                    have HE : Hid (keepB d = false) := by
                      show _ = _
                      obtain ⟨l0, l1, l2, l3, l4, l5⟩ := HL.out
                      rw [keepB, noS, noL, noM, l0, l1, l2, l3, l4, l5]
                      simp [h0, h1, h2, h3, h4, h5, h6, h7, h8]
                    clear h0 h1 h2 h3 h4 h5 h6 h7 h8
                    go_enter Try.func36, Try.ntmps36
                    go_wp2_with (refine sh_box rfl ?_)
                    intro W b hW S B
                    have HB : Hid (Below w.heap.size w W) := B
                    clear B hW
                    obtain ⟨c0, c1, c2, c3, c4, c5, c6, c7, c8, c9, c10, c11, c12, c13, c14, c15, c16⟩ := S.bx.shop
                    have m0 := S.lt
                    clear S
                    go_wp2_with fail
                    go_ret
                    exact ⟨by rw [HE.out]; rfl, HB.out⟩
                · have hb0 : ((L.s.n : Int) == (0 : Int)) = true := by simp; omega
                  have hb1 : ((L.r.n : Int) == (0 : Int)) = true := by simp; omega
                  have hb2 : ((L.l.n : Int) == (0 : Int)) = true := by simp; omega
                  have hb3 : ((L.h.n : Int) == (0 : Int)) = true := by simp; omega
                  have hb4 : (d.lt == (0 : Int)) = true := by simp; omega
                  have hb5 : (d.la == (0 : Int)) = true := by simp; omega
                  have hb6 : ((L.y.n : Int) == (0 : Int)) = true := by simp; omega
                  have hb7 : ((L.z.n : Int) == (0 : Int)) = false := by simp; omega
                  have HE : Hid (keepB d = false) := by
                    show _ = _
                    obtain ⟨l0, l1, l2, l3, l4, l5⟩ := HL.out
                    rw [keepB, noS, noL, noM, l0, l1, l2, l3, l4, l5]
                    simp [h0, h1, h2, h3, h4, h5, h6, h7]
                  clear h0 h1 h2 h3 h4 h5 h6 h7
                  go_enter Try.func36, Try.ntmps36
                  go_wp2_with (refine sh_box rfl ?_)
                  intro W b hW S B
                  have HB : Hid (Below w.heap.size w W) := B
                  clear B hW
                  obtain ⟨c0, c1, c2, c3, c4, c5, c6, c7, c8, c9, c10, c11, c12, c13, c14, c15, c16⟩ := S.bx.shop
                  have m0 := S.lt
                  clear S
                  go_wp2_with fail
                  go_ret
                  exact ⟨by rw [HE.out]; rfl, HB.out⟩
              · have hb0 : ((L.s.n : Int) == (0 : Int)) = true := by simp; omega
                have hb1 : ((L.r.n : Int) == (0 : Int)) = true := by simp; omega
                have hb2 : ((L.l.n : Int) == (0 : Int)) = true := by simp; omega
                have hb3 : ((L.h.n : Int) == (0 : Int)) = true := by simp; omega
                have hb4 : (d.lt == (0 : Int)) = true := by simp; omega
                have hb5 : (d.la == (0 : Int)) = true := by simp; omega
                have hb6 : ((L.y.n : Int) == (0 : Int)) = false := by simp; omega
                have HE : Hid (keepB d = false) := by
                  show _ = _
                  obtain ⟨l0, l1, l2, l3, l4, l5⟩ := HL.out
                  rw [keepB, noS, noL, noM, l0, l1, l2, l3, l4, l5]
                  simp [h0, h1, h2, h3, h4, h5, h6]
                clear h0 h1 h2 h3 h4 h5 h6
                go_enter Try.func36, Try.ntmps36
                go_wp2_with (refine sh_box rfl ?_)
                intro W b hW S B
                have HB : Hid (Below w.heap.size w W) := B
                clear B hW
                obtain ⟨c0, c1, c2, c3, c4, c5, c6, c7, c8, c9, c10, c11, c12, c13, c14, c15, c16⟩ := S.bx.shop
                have m0 := S.lt
                clear S
                go_wp2_with fail
                go_ret
                exact ⟨by rw [HE.out]; rfl, HB.out⟩
            · have hb0 : ((L.s.n : Int) == (0 : Int)) = true := by simp; omega
              have hb1 : ((L.r.n : Int) == (0 : Int)) = true := by simp; omega
              have hb2 : ((L.l.n : Int) == (0 : Int)) = true := by simp; omega
              have hb3 : ((L.h.n : Int) == (0 : Int)) = true := by simp; omega
              have hb4 : (d.lt == (0 : Int)) = true := by simp; omega
              have hb5 : (d.la == (0 : Int)) = false := by simp; omega
              have HE : Hid (keepB d = false) := by
                show _ = _
                obtain ⟨l0, l1, l2, l3, l4, l5⟩ := HL.out
                rw [keepB, noS, noL, noM, l0, l1, l2, l3, l4, l5]
                simp [h0, h1, h2, h3, h4, h5]
              clear h0 h1 h2 h3 h4 h5
              go_enter Try.func36, Try.ntmps36
              go_wp2_with (refine sh_box rfl ?_)
              intro W b hW S B
              have HB : Hid (Below w.heap.size w W) := B
              clear B hW
              obtain ⟨c0, c1, c2, c3, c4, c5, c6, c7, c8, c9, c10, c11, c12, c13, c14, c15, c16⟩ := S.bx.shop
              have m0 := S.lt
              clear S
              go_wp2_with fail
              go_ret
              exact ⟨by rw [HE.out]; rfl, HB.out⟩
          · have hb0 : ((L.s.n : Int) == (0 : Int)) = true := by simp; omega
            have hb1 : ((L.r.n : Int) == (0 : Int)) = true := by simp; omega
            have hb2 : ((L.l.n : Int) == (0 : Int)) = true := by simp; omega
            have hb3 : ((L.h.n : Int) == (0 : Int)) = true := by simp; omega
            have hb4 : (d.lt == (0 : Int)) = false := by simp; omega
            have HE : Hid (keepB d = false) := by
              show _ = _
              obtain ⟨l0, l1, l2, l3, l4, l5⟩ := HL.out
              rw [keepB, noS, noL, noM, l0, l1, l2, l3, l4, l5]
              simp [h0, h1, h2, h3, h4]
            clear h0 h1 h2 h3 h4
            go_enter Try.func36, Try.ntmps36
            go_wp2_with (refine sh_box rfl ?_)
            intro W b hW S B
            have HB : Hid (Below w.heap.size w W) := B
            clear B hW
            obtain ⟨c0, c1, c2, c3, c4, c5, c6, c7, c8, c9, c10, c11, c12, c13, c14, c15, c16⟩ := S.bx.shop
            have m0 := S.lt
            clear S
            go_wp2_with fail
            go_ret
            exact ⟨by rw [HE.out]; rfl, HB.out⟩
        · have hb0 : ((L.s.n : Int) == (0 : Int)) = true := by simp; omega
          have hb1 : ((L.r.n : Int) == (0 : Int)) = true := by simp; omega
          have hb2 : ((L.l.n : Int) == (0 : Int)) = true := by simp; omega
          have hb3 : ((L.h.n : Int) == (0 : Int)) = false := by simp; omega
          have HE : Hid (keepB d = false) := by
            show _ = _
            obtain ⟨l0, l1, l2, l3, l4, l5⟩ := HL.out
            rw [keepB, noS, noL, noM, l0, l1, l2, l3, l4, l5]
            simp [h0, h1, h2, h3]
          clear h0 h1 h2 h3
          go_enter Try.func36, Try.ntmps36
          go_wp2_with (refine sh_box rfl ?_)
          intro W b hW S B
          have HB : Hid (Below w.heap.size w W) := B
          clear B hW
          obtain ⟨c0, c1, c2, c3, c4, c5, c6, c7, c8, c9, c10, c11, c12, c13, c14, c15, c16⟩ := S.bx.shop
          have m0 := S.lt
          clear S
          go_wp2_with fail
          go_ret
          exact ⟨by rw [HE.out]; rfl, HB.out⟩
      · have hb0 : ((L.s.n : Int) == (0 : Int)) = true := by simp; omega
        have hb1 : ((L.r.n : Int) == (0 : Int)) = true := by simp; omega
        have hb2 : ((L.l.n : Int) == (0 : Int)) = false := by simp; omega
        have HE : Hid (keepB d = false) := by
          show _ = _
          obtain ⟨l0, l1, l2, l3, l4, l5⟩ := HL.out
          rw [keepB, noS, noL, noM, l0, l1, l2, l3, l4, l5]
          simp [h0, h1, h2]
        clear h0 h1 h2
        go_enter Try.func36, Try.ntmps36
        go_wp2_with (refine sh_box rfl ?_)
        intro W b hW S B
        have HB : Hid (Below w.heap.size w W) := B
        clear B hW
        obtain ⟨c0, c1, c2, c3, c4, c5, c6, c7, c8, c9, c10, c11, c12, c13, c14, c15, c16⟩ := S.bx.shop
        have m0 := S.lt
        clear S
        go_wp2_with fail
        go_ret
        exact ⟨by rw [HE.out]; rfl, HB.out⟩
    · have hb0 : ((L.s.n : Int) == (0 : Int)) = true := by simp; omega
      have hb1 : ((L.r.n : Int) == (0 : Int)) = false := by simp; omega
      have HE : Hid (keepB d = false) := by
        show _ = _
        obtain ⟨l0, l1, l2, l3, l4, l5⟩ := HL.out
        rw [keepB, noS, noL, noM, l0, l1, l2, l3, l4, l5]
        simp [h0, h1]
      clear h0 h1
      go_enter Try.func36, Try.ntmps36
      go_wp2_with (refine sh_box rfl ?_)
      intro W b hW S B
      have HB : Hid (Below w.heap.size w W) := B
      clear B hW
      obtain ⟨c0, c1, c2, c3, c4, c5, c6, c7, c8, c9, c10, c11, c12, c13, c14, c15, c16⟩ := S.bx.shop
      have m0 := S.lt
      clear S
      go_wp2_with fail
      go_ret
      exact ⟨by rw [HE.out]; rfl, HB.out⟩
  · have hb0 : ((L.s.n : Int) == (0 : Int)) = false := by simp; omega
    have HE : Hid (keepB d = false) := by
      show _ = _
      obtain ⟨l0, l1, l2, l3, l4, l5⟩ := HL.out
      rw [keepB, noS, noL, noM, l0, l1, l2, l3, l4, l5]
      simp [h0]
    clear h0
    go_enter Try.func36, Try.ntmps36
    go_wp2_with (refine sh_box rfl ?_)
    intro W b hW S B
    have HB : Hid (Below w.heap.size w W) := B
    clear B hW
    obtain ⟨c0, c1, c2, c3, c4, c5, c6, c7, c8, c9, c10, c11, c12, c13, c14, c15, c16⟩ := S.bx.shop
    have m0 := S.lt
    clear S
    go_wp2_with fail
    go_ret
    exact ⟨by rw [HE.out]; rfl, HB.out⟩

end Go.Proofs.Ytcmeimfjedakeaa.Crew
