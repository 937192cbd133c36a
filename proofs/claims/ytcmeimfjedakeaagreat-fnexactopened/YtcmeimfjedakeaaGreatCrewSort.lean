/-
  Crews by weight: impl's sort, impl.ByWeight, spec.ByWeight.
-/
import Derived.Test.YtcmeimfjedakeaaGreatCrewBase
import Derived.Test.YtcmeimfjedakeaaGreatSortMath
import Derived.Test.YtcmeimfjedakeaaGreatIntsBase
namespace Go.Proofs.YtcmeimfjedakeaaGreat.Crew
open Go.ChangeShapes Go.WideShapes Go.ChangeAt Go.RowKit

theorem shift_row {out zs : List Int} {at' : Nat} {j : Int} (h0 : 0 < at') (h1 : at' ≤ out.length) :
    (out.take at' ++ j :: (out.drop at' ++ zs)).set at' (out.getD (at' - 1) 0) = out.take (at' - 1) ++ out.getD (at' - 1) 0 :: (out.drop (at' - 1) ++ zs) := by
  rw [List.set_append_right _ _ (by simp; omega), List.length_take, show at' - min at' out.length = 0 by omega, List.set_cons_zero]
  obtain ⟨m, rfl⟩ : ∃ m, at' = m + 1 := ⟨at' - 1, by omega⟩
  have hm : m < out.length := by omega
  rw [Nat.add_sub_cancel, show out.getD m 0 = out[m] by simp [List.getD, hm], List.take_succ_eq_append_getElem hm, List.drop_eq_getElem_cons hm, List.append_assoc]
  rfl

theorem place_row {out zs : List Int} {at' : Nat} {j x : Int} (h1 : at' ≤ out.length) :
    (out.take at' ++ j :: (out.drop at' ++ zs)).set at' x = out.take at' ++ x :: (out.drop at' ++ zs) := by
  rw [List.set_append_right _ _ (by simp; omega), List.length_take, show at' - min at' out.length = 0 by omega, List.set_cons_zero]

theorem read_row {out zs : List Int} {at' : Nat} {j : Int} (h0 : 0 < at') (h1 : at' ≤ out.length) : (out.take at' ++ j :: (out.drop at' ++ zs)).getD (at' - 1) 0 = out.getD (at' - 1) 0 := by
  simp only [List.getD, List.getElem?_append]
  rw [if_pos (by simp; omega), List.getElem?_take, if_pos (by omega)]

theorem len_row {out zs : List Int} {at' : Nat} {j : Int} (h1 : at' ≤ out.length) : (out.take at' ++ j :: (out.drop at' ++ zs)).length = out.length + 1 + zs.length := by
  simp; omega

theorem posOf_down {f : Int → Bool} {out : List Int} {k : Nat} (h0 : 0 < k) (hf : f (out.getD (k - 1) 0) = true) : posOf f out k = posOf f out (k - 1) := by
  obtain ⟨m, rfl⟩ : ∃ m, k = m + 1 := ⟨k - 1, by omega⟩
  simp only [Nat.add_sub_cancel] at hf ⊢
  rw [posOf, if_pos hf]

theorem posOf_stop {f : Int → Bool} {out : List Int} {k : Nat} (hf : k = 0 ∨ f (out.getD (k - 1) 0) = false) : posOf f out k = k := by
  cases k with
  | zero => rfl
  | succ m =>
    rcases hf with h | h
    · omega
    · simp only [Nat.add_sub_cancel] at h
      rw [posOf, h]; rfl

theorem row_start {out : List Int} {n k : Nat} (hk : k < n) (hl : out.length = k) : out ++ List.replicate (n - k) 0 = out.take k ++ 0 :: (out.drop k ++ List.replicate (n - (k + 1)) 0) := by
  rw [show n - k = (n - (k + 1)) + 1 by omega, List.replicate_succ, List.take_of_length_le (by omega), List.drop_eq_nil_of_le (by omega)]
  rfl

/-- The end of a round: the new one has been put in. -/
theorem row_put {out L : List Int} {ah : Int → Int → Bool} {len k t : Nat} {j x : Int} (hL : L.length = len) (hk : k < len) (ho : out = sortedBy ah (L.take k)) (hl : out.length = k) (hx : x = L.getD k 0) (ht : t ≤ k) (hp : posOf (ah x) out k = t) :
    (out.take t ++ j :: (out.drop t ++ List.replicate (len - (k + 1)) 0)).set t x = sortedBy ah (L.take (k + 1)) ++ List.replicate (len - (k + 1)) 0 := by
  rw [place_row (by omega), List.take_succ_eq_append_getElem (by omega), sortedBy_step, ← ho, insertBy, show L[k]'(by omega) = x by rw [hx]; simp [List.getD, show k < L.length by omega], hl, hp, List.append_assoc]
  rfl

/-- impl.sortedBy[int64] with the closure of impl.ByWeight: what it answers lies in a block of its own. -/
theorem sortedBy_any (a : Option Addr) (len cap bx : Nat) (L : List Int) (ah : Int → Int → Bool) (w : World) (I : Ints w a len L) (hs : (len : Int) ≤ 1048576)
    (H : ∀ (wr : World) (x y : Int), Below w.heap.size w wr → x ∈ L → y ∈ L → Calls Tryz.prog 237 #[.int .i64 x, .int .i64 y, .pointer (some ⟨bx, 0, none⟩)] wr fun e w' => e = .returned (.bool (ah x y)) ∧ Below wr.heap.size wr w') :
    Calls Tryz.prog 236 #[.slice a len cap, .func (.func 237) #[] #[.pointer (some ⟨bx, 0, none⟩)]] w fun e w' => e = .returned (.slice (some ⟨w.heap.size, 0, none⟩) len len) ∧ Row w' w.heap.size len (sortedBy ah L) ∧ Below w.heap.size w w' := by
  obtain ⟨i0, hi, hz0, hz1, hz2⟩ := info_parts info_int
  have HI : Hid (Ints w a len L) := I
  have HL : Hid (L.length = len) := I.1
  have HH : Hid (∀ (wr : World) (x y : Int), Below w.heap.size w wr → x ∈ L → y ∈ L → Calls Tryz.prog 237 #[.int .i64 x, .int .i64 y, .pointer (some ⟨bx, 0, none⟩)] wr fun e w' => e = .returned (.bool (ah x y)) ∧ Below wr.heap.size wr w') := H
  clear I H
  go_enter Tryz.func236, Tryz.ntmps236
  go_wp2_with (at_make; refine wpList_make_full _ rfl (.tmp 10) (.tmp 10) 27 rfl w.heap.size 2 i0 (.int .i64 0) 1 Tryz.underlying27 hi hz0 hz1 _ _ _ _ len rfl rfl rfl rfl (by rw [hz2]; omega) (by unfold maxLen; omega) (Nat.le_refl _) ?_)
  intro w1 hown hgrow
  rw [made_zero] at hown
  have R0 : Hid (Row w1 w.heap.size len (List.replicate len 0)) := (row_of_owns hown).1
  have B0 : Hid (Below w.heap.size w w1) := (Below.refl _ w).grown hgrow (Nat.le_refl _) (fun k h => by cases h)
  clear hown hgrow hi hz0 hz1 hz2
  go_wp2_with fail
  go_loopw [6, 7, 8, 14] (fun _ _ _ i wr => ∃ k : Nat, k ≤ len ∧ i = .int .i64 k ∧ Hid (Row wr w.heap.size len (sortedBy ah (L.take k) ++ List.replicate (len - k) 0)) ∧ Hid (Below w.heap.size w wr)) (fun _ _ _ i _ => len - (intOf i).toNat)
  case atStart => exact ⟨0, Nat.zero_le _, rfl, by simpa [sortedBy] using R0, B0⟩
  case round =>
    obtain ⟨k, hk, rfl, R, B⟩ := hrel
    by_cases hlt : k < len
    · obtain ⟨hl, h0 | ⟨b, off, rfl, hb, hc⟩⟩ := HI.out.kept B.out
      · omega
      obtain ⟨x, hx⟩ : ∃ x, x = L.getD k 0 := ⟨_, rfl⟩
      have c0 := hc k hlt
      rw [← hx] at c0
      have hlt' : (k : Int) < (len : Int) := by omega
      have X : Hid (x = L.getD k 0 ∧ x ∈ L) := ⟨hx, by rw [hx, show L.getD k 0 = L[k]'(by omega) by simp [List.getD, show k < L.length by omega]]; exact List.getElem_mem _⟩
      obtain ⟨out, hout⟩ : ∃ out, out = sortedBy ah (L.take k) := ⟨_, rfl⟩
      have ho : out.length = k := by rw [hout]; exact sortedBy_length _ k _ (by simp; omega)
      have hm : ∀ y ∈ out, y ∈ L := fun y hy => by rw [hout] at hy; exact List.mem_of_mem_take (mem_sortedBy k _ (by simp; omega) hy)
      have OUT : Hid (out = sortedBy ah (L.take k) ∧ out.length = k ∧ ∀ y ∈ out, y ∈ L) := ⟨hout, ho, hm⟩
      have R' : Hid (Row wr w.heap.size len (out.take k ++ 0 :: (out.drop k ++ List.replicate (len - (k + 1)) 0))) := by
        have := R.out
        rw [← hout, row_start hlt ho] at this
        exact this
      clear hc hx R hout ho hm hl
      go_wp2_with fail
      go_loopw [8] (fun i wq => ∃ t : Nat, t ≤ k ∧ i = .int .i64 t ∧ Hid (∃ j, Row wq w.heap.size len (out.take t ++ j :: (out.drop t ++ List.replicate (len - (k + 1)) 0))) ∧ Hid (Below w.heap.size w wq) ∧ Hid (posOf (ah x) out k = posOf (ah x) out t)) (fun i _ => (intOf i).toNat)
      case atStart => exact ⟨k, Nat.le_refl _, rfl, ⟨0, R'⟩, B, rfl⟩
      case round =>
        obtain ⟨t, ht, rfl, RJ, BQ, PQ⟩ := hrel
        by_cases ht0 : t = 0
        · subst ht0
          have hd : decide ((0 : Int) < ((0 : Nat) : Int)) = false := by simp
          obtain ⟨j, RJ'⟩ := RJ.out
          have f0 := RJ'.frozen 0
          obtain ⟨y, c1⟩ : ∃ y, wr.cell? ⟨w.heap.size, 0, none⟩ = some (.int .i64 y) := ⟨_, RJ'.cell (j := 0) (by rw [len_row (by omega)]; omega)⟩
          have RK : Hid (Row wr w.heap.size len (out.take 0 ++ j :: (out.drop 0 ++ List.replicate (len - (k + 1)) 0))) := RJ'
          clear RJ RJ'
          go_wp2_with fail
          go_roundw
          case rel =>
            refine ⟨k + 1, by omega, by go_num, ?_, BQ.out.setCell (Nat.le_refl _) _⟩
            have := RK.out.set 0 x
            rw [row_put HL.out hlt OUT.out.1 OUT.out.2.1 X.out.1 (Nat.zero_le _) (by rw [PQ.out]; rfl)] at this
            exact this
          case measure => simp [intOf]; omega
        · obtain ⟨j, RJ'⟩ := RJ.out
          have ht1 : 0 < t := by omega
          have hl2 := len_row (out := out) (zs := List.replicate (len - (k + 1)) 0) (at' := t) (j := j) (by have := OUT.out.2.1; omega)
          have hr2 := read_row (out := out) (zs := List.replicate (len - (k + 1)) 0) (at' := t) (j := j) ht1 (by have := OUT.out.2.1; omega)
          have f0 := RJ'.frozen t
          obtain ⟨y, c1⟩ : ∃ y, wr.cell? ⟨w.heap.size, t, none⟩ = some (.int .i64 y) := ⟨_, RJ'.cell (j := t) (by rw [hl2]; have := OUT.out.2.1; omega)⟩
          obtain ⟨z, hz⟩ : ∃ z, z = out.getD (t - 1) 0 := ⟨_, rfl⟩
          have c2 := RJ'.cell (j := t - 1) (by rw [hl2]; have := OUT.out.2.1; omega)
          rw [hr2, ← hz] at c2
          have Z : Hid (z = out.getD (t - 1) 0 ∧ z ∈ L) := ⟨hz, OUT.out.2.2 z (by rw [hz, show out.getD (t - 1) 0 = out[t - 1]'(by have := OUT.out.2.1; omega) by simp [List.getD, show t - 1 < out.length by have := OUT.out.2.1; omega]]; exact List.getElem_mem _)⟩
          have RK : Hid (Row wr w.heap.size len (out.take t ++ j :: (out.drop t ++ List.replicate (len - (k + 1)) 0))) := RJ'
          have HB := HH.out wr x z BQ.out X.out.2 Z.out.2
          have hti : (0 : Int) < (t : Int) := by omega
          clear RJ RJ' hl2 hr2 hz
          go_wp2_with fail
          refine HB.mono ?_
          rintro e wz ⟨rfl, BZ⟩
          have hsz : w.heap.size < wr.heap.size := RK.out.lt
          have RZ : Hid (Row wz w.heap.size len (out.take t ++ j :: (out.drop t ++ List.replicate (len - (k + 1)) 0))) := RK.out.all BZ
          have BW : Hid (Below w.heap.size w wz) := BQ.out.trans (BZ.mono (by omega))
          have c3 := c1
          rw [← BZ.cell (p := ⟨w.heap.size, t, none⟩) hsz] at c3
          have c4 := c2
          rw [← BZ.cell (p := ⟨w.heap.size, t - 1, none⟩) hsz] at c4
          have f4 := f0
          rw [← BZ.frozen (p := ⟨w.heap.size, t, none⟩) hsz] at f4
          clear c1 c2 f0 BZ RK BQ HB
          cases hb : ah x z
          · have hb' : Hid (ah x z = false) := hb
            clear hb
            go_wp2_with fail
            go_roundw
            case rel =>
              refine ⟨k + 1, by omega, by go_num, ?_, BW.out.setCell (Nat.le_refl _) _⟩
              have := RZ.out.set t x
              rw [row_put HL.out hlt OUT.out.1 OUT.out.2.1 X.out.1 ht (by rw [PQ.out]; exact posOf_stop (.inr (by rw [← Z.out.1]; exact hb'.out)))] at this
              exact this
            case measure => simp [intOf]; omega
          · have hb' : Hid (ah x z = true) := hb
            clear hb
            go_wp2_with fail
            go_roundw
            case rel =>
              refine ⟨t - 1, by omega, by go_num, ⟨z, ?_⟩, BW.out.setCell (Nat.le_refl _) _, by show _ = _; rw [PQ.out]; exact posOf_down ht1 (by rw [← Z.out.1]; exact hb'.out)⟩
              have := RZ.out.set t z
              rw [Z.out.1, shift_row ht1 (by have := OUT.out.2.1; omega), ← Z.out.1] at this
              exact this
            case measure => simp [intOf]; omega
    · have hlt' : ¬ (k : Int) < (len : Int) := by omega
      go_wp2_with fail
      go_ret
      have e : k = len := by omega
      subst e
      have := R.out
      rw [List.take_of_length_le (by have := HL.out; omega), Nat.sub_self, List.replicate_zero, List.append_nil] at this
      exact ⟨rfl, this, B.out⟩

end Go.Proofs.YtcmeimfjedakeaaGreat.Crew

namespace Go.Proofs.YtcmeimfjedakeaaGreat.Crew
open Go.ChangeShapes Go.WideShapes Go.ChangeAt Go.RowKit

/-- All numbers, the heavier ones first; nothing where it is no crew. -/
def byWeight (ws : List Int) : List Int := if crewOk ws then byW ws ws.length else []

theorem heavier_any (bx : Nat) (a : Option Addr) (len cap : Nat) (ws : List Int) (x y : Nat) (w : World) (hbx : w.cell? ⟨bx, 0, none⟩ = some (.slice a len cap)) (I : Ints w a len ws) (hx : x < len) (hy : y < len) :
    Calls Tryz.prog 237 #[.int .i64 x, .int .i64 y, .pointer (some ⟨bx, 0, none⟩)] w fun e w' => e = .returned (.bool (heavier ws x y)) ∧ Below w.heap.size w w' := by
  obtain ⟨hl, h0 | ⟨b, off, rfl, hb, hc⟩⟩ := I
  · omega
  obtain ⟨p, hp⟩ : ∃ p, p = ws.getD x 0 := ⟨_, rfl⟩
  obtain ⟨q, hq⟩ : ∃ q, q = ws.getD y 0 := ⟨_, rfl⟩
  have c1 := hc x hx
  have c2 := hc y hy
  rw [← hp] at c1
  rw [← hq] at c2
  have hx' : (x : Int) < (len : Int) := by omega
  have hy' : (y : Int) < (len : Int) := by omega
  have he : heavier ws x y = decide (q < p) := by simp [heavier, hp, hq]
  rw [he]
  clear hc hp hq he
  go_enter Tryz.func237, Tryz.ntmps237
  go_wp2_with fail
  go_quiet (fail)
  go_wp2_with fail
  go_ret
  exact ⟨rfl, below_drewN (Below.refl _ _) _⟩

theorem nums_step {n k : Nat} (h : k < n) : (nums k ++ List.replicate (n - k) 0).set k (k : Int) = nums (k + 1) ++ List.replicate (n - (k + 1)) 0 := by
  rw [show n - k = (n - (k + 1)) + 1 by omega, List.replicate_succ, List.set_append_right _ _ (by rw [nums_length]; omega), nums_length, Nat.sub_self, List.set_cons_zero, nums_succ, List.append_assoc]
  rfl

/-- Where it is a crew. -/
theorem implBy_yes (a : Option Addr) (len cap : Nat) (ws : List Int) (w : World) (I : Ints w a len ws) (hc : crewOk ws = true) :
    Calls Tryz.prog 232 #[.slice a len cap] w fun e w' => ∃ g, e = .returned (.slice (some ⟨g, 0, none⟩) len len) ∧ Row w' g len (byW ws len) ∧ w.heap.size ≤ g ∧ Below w.heap.size w w' := by
  obtain ⟨i0, hi, hz0, hz1, hz2⟩ := info_parts info_int
  have hs : (len : Int) ≤ 24 := by have := crew_len hc; have := I.1; omega
  have HI : Hid (Ints w a len ws) := I
  have HC : Hid (crewOk ws = true) := hc
  have B1 := (Below.refl w.heap.size w).alloc (Nat.le_refl _) (.cells #[.slice a len cap] 27)
  have hbx : (w.alloc (.cells #[.slice a len cap] 27)).cell? ⟨w.heap.size, 0, none⟩ = some (.slice a len cap) := by rw [cell_of_row _ w.heap.size _ _ _ _ (heap_alloc_new w _)]; rfl
  clear I hc
  go_enter Tryz.func232, Tryz.ntmps232
  go_wp2_with fail
  refine (implCrewOk a len cap ws _ (HI.out.kept B1)).mono ?_
  rw [HC.out]
  rintro e w1 ⟨rfl, rfl⟩
  go_wp2_with (at_make; refine wpList_make_full _ rfl (.tmp 10) (.tmp 10) 27 rfl 0 2 i0 (.int .i64 0) 1 Tryz.underlying27 hi hz0 hz1 _ _ _ _ len rfl rfl rfl rfl (by rw [hz2]; omega) (by unfold maxLen; omega) (Nat.zero_le _) ?_)
  intro w2 hown hgrow
  rw [made_zero] at hown
  have R0 := (row_of_owns hown).1
  have B2 := B1.grown hgrow (by simp) (fun k h => by cases h)
  have hbx2 := hgrow.cell hbx (by simp)
  clear hown hgrow hi hz0 hz1 hz2
  have RH : Hid (Row w2 (w.heap.size + 1) len (List.replicate len 0)) := R0
  have BH : Hid (Below w.heap.size w w2) := B2
  have CB : Hid (w2.cell? ⟨w.heap.size, 0, none⟩ = some (.slice a len cap)) := hbx2
  clear R0 B2 hbx2 hbx B1
  go_wp2_with fail
  go_loopw [4, 14] (fun _ i wr => ∃ k : Nat, k ≤ len ∧ i = .int .i64 k ∧ Hid (Row wr (w.heap.size + 1) len (nums k ++ List.replicate (len - k) 0)) ∧ Hid (w2.grownBy wr (some (w.heap.size + 1)))) (fun _ i _ => len - (intOf i).toNat)
  case atStart => exact ⟨0, Nat.zero_le _, rfl, by simpa [nums] using RH, World.grownBy.refl _ _⟩
  case round =>
    obtain ⟨k, hk, rfl, R, G⟩ := hrel
    by_cases hlt : k < len
    · have hlt' : (k : Int) < (len : Int) := by omega
      have f0 := R.out.frozen k
      obtain ⟨y, c1⟩ : ∃ y, wr.cell? ⟨w.heap.size + 1, k, none⟩ = some (.int .i64 y) := ⟨_, R.out.cell (j := k) (by simp [nums_length]; omega)⟩
      go_wp2_with fail
      go_roundw
      case rel =>
        refine ⟨k + 1, by omega, by go_num, ?_, G.out.trans (grown_at _ _ _ _)⟩
        have := R.out.set k (k : Int)
        rw [nums_step hlt] at this
        exact this
      case measure => simp [intOf]; omega
    · have hlt' : ¬ (k : Int) < (len : Int) := by omega
      have e : k = len := by omega
      subst e
      have RN : Hid (Row wr (w.heap.size + 1) k (nums k)) := by
        have := R.out
        rw [Nat.sub_self, List.replicate_zero, List.append_nil] at this
        exact this
      have BN : Hid (Below w.heap.size w wr) := BH.out.grown G.out (by have := BH.out.size; omega) (fun j hj => by cases hj; omega)
      have CN : Hid (wr.cell? ⟨w.heap.size, 0, none⟩ = some (.slice a k cap)) := G.out.cell CB.out (by simp)
      have IN : Hid (Ints wr a k ws) := HI.out.kept BN.out
      have hsz : w.heap.size + 1 < wr.heap.size := RN.out.lt
      have HN := RN.out.ints
      rw [nums_length] at HN
      clear R G
      go_wp2_with fail
      refine (sortedBy_any _ k k w.heap.size (nums k) (heavier ws) _ HN (by omega) ?_).mono ?_
      · intro wx x y bx hx hy
        obtain ⟨x', hx1, rfl⟩ := mem_nums hx
        obtain ⟨y', hy1, rfl⟩ := mem_nums hy
        exact heavier_any w.heap.size a k cap ws x' y' wx (by rw [bx.cell (p := ⟨w.heap.size, 0, none⟩) (by show w.heap.size < wr.heap.size; omega)]; exact CN.out) (IN.out.kept bx) hx1 hy1
      · rintro e w3 ⟨rfl, R3, B3⟩
        have BF : Hid (Below w.heap.size w w3) := BN.out.trans (B3.mono (by omega))
        have RF : Hid (Row w3 wr.heap.size k (byW ws k)) := R3
        clear R3 B3 HN
        go_wp2_with fail
        go_ret
        exact ⟨wr.heap.size, rfl, RF.out, by omega, BF.out⟩

/-- Where it is none. -/
theorem implBy_no (a : Option Addr) (len cap : Nat) (ws : List Int) (w : World) (I : Ints w a len ws) (hc : crewOk ws = false) :
    Calls Tryz.prog 232 #[.slice a len cap] w fun e w' => ∃ g, e = .returned (.slice (some ⟨g, 0, none⟩) 0 0) ∧ Row w' g 0 [] ∧ w.heap.size ≤ g ∧ Below w.heap.size w w' := by
  have HI : Hid (Ints w a len ws) := I
  have HC : Hid (crewOk ws = false) := hc
  have B1 := (Below.refl w.heap.size w).alloc (Nat.le_refl _) (.cells #[.slice a len cap] 27)
  have R2 := row_new (w.alloc (.cells #[.slice a len cap] 27)) [] (by simp [maxLen])
  have B2 := B1.alloc (by simp) (.cells #[] 2)
  clear I hc
  go_enter Tryz.func232, Tryz.ntmps232
  go_wp2_with fail
  refine (implCrewOk a len cap ws _ (HI.out.kept B1)).mono ?_
  rw [HC.out]
  rintro e w1 ⟨rfl, rfl⟩
  go_wp2_with fail
  go_ret
  exact ⟨_, rfl, by simpa using R2, by simp, B2⟩

/-- impl.ByWeight at every slice. -/
theorem implBy (a : Option Addr) (len cap : Nat) (ws : List Int) (w : World) (I : Ints w a len ws) :
    Calls Tryz.prog 232 #[.slice a len cap] w fun e w' => ∃ g cp, e = .returned (.slice (some ⟨g, 0, none⟩) (byWeight ws).length cp) ∧ Row w' g cp (byWeight ws) ∧ w.heap.size ≤ g ∧ Below w.heap.size w w' := by
  have hl := I.1
  cases hc : crewOk ws
  · refine (implBy_no a len cap ws w I hc).mono ?_
    rintro e w' ⟨g, rfl, r⟩
    have e : byWeight ws = [] := by simp [byWeight, hc]
    rw [e]
    exact ⟨g, 0, rfl, r⟩
  · refine (implBy_yes a len cap ws w I hc).mono ?_
    rintro e w' ⟨g, rfl, r⟩
    have e : byWeight ws = byW ws len := by simp [byWeight, hc, hl]
    rw [e, byW_length]
    exact ⟨g, len, rfl, r⟩

end Go.Proofs.YtcmeimfjedakeaaGreat.Crew

namespace Go.Proofs.YtcmeimfjedakeaaGreat.Crew
open Go.ChangeShapes Go.WideShapes Go.ChangeAt Go.RowKit

/-- Behind 'rest := append([]int64{}, out[t:]...)'. -/
theorem rest_done {w wx w2 : World} {g cp g1 c1 t : Nat} {out : List Int} (R : Row wx g cp out) (B : Below w.heap.size w wx) (R2 : Row w2 g1 c1 (out.drop t)) (G : (wx.alloc (.cells #[] 2)).grownBy w2 (some wx.heap.size)) (D : g1 = wx.heap.size ∨ g1 = wx.heap.size + 1) :
    Row w2 g1 c1 (out.drop t) ∧ wx.heap.size ≤ g1 ∧ Row w2 g cp (out.take t) ∧ Below w.heap.size w w2 := by
  have hlt := R.lt
  have hs := B.size
  exact ⟨R2, by omega, ((R.alloc _).other G (by simp; omega)).cut t, (B.alloc hs _).grown G (by simp; omega) (fun k hk => by cases hk; omega)⟩

/-- Behind 'append(out[:t], i)'. -/
theorem one_done {w w2 w3 : World} {g g1 c1 g2 c2 : Nat} {o : Obj} {rest xs : List Int} (R : Row w2 g1 c1 rest) (B : Below w.heap.size w w2) (hg : w.heap.size ≤ g) (hne : g < g1) (R3 : Row w3 g2 c2 xs) (G : (w2.alloc o).grownBy w3 (some g)) (D : g2 = g ∨ g2 = w2.heap.size + 1) :
    Row w3 g2 c2 xs ∧ g ≤ g2 ∧ Row w3 g1 c1 rest ∧ Below w.heap.size w w3 := by
  have hlt := R.lt
  have hs := B.size
  exact ⟨R3, by omega, (R.alloc o).other G (by simp; omega), (B.alloc hs _).grown G (by simp; omega) (fun k hk => by cases hk; omega)⟩

/-- Behind 'append(.., rest...)'. -/
theorem all_done {w w3 w4 : World} {ws : List Int} {n t g2 g3 c3 : Nat} (P : posOf (heavier ws n) (byW ws n) n = t) (B : Below w.heap.size w w3) (hg : w.heap.size ≤ g2) (R4 : Row w4 g3 c3 ((byW ws n).take t ++ (n : Int) :: (byW ws n).drop t)) (G : w3.grownBy w4 (some g2)) (D : g3 = g2 ∨ g3 = w3.heap.size) :
    Row w4 g3 c3 (byW ws (n + 1)) ∧ w.heap.size ≤ g3 ∧ Below w.heap.size w w4 := by
  have hs := B.size
  refine ⟨?_, by omega, B.grown G (by omega) (fun k hk => by cases hk; omega)⟩
  rw [byW_succ, insertBy, byW_length, P]
  exact R4

set_option maxRecDepth 100000 in
theorem specBy_yes (a : Option Addr) (len cap : Nat) (ws : List Int) (w : World) (I : Ints w a len ws) (hc : crewOk ws = true) :
    Calls Tryz.prog 114 #[.slice a len cap] w fun e w' => ∃ g cp, e = .returned (.slice (some ⟨g, 0, none⟩) len cp) ∧ Row w' g cp (byW ws len) ∧ w.heap.size ≤ g ∧ Below w.heap.size w w' := by
  obtain ⟨i0, hi, hz0, hz1, hz2⟩ := info_parts info_int
  have hs : (len : Int) ≤ 24 := by have := crew_len hc; have := I.1; omega
  have HI : Hid (Ints w a len ws) := I
  have HC : Hid (crewOk ws = true) := hc
  have B1 := (Below.refl w.heap.size w).alloc (Nat.le_refl _) (.cells #[] 2)
  have R1 : Row (w.alloc (.cells #[] 2)) w.heap.size 0 [] := by simpa using row_new w [] (by simp [maxLen])
  clear I hc
  go_enter Tryz.func114, Tryz.ntmps114
  go_wp2_with fail
  refine (specCrewOk a len cap ws _ (HI.out.kept B1) (by omega)).mono ?_
  rw [HC.out]
  rintro e w1 ⟨hw, rfl⟩
  subst hw
  have RH : Hid (Row (w.alloc (.cells #[] 2)) w.heap.size 0 []) := R1
  have BH : Hid (Below w.heap.size w (w.alloc (.cells #[] 2))) := B1
  clear R1 B1
  go_wp2_with fail
  go_loopw [3, 4, 5, 6] (fun v i _ _ wr => ∃ n g cp : Nat, n ≤ len ∧ i = .int .i64 n ∧ v = .slice (some ⟨g, 0, none⟩) n cp ∧ Hid (Row wr g cp (byW ws n) ∧ w.heap.size ≤ g ∧ Below w.heap.size w wr)) (fun _ i _ _ _ => len - (intOf i).toNat)
  case atStart => exact ⟨0, w.heap.size, 0, Nat.zero_le _, rfl, rfl, RH.out, Nat.le_refl _, BH.out⟩
  case round =>
    obtain ⟨n, g, cp, hn, rfl, rfl, R⟩ := hrel
    by_cases hlt : n < len
    · have hlt' : (n : Int) < (len : Int) := by omega
      obtain ⟨hl, h0 | ⟨b, off, rfl, hb, hcl⟩⟩ := HI.out
      · omega
      have HCL : Hid (b < w.heap.size ∧ ∀ i, i < len → w.cell? ⟨b, off + i, none⟩ = some (.int .i64 (ws.getD i 0))) := ⟨hb, hcl⟩
      obtain ⟨q, hq⟩ : ∃ q, q = ws.getD n 0 := ⟨_, rfl⟩
      have HQ : Hid (q = ws.getD n 0) := hq
      clear hl hcl hq hb
      go_wp2_with fail
      go_loopw [5] (fun k wr => ∃ t : Nat, t ≤ n ∧ k = .int .i64 t ∧ Hid (Row wr g cp (byW ws n) ∧ w.heap.size ≤ g ∧ Below w.heap.size w wr) ∧ Hid (posOf (heavier ws n) (byW ws n) n = posOf (heavier ws n) (byW ws n) t)) (fun k _ => (intOf k).toNat)
      case atStart => exact ⟨n, Nat.le_refl _, rfl, R, rfl⟩
      case round =>
        obtain ⟨t, ht, rfl, RQ, PQ⟩ := hrel
        by_cases ht0 : t = 0
        · have hd : decide ((0 : Int) < (t : Int)) = false := by simp; omega
          have hdn : decide (0 < t) = false := by simp; omega
          have PT : Hid (posOf (heavier ws n) (byW ws n) n = t) := by show _ = _; rw [PQ.out, ht0]; rfl
          clear ht0
          go_wp2_with fail
          go_quiet (fail)
          have RX : Hid (Row (wr.drewN nq) g cp (byW ws n) ∧ w.heap.size ≤ g ∧ Below w.heap.size w (wr.drewN nq)) := ⟨row_drewN RQ.out.1 _, RQ.out.2.1, below_drewN RQ.out.2.2 _⟩
          generalize wr.drewN nq = wx at RX ⊢
          have hcp : t ≤ cp := by obtain ⟨_, _, hl, _⟩ := RX.out.1; rw [byW_length] at hl; omega
          have hgx : g < wx.heap.size := RX.out.1.lt
          go_wp2_with (at_builtin; refine wpList_append_ints rfl (.tmp 39) (.tmp 42) 27 rfl i0 Tryz.underlying27 hi hz0 hz1 hz2 _ _ _ [] rfl rfl (row_nil wx) _ _ _ ((byW ws n).drop t) rfl ((RX.out.1.alloc _).tail (byW_length _ _) t ht _ (by intro h; first | rfl | simp [h])) (by simp; omega) ?_)
          all_goals
            intro g1 c1 w2 R2 G2 D2
            have K2 : Hid (Row w2 g1 c1 ((byW ws n).drop t) ∧ wx.heap.size ≤ g1 ∧ Row w2 g cp ((byW ws n).take t) ∧ Below w.heap.size w w2) := rest_done RX.out.1 RX.out.2.2 (by simpa using R2) G2 D2
            have hg1 : g1 < w2.heap.size := K2.out.1.lt
            clear R2 G2 D2
            go_wp2_with (at_builtin; refine wpList_append_ints rfl (.tmp 46) (.tmp 48) 27 rfl i0 Tryz.underlying27 hi hz0 hz1 hz2 _ _ _ ((byW ws n).take t) rfl (by rw [List.length_take, byW_length]; omega) (by first | exact K2.out.2.2.1.alloc _ | (have hct : cp = t := (by assumption); rw [hct] at K2; exact K2.out.2.2.1.alloc _)) _ _ _ [(n : Int)] rfl (ints_one _ _ _) (by rw [List.length_take, byW_length]; omega) ?_)
            intro g2 c2 w3 R3 G3 D3
            have K3 : Hid (Row w3 g2 c2 ((byW ws n).take t ++ [(n : Int)]) ∧ g ≤ g2 ∧ Row w3 g1 c1 ((byW ws n).drop t) ∧ Below w.heap.size w w3) := one_done K2.out.1 K2.out.2.2.2 RX.out.2.1 (by have := K2.out.2.1; omega) R3 G3 D3
            have hg2 : g2 < w3.heap.size := K3.out.1.lt
            clear R3 G3 D3
            go_wp2_with (at_builtin; refine wpList_append_ints rfl (.tmp 49) (.tmp 50) 27 rfl i0 Tryz.underlying27 hi hz0 hz1 hz2 _ _ _ ((byW ws n).take t ++ [(n : Int)]) rfl (by rw [List.length_append, List.length_take, byW_length, List.length_singleton]; omega) K3.out.1 _ _ _ ((byW ws n).drop t) rfl (by have := K3.out.2.2.1.ints; rw [List.length_drop, byW_length] at this; exact this) (by rw [List.length_append, List.length_take, byW_length, List.length_singleton]; omega) ?_)
            intro g3 c3 w4 R4 G4 D4
            have K4 : Hid (Row w4 g3 c3 (byW ws (n + 1)) ∧ w.heap.size ≤ g3 ∧ Below w.heap.size w w4) := all_done PT.out K3.out.2.2.2 (by have := K3.out.2.1; have := RX.out.2.1; omega) R4 G4 D4
            clear R4 G4 D4
            go_wp2_with fail
            go_roundw
            case rel => exact ⟨n + 1, g3, c3, by omega, by go_num, by rw [show t + 1 + (n - t) = n + 1 by omega], K4⟩
            case measure => simp [intOf]; omega
        · obtain ⟨j, hj, hje⟩ := byW_get ws n (t - 1) (by omega)
          have c1 := RQ.out.1.cell (j := t - 1) (by rw [byW_length]; omega)
          rw [hje] at c1
          have c2 := HCL.out.2 j (by omega)
          have c3 := HCL.out.2 n hlt
          rw [← HQ.out, ← RQ.out.2.2.cell (p := ⟨b, off + n, none⟩) HCL.out.1] at c3
          obtain ⟨p, hp⟩ : ∃ p, p = ws.getD j 0 := ⟨_, rfl⟩
          rw [← hp, ← RQ.out.2.2.cell (p := ⟨b, off + j, none⟩) HCL.out.1] at c2
          have hti : (0 : Int) < (t : Int) := by omega
          have htn : 0 < t := by omega
          have htj : (j : Int) < (len : Int) := by omega
          have HP : Hid (p = ws.getD j 0 ∧ (byW ws n).getD (t - 1) 0 = j) := ⟨hp, hje⟩
          clear hp hje
          by_cases hpq : p < q
          · go_wp2_with fail
            go_quiet (fail)
            go_wp2_with fail
            go_roundw
            case rel =>
              refine ⟨t - 1, by omega, by go_num, ⟨row_drewN RQ.out.1 _, RQ.out.2.1, below_drewN RQ.out.2.2 _⟩, ?_⟩
              show _ = _
              rw [PQ.out]
              exact posOf_down (by omega) (by rw [HP.out.2]; exact heavier_yes HP.out.1 HQ.out hpq)
            case measure => simp [intOf]; omega
          · have hpd : decide (p < q) = false := by simpa using hpq
            have PT : Hid (posOf (heavier ws n) (byW ws n) n = t) := by show _ = _; rw [PQ.out]; exact posOf_stop (.inr (by rw [HP.out.2]; exact heavier_no HP.out.1 HQ.out hpq))
            go_wp2_with fail
            go_quiet (fail)
            have RX : Hid (Row (wr.drewN nq) g cp (byW ws n) ∧ w.heap.size ≤ g ∧ Below w.heap.size w (wr.drewN nq)) := ⟨row_drewN RQ.out.1 _, RQ.out.2.1, below_drewN RQ.out.2.2 _⟩
            generalize wr.drewN nq = wx at RX ⊢
            have hcp : t ≤ cp := by obtain ⟨_, _, hl, _⟩ := RX.out.1; rw [byW_length] at hl; omega
            have hgx : g < wx.heap.size := RX.out.1.lt
            go_wp2_with (at_builtin; refine wpList_append_ints rfl (.tmp 39) (.tmp 42) 27 rfl i0 Tryz.underlying27 hi hz0 hz1 hz2 _ _ _ [] rfl rfl (row_nil wx) _ _ _ ((byW ws n).drop t) rfl ((RX.out.1.alloc _).tail (byW_length _ _) t ht _ (by intro h; first | rfl | simp [h])) (by simp; omega) ?_)
            all_goals
              intro g1 c1 w2 R2 G2 D2
              have K2 : Hid (Row w2 g1 c1 ((byW ws n).drop t) ∧ wx.heap.size ≤ g1 ∧ Row w2 g cp ((byW ws n).take t) ∧ Below w.heap.size w w2) := rest_done RX.out.1 RX.out.2.2 (by simpa using R2) G2 D2
              have hg1 : g1 < w2.heap.size := K2.out.1.lt
              clear R2 G2 D2
              go_wp2_with (at_builtin; refine wpList_append_ints rfl (.tmp 46) (.tmp 48) 27 rfl i0 Tryz.underlying27 hi hz0 hz1 hz2 _ _ _ ((byW ws n).take t) rfl (by rw [List.length_take, byW_length]; omega) (by first | exact K2.out.2.2.1.alloc _ | (have hct : cp = t := (by assumption); rw [hct] at K2; exact K2.out.2.2.1.alloc _)) _ _ _ [(n : Int)] rfl (ints_one _ _ _) (by rw [List.length_take, byW_length]; omega) ?_)
              intro g2 c2 w3 R3 G3 D3
              have K3 : Hid (Row w3 g2 c2 ((byW ws n).take t ++ [(n : Int)]) ∧ g ≤ g2 ∧ Row w3 g1 c1 ((byW ws n).drop t) ∧ Below w.heap.size w w3) := one_done K2.out.1 K2.out.2.2.2 RX.out.2.1 (by have := K2.out.2.1; omega) R3 G3 D3
              have hg2 : g2 < w3.heap.size := K3.out.1.lt
              clear R3 G3 D3
              go_wp2_with (at_builtin; refine wpList_append_ints rfl (.tmp 49) (.tmp 50) 27 rfl i0 Tryz.underlying27 hi hz0 hz1 hz2 _ _ _ ((byW ws n).take t ++ [(n : Int)]) rfl (by rw [List.length_append, List.length_take, byW_length, List.length_singleton]; omega) K3.out.1 _ _ _ ((byW ws n).drop t) rfl (by have := K3.out.2.2.1.ints; rw [List.length_drop, byW_length] at this; exact this) (by rw [List.length_append, List.length_take, byW_length, List.length_singleton]; omega) ?_)
              intro g3 c3 w4 R4 G4 D4
              have K4 : Hid (Row w4 g3 c3 (byW ws (n + 1)) ∧ w.heap.size ≤ g3 ∧ Below w.heap.size w w4) := all_done PT.out K3.out.2.2.2 (by have := K3.out.2.1; have := RX.out.2.1; omega) R4 G4 D4
              clear R4 G4 D4
              go_wp2_with fail
              go_roundw
              case rel => exact ⟨n + 1, g3, c3, by omega, by go_num, by rw [show t + 1 + (n - t) = n + 1 by omega], K4⟩
              case measure => simp [intOf]; omega
    · have hlt' : ¬ (n : Int) < (len : Int) := by omega
      go_wp2_with fail
      go_ret
      have e : n = len := by omega
      subst e
      exact ⟨g, cp, rfl, R.out⟩

theorem specBy_no (a : Option Addr) (len cap : Nat) (ws : List Int) (w : World) (I : Ints w a len ws) (hs : (len : Int) ≤ 1048576) (hc : crewOk ws = false) :
    Calls Tryz.prog 114 #[.slice a len cap] w fun e w' => ∃ g, e = .returned (.slice (some ⟨g, 0, none⟩) 0 0) ∧ Row w' g 0 [] ∧ w.heap.size ≤ g ∧ Below w.heap.size w w' := by
  have HI : Hid (Ints w a len ws) := I
  have HC : Hid (crewOk ws = false) := hc
  have B1 := (Below.refl w.heap.size w).alloc (Nat.le_refl _) (.cells #[] 2)
  have R1 := row_nil w
  clear I hc
  go_enter Tryz.func114, Tryz.ntmps114
  go_wp2_with fail
  refine (specCrewOk a len cap ws _ (HI.out.kept B1) hs).mono ?_
  rw [HC.out]
  rintro e w1 ⟨hw, rfl⟩
  subst hw
  go_wp2_with fail
  go_ret
  exact ⟨_, rfl, R1, Nat.le_refl _, B1⟩

/-- spec.ByWeight at every slice. -/
theorem specBy (a : Option Addr) (len cap : Nat) (ws : List Int) (w : World) (I : Ints w a len ws) (hs : (len : Int) ≤ 1048576) :
    Calls Tryz.prog 114 #[.slice a len cap] w fun e w' => ∃ g cp, e = .returned (.slice (some ⟨g, 0, none⟩) (byWeight ws).length cp) ∧ Row w' g cp (byWeight ws) ∧ w.heap.size ≤ g ∧ Below w.heap.size w w' := by
  have hl := I.1
  cases hc : crewOk ws
  · refine (specBy_no a len cap ws w I hs hc).mono ?_
    rintro e w' ⟨g, rfl, r⟩
    have e : byWeight ws = [] := by simp [byWeight, hc]
    rw [e]
    exact ⟨g, 0, rfl, r⟩
  · refine (specBy_yes a len cap ws w I hc).mono ?_
    rintro e w' ⟨g, cp, rfl, r⟩
    have e : byWeight ws = byW ws len := by simp [byWeight, hc, hl]
    rw [e, byW_length]
    exact ⟨g, cp, rfl, r⟩

theorem byWeight_len (ws : List Int) : (byWeight ws).length ≤ 24 := by
  unfold byWeight
  split
  · rename_i h
    rw [byW_length]
    exact (crew_len h).2
  · simp

end Go.Proofs.YtcmeimfjedakeaaGreat.Crew
