/-
  impl.ByWeight: the numbers of a crew, sorted by a generic function.
-/
import Derived.Test.YtidmpcnjhpnlcaaCrewBase
import Derived.Test.YtidmpcnjhpnlcaaSortMath
namespace Go.Proofs.Ytidmpcnjhpnlcaa.Crew
open Go.ChangeShapes Go.WideShapes Go.ChangeAt Go.RowKit

theorem shift_row {out zs : List Int} {at' : Nat} {j : Int} (h0 : 0 < at') (h1 : at' ≤ out.length) :
    (out.take at' ++ j :: (out.drop at' ++ zs)).set at' (out.getD (at' - 1) 0) = out.take (at' - 1) ++ out.getD (at' - 1) 0 :: (out.drop (at' - 1) ++ zs) := by
  rw [List.set_append_right _ _ (by simp; omega), List.length_take, show at' - min at' out.length = 0 by omega, List.set_cons_zero]
  obtain ⟨m, rfl⟩ : ∃ m, at' = m + 1 := ⟨at' - 1, by omega⟩
  have hm : m < out.length := by omega
  rw [Nat.add_sub_cancel, show out.getD m 0 = out[m] by simp [List.getD, hm], List.take_succ_eq_append_getElem hm, List.drop_eq_getElem_cons hm, List.append_assoc]
  rfl

theorem place_row {out zs : List Int} {at' : Nat} {j x : Int} (h1 : at' ≤ out.length) :
    (out.take at' ++ j :: (out.drop at' ++ zs)).set at' x = out.take at' ++ x :: (out.drop at' ++ zs) := by
  rw [List.set_append_right _ _ (by simp; omega), List.length_take, show at' - min at' out.length = 0 by omega, List.set_cons_zero]

theorem read_row {out zs : List Int} {at' : Nat} {j : Int} (h0 : 0 < at') (h1 : at' ≤ out.length) : (out.take at' ++ j :: (out.drop at' ++ zs)).getD (at' - 1) 0 = out.getD (at' - 1) 0 := by
  simp only [List.getD, List.getElem?_append]
  rw [if_pos (by simp; omega), List.getElem?_take, if_pos (by omega)]

theorem len_row {out zs : List Int} {at' : Nat} {j : Int} (h1 : at' ≤ out.length) : (out.take at' ++ j :: (out.drop at' ++ zs)).length = out.length + 1 + zs.length := by
  simp; omega

theorem posOf_down {f : Int → Bool} {out : List Int} {k : Nat} (h0 : 0 < k) (hf : f (out.getD (k - 1) 0) = true) : posOf f out k = posOf f out (k - 1) := by
  obtain ⟨m, rfl⟩ : ∃ m, k = m + 1 := ⟨k - 1, by omega⟩
  simp only [Nat.add_sub_cancel] at hf ⊢
  rw [posOf, if_pos hf]

theorem posOf_stop {f : Int → Bool} {out : List Int} {k : Nat} (hf : k = 0 ∨ f (out.getD (k - 1) 0) = false) : posOf f out k = k := by
  cases k with
  | zero => rfl
  | succ m =>
    rcases hf with h | h
    · omega
    · simp only [Nat.add_sub_cancel] at h
      rw [posOf, h]; rfl

theorem row_start {out : List Int} {n k : Nat} (hk : k < n) (hl : out.length = k) : out ++ List.replicate (n - k) 0 = out.take k ++ 0 :: (out.drop k ++ List.replicate (n - (k + 1)) 0) := by
  rw [show n - k = (n - (k + 1)) + 1 by omega, List.replicate_succ, List.take_of_length_le (by omega), List.drop_eq_nil_of_le (by omega)]
  rfl

/-- The end of a round: the new one has been put in. -/
theorem row_put {out L : List Int} {ah : Int → Int → Bool} {len k t : Nat} {j x : Int} (hL : L.length = len) (hk : k < len) (ho : out = sortedBy ah (L.take k)) (hl : out.length = k) (hx : x = L.getD k 0) (ht : t ≤ k) (hp : posOf (ah x) out k = t) :
    (out.take t ++ j :: (out.drop t ++ List.replicate (len - (k + 1)) 0)).set t x = sortedBy ah (L.take (k + 1)) ++ List.replicate (len - (k + 1)) 0 := by
  rw [place_row (by omega), List.take_succ_eq_append_getElem (by omega), sortedBy_step, ← ho, insertBy, show L[k]'(by omega) = x by rw [hx]; simp [List.getD, show k < L.length by omega], hl, hp, List.append_assoc]
  rfl

/-- impl.sortedBy[int64] with the closure of impl.ByWeight: what it answers lies in a block of its own. -/
theorem sortedBy_any (a : Option Addr) (len cap bx : Nat) (L : List Int) (ah : Int → Int → Bool) (w : World) (I : Ints w a len L) (hs : (len : Int) ≤ 1048576)
    (H : ∀ (wr : World) (x y : Int), Below w.heap.size w wr → x ∈ L → y ∈ L → Calls Try.prog 56 #[.int .i64 x, .int .i64 y, .pointer (some ⟨bx, 0, none⟩)] wr fun e w' => e = .returned (.bool (ah x y)) ∧ Below wr.heap.size wr w') :
    Calls Try.prog 55 #[.slice a len cap, .func (.func 56) #[] #[.pointer (some ⟨bx, 0, none⟩)]] w fun e w' => e = .returned (.slice (some ⟨w.heap.size, 0, none⟩) len len) ∧ Row w' w.heap.size len (sortedBy ah L) ∧ Below w.heap.size w w' := by
  obtain ⟨i0, hi, hz0, hz1, hz2⟩ := info_parts info_int
  have HI : Hid (Ints w a len L) := I
  have HL : Hid (L.length = len) := I.1
  have HH : Hid (∀ (wr : World) (x y : Int), Below w.heap.size w wr → x ∈ L → y ∈ L → Calls Try.prog 56 #[.int .i64 x, .int .i64 y, .pointer (some ⟨bx, 0, none⟩)] wr fun e w' => e = .returned (.bool (ah x y)) ∧ Below wr.heap.size wr w') := H
  clear I H
  go_enter Try.func55, Try.ntmps55
  go_wp2_with (at_make; refine wpList_make_full _ rfl (.tmp 10) (.tmp 10) 24 rfl w.heap.size 2 i0 (.int .i64 0) 1 Try.underlying24 hi hz0 hz1 _ _ _ _ len rfl rfl rfl rfl (by rw [hz2]; omega) (by unfold maxLen; omega) (Nat.le_refl _) ?_)
  intro w1 hown hgrow
  rw [made_zero] at hown
  have R0 : Hid (Row w1 w.heap.size len (List.replicate len 0)) := (row_of_owns hown).1
  have B0 : Hid (Below w.heap.size w w1) := (Below.refl _ w).grown hgrow (Nat.le_refl _) (fun k h => by cases h)
  clear hown hgrow hi hz0 hz1 hz2
  go_wp2_with fail
  go_loopw [6, 7, 8, 14] (fun _ _ _ i wr => ∃ k : Nat, k ≤ len ∧ i = .int .i64 k ∧ Hid (Row wr w.heap.size len (sortedBy ah (L.take k) ++ List.replicate (len - k) 0)) ∧ Hid (Below w.heap.size w wr)) (fun _ _ _ i _ => len - (intOf i).toNat)
  case atStart => exact ⟨0, Nat.zero_le _, rfl, by simpa [sortedBy] using R0, B0⟩
  case round =>
    obtain ⟨k, hk, rfl, R, B⟩ := hrel
    by_cases hlt : k < len
    · obtain ⟨hl, h0 | ⟨b, off, rfl, hb, hc⟩⟩ := HI.out.kept B.out
      · omega
      obtain ⟨x, hx⟩ : ∃ x, x = L.getD k 0 := ⟨_, rfl⟩
      have c0 := hc k hlt
      rw [← hx] at c0
      have hlt' : (k : Int) < (len : Int) := by omega
      have X : Hid (x = L.getD k 0 ∧ x ∈ L) := ⟨hx, by rw [hx, show L.getD k 0 = L[k]'(by omega) by simp [List.getD, show k < L.length by omega]]; exact List.getElem_mem _⟩
      obtain ⟨out, hout⟩ : ∃ out, out = sortedBy ah (L.take k) := ⟨_, rfl⟩
      have ho : out.length = k := by rw [hout]; exact sortedBy_length _ k _ (by simp; omega)
      have hm : ∀ y ∈ out, y ∈ L := fun y hy => by rw [hout] at hy; exact List.mem_of_mem_take (mem_sortedBy k _ (by simp; omega) hy)
      have OUT : Hid (out = sortedBy ah (L.take k) ∧ out.length = k ∧ ∀ y ∈ out, y ∈ L) := ⟨hout, ho, hm⟩
      have R' : Hid (Row wr w.heap.size len (out.take k ++ 0 :: (out.drop k ++ List.replicate (len - (k + 1)) 0))) := by
        have := R.out
        rw [← hout, row_start hlt ho] at this
        exact this
      clear hc hx R hout ho hm hl
      go_wp2_with fail
      go_loopw [8] (fun i wq => ∃ t : Nat, t ≤ k ∧ i = .int .i64 t ∧ Hid (∃ j, Row wq w.heap.size len (out.take t ++ j :: (out.drop t ++ List.replicate (len - (k + 1)) 0))) ∧ Hid (Below w.heap.size w wq) ∧ Hid (posOf (ah x) out k = posOf (ah x) out t)) (fun i _ => (intOf i).toNat)
      case atStart => exact ⟨k, Nat.le_refl _, rfl, ⟨0, R'⟩, B, rfl⟩
      case round =>
        obtain ⟨t, ht, rfl, RJ, BQ, PQ⟩ := hrel
        by_cases ht0 : t = 0
        · subst ht0
          have hd : decide ((0 : Int) < ((0 : Nat) : Int)) = false := by simp
          obtain ⟨j, RJ'⟩ := RJ.out
          have f0 := RJ'.frozen 0
          obtain ⟨y, c1⟩ : ∃ y, wr.cell? ⟨w.heap.size, 0, none⟩ = some (.int .i64 y) := ⟨_, RJ'.cell (j := 0) (by rw [len_row (by omega)]; omega)⟩
          have RK : Hid (Row wr w.heap.size len (out.take 0 ++ j :: (out.drop 0 ++ List.replicate (len - (k + 1)) 0))) := RJ'
          clear RJ RJ'
          go_wp2_with fail
          go_roundw
          case rel =>
            refine ⟨k + 1, by omega, by go_num, ?_, BQ.out.setCell (Nat.le_refl _) _⟩
            have := RK.out.set 0 x
            rw [row_put HL.out hlt OUT.out.1 OUT.out.2.1 X.out.1 (Nat.zero_le _) (by rw [PQ.out]; rfl)] at this
            exact this
          case measure => simp [intOf]; omega
        · obtain ⟨j, RJ'⟩ := RJ.out
          have ht1 : 0 < t := by omega
          have hl2 := len_row (out := out) (zs := List.replicate (len - (k + 1)) 0) (at' := t) (j := j) (by have := OUT.out.2.1; omega)
          have hr2 := read_row (out := out) (zs := List.replicate (len - (k + 1)) 0) (at' := t) (j := j) ht1 (by have := OUT.out.2.1; omega)
          have f0 := RJ'.frozen t
          obtain ⟨y, c1⟩ : ∃ y, wr.cell? ⟨w.heap.size, t, none⟩ = some (.int .i64 y) := ⟨_, RJ'.cell (j := t) (by rw [hl2]; have := OUT.out.2.1; omega)⟩
          obtain ⟨z, hz⟩ : ∃ z, z = out.getD (t - 1) 0 := ⟨_, rfl⟩
          have c2 := RJ'.cell (j := t - 1) (by rw [hl2]; have := OUT.out.2.1; omega)
          rw [hr2, ← hz] at c2
          have Z : Hid (z = out.getD (t - 1) 0 ∧ z ∈ L) := ⟨hz, OUT.out.2.2 z (by rw [hz, show out.getD (t - 1) 0 = out[t - 1]'(by have := OUT.out.2.1; omega) by simp [List.getD, show t - 1 < out.length by have := OUT.out.2.1; omega]]; exact List.getElem_mem _)⟩
          have RK : Hid (Row wr w.heap.size len (out.take t ++ j :: (out.drop t ++ List.replicate (len - (k + 1)) 0))) := RJ'
          have HB := HH.out wr x z BQ.out X.out.2 Z.out.2
          have hti : (0 : Int) < (t : Int) := by omega
          clear RJ RJ' hl2 hr2 hz
          go_wp2_with fail
          refine HB.mono ?_
          rintro e wz ⟨rfl, BZ⟩
          have hsz : w.heap.size < wr.heap.size := RK.out.lt
          have RZ : Hid (Row wz w.heap.size len (out.take t ++ j :: (out.drop t ++ List.replicate (len - (k + 1)) 0))) := RK.out.all BZ
          have BW : Hid (Below w.heap.size w wz) := BQ.out.trans (BZ.mono (by omega))
          have c3 := c1
          rw [← BZ.cell (p := ⟨w.heap.size, t, none⟩) hsz] at c3
          have c4 := c2
          rw [← BZ.cell (p := ⟨w.heap.size, t - 1, none⟩) hsz] at c4
          have f4 := f0
          rw [← BZ.frozen (p := ⟨w.heap.size, t, none⟩) hsz] at f4
          clear c1 c2 f0 BZ RK BQ HB
          cases hb : ah x z
          · have hb' : Hid (ah x z = false) := hb
            clear hb
            go_wp2_with fail
            go_roundw
            case rel =>
              refine ⟨k + 1, by omega, by go_num, ?_, BW.out.setCell (Nat.le_refl _) _⟩
              have := RZ.out.set t x
              rw [row_put HL.out hlt OUT.out.1 OUT.out.2.1 X.out.1 ht (by rw [PQ.out]; exact posOf_stop (.inr (by rw [← Z.out.1]; exact hb'.out)))] at this
              exact this
            case measure => simp [intOf]; omega
          · have hb' : Hid (ah x z = true) := hb
            clear hb
            go_wp2_with fail
            go_roundw
            case rel =>
              refine ⟨t - 1, by omega, by go_num, ⟨z, ?_⟩, BW.out.setCell (Nat.le_refl _) _, by show _ = _; rw [PQ.out]; exact posOf_down ht1 (by rw [← Z.out.1]; exact hb'.out)⟩
              have := RZ.out.set t z
              rw [Z.out.1, shift_row ht1 (by have := OUT.out.2.1; omega), ← Z.out.1] at this
              exact this
            case measure => simp [intOf]; omega
    · have hlt' : ¬ (k : Int) < (len : Int) := by omega
      go_wp2_with fail
      go_ret
      have e : k = len := by omega
      subst e
      have := R.out
      rw [List.take_of_length_le (by have := HL.out; omega), Nat.sub_self, List.replicate_zero, List.append_nil] at this
      exact ⟨rfl, this, B.out⟩

end Go.Proofs.Ytidmpcnjhpnlcaa.Crew
