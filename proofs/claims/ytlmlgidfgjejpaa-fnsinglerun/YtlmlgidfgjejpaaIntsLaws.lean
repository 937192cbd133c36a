/-
  What the exact laws do with slices of int64: copy one, hold two against each other, mark one and look whether the marks are held.
-/
import Derived.Test.YtlmlgidfgjejpaaIntsBase
namespace Go.Proofs.Ytlmlgidfgjejpaa.Crew
open Go.ChangeShapes Go.WideShapes Go.ChangeAt Go.RowKit

theorem take_step {xs : List Int} {k : Nat} (h : k < xs.length) : (xs.take k ++ List.replicate (xs.length - k) 0).set k (xs.getD k 0) = xs.take (k + 1) ++ List.replicate (xs.length - (k + 1)) 0 := by
  rw [show xs.length - k = (xs.length - (k + 1)) + 1 by omega, List.replicate_succ, List.set_append_right _ _ (by simp; omega), List.length_take, show k - min k xs.length = 0 by omega, List.set_cons_zero, List.take_succ_eq_append_getElem h]
  rw [show xs.getD k 0 = xs[k] by simp [List.getD, h], List.append_assoc]
  rfl

/-- laws.toInt64S: a copy, in a block of its own. -/
theorem toInts_any (a : Option Addr) (len cap : Nat) (xs : List Int) (w : World) (I : Ints w a len xs) (hs : (len : Int) ≤ 1048576) :
    Calls Try.prog 19 #[.slice a len cap] w fun e w' => e = .returned (.slice (some ⟨w.heap.size, 0, none⟩) len len) ∧ Row w' w.heap.size len xs ∧ Below w.heap.size w w' := by
  obtain ⟨i0, hi, hz0, hz1, hz2⟩ := info_parts info_int
  have HI : Hid (Ints w a len xs) := I
  clear I
  go_enter Try.func19, Try.ntmps19
  go_wp2_with (at_make; refine wpList_make_full _ rfl (.tmp 6) (.tmp 6) 27 rfl w.heap.size 2 i0 (.int .i64 0) 1 Try.underlying27 hi hz0 hz1 _ _ _ _ len rfl rfl rfl rfl (by rw [hz2]; omega) (by unfold maxLen; omega) (Nat.le_refl _) ?_)
  intro w1 hown hgrow
  rw [made_zero] at hown
  have R0 : Hid (Row w1 w.heap.size len (List.replicate len 0)) := (row_of_owns hown).1
  have B0 : Hid (Below w.heap.size w w1) := (Below.refl _ w).grown hgrow (Nat.le_refl _) (fun k h => by cases h)
  clear hown hgrow hi hz0 hz1 hz2
  go_wp2_with fail
  go_loopw [4] (fun i wr => ∃ k : Nat, k ≤ len ∧ i = .int .i64 k ∧ Hid (Row wr w.heap.size len (xs.take k ++ List.replicate (len - k) 0)) ∧ Hid (Below w.heap.size w wr)) (fun i _ => len - (intOf i).toNat)
  case atStart => exact ⟨0, Nat.zero_le _, rfl, by simpa using R0, B0⟩
  case round =>
    obtain ⟨k, hk, rfl, R, B⟩ := hrel
    by_cases hlt : k < len
    · obtain ⟨hl, h0 | ⟨b, off, rfl, hb, hc⟩⟩ := HI.out.kept B.out
      · omega
      · obtain ⟨z, hz⟩ : ∃ z, z = xs.getD k 0 := ⟨_, rfl⟩
        have c0 := hc k hlt
        rw [← hz] at c0
        have Z : Hid (z = xs.getD k 0) := hz
        clear hz
        have f0 := R.out.frozen k
        obtain ⟨y, c1⟩ : ∃ y, wr.cell? ⟨w.heap.size, k, none⟩ = some (.int .i64 y) := ⟨_, R.out.cell (j := k) (by simp; omega)⟩
        have hlt' : (k : Int) < (len : Int) := by omega
        clear hc
        go_wp2_with fail
        go_roundw
        case rel =>
          refine ⟨k + 1, by omega, by go_num, ?_, ?_⟩
          · have := R.out.set k z
            rw [Z.out, ← hl, take_step (by omega), hl, ← Z.out] at this
            exact this
          · exact B.out.setCell (Nat.le_refl _) _
        case measure => simp [intOf]; omega
    · have hlt' : ¬ (k : Int) < (len : Int) := by omega
      go_wp2_with fail
      go_ret
      have e : k = len := by omega
      subst e
      have := R.out
      simp [List.take_of_length_le (show xs.length ≤ k by have := HI.out.1; omega)] at this
      exact ⟨rfl, this, B.out⟩

theorem take_same {xs ys : List Int} {k : Nat} (h : xs.take k = ys.take k) (hx : k < xs.length) (hy : k < ys.length) (he : xs.getD k 0 = ys.getD k 0) : xs.take (k + 1) = ys.take (k + 1) := by
  rw [List.take_succ_eq_append_getElem hx, List.take_succ_eq_append_getElem hy, h]
  simp [List.getD, hx, hy] at he
  rw [he]

theorem not_same {xs ys : List Int} {k : Nat} (he : ¬ xs.getD k 0 = ys.getD k 0) : decide (xs = ys) = false := by
  apply decide_eq_false
  intro h
  rw [h] at he
  exact he rfl

theorem lens_differ {xs ys : List Int} (he : ¬ xs.length = ys.length) : decide (xs = ys) = false := by
  apply decide_eq_false
  intro h
  rw [h] at he
  exact he rfl

/-- laws.eqInt64S: are the two alike. -/
theorem eqInts_any (a : Option Addr) (la ca : Nat) (xs : List Int) (b : Option Addr) (lb cb : Nat) (ys : List Int) (w : World) (I : Ints w a la xs) (J : Ints w b lb ys) (hs : (la : Int) ≤ 1048576) :
    Calls Try.prog 20 #[.slice a la ca, .slice b lb cb] w fun e w' => e = .returned (.bool (decide (xs = ys))) ∧ Below w.heap.size w w' := by
  have HI : Hid (Ints w a la xs) := I
  have HJ : Hid (Ints w b lb ys) := J
  clear I J
  by_cases hll : la = lb
  · subst hll
    have hne : ((la : Int) != (la : Int)) = false := by simp
    go_enter Try.func20, Try.ntmps20
    go_wp2_with fail
    go_loopw [5] (fun i wr => ∃ k : Nat, k ≤ la ∧ i = .int .i64 k ∧ Hid (xs.take k = ys.take k) ∧ Hid (Below w.heap.size w wr)) (fun i _ => la - (intOf i).toNat)
    case atStart => exact ⟨0, Nat.zero_le _, rfl, by show _ = _; simp, Below.refl _ _⟩
    case round =>
      obtain ⟨k, hk, rfl, E, B⟩ := hrel
      by_cases hlt : k < la
      · obtain ⟨hl1, h0 | ⟨b1, off1, rfl, hb1, hc1⟩⟩ := HI.out.kept B.out
        · omega
        obtain ⟨hl2, h0 | ⟨b2, off2, rfl, hb2, hc2⟩⟩ := HJ.out.kept B.out
        · omega
        obtain ⟨x, hx⟩ : ∃ x, x = xs.getD k 0 := ⟨_, rfl⟩
        obtain ⟨y, hy⟩ : ∃ y, y = ys.getD k 0 := ⟨_, rfl⟩
        have c1 := hc1 k hlt
        have c2 := hc2 k hlt
        rw [← hx] at c1
        rw [← hy] at c2
        have X : Hid (x = xs.getD k 0) := hx
        have Y : Hid (y = ys.getD k 0) := hy
        have hlt' : (k : Int) < (la : Int) := by omega
        clear hc1 hc2 hx hy
        by_cases hxy : x = y
        · have XY : Hid (x = y) := hxy
          have hn : (x != y) = false := by simp [hxy]
          clear hxy
          go_wp2_with fail
          go_quiet (fail)
          go_wp2_with fail
          go_roundw
          case rel => exact ⟨k + 1, by omega, by go_num, take_same E.out (by omega) (by omega) (by rw [← X.out, ← Y.out]; exact XY.out), below_drewN B.out _⟩
          case measure => simp [intOf]; omega
        · have hn : (x != y) = true := by simp [hxy]
          have XY : Hid (decide (xs = ys) = false) := not_same (k := k) (by rw [← X.out, ← Y.out]; exact hxy)
          clear hxy
          go_wp2_with fail
          go_quiet (fail)
          go_wp2_with fail
          go_ret
          exact ⟨by rw [XY.out]; rfl, below_drewN B.out _⟩
      · have hlt' : ¬ (k : Int) < (la : Int) := by omega
        go_wp2_with fail
        go_ret
        have e := E.out
        rw [List.take_of_length_le (by have := HI.out.1; omega), List.take_of_length_le (by have := HJ.out.1; omega)] at e
        exact ⟨by rw [decide_eq_true e]; rfl, B.out⟩
  · have hne : ((la : Int) != (lb : Int)) = true := by simp; omega
    have XY : Hid (decide (xs = ys) = false) := lens_differ (by have := HI.out.1; have := HJ.out.1; omega)
    go_enter Try.func20, Try.ntmps20
    go_wp2_with fail
    go_ret
    exact ⟨by rw [XY.out]; rfl, Below.refl _ _⟩

/-- laws.eqInt64S where both read alike. -/
theorem eqInts_same (a : Option Addr) (la ca : Nat) (xs : List Int) (b : Option Addr) (lb cb : Nat) (w : World) (I : Ints w a la xs) (J : Ints w b lb xs) (hs : (la : Int) ≤ 1048576) :
    Calls Try.prog 20 #[.slice a la ca, .slice b lb cb] w fun e w' => e = .returned (.bool true) ∧ Below w.heap.size w w' := by
  refine (eqInts_any a la ca xs b lb cb xs w I J hs).mono ?_
  rintro e w' ⟨rfl, B⟩
  exact ⟨by simp, B⟩

/-- The numbers from k on, n of them. -/
def marks (k : Int) (n : Nat) : List Int := (List.range n).map (fun i : Nat => k + (i : Int))
theorem marks_length (k : Int) (n : Nat) : (marks k n).length = n := by simp [marks]
theorem marks_get (k : Int) (n i : Nat) (h : i < n) : (marks k n).getD i 0 = k + i := by simp [marks, List.getD, h]
theorem marks_step (k : Int) (n : Nat) (xs : List Int) (h : n < xs.length) : (marks k n ++ xs.drop n).set n (k + n) = marks k (n + 1) ++ xs.drop (n + 1) := by
  have e : marks k (n + 1) = marks k n ++ [k + n] := by simp [marks, List.range_succ]
  rw [List.set_append_right _ _ (by rw [marks_length]; omega), marks_length, Nat.sub_self, List.drop_eq_getElem_cons h, List.set_cons_zero, e, List.append_assoc]
  rfl

/-- laws.markInt64S: it writes the numbers from k on into the row. -/
theorem markInts_any (g cap : Nat) (xs : List Int) (k : Int) (w : World) (R : Row w g cap xs) (hs : (xs.length : Int) ≤ 1048576) (hk0 : 0 ≤ k) (hk1 : k ≤ 1000000000000) :
    Calls Try.prog 21 #[.slice (some ⟨g, 0, none⟩) xs.length cap, .int .i64 k] w fun e w' => e = .returned (.int .i64 (k + xs.length)) ∧ Row w' g cap (marks k xs.length) ∧ w.grownBy w' (some g) := by
  have HR : Hid (Row w g cap xs) := R
  clear R
  obtain ⟨len, hlen⟩ : ∃ len, len = xs.length := ⟨_, rfl⟩
  rw [← hlen] at hs ⊢
  have HL : Hid (len = xs.length) := hlen
  clear hlen
  go_enter Try.func21, Try.ntmps21
  go_wp2_with fail
  go_loopw [1, 5] (fun q i wr => ∃ n : Nat, n ≤ len ∧ i = .int .i64 n ∧ q = .int .i64 (k + n) ∧ Hid (Row wr g cap (marks k n ++ xs.drop n)) ∧ Hid (w.grownBy wr (some g))) (fun _ i _ => len - (intOf i).toNat)
  case atStart => exact ⟨0, Nat.zero_le _, rfl, by simp, by simpa [marks] using HR, World.grownBy.refl _ _⟩
  case round =>
    obtain ⟨n, hn, rfl, rfl, R, G⟩ := hrel
    by_cases hlt : n < len
    · have hlt' : (n : Int) < (len : Int) := by omega
      have f0 := R.out.frozen n
      obtain ⟨y, c1⟩ : ∃ y, wr.cell? ⟨g, n, none⟩ = some (.int .i64 y) := ⟨_, R.out.cell (j := n) (by have := HL.out; simp [marks_length]; omega)⟩
      go_wp2_with fail
      go_roundw
      case rel =>
        refine ⟨n + 1, by omega, by go_num, by go_num, ?_, ?_⟩
        · have := R.out.set n (k + n)
          rw [marks_step k n xs (by have := HL.out; omega)] at this
          exact this
        · exact G.out.trans (grown_at _ _ _ _)
      case measure => simp [intOf]; omega
    · have hlt' : ¬ (n : Int) < (len : Int) := by omega
      go_wp2_with fail
      go_ret
      have e : n = len := by omega
      subst e
      have := R.out
      rw [List.drop_eq_nil_of_le (by have := HL.out; omega), List.append_nil] at this
      exact ⟨rfl, this, G.out⟩

/-- laws.heldInt64S where the marks are held. -/
theorem heldInts_any (a : Option Addr) (len cap : Nat) (k : Int) (w : World) (I : Ints w a len (marks k len)) (hs : (len : Int) ≤ 1048576) (hk0 : 0 ≤ k) (hk1 : k ≤ 1000000000000) :
    Calls Try.prog 22 #[.slice a len cap, .int .i64 k] w fun e w' => e = .returned (.int .i64 (k + len)) ∧ Below w.heap.size w w' := by
  have HI : Hid (Ints w a len (marks k len)) := I
  clear I
  go_enter Try.func22, Try.ntmps22
  go_wp2_with fail
  go_loop [1, 5] (fun q i => ∃ n : Nat, n ≤ len ∧ i = .int .i64 n ∧ q = .int .i64 (k + n)) (fun _ i => len - (intOf i).toNat)
  case atStart => exact ⟨0, Nat.zero_le _, rfl, by simp⟩
  case round =>
    obtain ⟨n, hn, rfl, rfl⟩ := hrel
    by_cases hlt : n < len
    · obtain ⟨hl1, h0 | ⟨b1, off1, rfl, hb1, hc1⟩⟩ := HI.out
      · omega
      have hlt' : (n : Int) < (len : Int) := by omega
      have c1 := hc1 n hlt
      rw [marks_get k len n hlt] at c1
      have hne : (k + (n : Int) != k + (n : Int)) = false := by simp
      clear hc1
      go_wp2_with fail
      go_round
      case rel => exact ⟨n + 1, by omega, by go_num, by go_num⟩
      case measure => simp [intOf]; omega
    · have hlt' : ¬ (n : Int) < (len : Int) := by omega
      go_wp2_with fail
      go_ret
      have e : n = len := by omega
      subst e
      exact ⟨rfl, Below.refl _ _⟩

end Go.Proofs.Ytlmlgidfgjejpaa.Crew
