/-
  laws.tallied: how often each one of so many is in a list.
-/
import Derived.Test.YtdneohbgdhoigaaSmoothFair
import Derived.Test.YtdneohbgdhoigaaSmoothCopy
namespace Go.Proofs.Ytdneohbgdhoigaa.Crew
open Go.ChangeShapes Go.WideShapes Go.ChangeAt Go.RowKit

theorem tally_take {n : Nat} {l : List Int} {k : Nat} (h : k < l.length) : tally n (l.take (k + 1)) = tally1 n (tally n (l.take k)) (l.getD k 0) := by
  rw [List.take_succ_eq_append_getElem h, tally_snoc]
  simp [List.getD, h]

theorem tally_low (n : Nat) (l : List Int) : ∀ i, 0 ≤ (tally n l).getD i 0 ∧ (tally n l).getD i 0 ≤ (l.length : Int) := by
  suffices ∀ k, k ≤ l.length → ∀ i, 0 ≤ (tally n (l.take k)).getD i 0 ∧ (tally n (l.take k)).getD i 0 ≤ (k : Int) by
    have h := this l.length (Nat.le_refl _)
    rwa [List.take_of_length_le (Nat.le_refl _)] at h
  intro k
  induction k with
  | zero => intro _ i; simp only [List.take_zero, tally, List.foldl_nil]; rw [getD_zeros]; omega
  | succ k ih =>
    intro hk i
    have h := ih (by omega) i
    rw [tally_take (by omega), tally1]
    split
    · rename_i hx
      have h2 := ih (by omega) (l.getD k 0).toNat
      rw [getD_set _ _ _ _ (by rw [tally_length]; omega)]
      split <;> omega
    · omega

/-- laws.tallied at every slice. -/
theorem tallied_any (a : Option Addr) (len cap n : Nat) (xs : List Int) (w : World) (I : Ints w a len xs) (hs : (len : Int) ≤ 1048576) (hn : (n : Int) ≤ 1048576) :
    Calls Try.prog 12 #[.slice a len cap, .int .i64 n] w fun e w' => e = .returned (.slice (some ⟨w.heap.size, 0, none⟩) n n) ∧ Row w' w.heap.size n (tally n xs) ∧ Below w.heap.size w w' := by
  have hm := made_ints n hn w
  have HI : Hid (Ints w a len xs ∧ xs.length = len) := ⟨I, I.1⟩
  have H0 : Hid (Row (w.alloc (.cells (zeros n) 2)) w.heap.size n (List.replicate n 0) ∧ Below w.heap.size w (w.alloc (.cells (zeros n) 2))) := ⟨row_zeros w n hn, below_new _ _⟩
  clear I
  go_enter Try.func12, Try.ntmps12
  go_wp2_with fail
  generalize w.alloc (.cells (zeros n) 2) = W0 at *
  go_loopw [6] (fun i wr => ∃ k : Nat, k ≤ len ∧ i = .int .i64 k ∧ Hid (Row wr w.heap.size n (tally n (xs.take k)) ∧ Below w.heap.size w wr)) (fun i _ => len - (intOf i).toNat)
  case atStart => exact ⟨0, Nat.zero_le _, rfl, H0⟩
  case round =>
    obtain ⟨k, hk, rfl, L⟩ := hrel
    by_cases hlt : k < len
    · obtain ⟨x, hx⟩ : ∃ x, x = xs.getD k 0 := ⟨_, rfl⟩
      obtain ⟨hl, h0 | ⟨b, off, rfl, hb, hc⟩⟩ := HI.out.1.kept L.out.2
      · omega
      have c1 := hc k hlt
      rw [← hx] at c1
      have hlt' : (k : Int) < (len : Int) := by omega
      have hk0 : (0 : Int) ≤ (k : Int) := by omega
      have ET : Hid (tally n (xs.take (k + 1)) = tally1 n (tally n (xs.take k)) x) := by
        show _ = _
        rw [hx]
        exact tally_take (by have := HI.out.2; omega)
      clear hc hx
      by_cases hx0 : 0 ≤ x
      · by_cases hxn : x < (n : Int)
        · obtain ⟨j, rfl⟩ := Int.eq_ofNat_of_zero_le hx0
          have tb := tally_low n (xs.take k) j
          obtain ⟨y, hy⟩ : ∃ y, y = (tally n (xs.take k)).getD j 0 := ⟨_, rfl⟩
          rw [← hy] at tb
          have tl : (xs.take k).length = k := by rw [List.length_take]; have := HI.out.2; omega
          rw [tl] at tb
          have c2 := L.out.1.cell (j := j) (by rw [tally_length]; omega)
          rw [← hy] at c2
          have f2 := L.out.1.frozen j
          have EQ : Hid (tally1 n (tally n (xs.take k)) (j : Int) = (tally n (xs.take k)).set j (y + 1)) := by
            show _ = _
            rw [tally1, if_pos ⟨hx0, hxn⟩, Int.toNat_natCast, hy]
          have nb : ¬ b = w.heap.size := by
            rcases HI.out.1.2 with h | ⟨b2, off2, e2, h2, _⟩
            · omega
            · cases e2; omega
          have nb' : ¬ w.heap.size = b := by omega
          clear hy
          go_wp2_with fail
          go_region
          have L2 : Hid (Row (wr.setCell ⟨w.heap.size, j, none⟩ (.int .i64 (y + 1))).drew w.heap.size n (tally n (xs.take (k + 1))) ∧ Below w.heap.size w (wr.setCell ⟨w.heap.size, j, none⟩ (.int .i64 (y + 1))).drew) := by
            rw [ET.out, EQ.out]
            exact ⟨(L.out.1.set j (y + 1)).drew, (below_set L.out.2 (Nat.le_refl _) _).drew⟩
          go_wp2_with fail
          go_roundw
          case rel => exact ⟨k + 1, by omega, by go_num, L2⟩
          case measure => simp [intOf]; omega
        · have hd : decide (x < (n : Int)) = false := by simpa using hxn
          have EQ : Hid (tally1 n (tally n (xs.take k)) x = tally n (xs.take k)) := by
            show _ = _
            rw [tally1, if_neg (fun h => hxn h.2)]
          go_wp2_with fail
          go_roundw
          case rel => exact ⟨k + 1, by omega, by go_num, by rw [ET.out, EQ.out]; exact L⟩
          case measure => simp [intOf]; omega
      · have hd : decide (0 ≤ x) = false := by simpa using hx0
        have EQ : Hid (tally1 n (tally n (xs.take k)) x = tally n (xs.take k)) := by
          show _ = _
          rw [tally1, if_neg (fun h => hx0 h.1)]
        go_wp2_with fail
        go_roundw
        case rel => exact ⟨k + 1, by omega, by go_num, by rw [ET.out, EQ.out]; exact L⟩
        case measure => simp [intOf]; omega
    · have hlt' : ¬ (k : Int) < (len : Int) := by omega
      have hkl : k = len := by omega
      subst hkl
      go_wp2_with fail
      go_ret
      have h := L.out
      rw [List.take_of_length_le (by have := HI.out.2; omega)] at h
      exact ⟨rfl, h⟩

end Go.Proofs.Ytdneohbgdhoigaa.Crew
