/-
  A new line, and a turn of it.
-/
import Derived.Test.YtdneohbgdhoigaaHeapPop
namespace Go.Proofs.Ytdneohbgdhoigaa.Crew
open Go.ChangeShapes Go.WideShapes Go.ChangeAt Go.RowKit

/-- A line of a whole crew. -/
structure Lined (w0 w : World) (b : Nat) (ca : Option Addr) (la cca : Nat) (cs : List Int) (g lg cg : Nat) (ns : List Int) (g1 c1 : Nat) (ws : List Int) : Prop where
  line : Ln w0 w b ca la cca cs g lg cg ns (some ⟨g1, 0, none⟩) la c1 ws
  perm : ws.Perm (idxL la)
  heap : Heaped (aheadOf cs ns) (gd ws) la

theorem inside_idx {n k : Nat} {ws : List Int} (h : ws.Perm (idxL k)) (hk : k ≤ n) : Inside n ws := by
  refine inside_perm (ws := idxL k) (fun q hq => ?_) h
  rw [idxL_length] at hq
  exact ⟨q, by simp [gd, idxL, List.getD, hq], by omega⟩

/-- A new line in a new block. -/
theorem ln_new {w0 w : World} (B : Below w0.heap.size w0 w) {ca : Option Addr} {la cca : Nat} {cs : List Int} (I : Ints w0 ca la cs) {g lg cg : Nat} {ns : List Int} (R : Row w g cg ns) (hl : ns.length = lg) (hg : w0.heap.size ≤ g) :
    Ln w0 (w.alloc (.cells #[.slice ca la cca, .slice (some ⟨g, 0, none⟩) lg cg, .slice none 0 0] 51)) w.heap.size ca la cca cs g lg cg ns none 0 0 [] :=
  ⟨B.alloc B.size _, I, line_new _ _ _ _, R.alloc _, hl, fit_nil _ _, B.size, hg, Nat.ne_of_gt R.lt, fun x hx => (by cases hx), fun x hx => (by cases hx), fun _ => rfl⟩

theorem lineOf_any (a : Option Addr) (len cap : Nat) (cs : List Int) (a' : Option Addr) (len' cap' : Nat) (ns : List Int) (w : World) (I : Ints w a len cs) (J : Ints w a' len' ns) (K : countsOk cs ns = true) :
    Calls Try.prog 28 #[.slice a len cap, .slice a' len' cap'] w fun e w' => ∃ b g cg g1 c1 ws, e = .returned (.pointer (some ⟨b, 0, none⟩)) ∧ Lined w w' b a len cap cs g len' cg ns g1 c1 ws := by
  have C := counted_start K
  have hlen := I.1
  have h24 := crew_len C.crew
  have hs' : (len' : Int) ≤ 1048576 := by have := J.1; have := C.len; omega
  have l24 : (len : Int) ≤ 24 := by omega
  have HI : Hid (Ints w a len cs ∧ Ints w a' len' ns ∧ cs.length = len ∧ 0 < len) := ⟨I, J, hlen, by omega⟩
  clear I J K hlen h24
  go_enter Try.func28, Try.ntmps28
  go_wp2_with fail
  refine (copied_any a' len' cap' ns _ HI.out.2.1 hs').mono ?_
  rintro e1 w1 ⟨rfl, R1, B1⟩
  have H1 : Hid (Ln w (w1.alloc (.cells #[.slice a len cap, .slice (some ⟨w.heap.size, 0, none⟩) len' len', .slice none 0 0] 51)) w1.heap.size a len cap cs w.heap.size len' len' ns none 0 0 []) := ln_new B1 HI.out.1 R1 HI.out.2.1.1 (Nat.le_refl _)
  clear R1 B1
  go_wp2_with fail
  generalize w1.alloc (.cells #[.slice a len cap, .slice (some ⟨w.heap.size, 0, none⟩) len' len', .slice none 0 0] 51) = w2 at *
  generalize w1.heap.size = b at *
  go_loopw [14] (fun v wr => ∃ (k : Nat) (ha : Option Addr) (ch : Nat) (ws : List Int), v = .int .i64 k ∧ k ≤ len ∧ Hid (Ln w wr b a len cap cs w.heap.size len' len' ns ha k ch ws ∧ ws.Perm (idxL k) ∧ Heaped (aheadOf cs ns) (gd ws) k)) (fun v _ => len - (intOf v).toNat)
  case atStart => exact ⟨0, none, 0, [], rfl, Nat.zero_le _, H1.out, List.Perm.refl _, fun k h0 hk => by omega⟩
  case round =>
    obtain ⟨k, ha, ch, ws, rfl, hk, H⟩ := hrel
    by_cases hlt : k < len
    · have hlt' : (k : Int) < (len : Int) := by omega
      go_wp2_with fail
      refine (heapPush w b a len cap cs w.heap.size len' len' ns ha k ch 0 (by omega) C ws _ H.out.1 (by omega) H.out.2.2 (inside_idx H.out.2.1 (by have := HI.out.2.2.1; omega)) k (by have := HI.out.2.2.1; omega)).mono ?_
      rintro e3 w3 ⟨rfl, g1, c1, us, P⟩
      go_wp2_with fail
      go_roundw
      case rel => exact ⟨k + 1, _, c1, us, by go_num, by omega, P.line, by rw [idxL_succ]; exact P.perm.trans (H.out.2.1.append_right _), P.heap⟩
      case measure => simp [intOf]; omega
    · have hlt' : ¬ (k : Int) < (len : Int) := by omega
      go_wp2_with fail
      go_ret
      have e : k = len := by omega
      subst e
      obtain ⟨r, rfl, _⟩ := H.out.1.row HI.out.2.2.2
      exact ⟨_, rfl, _, _, r, ch, ws, H.out.1, H.out.2.1, H.out.2.2⟩

end Go.Proofs.Ytdneohbgdhoigaa.Crew
