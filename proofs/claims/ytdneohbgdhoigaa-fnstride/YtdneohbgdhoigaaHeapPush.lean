/-
  container/heap's Push over a line.
-/
import Derived.Test.YtdneohbgdhoigaaHeapUp
namespace Go.Proofs.Ytdneohbgdhoigaa.Crew
open Go.ChangeShapes Go.WideShapes Go.ChangeAt Go.RowKit

theorem gd_append {ws : List Int} {x : Int} {k : Nat} (h : k < ws.length) : gd (ws ++ [x]) k = gd ws k := by simp [gd, List.getD, List.getElem?_append_left h]

theorem gd_end {ws : List Int} {x : Int} : gd (ws ++ [x]) ws.length = x := by simp [gd, List.getD]

theorem gd_take {ws : List Int} {k n : Nat} (h : k < n) : gd (ws.take n) k = gd ws k := by simp [gd, List.getD, h]

theorem heaped_same {lt : Int → Int → Bool} {f f' : Nat → Int} {n : Nat} (h : Heaped lt f n) (e : ∀ k, k < n → f' k = f k) : Heaped lt f' n := fun k h0 hk => by
  rw [e k hk, e ((k - 1) / 2) (by omega)]
  exact h k h0 hk

theorem inside_append {n : Nat} {ws : List Int} (h : Inside n ws) {i : Nat} (hi : i < n) : Inside n (ws ++ [(i : Int)]) := by
  intro k hk
  by_cases e : k < ws.length
  · rw [gd_append e]; exact h k e
  · have : k = ws.length := by simp at hk; omega
    rw [this, gd_end]
    exact ⟨i, rfl, hi⟩

theorem inside_perm {n : Nat} {ws us : List Int} (h : Inside n ws) (p : us.Perm ws) : Inside n us := by
  intro k hk
  have hm : gd us k ∈ ws := p.mem_iff.1 (by
    have : gd us k = us[k] := by simp [gd, List.getD, hk]
    rw [this]; exact List.getElem_mem _)
  obtain ⟨i, hi, e⟩ := List.getElem_of_mem hm
  obtain ⟨x, hx, hn⟩ := h i hi
  exact ⟨x, by rw [← e, ← hx]; simp [gd, List.getD, hi], hn⟩

theorem Only.more {b g g1 : Nat} {ha : Option Addr} {w w1 w2 : World} (h : Only b g ha w w1) (D : some g1 = blk ha ∨ w.heap.size ≤ g1) (k : Only b g (some ⟨g1, 0, none⟩) w1 w2) : Only b g ha w w2 :=
  ⟨Nat.le_trans h.size k.size, fun i hi h1 h2 h3 => (k.block i (Nat.lt_of_lt_of_le hi h.size) h1 h2 (fun x hx => by
    cases hx
    show g1 ≠ i
    rcases D with e | e
    · cases ha with
      | none => cases e
      | some y => have := h3 y rfl; have : g1 = y.block := Option.some.inj e; omega
    · omega)).trans (h.block i hi h1 h2 h3)⟩

/-- What a line is behind a Push. -/
structure Pushed (w0 w w' : World) (b : Nat) (ca : Option Addr) (la cca : Nat) (cs : List Int) (g lg cg : Nat) (ns : List Int) (ha : Option Addr) (lh : Nat) (ws : List Int) (x : Int) (g1 c1 : Nat) (us : List Int) : Prop where
  line : Ln w0 w' b ca la cca cs g lg cg ns (some ⟨g1, 0, none⟩) (lh + 1) c1 us
  perm : us.Perm (ws ++ [x])
  heap : Heaped (aheadOf cs ns) (gd us) (lh + 1)
  only : Only b g ha w w'
  lies : some g1 = blk ha ∨ w.heap.size ≤ g1

theorem heapPush (w0 : World) (b : Nat) (ca : Option Addr) (la cca : Nat) (cs : List Int) (g lg cg : Nat) (ns : List Int) (ha : Option Addr) (lh ch : Nat) (m : Nat) (hm : m ≤ 3000) (C : Counted cs ns m) (ws : List Int) (w : World) (L : Ln w0 w b ca la cca cs g lg cg ns ha lh ch ws)
    (h24 : lh < 24) (R : Heaped (aheadOf cs ns) (gd ws) lh) (N : Inside cs.length ws) (i : Nat) (hi : i < cs.length) :
    Calls Try.prog 47 #[.iface 47 (.pointer (some ⟨b, 0, none⟩)), .iface 2 (.int .i64 (i : Int))] w fun e w' => e = .returned (.tuple #[]) ∧ ∃ (g1 c1 : Nat) (us : List Int), Pushed w0 w w' b ca la cca cs g lg cg ns ha lh ws i g1 c1 us := by
  have fP := finds_push (some ⟨b, 0, none⟩)
  have fL := finds_len (some ⟨b, 0, none⟩)
  have H : Hid (Ln w0 w b ca la cca cs g lg cg ns ha lh ch ws ∧ Heaped (aheadOf cs ns) (gd ws) lh ∧ Inside cs.length ws ∧ i < cs.length) := ⟨L, R, N, hi⟩
  clear L R N
  go_enter Try.func47, Try.ntmps47
  go_wp2_with fail
  refine (push_at w0 b ca la cca cs g lg cg ns ha lh ch ws _ H.out.1 (by omega) (i : Int)).mono ?_
  rintro e1 w1 ⟨rfl, g1, c1, L1, O1, D1⟩
  have H1 : Hid (Ln w0 w1 b ca la cca cs g lg cg ns (some ⟨g1, 0, none⟩) (lh + 1) c1 (ws ++ [(i : Int)]) ∧ Only b g ha w w1 ∧ (some g1 = blk ha ∨ w.heap.size ≤ g1)) := ⟨L1, O1, D1⟩
  clear L1 O1 D1
  go_wp2_with fail
  refine (len_at b _ _ _ _ _ _ H1.out.1.line).mono ?_
  rintro e2 w2 ⟨rfl, rfl⟩
  have hz : ((lh + 1 : Nat) : Int) - 1 = (lh : Int) := by omega
  go_wp2_with fail
  have hl := H.out.1.wait.1
  refine (up_at w0 b ca la cca cs g lg cg ns (some ⟨g1, 0, none⟩) (lh + 1) c1 m hm C (ws ++ [(i : Int)]) _ H1.out.1 lh (by omega) (by omega) (heaped_same H.out.2.1 (fun k hk => gd_append (by omega))).rising (inside_append H.out.2.2.1 H.out.2.2.2)).mono ?_
  rintro e3 w3 ⟨rfl, us, L3, P3, R3, O3⟩
  go_wp2_with fail
  go_end0
  exact ⟨rfl, g1, c1, us, L3, P3, R3, H1.out.2.1.more H1.out.2.2 O3, H1.out.2.2⟩

end Go.Proofs.Ytdneohbgdhoigaa.Crew
