/-
  impl.paid: the iterator over what each one has once its weight came.
-/
import Derived.Test.YtkfepehldjkedaaSmoothMath
import Derived.Test.YtkfepehldjkedaaSmoothPair
import Derived.RangeFuncNested
import Derived.RangeFuncBound
import Derived.RangeFuncCalls
import Derived.RangeFuncLeaves
import Derived.Shelf.Abstract
import Derived.Shelf.RegionOpen
import Derived.OwnWalkIn
import Derived.TacticsInMore
import Derived.LoopNIn
import Derived.LoopIn
namespace Go.Proofs.Ytkfepehldjkedaa.Crew
open Go.ChangeShapes Go.WideShapes Go.ChangeAt Go.RowKit Go.Shelf

attribute [local go_sem] Oper.semAt_some

/-- The first k of those that come. -/
def firsts (n k : Nat) : List (Fin n) := (List.finRange n).take k

theorem firsts_length {n k : Nat} (h : k ≤ n) : (firsts n k).length = k := by simp [firsts, h]

theorem firsts_succ {n k : Nat} (h : k < n) : firsts n (k + 1) = firsts n k ++ [⟨k, h⟩] := by
  rw [firsts, firsts, List.take_succ_eq_append_getElem (by simpa using h)]
  simp

theorem firsts_zero (n : Nat) : firsts n 0 = [] := rfl

/-- What a round must leave as it was. -/
def Keep (B b b' : Nat) (W W' : World) : Prop := ∀ i, (i = B ∨ i = b ∨ i = b') → W'.heap[i]? = W.heap[i]?

theorem Keep.refl (B b b' : Nat) (W : World) : Keep B b b' W W := fun _ _ => rfl

theorem Keep.trans {B b b' : Nat} {W W' W'' : World} (h : Keep B b b' W W') (k : Keep B b b' W' W'') : Keep B b b' W W'' := fun i hi => (k i hi).trans (h i hi)

theorem Keep.put {B b b' s : Nat} (h1 : B < s) (h2 : b < s) (h3 : b' < s) (W : World) (l : Nat) (o' : Obj) (hl : s ≤ l) : Keep B b b' W (W.putObj l o') := fun i hi => World.putObj_heap_other (by rcases hi with rfl | rfl | rfl <;> omega)

theorem Keep.set {B b b' g : Nat} (h1 : g ≠ B) (h2 : g ≠ b) (h3 : g ≠ b') (W : World) (j : Nat) (v : Value) : Keep B b b' W (W.setCell ⟨g, j, none⟩ v) := fun i hi => heap_setCell_other W ⟨g, j, none⟩ i v (fun e => by simp at e; rcases hi with rfl | rfl | rfl <;> omega)

theorem Keep.cell {B b b' : Nat} {W W' : World} (h : Keep B b b' W W') {i j : Nat} (hi : i = B ∨ i = b ∨ i = b') : W'.cell? ⟨i, j, none⟩ = W.cell? ⟨i, j, none⟩ := World.cell?_of_block (h i hi)

set_option maxRecDepth 100000 in
set_option maxHeartbeats 2000000 in
/-- The closure: for every loop body that keeps the box and the two slices. -/
theorem paid1_in (F : Fence) (n : Nat) (hf : F.fn 64) (hro : F.round = none) (hn : 1 ≤ n) (l B b off b' off' len cap cap' : Nat) (cs rs : List Int) (v : Nat → Int) (hv : ∀ k, k < len → rs.getD k 0 + cs.getD k 0 = v k)
    (hc : ∀ k, 0 ≤ cs.getD k 0 ∧ cs.getD k 0 ≤ 1000000) (hr : ∀ k, -100000000 ≤ rs.getD k 0 ∧ rs.getD k 0 ≤ 100000000) (h24 : (len : Int) ≤ 24) (J Jx : List (Fin len) → World → Prop)
    (hY : ∀ pre x W, J pre W → pre.length < len → YieldAt F (n - 1) Try.prog l #[.int .i64 ((x.1 : Nat) : Int), .int .i64 (v x.1)] W fun e W' =>
      (e = .returned (.bool true) ∧ J (pre ++ [x]) W' ∧ Keep B b b' W W') ∨ (e = .returned (.bool false) ∧ Jx (pre ++ [x]) W'))
    (W : World) (c0 : W.cell? ⟨B, 0, none⟩ = some (.slice (some ⟨b, off, none⟩) len cap)) (c1 : W.cell? ⟨B, 1, none⟩ = some (.slice (some ⟨b', off', none⟩) len cap'))
    (hcs : ∀ j, j < len → W.cell? ⟨b, off + j, none⟩ = some (.int .i64 (cs.getD j 0))) (hrs : ∀ j, j < len → W.cell? ⟨b', off' + j, none⟩ = some (.int .i64 (rs.getD j 0))) (h0 : J [] W) :
    CallsIn F n Try.prog 64 #[.func (.yield l) #[] #[], .pointer (some ⟨B, 0, none⟩)] W fun e W' => (∃ v, e = .returned v) ∧
      ((∃ ys, ys = firsts len len ∧ J ys W') ∨ (∃ pre, True ∧ Jx pre W')) := by
  have HV : Hid (∀ k, k < len → rs.getD k 0 + cs.getD k 0 = v k) := hv
  have HC : Hid (∀ k, 0 ≤ cs.getD k 0 ∧ cs.getD k 0 ≤ 1000000) := hc
  have HR : Hid (∀ k, -100000000 ≤ rs.getD k 0 ∧ rs.getD k 0 ≤ 100000000) := hr
  have HCS : Hid (∀ j, j < len → W.cell? ⟨b, off + j, none⟩ = some (.int .i64 (cs.getD j 0))) := hcs
  have HRS : Hid (∀ j, j < len → W.cell? ⟨b', off' + j, none⟩ = some (.int .i64 (rs.getD j 0))) := hrs
  have HY : Hid (∀ pre x W, J pre W → pre.length < len → YieldAt F (n - 1) Try.prog l #[.int .i64 ((x.1 : Nat) : Int), .int .i64 (v x.1)] W fun e W' =>
      (e = .returned (.bool true) ∧ J (pre ++ [x]) W' ∧ Keep B b b' W W') ∨ (e = .returned (.bool false) ∧ Jx (pre ++ [x]) W')) := hY
  clear hv hc hr hcs hrs hY
  refine callsIn_of_wp Try.func64 rfl hf ?_ hro
  simp only [Try.ntmps64, List.size_toArray, List.length_cons, List.length_nil, Nat.reduceAdd, Nat.reduceSub, Array.replicate_succ, Array.replicate_zero, List.push_toArray, List.append_toArray, List.nil_append, List.cons_append]
  gi_wp2
  gi_loopw [3, 4, 8] (fun _ _ i wr => ∃ k : Nat, k ≤ len ∧ i = .int .i64 k ∧ J (firsts len k) wr ∧ Hid (Keep B b b' W wr)) (fun _ _ i _ => len - (intOf i).toNat)
  case atStart => exact ⟨0, Nat.zero_le _, rfl, by rw [firsts_zero]; exact h0, Keep.refl _ _ _ _⟩
  case round =>
    obtain ⟨k, hk, rfl, hJs, hK⟩ := hrel
    by_cases hlt : k < len
    · obtain ⟨fn, tmps, assign, body, hy, hR⟩ := HY.out _ ⟨k, hlt⟩ wr hJs (by rw [firsts_length hk]; exact hlt)
      dsimp only at hy
      obtain ⟨x, hx⟩ : ∃ x, x = rs.getD k 0 := ⟨_, rfl⟩
      obtain ⟨c, hc⟩ : ∃ c, c = cs.getD k 0 := ⟨_, rfl⟩
      have d0 := (hK.out.cell (j := off + k) (.inr (.inl rfl))).trans (HCS.out k hlt)
      have d1 := (hK.out.cell (j := off' + k) (.inr (.inr rfl))).trans (HRS.out k hlt)
      have d2 := (hK.out.cell (j := 1) (.inl rfl)).trans c1
      have hv := HV.out k hlt
      have bc := HC.out k
      have br := HR.out k
      rw [← hx] at d1 hv br
      rw [← hc] at d0 hv bc
      have hlt' : (k : Int) < (len : Int) := by omega
      have hk0 : (0 : Int) ≤ (k : Int) := by omega
      clear hx hc
      gi_wp2
      refine hR.mono ?_
      rintro e W3 (⟨rfl, hJ3, hk3⟩ | ⟨rfl, hJx3⟩)
      · gi_wp2
        go_roundw
        case rel => exact ⟨k + 1, by omega, by go_num, by rw [firsts_succ hlt]; exact hJ3, hK.out.trans hk3⟩
        case measure => simp [intOf]; omega
      · gi_wp2
        refine bodyPost_ret (results_none rfl _ _ _) rfl ?_
        exact ⟨⟨_, rfl⟩, .inr ⟨_, trivial, hJx3⟩⟩
    · obtain rfl : k = len := by omega
      have hlt' : ¬ (k : Int) < (k : Int) := by omega
      gi_wp2
      go_end0
      exact ⟨⟨_, rfl⟩, .inl hJs⟩

/-- impl.paid: the Smooth is boxed; the function value captures the box. -/
theorem paid_any (x y : Value) (w : World) :
    Calls Try.prog 49 #[sm x y] w fun e w' => e = .returned (.func (.func 64) #[] #[.pointer (some ⟨w.heap.size, 0, none⟩)]) ∧ w' = w.alloc (.cells #[x, y] 31) := by
  go_enter Try.func49, Try.ntmps49
  go_wp2_with fail
  go_ret
  exact ⟨rfl, rfl⟩

theorem paid_stops (F : Fence) (n : Nat) (hf : F.fn 64) (hro : F.round = none) (hn : 1 ≤ n) (B b off b' off' len cap cap' : Nat) (cs rs : List Int) (v : Nat → Int) (hv : ∀ k, k < len → rs.getD k 0 + cs.getD k 0 = v k)
    (hc : ∀ k, 0 ≤ cs.getD k 0 ∧ cs.getD k 0 ≤ 1000000) (hr : ∀ k, -100000000 ≤ rs.getD k 0 ∧ rs.getD k 0 ≤ 100000000) (h24 : (len : Int) ≤ 24) (w : World) (hB : B < w.heap.size) (hb : b < w.heap.size) (hb' : b' < w.heap.size)
    (c0 : w.cell? ⟨B, 0, none⟩ = some (.slice (some ⟨b, off, none⟩) len cap)) (c1 : w.cell? ⟨B, 1, none⟩ = some (.slice (some ⟨b', off', none⟩) len cap'))
    (hcs : ∀ j, j < len → w.cell? ⟨b, off + j, none⟩ = some (.int .i64 (cs.getD j 0))) (hrs : ∀ j, j < len → w.cell? ⟨b', off' + j, none⟩ = some (.int .i64 (rs.getD j 0))) :
    SeqStopsK F n Try.prog 64 #[.pointer (some ⟨B, 0, none⟩)] (fun x : Fin len => #[.int .i64 ((x.1 : Nat) : Int), .int .i64 (v x.1)]) (Keep B b b') (fun ys => ys = firsts len len) (fun _ => True) len w :=
  fun l J Jx W hW _ _ hY h0 => paid1_in F n hf hro hn l B b off b' off' len cap cap' cs rs v hv hc hr h24 J Jx hY W
    ((hW.cell (p := ⟨B, 0, none⟩) hB).trans c0) ((hW.cell (p := ⟨B, 1, none⟩) hB).trans c1) (fun j hj => (hW.cell (p := ⟨b, off + j, none⟩) hb).trans (hcs j hj)) (fun j hj => (hW.cell (p := ⟨b', off' + j, none⟩) hb').trans (hrs j hj)) h0

end Go.Proofs.Ytkfepehldjkedaa.Crew
