/-
  impl.Created and ReadyOf at every list of tasks. (Written by wip/tools/gen_taskmakei.py.)
-/
import Derived.Test.YtcmeimfjedakeaaTaskSortW
import Derived.Test.YtcmeimfjedakeaaTaskMath
namespace Go.Proofs.Ytcmeimfjedakeaa.Crew
open Go.ChangeShapes Go.WideShapes Go.ChangeAt Go.RowKit

theorem sortT_rise {xs : List Tsk} (h : tasksOk xs = true) (x : Tsk) : ∀ k, k ≤ xs.length → sortT (xs ++ [x]) k = xs.take k := by
  intro k
  induction k with
  | zero => intro _; rfl
  | succ k ih =>
    intro hk
    have e : (xs ++ [x]).getD k tz = xs.getD k tz := by simp only [List.getD, List.getElem?_append]; rw [if_pos (by omega)]
    have hl : (xs.take k).length = k := by rw [List.length_take]; omega
    have hp : posT (xs.getD k tz).i (xs.take k) k = k := by
      refine posT_stop ?_
      rcases (ok_at h (k := k) (by omega)).2 with h0 | h0
      · exact .inl h0
      · by_cases hk0 : k = 0
        · exact .inl hk0
        · refine .inr ?_
          have e2 : (xs.take k).getD (k - 1) tz = xs.getD (k - 1) tz := by simp only [List.getD, List.getElem?_take]; rw [if_pos (by omega)]
          rw [e2]
          omega
    rw [sortT, ih (by omega), e, insT, hl, hp, List.take_of_length_le (by omega), List.drop_eq_nil_of_le (by omega), List.take_succ_eq_append_getElem (by omega)]
    rw [show xs.getD k tz = xs[k] by simp [List.getD, show k < xs.length by omega]]

theorem posT_at {xs : List Tsk} {id : Int} (k : Nat) (h : ∀ j, j < k → (xs.getD j tz).i ≠ id) : posT id xs k = atTo xs id k := by
  induction k with
  | zero => rfl
  | succ k ih =>
    have hk := h k (by omega)
    rw [posT, atTo, ih (fun j hj => h j (by omega))]
    by_cases h1 : id < (xs.getD k tz).i
    · rw [if_pos h1, if_neg (by omega)]
    · rw [if_neg h1, if_pos (by omega)]

/-- Sorted it is the one in order. -/
theorem sort_new {xs : List Tsk} {id wt : Int} (h : tasksOk xs = true) (hf : findT xs id < 0) : sortT (xs ++ [⟨id, wt, 1, 0⟩]) (xs.length + 1) = crNew xs id wt := by
  have e : (xs ++ [(⟨id, wt, 1, 0⟩ : Tsk)]).getD xs.length tz = ⟨id, wt, 1, 0⟩ := by simp [List.getD]
  rw [sortT, sortT_rise h _ _ (Nat.le_refl _), List.take_length, e, insT, crNew, posT_at _ (fun j hj => findT_none hf hj)]

/-- The new one's variable lies there still. -/
structure Cr (w X : World) (x : Tsk) : Prop where
  bel : Below w.heap.size w X
  box : TBox X w.heap.size x

theorem Cr.all {w X Y : World} {x : Tsk} (h : Cr w X x) (k : Below X.heap.size X Y) : Cr w Y x := ⟨below_call h.bel h.bel.size k, h.box.all k⟩

theorem Cr.alloc {w X : World} {x : Tsk} (h : Cr w X x) (o : Obj) : Cr w (X.alloc o) x := h.all (below_new _ _)

theorem Cr.drew {w X : World} {x : Tsk} (h : Cr w X x) : Cr w X.drew x := h.all (below_drewN (Below.refl _ _) 1)

theorem Cr.other {w X Y : World} {x : Tsk} {g : Nat} (h : Cr w X x) (k : X.grownBy Y (some g)) (hg : w.heap.size < g) : Cr w Y x :=
  ⟨h.bel.grown k h.bel.size (fun j hj => by cases hj; omega), h.box.past k (Nat.ne_of_lt hg)⟩

theorem int_at {X : World} {s : Nat} (h : X.heap.size = s) (i : Int) : Ints (X.alloc (.cells #[.int .i64 i] 2)) (some ⟨s, 0, none⟩) 1 [i] := by
  subst h
  exact ints_one X i _

theorem one_at {X : World} {s : Nat} (h : X.heap.size = s) (i v st hd : Int) : TRow (X.alloc (.cells #[.int .i64 i, .int .i64 v, .int .i64 st, .int .i64 hd] 84)) s 1 [⟨i, v, st, hd⟩] := by
  subst h
  exact Rec.row_one tskR X ⟨i, v, st, hd⟩

theorem tbox_arg (w : World) (i v s h : Int) : Hid (Below w.heap.size w (w.alloc (.cells #[.int .i64 i, .int .i64 v, .int .i64 s, .int .i64 h] 84)) ∧ TBox (w.alloc (.cells #[.int .i64 i, .int .i64 v, .int .i64 s, .int .i64 h] 84)) w.heap.size ⟨i, v, s, h⟩) := ⟨below_new _ _, tbox_new _ _ _ _ _⟩

set_option maxRecDepth 100000 in
/-- impl.ReadyOf at every list of tasks. -/
theorem implReadyOf (a : Option Addr) (len cap : Nat) (ps : List Tsk) (w : World) (I : Tsks w a len ps) (hs : (len : Int) ≤ 1048576) :
    Calls Try.prog 34 #[.slice a len cap] w fun e w' => ∃ g n c : Nat, e = .returned (.slice (some ⟨g, 0, none⟩) n c) ∧ Fit w' w.heap.size (some ⟨g, 0, none⟩) n c (rdyL ps) ∧ Below w.heap.size w w' := by
  obtain ⟨i0, hi, hz0, hz1, hz2⟩ := info_parts info_int
  have HI : Hid (Tsks w a len ps) := I
  have HL : Hid (ps.length = len) := I.1
  have R0 : Hid (Row (w.alloc (.cells #[] 2)) w.heap.size 0 [] ∧ Below w.heap.size w (w.alloc (.cells #[] 2))) := ⟨row_nil w, below_new _ _⟩
  have hz : (w.alloc (.cells #[] 2)).heap.size = w.heap.size + 1 := by simp
  clear I
  cases hk : tasksOk ps
  · have HK : Hid (tasksOk ps = false ∧ rdyL ps = []) := ⟨hk, by rw [rdyL, hk]; rfl⟩
    clear hk
    go_enter Try.func34, Try.ntmps34
    go_wp2_with fail
    refine (implTasksOk a len cap ps _ (HI.out.kept R0.out.2) hs).mono ?_
    rw [HK.out.1]
    rintro e w1 ⟨rfl, B1⟩
    have H1 : Hid (Row w1 w.heap.size 0 [] ∧ Below w.heap.size w w1) := ⟨R0.out.1.all B1, below_call R0.out.2 R0.out.2.size B1⟩
    clear B1
    go_wp2_with fail
    go_ret
    exact ⟨w.heap.size, 0, 0, rfl, by rw [HK.out.2]; exact H1.out.1.fit (Nat.le_refl _) rfl, H1.out.2⟩
  · have HK : Hid (tasksOk ps = true ∧ rdyL ps = rdyTo ps len) := ⟨hk, by rw [rdyL, hk, HL.out]; rfl⟩
    clear hk
    go_enter Try.func34, Try.ntmps34
    go_wp2_with fail
    refine (implTasksOk a len cap ps _ (HI.out.kept R0.out.2) hs).mono ?_
    rw [HK.out.1]
    rintro e w1 ⟨rfl, B1⟩
    have H1 : Hid (Row w1 w.heap.size 0 [] ∧ Below w.heap.size w w1) := ⟨R0.out.1.all B1, below_call R0.out.2 R0.out.2.size B1⟩
    clear B1 R0
    go_wp2_with fail
    go_loopw [3, 5, 13] (fun q _ i wr => ∃ k m g c : Nat, k ≤ len ∧ i = .int .i64 k ∧ q = .slice (some ⟨g, 0, none⟩) m c ∧ Hid ((rdyTo ps k).length = m ∧ Row wr g c (rdyTo ps k) ∧ w.heap.size ≤ g ∧ Below w.heap.size w wr)) (fun _ _ i _ => len - (intOf i).toNat)
    case atStart => exact ⟨0, 0, w.heap.size, 0, Nat.zero_le _, rfl, rfl, rfl, H1.out.1, Nat.le_refl _, H1.out.2⟩
    case round =>
      obtain ⟨k, m, g, c, hkl, rfl, rfl, R⟩ := hrel
      by_cases hlt : k < len
      · obtain ⟨_, h0 | ⟨b, off, rfl, hb, hc⟩⟩ := tsks_parts (HI.out.kept R.out.2.2.2)
        · omega
        obtain ⟨c0, c1, c2, c3⟩ := hc k hlt
        obtain ⟨x, hx⟩ : ∃ x, x = ps.getD k tz := ⟨_, rfl⟩
        rw [← hx] at c0 c1 c2 c3
        obtain ⟨xi, xw, xs, xh⟩ := x
        simp only at c0 c1 c2 c3
        have hlt' : (k : Int) < (len : Int) := by omega
        have HX : Hid (ps.getD k tz = ⟨xi, xw, xs, xh⟩) := hx.symm
        have hm := rdyTo_len ps k
        rw [R.out.1] at hm
        clear hc hx
        by_cases hy1 : xs = 1
        · have HA : Hid (rdyTo ps (k + 1) = rdyTo ps k ++ [xi]) := by show _ = _; rw [rdyTo, HX.out, if_pos hy1]
          have hb1 : (xs == (1 : Int)) = true := by simp [hy1]
          have RX : Hid (Row (wr.alloc (.cells #[.int .i64 xi, .int .i64 xw, .int .i64 xs, .int .i64 xh] 84)) g c (rdyTo ps k) ∧ Below w.heap.size w (wr.alloc (.cells #[.int .i64 xi, .int .i64 xw, .int .i64 xs, .int .i64 xh] 84))) := ⟨R.out.2.1.alloc _, below_call R.out.2.2.2 R.out.2.2.2.size (below_new _ _)⟩
          clear hy1
          go_wp2_with (at_builtin; refine wpList_append_ints rfl (.tmp 20) (.tmp 23) 23 rfl i0 Try.underlying23 hi hz0 hz1 hz2 _ _ _ (rdyTo ps k) rfl R.out.1.symm (RX.out.1.alloc _) _ _ _ [xi] rfl (int_at (by simp) xi) (by rw [R.out.1]; omega) ?_)
          intro g4 c4 w4 R4 G4 D4
          have R5 : Hid ((rdyTo ps (k + 1)).length = m + 1 ∧ Row w4 g4 c4 (rdyTo ps (k + 1)) ∧ w.heap.size ≤ g4 ∧ Below w.heap.size w w4) := by
            have h1 := R.out.2.2.1
            have h2 := R.out.2.2.2.size
            have h3 := RX.out.2.size
            rw [HA.out]
            exact ⟨by rw [List.length_append, R.out.1]; rfl, R4, by first | omega | (simp at D4; omega), (RX.out.2.alloc h3 _).grown G4 (by simp; omega) (fun i hi => by cases hi; exact h1)⟩
          clear R4 G4 D4
          go_wp2_with fail
          go_roundw
          case rel => exact ⟨k + 1, m + 1, g4, c4, by omega, by go_num, rfl, R5⟩
          case measure => simp [intOf]; omega
        · have HA : Hid (rdyTo ps (k + 1) = rdyTo ps k) := by show _ = _; rw [rdyTo, HX.out, if_neg hy1]
          have hb1 : (xs == (1 : Int)) = false := by simpa using hy1
          have RX : Hid (Row (wr.alloc (.cells #[.int .i64 xi, .int .i64 xw, .int .i64 xs, .int .i64 xh] 84)) g c (rdyTo ps k) ∧ Below w.heap.size w (wr.alloc (.cells #[.int .i64 xi, .int .i64 xw, .int .i64 xs, .int .i64 xh] 84))) := ⟨R.out.2.1.alloc _, below_call R.out.2.2.2 R.out.2.2.2.size (below_new _ _)⟩
          clear hy1
          go_wp2_with fail
          go_roundw
          case rel => exact ⟨k + 1, m, g, c, by omega, by go_num, rfl, by rw [HA.out]; exact ⟨R.out.1, RX.out.1, R.out.2.2.1, RX.out.2⟩⟩
          case measure => simp [intOf]; omega
      · have hlt' : ¬ (k : Int) < (len : Int) := by omega
        have he : k = len := by omega
        subst he
        go_wp2_with fail
        go_ret
        exact ⟨g, m, c, rfl, by rw [HK.out.2]; exact R.out.2.1.fit R.out.2.2.1 R.out.1, R.out.2.2.2⟩

end Go.Proofs.Ytcmeimfjedakeaa.Crew
