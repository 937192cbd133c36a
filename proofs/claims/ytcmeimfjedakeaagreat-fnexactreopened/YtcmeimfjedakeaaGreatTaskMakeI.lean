/-
  impl.Created and ReadyOf at every list of tasks. (Written by wip/tools/gen_taskmakei.py.)
-/
import Derived.Test.YtcmeimfjedakeaaGreatTaskSortW
import Derived.Test.YtcmeimfjedakeaaGreatTaskMath
namespace Go.Proofs.YtcmeimfjedakeaaGreat.Crew
open Go.ChangeShapes Go.WideShapes Go.ChangeAt Go.RowKit

theorem sortT_rise {xs : List Tsk} (h : tasksOk xs = true) (x : Tsk) : ∀ k, k ≤ xs.length → sortT (xs ++ [x]) k = xs.take k := by
  intro k
  induction k with
  | zero => intro _; rfl
  | succ k ih =>
    intro hk
    have e : (xs ++ [x]).getD k tz = xs.getD k tz := by simp only [List.getD, List.getElem?_append]; rw [if_pos (by omega)]
    have hl : (xs.take k).length = k := by rw [List.length_take]; omega
    have hp : posT (xs.getD k tz).i (xs.take k) k = k := by
      refine posT_stop ?_
      rcases (ok_at h (k := k) (by omega)).2 with h0 | h0
      · exact .inl h0
      · by_cases hk0 : k = 0
        · exact .inl hk0
        · refine .inr ?_
          have e2 : (xs.take k).getD (k - 1) tz = xs.getD (k - 1) tz := by simp only [List.getD, List.getElem?_take]; rw [if_pos (by omega)]
          rw [e2]
          omega
    rw [sortT, ih (by omega), e, insT, hl, hp, List.take_of_length_le (by omega), List.drop_eq_nil_of_le (by omega), List.take_succ_eq_append_getElem (by omega)]
    rw [show xs.getD k tz = xs[k] by simp [List.getD, show k < xs.length by omega]]

theorem posT_at {xs : List Tsk} {id : Int} (k : Nat) (h : ∀ j, j < k → (xs.getD j tz).i ≠ id) : posT id xs k = atTo xs id k := by
  induction k with
  | zero => rfl
  | succ k ih =>
    have hk := h k (by omega)
    rw [posT, atTo, ih (fun j hj => h j (by omega))]
    by_cases h1 : id < (xs.getD k tz).i
    · rw [if_pos h1, if_neg (by omega)]
    · rw [if_neg h1, if_pos (by omega)]

/-- Sorted it is the one in order. -/
theorem sort_new {xs : List Tsk} {id wt : Int} (h : tasksOk xs = true) (hf : findT xs id < 0) : sortT (xs ++ [⟨id, wt, 1, 0⟩]) (xs.length + 1) = crNew xs id wt := by
  have e : (xs ++ [(⟨id, wt, 1, 0⟩ : Tsk)]).getD xs.length tz = ⟨id, wt, 1, 0⟩ := by simp [List.getD]
  rw [sortT, sortT_rise h _ _ (Nat.le_refl _), List.take_length, e, insT, crNew, posT_at _ (fun j hj => findT_none hf hj)]

/-- The new one's variable lies there still. -/
structure Cr (w X : World) (x : Tsk) : Prop where
  bel : Below w.heap.size w X
  box : TBox X w.heap.size x

theorem Cr.all {w X Y : World} {x : Tsk} (h : Cr w X x) (k : Below X.heap.size X Y) : Cr w Y x := ⟨below_call h.bel h.bel.size k, h.box.all k⟩

theorem Cr.alloc {w X : World} {x : Tsk} (h : Cr w X x) (o : Obj) : Cr w (X.alloc o) x := h.all (below_new _ _)

theorem Cr.drew {w X : World} {x : Tsk} (h : Cr w X x) : Cr w X.drew x := h.all (below_drewN (Below.refl _ _) 1)

theorem Cr.other {w X Y : World} {x : Tsk} {g : Nat} (h : Cr w X x) (k : X.grownBy Y (some g)) (hg : w.heap.size < g) : Cr w Y x :=
  ⟨h.bel.grown k h.bel.size (fun j hj => by cases hj; omega), h.box.past k (Nat.ne_of_lt hg)⟩

theorem copiedC {w X : World} {x : Tsk} (C : Cr w X x) (a : Option Addr) (len cap : Nat) (ps : List Tsk) (I : Tsks w a len ps) (hs : (len : Int) ≤ 1048576) :
    Calls Tryz.prog 41 #[.slice a len cap] X fun e w' => ∃ g, e = .returned (.slice (some ⟨g, 0, none⟩) len len) ∧ TRow w' g len ps ∧ w.heap.size < g ∧ Cr w w' x ∧ Below X.heap.size X w' := by
  refine (copiedT_any a len cap ps X (I.kept C.bel) hs).mono ?_
  rintro e w' ⟨rfl, R, B⟩
  exact ⟨_, rfl, R, C.box.1, C.all B, B⟩

theorem int_at {X : World} {s : Nat} (h : X.heap.size = s) (i : Int) : Ints (X.alloc (.cells #[.int .i64 i] 2)) (some ⟨s, 0, none⟩) 1 [i] := by
  subst h
  exact ints_one X i _

theorem one_at {X : World} {s : Nat} (h : X.heap.size = s) (i v st hd : Int) : TRow (X.alloc (.cells #[.int .i64 i, .int .i64 v, .int .i64 st, .int .i64 hd] 73)) s 1 [⟨i, v, st, hd⟩] := by
  subst h
  exact Rec.row_one tskR X ⟨i, v, st, hd⟩

theorem tbox_arg (w : World) (i v s h : Int) : Hid (Below w.heap.size w (w.alloc (.cells #[.int .i64 i, .int .i64 v, .int .i64 s, .int .i64 h] 73)) ∧ TBox (w.alloc (.cells #[.int .i64 i, .int .i64 v, .int .i64 s, .int .i64 h] 73)) w.heap.size ⟨i, v, s, h⟩) := ⟨below_new _ _, tbox_new _ _ _ _ _⟩

set_option maxRecDepth 100000 in
set_option maxHeartbeats 4000000 in
/-- impl.Created at every list of tasks. -/
theorem implCreated (a : Option Addr) (len cap : Nat) (ps : List Tsk) (id wt : Int) (w : World) (I : Tsks w a len ps) (hs : (len : Int) ≤ 1048576) :
    Calls Tryz.prog 83 #[.slice a len cap, .int .i64 id, .int .i64 wt] w (TPost (crL ps id wt) (crC ps id wt) w) := by
  obtain ⟨i0, hi, hz0, hz1, hz2⟩ := info_parts info_task
  have HI : Hid (Tsks w a len ps) := I
  have HL : Hid (ps.length = len) := I.1
  have A0 := tbox_arg w id wt 1 0
  clear I
  have bad : crOk ps id wt = false → crC ps id wt = 1 ∧ crL ps id wt = asIs ps := fun h => by
    have h1 : crC ps id wt = 1 := by rw [crC, h]; rfl
    exact ⟨h1, by rw [crL, h1]; rfl⟩
  have ht : taskOk ⟨id, wt, 1, 0⟩ = (within id 1 9999 && within wt 1 1000000) := by
    show (within id 1 9999 && within wt 1 1000000 && within 1 1 3 && within 0 0 100000000) = _
    rw [show within 1 1 3 = true by decide, show within 0 0 100000000 = true by decide, Bool.and_true, Bool.and_true]
  cases hk : tasksOk ps
  · have HK : Hid (tasksOk ps = false ∧ True) := ⟨hk, trivial⟩
    obtain ⟨e1, e2⟩ := bad (by rw [crOk, hk]; rfl)
    rw [e1, e2]
    clear hk bad e1 e2 ht
    go_enter Tryz.func83, Tryz.ntmps83
    go_wp2_with fail
    generalize w.alloc (.cells #[.int .i64 id, .int .i64 wt, .int .i64 1, .int .i64 0] 73) = wa at A0 ⊢
    refine (implTasksOk a len cap ps _ (HI.out.kept A0.out.1) hs).mono ?_
    rw [HK.out.1]
    rintro e w1 ⟨rfl, B1⟩
    have H1 : Hid (Below w.heap.size w w1 ∧ TBox w1 w.heap.size ⟨id, wt, 1, 0⟩) := ⟨below_call A0.out.1 A0.out.1.size B1, A0.out.2.all B1⟩
    clear B1
    go_wp2_with fail
    refine (implAsIs a len cap ps _ (HI.out.kept H1.out.1) hs).mono ?_
    rintro e wz ⟨g, n, c, rfl, F, B⟩
    have HZ : Hid (TFit wz w.heap.size (some ⟨g, 0, none⟩) n c (asIs ps) ∧ Below w.heap.size w wz) := ⟨F.mono H1.out.1.size, below_call H1.out.1 H1.out.1.size B⟩
    clear F B
    go_wp2_with fail
    go_ret2
    exact ⟨g, n, c, rfl, HZ.out.1, HZ.out.2⟩
  cases hw : taskOk ⟨id, wt, 1, 0⟩
  · have HK : Hid (tasksOk ps = true ∧ taskOk ⟨id, wt, 1, 0⟩ = false ∧ True) := ⟨hk, hw, trivial⟩
    obtain ⟨e1, e2⟩ := bad (by rw [crOk, hk, Bool.true_and, ← ht, hw])
    rw [e1, e2]
    clear hk hw bad e1 e2 ht
    go_enter Tryz.func83, Tryz.ntmps83
    go_wp2_with fail
    generalize w.alloc (.cells #[.int .i64 id, .int .i64 wt, .int .i64 1, .int .i64 0] 73) = wa at A0 ⊢
    refine (implTasksOk a len cap ps _ (HI.out.kept A0.out.1) hs).mono ?_
    rw [HK.out.1]
    rintro e w1 ⟨rfl, B1⟩
    have H1 : Hid (Below w.heap.size w w1 ∧ TBox w1 w.heap.size ⟨id, wt, 1, 0⟩) := ⟨below_call A0.out.1 A0.out.1.size B1, A0.out.2.all B1⟩
    clear B1
    have t0 := H1.out.2.2.1
    have t1 := H1.out.2.2.2.1
    have t2 := H1.out.2.2.2.2.1
    have t3 := H1.out.2.2.2.2.2
    simp only at t0 t1 t2 t3
    go_wp2_with fail
    refine (implTaskOk id wt 1 0 _).mono ?_
    rw [HK.out.2.1]
    rintro e w2 ⟨rfl, B2⟩
    have H2 : Hid (Below w.heap.size w w2 ∧ TBox w2 w.heap.size ⟨id, wt, 1, 0⟩) := ⟨below_call H1.out.1 H1.out.1.size B2, H1.out.2.all B2⟩
    clear B2 H1 t0 t1 t2 t3
    go_wp2_with fail
    refine (implAsIs a len cap ps _ (HI.out.kept H2.out.1) hs).mono ?_
    rintro e wz ⟨g, n, c, rfl, F, B⟩
    have HZ : Hid (TFit wz w.heap.size (some ⟨g, 0, none⟩) n c (asIs ps) ∧ Below w.heap.size w wz) := ⟨F.mono H2.out.1.size, below_call H2.out.1 H2.out.1.size B⟩
    clear F B
    go_wp2_with fail
    go_ret2
    exact ⟨g, n, c, rfl, HZ.out.1, HZ.out.2⟩
  have hok : crOk ps id wt = true := by rw [crOk, hk, Bool.true_and, ← ht, hw]
  obtain ⟨f, hf⟩ : ∃ f, f = findT ps id := ⟨_, rfl⟩
  have HK : Hid (tasksOk ps = true ∧ taskOk ⟨id, wt, 1, 0⟩ = true ∧ f = findT ps id) := ⟨hk, hw, hf⟩
  by_cases hf0 : 0 ≤ f
  · have e1 : crC ps id wt = 3 := by rw [crC, hok, if_pos rfl, ← hf, if_pos hf0]
    have e2 : crL ps id wt = asIs ps := by rw [crL, e1]; rfl
    rw [e1, e2]
    clear hk hw bad e1 e2 hok hf ht
    go_enter Tryz.func83, Tryz.ntmps83
    go_wp2_with fail
    generalize w.alloc (.cells #[.int .i64 id, .int .i64 wt, .int .i64 1, .int .i64 0] 73) = wa at A0 ⊢
    refine (implTasksOk a len cap ps _ (HI.out.kept A0.out.1) hs).mono ?_
    rw [HK.out.1]
    rintro e w1 ⟨rfl, B1⟩
    have H1 : Hid (Below w.heap.size w w1 ∧ TBox w1 w.heap.size ⟨id, wt, 1, 0⟩) := ⟨below_call A0.out.1 A0.out.1.size B1, A0.out.2.all B1⟩
    clear B1
    have t0 := H1.out.2.2.1
    have t1 := H1.out.2.2.2.1
    have t2 := H1.out.2.2.2.2.1
    have t3 := H1.out.2.2.2.2.2
    simp only at t0 t1 t2 t3
    go_wp2_with fail
    refine (implTaskOk id wt 1 0 _).mono ?_
    rw [HK.out.2.1]
    rintro e w2 ⟨rfl, B2⟩
    have H2 : Hid (Below w.heap.size w w2 ∧ TBox w2 w.heap.size ⟨id, wt, 1, 0⟩) := ⟨below_call H1.out.1 H1.out.1.size B2, H1.out.2.all B2⟩
    clear B2 H1 t0 t1 t2 t3
    go_wp2_with fail
    refine (implFind a len cap ps id _ (HI.out.kept H2.out.1) hs).mono ?_
    rw [← HK.out.2.2]
    rintro e w3 ⟨rfl, B3⟩
    have H3 : Hid (Below w.heap.size w w3 ∧ TBox w3 w.heap.size ⟨id, wt, 1, 0⟩) := ⟨below_call H2.out.1 H2.out.1.size B3, H2.out.2.all B3⟩
    clear B3 H2
    go_wp2_with fail
    refine (implAsIs a len cap ps _ (HI.out.kept H3.out.1) hs).mono ?_
    rintro e wz ⟨g, n, c, rfl, F, B⟩
    have HZ : Hid (TFit wz w.heap.size (some ⟨g, 0, none⟩) n c (asIs ps) ∧ Below w.heap.size w wz) := ⟨F.mono H3.out.1.size, below_call H3.out.1 H3.out.1.size B⟩
    clear F B
    go_wp2_with fail
    go_ret2
    exact ⟨g, n, c, rfl, HZ.out.1, HZ.out.2⟩
  have hfd : decide (0 ≤ f) = false := decide_eq_false hf0
  have hl24 : len ≤ 24 := by have := tasks_len hk; have := HL.out; omega
  by_cases h24 : len = 24
  · have e1 : crC ps id wt = 5 := by rw [crC, hok, if_pos rfl, ← hf, if_neg hf0, HL.out, if_pos (by omega)]
    have e2 : crL ps id wt = asIs ps := by rw [crL, e1]; rfl
    rw [e1, e2]
    have hb : Hid ((len : Int) = 24) := by show _ = _; omega
    clear hk hw bad e1 e2 hok hf ht h24 hl24
    go_enter Tryz.func83, Tryz.ntmps83
    go_wp2_with fail
    generalize w.alloc (.cells #[.int .i64 id, .int .i64 wt, .int .i64 1, .int .i64 0] 73) = wa at A0 ⊢
    refine (implTasksOk a len cap ps _ (HI.out.kept A0.out.1) hs).mono ?_
    rw [HK.out.1]
    rintro e w1 ⟨rfl, B1⟩
    have H1 : Hid (Below w.heap.size w w1 ∧ TBox w1 w.heap.size ⟨id, wt, 1, 0⟩) := ⟨below_call A0.out.1 A0.out.1.size B1, A0.out.2.all B1⟩
    clear B1
    have t0 := H1.out.2.2.1
    have t1 := H1.out.2.2.2.1
    have t2 := H1.out.2.2.2.2.1
    have t3 := H1.out.2.2.2.2.2
    simp only at t0 t1 t2 t3
    go_wp2_with fail
    refine (implTaskOk id wt 1 0 _).mono ?_
    rw [HK.out.2.1]
    rintro e w2 ⟨rfl, B2⟩
    have H2 : Hid (Below w.heap.size w w2 ∧ TBox w2 w.heap.size ⟨id, wt, 1, 0⟩) := ⟨below_call H1.out.1 H1.out.1.size B2, H1.out.2.all B2⟩
    clear B2 H1 t0 t1 t2 t3
    go_wp2_with fail
    refine (implFind a len cap ps id _ (HI.out.kept H2.out.1) hs).mono ?_
    rw [← HK.out.2.2]
    rintro e w3 ⟨rfl, B3⟩
    have H3 : Hid (Below w.heap.size w w3 ∧ TBox w3 w.heap.size ⟨id, wt, 1, 0⟩) := ⟨below_call H2.out.1 H2.out.1.size B3, H2.out.2.all B3⟩
    clear B3 H2
    have hb1 : ((len : Int) == (24 : Int)) = true := by rw [hb.out]; rfl
    go_wp2_with fail
    refine (implAsIs a len cap ps _ (HI.out.kept H3.out.1) hs).mono ?_
    rintro e wz ⟨g, n, c, rfl, F, B⟩
    have HZ : Hid (TFit wz w.heap.size (some ⟨g, 0, none⟩) n c (asIs ps) ∧ Below w.heap.size w wz) := ⟨F.mono H3.out.1.size, below_call H3.out.1 H3.out.1.size B⟩
    clear F B
    go_wp2_with fail
    go_ret2
    exact ⟨g, n, c, rfl, HZ.out.1, HZ.out.2⟩
  have e1 : crC ps id wt = 0 := by rw [crC, hok, if_pos rfl, ← hf, if_neg hf0, HL.out, if_neg (by omega)]
  have e2 : crL ps id wt = crNew ps id wt := by rw [crL, e1]; rfl
  have HN : Hid (sortT (ps ++ [⟨id, wt, 1, 0⟩]) (len + 1) = crNew ps id wt) := by
    show _ = _
    rw [← HL.out]
    exact sort_new hk (by omega)
  have HN2 : Hid ((crNew ps id wt).length = len + 1) := by rw [← HN.out]; exact sortT_len _ _
  rw [e1, e2]
  have hb : ((len : Int) == (24 : Int)) = false := by simp; omega
  have hb' : ¬ (len : Int) = 24 := by omega
  clear hk hw bad e1 e2 hok hf ht
  go_enter Tryz.func83, Tryz.ntmps83
  go_wp2_with fail
  generalize w.alloc (.cells #[.int .i64 id, .int .i64 wt, .int .i64 1, .int .i64 0] 73) = wa at A0 ⊢
  refine (implTasksOk a len cap ps _ (HI.out.kept A0.out.1) hs).mono ?_
  rw [HK.out.1]
  rintro e w1 ⟨rfl, B1⟩
  have H1 : Hid (Below w.heap.size w w1 ∧ TBox w1 w.heap.size ⟨id, wt, 1, 0⟩) := ⟨below_call A0.out.1 A0.out.1.size B1, A0.out.2.all B1⟩
  clear B1
  have t0 := H1.out.2.2.1
  have t1 := H1.out.2.2.2.1
  have t2 := H1.out.2.2.2.2.1
  have t3 := H1.out.2.2.2.2.2
  simp only at t0 t1 t2 t3
  go_wp2_with fail
  refine (implTaskOk id wt 1 0 _).mono ?_
  rw [HK.out.2.1]
  rintro e w2 ⟨rfl, B2⟩
  have H2 : Hid (Below w.heap.size w w2 ∧ TBox w2 w.heap.size ⟨id, wt, 1, 0⟩) := ⟨below_call H1.out.1 H1.out.1.size B2, H1.out.2.all B2⟩
  clear B2 H1 t0 t1 t2 t3
  go_wp2_with fail
  refine (implFind a len cap ps id _ (HI.out.kept H2.out.1) hs).mono ?_
  rw [← HK.out.2.2]
  rintro e w3 ⟨rfl, B3⟩
  have H3 : Hid (Below w.heap.size w w3 ∧ TBox w3 w.heap.size ⟨id, wt, 1, 0⟩) := ⟨below_call H2.out.1 H2.out.1.size B3, H2.out.2.all B3⟩
  clear B3 H2
  have t0 := H3.out.2.2.1
  have t1 := H3.out.2.2.2.1
  have t2 := H3.out.2.2.2.2.1
  have t3 := H3.out.2.2.2.2.2
  simp only at t0 t1 t2 t3
  have CR : Cr w w3 ⟨id, wt, 1, 0⟩ := ⟨H3.out.1, H3.out.2⟩
  have m1 := CR.box.1
  clear H3 A0
  go_wp2_with fail
  go_region_held3 (fun w' => w'.cell? ⟨w.heap.size, 0, none⟩ = some (.int .i64 id) ∧ w'.cell? ⟨w.heap.size, 1, none⟩ = some (.int .i64 wt) ∧ w'.cell? ⟨w.heap.size, 2, none⟩ = some (.int .i64 1) ∧ w'.cell? ⟨w.heap.size, 3, none⟩ = some (.int .i64 0)) (go_keep)
    ((first | (refine Rec.step_append (K := tskR) (by rfl) (.tmp 38) (.tmp 40) 26 (by rfl) i0 _ Tryz.underlying26 hi hz0 hz1 hz2 (by rfl) (by decide) _ _ _ ps (by rfl) HL.out.symm (by repeat (first | with_reducible exact R1 | apply Rec.row.drew | apply Rec.row.alloc)) _ _ _ [⟨id, wt, 1, 0⟩] (by rfl) (by first | exact E1.sl | exact E1.drew.sl | exact (one_at rfl id wt 1 0).sl | exact (one_at rfl id wt 1 0).drew.sl) (by rw [HL.out]; omega) _ rfl ?_; intro g6 c6 w6 R6 G6 D6; have CR : Cr w w6 ⟨id, wt, 1, 0⟩ := (by first | with_reducible exact Cr.other CR G6 l1 | with_reducible exact Cr.other CR.drew G6 l1 | with_reducible exact Cr.other (CR.alloc _) G6 l1 | with_reducible exact Cr.other (CR.alloc _).drew G6 l1 | with_reducible exact Cr.other (CR.drew.alloc _) G6 l1 | with_reducible exact Cr.other (CR.drew.alloc _).drew G6 l1); have t0 := CR.box.2.1; have t1 := CR.box.2.2.1; have t2 := CR.box.2.2.2.1; have t3 := CR.box.2.2.2.2; have m1 := CR.box.1) | (go_at_call 41; refine (copiedC (w := w) (x := ⟨id, wt, 1, 0⟩) (by first | with_reducible exact CR | with_reducible exact CR.drew | with_reducible exact (CR.alloc _) | with_reducible exact (CR.alloc _).drew | with_reducible exact (CR.drew.alloc _) | with_reducible exact (CR.drew.alloc _).drew) a len cap ps HI.out hs).mono ?_; rintro e u1 ⟨g1, rfl, R1, l1, CR, K1⟩; (first | (have E1 : TRow u1 _ 1 [⟨id, wt, 1, 0⟩] := Rec.row.all (one_at rfl id wt 1 0) K1) | (have E1 : TRow u1 _ 1 [⟨id, wt, 1, 0⟩] := Rec.row.all (one_at rfl id wt 1 0).drew K1) | skip); have t0 := CR.box.2.1; have t1 := CR.box.2.2.1; have t2 := CR.box.2.2.2.1; have t3 := CR.box.2.2.2.2; have m1 := CR.box.1)))
  all_goals
    have HR : Hid (Tsks w6 (some ⟨g6, 0, none⟩) (len + 1) (ps ++ [⟨id, wt, 1, 0⟩]) ∧ Below w.heap.size w w6) := ⟨by have h := Rec.row.sl R6; rwa [List.length_append, HL.out] at h, CR.bel⟩
    clear R6 G6 D6 CR t0 t1 t2 t3 m1 hi hz0 hz1 hz2
    go_wp2_with fail
    refine (sortedT_any (some ⟨g6, 0, none⟩) (len + 1) c6 (ps ++ [⟨id, wt, 1, 0⟩]) _ HR.out.1 (by omega)).mono ?_
    rintro e w7 ⟨rfl, R7, B7⟩
    have H7 : Hid (TFit w7 w.heap.size (some ⟨w6.heap.size, 0, none⟩) (len + 1) (len + 1) (crNew ps id wt) ∧ Below w.heap.size w w7) := by
      rw [HN.out] at R7
      exact ⟨R7.fit HR.out.2.size HN2.out, below_call HR.out.2 HR.out.2.size B7⟩
    clear R7 B7
    go_wp2_with fail
    go_ret2
    exact ⟨_, _, _, rfl, H7.out.1, H7.out.2⟩

set_option maxRecDepth 100000 in
/-- impl.ReadyOf at every list of tasks. -/
theorem implReadyOf (a : Option Addr) (len cap : Nat) (ps : List Tsk) (w : World) (I : Tsks w a len ps) (hs : (len : Int) ≤ 1048576) :
    Calls Tryz.prog 42 #[.slice a len cap] w fun e w' => ∃ g n c : Nat, e = .returned (.slice (some ⟨g, 0, none⟩) n c) ∧ Fit w' w.heap.size (some ⟨g, 0, none⟩) n c (rdyL ps) ∧ Below w.heap.size w w' := by
  obtain ⟨i0, hi, hz0, hz1, hz2⟩ := info_parts info_int
  have HI : Hid (Tsks w a len ps) := I
  have HL : Hid (ps.length = len) := I.1
  have R0 : Hid (Row (w.alloc (.cells #[] 2)) w.heap.size 0 [] ∧ Below w.heap.size w (w.alloc (.cells #[] 2))) := ⟨row_nil w, below_new _ _⟩
  have hz : (w.alloc (.cells #[] 2)).heap.size = w.heap.size + 1 := by simp
  clear I
  cases hk : tasksOk ps
  · have HK : Hid (tasksOk ps = false ∧ rdyL ps = []) := ⟨hk, by rw [rdyL, hk]; rfl⟩
    clear hk
    go_enter Tryz.func42, Tryz.ntmps42
    go_wp2_with fail
    refine (implTasksOk a len cap ps _ (HI.out.kept R0.out.2) hs).mono ?_
    rw [HK.out.1]
    rintro e w1 ⟨rfl, B1⟩
    have H1 : Hid (Row w1 w.heap.size 0 [] ∧ Below w.heap.size w w1) := ⟨R0.out.1.all B1, below_call R0.out.2 R0.out.2.size B1⟩
    clear B1
    go_wp2_with fail
    go_ret
    exact ⟨w.heap.size, 0, 0, rfl, by rw [HK.out.2]; exact H1.out.1.fit (Nat.le_refl _) rfl, H1.out.2⟩
  · have HK : Hid (tasksOk ps = true ∧ rdyL ps = rdyTo ps len) := ⟨hk, by rw [rdyL, hk, HL.out]; rfl⟩
    clear hk
    go_enter Tryz.func42, Tryz.ntmps42
    go_wp2_with fail
    refine (implTasksOk a len cap ps _ (HI.out.kept R0.out.2) hs).mono ?_
    rw [HK.out.1]
    rintro e w1 ⟨rfl, B1⟩
    have H1 : Hid (Row w1 w.heap.size 0 [] ∧ Below w.heap.size w w1) := ⟨R0.out.1.all B1, below_call R0.out.2 R0.out.2.size B1⟩
    clear B1 R0
    go_wp2_with fail
    go_loopw [3, 5, 13] (fun q _ i wr => ∃ k m g c : Nat, k ≤ len ∧ i = .int .i64 k ∧ q = .slice (some ⟨g, 0, none⟩) m c ∧ Hid ((rdyTo ps k).length = m ∧ Row wr g c (rdyTo ps k) ∧ w.heap.size ≤ g ∧ Below w.heap.size w wr)) (fun _ _ i _ => len - (intOf i).toNat)
    case atStart => exact ⟨0, 0, w.heap.size, 0, Nat.zero_le _, rfl, rfl, rfl, H1.out.1, Nat.le_refl _, H1.out.2⟩
    case round =>
      obtain ⟨k, m, g, c, hkl, rfl, rfl, R⟩ := hrel
      by_cases hlt : k < len
      · obtain ⟨_, h0 | ⟨b, off, rfl, hb, hc⟩⟩ := tsks_parts (HI.out.kept R.out.2.2.2)
        · omega
        obtain ⟨c0, c1, c2, c3⟩ := hc k hlt
        obtain ⟨x, hx⟩ : ∃ x, x = ps.getD k tz := ⟨_, rfl⟩
        rw [← hx] at c0 c1 c2 c3
        obtain ⟨xi, xw, xs, xh⟩ := x
        simp only at c0 c1 c2 c3
        have hlt' : (k : Int) < (len : Int) := by omega
        have HX : Hid (ps.getD k tz = ⟨xi, xw, xs, xh⟩) := hx.symm
        have hm := rdyTo_len ps k
        rw [R.out.1] at hm
        clear hc hx
        by_cases hy1 : xs = 1
        · have HA : Hid (rdyTo ps (k + 1) = rdyTo ps k ++ [xi]) := by show _ = _; rw [rdyTo, HX.out, if_pos hy1]
          have hb1 : (xs == (1 : Int)) = true := by simp [hy1]
          have RX : Hid (Row (wr.alloc (.cells #[.int .i64 xi, .int .i64 xw, .int .i64 xs, .int .i64 xh] 73)) g c (rdyTo ps k) ∧ Below w.heap.size w (wr.alloc (.cells #[.int .i64 xi, .int .i64 xw, .int .i64 xs, .int .i64 xh] 73))) := ⟨R.out.2.1.alloc _, below_call R.out.2.2.2 R.out.2.2.2.size (below_new _ _)⟩
          clear hy1
          go_wp2_with (at_builtin; refine wpList_append_ints rfl (.tmp 20) (.tmp 23) 27 rfl i0 Tryz.underlying27 hi hz0 hz1 hz2 _ _ _ (rdyTo ps k) rfl R.out.1.symm (RX.out.1.alloc _) _ _ _ [xi] rfl (int_at (by simp) xi) (by rw [R.out.1]; omega) ?_)
          intro g4 c4 w4 R4 G4 D4
          have R5 : Hid ((rdyTo ps (k + 1)).length = m + 1 ∧ Row w4 g4 c4 (rdyTo ps (k + 1)) ∧ w.heap.size ≤ g4 ∧ Below w.heap.size w w4) := by
            have h1 := R.out.2.2.1
            have h2 := R.out.2.2.2.size
            have h3 := RX.out.2.size
            rw [HA.out]
            exact ⟨by rw [List.length_append, R.out.1]; rfl, R4, by first | omega | (simp at D4; omega), (RX.out.2.alloc h3 _).grown G4 (by simp; omega) (fun i hi => by cases hi; exact h1)⟩
          clear R4 G4 D4
          go_wp2_with fail
          go_roundw
          case rel => exact ⟨k + 1, m + 1, g4, c4, by omega, by go_num, rfl, R5⟩
          case measure => simp [intOf]; omega
        · have HA : Hid (rdyTo ps (k + 1) = rdyTo ps k) := by show _ = _; rw [rdyTo, HX.out, if_neg hy1]
          have hb1 : (xs == (1 : Int)) = false := by simpa using hy1
          have RX : Hid (Row (wr.alloc (.cells #[.int .i64 xi, .int .i64 xw, .int .i64 xs, .int .i64 xh] 73)) g c (rdyTo ps k) ∧ Below w.heap.size w (wr.alloc (.cells #[.int .i64 xi, .int .i64 xw, .int .i64 xs, .int .i64 xh] 73))) := ⟨R.out.2.1.alloc _, below_call R.out.2.2.2 R.out.2.2.2.size (below_new _ _)⟩
          clear hy1
          go_wp2_with fail
          go_roundw
          case rel => exact ⟨k + 1, m, g, c, by omega, by go_num, rfl, by rw [HA.out]; exact ⟨R.out.1, RX.out.1, R.out.2.2.1, RX.out.2⟩⟩
          case measure => simp [intOf]; omega
      · have hlt' : ¬ (k : Int) < (len : Int) := by omega
        have he : k = len := by omega
        subst he
        go_wp2_with fail
        go_ret
        exact ⟨g, m, c, rfl, by rw [HK.out.2]; exact R.out.2.1.fit R.out.2.2.1 R.out.1, R.out.2.2.2⟩

end Go.Proofs.YtcmeimfjedakeaaGreat.Crew
