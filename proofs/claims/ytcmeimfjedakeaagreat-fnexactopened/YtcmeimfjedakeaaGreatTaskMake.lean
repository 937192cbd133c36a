/-
  spec.Created, Changed, Weighed and ReadyOf at every list of tasks of the call's own.
-/
import Derived.Test.YtcmeimfjedakeaaGreatTaskSpec
import Derived.Deep.RegionHeld3
namespace Go.Proofs.YtcmeimfjedakeaaGreat.Crew
open Go.ChangeShapes Go.WideShapes Go.ChangeAt Go.RowKit

/-- Behind how many the new one comes. -/
def atTo (xs : List Tsk) (id : Int) : Nat → Nat
  | 0 => 0
  | k + 1 => if (xs.getD k tz).i < id then k + 1 else atTo xs id k

theorem atTo_le (xs : List Tsk) (id : Int) (k : Nat) : atTo xs id k ≤ k := by
  induction k with
  | zero => exact Nat.le_refl _
  | succ k ih =>
    rw [atTo]
    split <;> omega

/-- A list as it is; nothing where it is not right. -/
def asIs (xs : List Tsk) : List Tsk := if tasksOk xs then xs else []

def crOk (xs : List Tsk) (id wt : Int) : Bool := tasksOk xs && within id 1 9999 && within wt 1 1000000

def crC (xs : List Tsk) (id wt : Int) : Int := if crOk xs id wt then (if 0 ≤ findT xs id then 3 else if 24 ≤ xs.length then 5 else 0) else 1

def crNew (xs : List Tsk) (id wt : Int) : List Tsk := xs.take (atTo xs id xs.length) ++ ⟨id, wt, 1, 0⟩ :: xs.drop (atTo xs id xs.length)

def crL (xs : List Tsk) (id wt : Int) : List Tsk := if crC xs id wt = 0 then crNew xs id wt else asIs xs

/-- What is answered: a list and a code. -/
def TPost (L : List Tsk) (code : Int) (w : World) (e : Ending) (w' : World) : Prop :=
  ∃ g n c : Nat, e = .returned (.tuple #[.slice (some ⟨g, 0, none⟩) n c, .int .i64 code]) ∧ TFit w' w.heap.size (some ⟨g, 0, none⟩) n c L ∧ Below w.heap.size w w'

theorem specNoP (a : Option Addr) (len cap : Nat) (ps : List Tsk) (code : Int) (w : World) (I : Tsks w a len ps) (hs : (len : Int) ≤ 1048576) (hc : tasksOk ps = true ∨ code = 1) :
    Calls Tryz.prog 124 #[.slice a len cap, .int .i64 code] w (TPost (asIs ps) code w) := by
  refine (specNoT a len cap ps code w I hs).mono ?_
  rintro e w' ⟨g, n, c, rfl, F, B⟩
  refine ⟨g, n, c, ?_, F, B⟩
  rcases hc with h | h
  · rw [h]; rfl
  · rw [h]; simp

theorem tpost_at {L : List Tsk} {code : Int} {w w1 : World} {e : Ending} {w' : World} (h : TPost L code w1 e w') (B : Below w.heap.size w w1) : TPost L code w e w' := by
  obtain ⟨g, n, c, he, F, B1⟩ := h
  exact ⟨g, n, c, he, F.mono B.size, below_call B B.size B1⟩

set_option maxRecDepth 100000 in
set_option maxHeartbeats 4000000 in
/-- spec.Created at every list of tasks of the call's own. -/
theorem specCreated (base : Nat) (a : Option Addr) (len cap : Nat) (ps : List Tsk) (id wt : Int) (w : World) (F : TFit w base a len cap ps) (hs : (len : Int) ≤ 1048576) :
    Calls Tryz.prog 80 #[.slice a len cap, .int .i64 id, .int .i64 wt] w (TPost (crL ps id wt) (crC ps id wt) w) := by
  obtain ⟨i0, hi, hz0, hz1, hz2⟩ := info_parts info_task
  have HF : Hid (TFit w base a len cap ps ∧ ps.length = len) := ⟨F, F.1⟩
  have HI : Hid (Tsks w a len ps) := F.sl
  clear F
  have bad : crOk ps id wt = false → crC ps id wt = 1 ∧ crL ps id wt = asIs ps := fun h => by
    have h1 : crC ps id wt = 1 := by rw [crC, h]; rfl
    exact ⟨h1, by rw [crL, h1]; rfl⟩
  cases hk : tasksOk ps
  · have HK : Hid (tasksOk ps = false ∧ True) := ⟨hk, trivial⟩
    obtain ⟨e1, e2⟩ := bad (by rw [crOk, hk]; rfl)
    rw [e1, e2]
    clear hk bad e1 e2
    go_enter Tryz.func80, Tryz.ntmps80
    go_wp2_with fail
    refine (specTasksOk a len cap ps _ HI.out hs).mono ?_
    rw [HK.out.1]
    rintro e w1 ⟨rfl, B1⟩
    have H1 : Hid (Below w.heap.size w w1) := B1
    clear B1
    go_wp2_with fail
    refine (specNoP a len cap ps 1 _ (HI.out.kept H1.out) hs (.inr rfl)).mono ?_
    rintro e wz P
    obtain ⟨g, n, c, rfl, F2, B2⟩ := tpost_at P H1.out
    have HZ : Hid (TFit wz w.heap.size (some ⟨g, 0, none⟩) n c (asIs ps) ∧ Below w.heap.size w wz) := ⟨F2, B2⟩
    clear F2 B2 P
    go_wp2_with fail
    go_ret2
    exact ⟨g, n, c, rfl, HZ.out.1, HZ.out.2⟩
  cases hw1 : within id 1 9999
  · have HK : Hid (tasksOk ps = true ∧ within id 1 9999 = false) := ⟨hk, hw1⟩
    obtain ⟨e1, e2⟩ := bad (by rw [crOk, hk, hw1]; rfl)
    rw [e1, e2]
    clear hk hw1 bad e1 e2
    go_enter Tryz.func80, Tryz.ntmps80
    go_wp2_with fail
    refine (specTasksOk a len cap ps _ HI.out hs).mono ?_
    rw [HK.out.1]
    rintro e w1 ⟨rfl, B1⟩
    have H1 : Hid (Below w.heap.size w w1) := B1
    clear B1
    go_wp2_with fail
    refine (in_any id 1 9999 _).mono ?_
    rw [HK.out.2]
    rintro e w2 ⟨rfl, rfl⟩
    have H2 : Hid (Below w.heap.size w w2) := H1.out
    clear H1
    go_wp2_with fail
    refine (specNoP a len cap ps 1 _ (HI.out.kept H2.out) hs (.inr rfl)).mono ?_
    rintro e wz P
    obtain ⟨g, n, c, rfl, F2, B2⟩ := tpost_at P H2.out
    have HZ : Hid (TFit wz w.heap.size (some ⟨g, 0, none⟩) n c (asIs ps) ∧ Below w.heap.size w wz) := ⟨F2, B2⟩
    clear F2 B2 P
    go_wp2_with fail
    go_ret2
    exact ⟨g, n, c, rfl, HZ.out.1, HZ.out.2⟩
  cases hw2 : within wt 1 1000000
  · have HK : Hid (tasksOk ps = true ∧ within id 1 9999 = true ∧ within wt 1 1000000 = false) := ⟨hk, hw1, hw2⟩
    obtain ⟨e1, e2⟩ := bad (by rw [crOk, hk, hw1, hw2]; rfl)
    rw [e1, e2]
    clear hk hw1 hw2 bad e1 e2
    go_enter Tryz.func80, Tryz.ntmps80
    go_wp2_with fail
    refine (specTasksOk a len cap ps _ HI.out hs).mono ?_
    rw [HK.out.1]
    rintro e w1 ⟨rfl, B1⟩
    have H1 : Hid (Below w.heap.size w w1) := B1
    clear B1
    go_wp2_with fail
    refine (in_any id 1 9999 _).mono ?_
    rw [HK.out.2.1]
    rintro e w2 ⟨rfl, rfl⟩
    have H2 : Hid (Below w.heap.size w w2) := H1.out
    clear H1
    go_wp2_with fail
    refine (specWeight_any wt _).mono ?_
    rw [HK.out.2.2]
    rintro e w3 ⟨rfl, rfl⟩
    have H3 : Hid (Below w.heap.size w w3) := H2.out
    clear H2
    go_wp2_with fail
    refine (specNoP a len cap ps 1 _ (HI.out.kept H3.out) hs (.inr rfl)).mono ?_
    rintro e wz P
    obtain ⟨g, n, c, rfl, F2, B2⟩ := tpost_at P H3.out
    have HZ : Hid (TFit wz w.heap.size (some ⟨g, 0, none⟩) n c (asIs ps) ∧ Below w.heap.size w wz) := ⟨F2, B2⟩
    clear F2 B2 P
    go_wp2_with fail
    go_ret2
    exact ⟨g, n, c, rfl, HZ.out.1, HZ.out.2⟩
  have hok : crOk ps id wt = true := by rw [crOk, hk, hw1, hw2]; rfl
  obtain ⟨f, hf⟩ : ∃ f, f = findT ps id := ⟨_, rfl⟩
  have HK : Hid (tasksOk ps = true ∧ within id 1 9999 = true ∧ within wt 1 1000000 = true ∧ f = findT ps id) := ⟨hk, hw1, hw2, hf⟩
  by_cases hf0 : 0 ≤ f
  · have e1 : crC ps id wt = 3 := by rw [crC, hok, if_pos rfl, ← hf, if_pos hf0]
    have e2 : crL ps id wt = asIs ps := by rw [crL, e1]; rfl
    rw [e1, e2]
    clear hk hw1 hw2 bad e1 e2 hok hf
    go_enter Tryz.func80, Tryz.ntmps80
    go_wp2_with fail
    refine (specTasksOk a len cap ps _ HI.out hs).mono ?_
    rw [HK.out.1]
    rintro e w1 ⟨rfl, B1⟩
    have H1 : Hid (Below w.heap.size w w1) := B1
    clear B1
    go_wp2_with fail
    refine (in_any id 1 9999 _).mono ?_
    rw [HK.out.2.1]
    rintro e w2 ⟨rfl, rfl⟩
    have H2 : Hid (Below w.heap.size w w2) := H1.out
    clear H1
    go_wp2_with fail
    refine (specWeight_any wt _).mono ?_
    rw [HK.out.2.2.1]
    rintro e w3 ⟨rfl, rfl⟩
    have H3 : Hid (Below w.heap.size w w3) := H2.out
    clear H2
    go_wp2_with fail
    refine (specFind a len cap ps id _ (HI.out.kept H3.out) hs).mono ?_
    rw [← HK.out.2.2.2]
    rintro e w4 ⟨rfl, rfl⟩
    have H4 : Hid (Below w.heap.size w w4) := H3.out
    clear H3
    go_wp2_with fail
    refine (specNoP a len cap ps 3 _ (HI.out.kept H4.out) hs (.inl HK.out.1)).mono ?_
    rintro e wz P
    obtain ⟨g, n, c, rfl, F2, B2⟩ := tpost_at P H4.out
    have HZ : Hid (TFit wz w.heap.size (some ⟨g, 0, none⟩) n c (asIs ps) ∧ Below w.heap.size w wz) := ⟨F2, B2⟩
    clear F2 B2 P
    go_wp2_with fail
    go_ret2
    exact ⟨g, n, c, rfl, HZ.out.1, HZ.out.2⟩
  by_cases h24 : 24 ≤ len
  · have e1 : crC ps id wt = 5 := by rw [crC, hok, if_pos rfl, ← hf, if_neg hf0, HF.out.2, if_pos h24]
    have e2 : crL ps id wt = asIs ps := by rw [crL, e1]; rfl
    have h24' : (24 : Int) ≤ (len : Int) := by omega
    have hd : decide (0 ≤ f) = false := decide_eq_false hf0
    rw [e1, e2]
    clear hk hw1 hw2 bad e1 e2 hok hf
    go_enter Tryz.func80, Tryz.ntmps80
    go_wp2_with fail
    refine (specTasksOk a len cap ps _ HI.out hs).mono ?_
    rw [HK.out.1]
    rintro e w1 ⟨rfl, B1⟩
    have H1 : Hid (Below w.heap.size w w1) := B1
    clear B1
    go_wp2_with fail
    refine (in_any id 1 9999 _).mono ?_
    rw [HK.out.2.1]
    rintro e w2 ⟨rfl, rfl⟩
    have H2 : Hid (Below w.heap.size w w2) := H1.out
    clear H1
    go_wp2_with fail
    refine (specWeight_any wt _).mono ?_
    rw [HK.out.2.2.1]
    rintro e w3 ⟨rfl, rfl⟩
    have H3 : Hid (Below w.heap.size w w3) := H2.out
    clear H2
    go_wp2_with fail
    refine (specFind a len cap ps id _ (HI.out.kept H3.out) hs).mono ?_
    rw [← HK.out.2.2.2]
    rintro e w4 ⟨rfl, rfl⟩
    have H4 : Hid (Below w.heap.size w w4) := H3.out
    clear H3
    go_wp2_with fail
    refine (specNoP a len cap ps 5 _ (HI.out.kept H4.out) hs (.inl HK.out.1)).mono ?_
    rintro e wz P
    obtain ⟨g, n, c, rfl, F2, B2⟩ := tpost_at P H4.out
    have HZ : Hid (TFit wz w.heap.size (some ⟨g, 0, none⟩) n c (asIs ps) ∧ Below w.heap.size w wz) := ⟨F2, B2⟩
    clear F2 B2 P
    go_wp2_with fail
    go_ret2
    exact ⟨g, n, c, rfl, HZ.out.1, HZ.out.2⟩
  have e1 : crC ps id wt = 0 := by rw [crC, hok, if_pos rfl, ← hf, if_neg hf0, HF.out.2, if_neg h24]
  have e2 : crL ps id wt = crNew ps id wt := by rw [crL, e1]; rfl
  have h24' : ¬ (24 : Int) ≤ (len : Int) := by omega
  have hd : decide (0 ≤ f) = false := decide_eq_false hf0
  rw [e1, e2]
  clear hk hw1 hw2 bad e1 e2 hok hf
  go_enter Tryz.func80, Tryz.ntmps80
  go_wp2_with fail
  refine (specTasksOk a len cap ps _ HI.out hs).mono ?_
  rw [HK.out.1]
  rintro e w1 ⟨rfl, B1⟩
  have H1 : Hid (Below w.heap.size w w1) := B1
  clear B1
  go_wp2_with fail
  refine (in_any id 1 9999 _).mono ?_
  rw [HK.out.2.1]
  rintro e w2 ⟨rfl, rfl⟩
  have H2 : Hid (Below w.heap.size w w2) := H1.out
  clear H1
  go_wp2_with fail
  refine (specWeight_any wt _).mono ?_
  rw [HK.out.2.2.1]
  rintro e w3 ⟨rfl, rfl⟩
  have H3 : Hid (Below w.heap.size w w3) := H2.out
  clear H2
  go_wp2_with fail
  refine (specFind a len cap ps id _ (HI.out.kept H3.out) hs).mono ?_
  rw [← HK.out.2.2.2]
  rintro e w4 ⟨rfl, rfl⟩
  have H4 : Hid (Below w.heap.size w w4) := H3.out
  clear H3
  go_wp2_with fail
  go_loop [8, 9] (fun q i => ∃ k : Nat, k ≤ len ∧ i = .int .i64 k ∧ q = .int .i64 (atTo ps id k : Nat)) (fun _ i => len - (intOf i).toNat)
  case atStart => exact ⟨0, Nat.zero_le _, rfl, rfl⟩
  case round =>
    obtain ⟨k, hkl, rfl, rfl⟩ := hrel
    by_cases hlt : k < len
    · obtain ⟨_, h0 | ⟨b, off, rfl, hb, hc⟩⟩ := tsks_parts (HI.out.kept H4.out)
      · omega
      have c0 := (hc k hlt).1
      obtain ⟨x, hx⟩ : ∃ x, x = (ps.getD k tz).i := ⟨_, rfl⟩
      rw [← hx] at c0
      have hlt' : (k : Int) < (len : Int) := by omega
      have HX : Hid (x = (ps.getD k tz).i) := hx
      clear hc hx
      by_cases hxi : x < id
      · have HA : Hid (atTo ps id (k + 1) = k + 1) := by show _ = _; rw [atTo, ← HX.out, if_pos hxi]
        go_wp2_with fail
        go_round
        case rel => exact ⟨k + 1, by omega, by go_num, by rw [HA.out]; push_cast; rfl⟩
        case measure => simp [intOf]; omega
      · have HA : Hid (atTo ps id (k + 1) = atTo ps id k) := by show _ = _; rw [atTo, ← HX.out, if_neg hxi]
        have hxd : decide (x < id) = false := decide_eq_false hxi
        go_wp2_with fail
        go_round
        case rel => exact ⟨k + 1, by omega, by go_num, by rw [HA.out]⟩
        case measure => simp [intOf]; omega
    · have hlt' : ¬ (k : Int) < (len : Int) := by omega
      have he : k = len := by omega
      subst he
      obtain ⟨m, hm⟩ : ∃ m, m = atTo ps id k := ⟨_, rfl⟩
      rw [← hm]
      have hmk : m ≤ k := by rw [hm]; exact atTo_le ps id k
      have HM : Hid (m = atTo ps id k) := hm
      clear hm
      have HG : Hid (TFit w4 base a k cap ps) := HF.out.1.all H4.out
      obtain ⟨_, ⟨h0, h1⟩ | ⟨g, h1, hg, R⟩⟩ := HG.out
      · subst h1
        have hm0 : m = 0 := by omega
        have hp0 : ps = [] := List.eq_nil_of_length_eq_zero (by rw [HF.out.2]; exact h0)
        have HP : Hid (ps = []) := hp0
        clear hp0
        subst h0
        subst hm0
        go_wp2_with fail
        refine (specCopyT _ 0 cap (ps.take 0) _ (⟨by rw [List.take_zero]; rfl, .inl rfl⟩) (by omega)).mono ?_
        rintro e w5 ⟨g2, c2, rfl, R2, hg2, B2⟩
        have H5 : Hid (TRow w5 g2 c2 (ps.take 0) ∧ w4.heap.size ≤ g2 ∧ Below w4.heap.size w4 w5) := ⟨R2, hg2, B2⟩
        have HLm : Hid ((ps.take 0).length = 0) := by show _ = _; rw [List.length_take, HF.out.2]; omega
        clear R2 hg2 B2
        go_wp2_with (at_builtin; refine Rec.wpList_append (K := tskR) rfl (.tmp 64) (.tmp 68) 26 rfl i0 _ Tryz.underlying26 hi hz0 hz1 hz2 rfl (by decide) _ _ _ (ps.take 0) rfl HLm.out.symm (H5.out.1.alloc _) _ _ _ [⟨id, wt, 1, 0⟩] rfl (Rec.row_one tskR w5 ⟨id, wt, 1, 0⟩).sl (by rw [HLm.out]; omega) ?_)
        intro g6 c6 w6 R6 G6 D6
        have H6 : Hid (TRow w6 g6 c6 (ps.take 0 ++ [⟨id, wt, 1, 0⟩]) ∧ w4.heap.size ≤ g6 ∧ Below w4.heap.size w4 w6 ∧ (ps.take 0 ++ [(⟨id, wt, 1, 0⟩ : Tsk)]).length = 0 + 1) := by
          have h1 := H5.out.2.1
          have h2 := H5.out.2.2.size
          refine ⟨R6, by first | omega | (simp at D6; omega), (H5.out.2.2.alloc h2 _).grown G6 (by simp; omega) (fun j hj => by cases hj; exact h1), by rw [List.length_append, HLm.out]; rfl⟩
        clear R6 G6 D6
        go_wp2_with (at_builtin; refine Rec.wpList_append (K := tskR) rfl (.tmp 70) (.tmp 73) 26 rfl i0 _ Tryz.underlying26 hi hz0 hz1 hz2 rfl (by decide) _ _ _ (ps.take 0 ++ [⟨id, wt, 1, 0⟩]) rfl (by rw [H6.out.2.2.2]) H6.out.1 _ _ _ (ps.drop 0) rfl (⟨by rw [HP.out]; rfl, .inl (by first | rfl | simp)⟩) (by rw [H6.out.2.2.2]; omega) ?_)
        all_goals
          intro g7 c7 w7 R7 G7 D7
          have H7 : Hid (TFit w7 w.heap.size (some ⟨g7, 0, none⟩) (0 + 1 + (0 - 0)) c7 (crNew ps id wt) ∧ Below w.heap.size w w7) := by
            have h0 := H4.out.size
            have h1 := H6.out.2.1
            have h2 := H6.out.2.2.1.size
            have e : crNew ps id wt = ps.take 0 ++ [⟨id, wt, 1, 0⟩] ++ ps.drop 0 := by rw [crNew, HF.out.2, ← HM.out, List.append_assoc]; rfl
            rw [e]
            exact ⟨R7.fit (by first | omega | (simp at D7; omega)) (by rw [HP.out]; rfl), below_call H4.out h0 (H6.out.2.2.1.grown G7 h2 (fun j hj => by cases hj; exact h1))⟩
          clear R7 G7 D7
          go_wp2_with fail
          go_ret2
          exact ⟨g7, _, c7, rfl, H7.out.1, H7.out.2⟩
      · subst h1
        have hkc : k ≤ cap := by obtain ⟨_, _, hl, _⟩ := R; have := HF.out.2; omega
        have hmc : m ≤ cap := by omega
        have hmc' : (m : Int) ≤ (cap : Int) := by omega
        have hmk' : (m : Int) ≤ (k : Int) := by omega
        have hkc' : (k : Int) ≤ (cap : Int) := by omega
        have HR : Hid (TRow w4 g cap ps) := R
        clear R HG
        go_wp2_with fail
        refine (specCopyT _ m cap (ps.take m) _ ((by have h := (HR.out.cut m).sl; rw [List.length_take, HF.out.2, Nat.min_eq_left hmk] at h; exact h)) (by omega)).mono ?_
        rintro e w5 ⟨g2, c2, rfl, R2, hg2, B2⟩
        have H5 : Hid (TRow w5 g2 c2 (ps.take m) ∧ w4.heap.size ≤ g2 ∧ Below w4.heap.size w4 w5) := ⟨R2, hg2, B2⟩
        have HLm : Hid ((ps.take m).length = m) := by show _ = _; rw [List.length_take, HF.out.2]; omega
        clear R2 hg2 B2
        go_wp2_with (at_builtin; refine Rec.wpList_append (K := tskR) rfl (.tmp 64) (.tmp 68) 26 rfl i0 _ Tryz.underlying26 hi hz0 hz1 hz2 rfl (by decide) _ _ _ (ps.take m) rfl HLm.out.symm (H5.out.1.alloc _) _ _ _ [⟨id, wt, 1, 0⟩] rfl (Rec.row_one tskR w5 ⟨id, wt, 1, 0⟩).sl (by rw [HLm.out]; omega) ?_)
        intro g6 c6 w6 R6 G6 D6
        have H6 : Hid (TRow w6 g6 c6 (ps.take m ++ [⟨id, wt, 1, 0⟩]) ∧ w4.heap.size ≤ g6 ∧ Below w4.heap.size w4 w6 ∧ (ps.take m ++ [(⟨id, wt, 1, 0⟩ : Tsk)]).length = m + 1) := by
          have h1 := H5.out.2.1
          have h2 := H5.out.2.2.size
          refine ⟨R6, by first | omega | (simp at D6; omega), (H5.out.2.2.alloc h2 _).grown G6 (by simp; omega) (fun j hj => by cases hj; exact h1), by rw [List.length_append, HLm.out]; rfl⟩
        clear R6 G6 D6
        go_wp2_with (at_builtin; refine Rec.wpList_append (K := tskR) rfl (.tmp 70) (.tmp 73) 26 rfl i0 _ Tryz.underlying26 hi hz0 hz1 hz2 rfl (by decide) _ _ _ (ps.take m ++ [⟨id, wt, 1, 0⟩]) rfl (by rw [H6.out.2.2.2]) H6.out.1 _ _ _ (ps.drop m) rfl ((by rw [← HF.out.2]; exact Rec.row.tail (HR.out.all H6.out.2.2.1) m (by rw [HF.out.2]; exact hmk) _ (by intro h; first | rfl | (rw [if_neg (by omega)]; rfl)))) (by rw [H6.out.2.2.2]; omega) ?_)
        all_goals
          intro g7 c7 w7 R7 G7 D7
          have H7 : Hid (TFit w7 w.heap.size (some ⟨g7, 0, none⟩) (m + 1 + (k - m)) c7 (crNew ps id wt) ∧ Below w.heap.size w w7) := by
            have h0 := H4.out.size
            have h1 := H6.out.2.1
            have h2 := H6.out.2.2.1.size
            have e : crNew ps id wt = ps.take m ++ ⟨id, wt, 1, 0⟩ :: ps.drop m := by rw [crNew, HF.out.2, ← HM.out]
            have R8 : TRow w7 g7 c7 (ps.take m ++ ⟨id, wt, 1, 0⟩ :: ps.drop m) := by simpa using R7
            rw [e]
            exact ⟨R8.fit (by first | omega | (simp at D7; omega)) (by rw [List.length_append, HLm.out, List.length_cons, List.length_drop, HF.out.2]; omega), below_call H4.out h0 (H6.out.2.2.1.grown G7 h2 (fun j hj => by cases hj; exact h1))⟩
          clear R7 G7 D7
          go_wp2_with fail
          go_ret2
          exact ⟨g7, _, c7, rfl, H7.out.1, H7.out.2⟩

end Go.Proofs.YtcmeimfjedakeaaGreat.Crew
