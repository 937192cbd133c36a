/-
  spec.Changed, Weighed and ReadyOf at every list of tasks. (Written by wip/tools/gen_taskturn.py.)
-/
import Derived.Test.YtcmeimfjedakeaaGreatTaskMake
namespace Go.Proofs.YtcmeimfjedakeaaGreat.Crew
open Go.ChangeShapes Go.WideShapes Go.ChangeAt Go.RowKit

theorem findT_is (xs : List Tsk) (id : Int) : findT xs id = -1 ∨ ∃ j : Nat, findT xs id = j ∧ j < xs.length := by
  rw [findT]
  split
  · rename_i h
    exact .inr ⟨_, rfl, h⟩
  · exact .inl rfl

/-- The one of that Id. -/
def theT (xs : List Tsk) (id : Int) : Tsk := xs.getD (findT xs id).toNat tz

def chOk (xs : List Tsk) (st : Int) : Bool := tasksOk xs && within st 1 3

def chC (xs : List Tsk) (id st : Int) : Int := if chOk xs st then (if findT xs id < 0 then 2 else if (theT xs id).s = st ∨ (theT xs id).s = 3 then 4 else 0) else 1

def chL (xs : List Tsk) (id st : Int) : List Tsk := if chC xs id st = 0 then xs.set (findT xs id).toNat { theT xs id with s := st } else asIs xs

def wgOk (xs : List Tsk) (wt : Int) : Bool := tasksOk xs && within wt 1 1000000

def wgC (xs : List Tsk) (id wt : Int) : Int := if wgOk xs wt then (if findT xs id < 0 then 2 else if (theT xs id).s = 3 then 4 else 0) else 1

def wgL (xs : List Tsk) (id wt : Int) : List Tsk := if wgC xs id wt = 0 then xs.set (findT xs id).toNat { theT xs id with w := wt } else asIs xs

set_option maxRecDepth 100000 in
set_option maxHeartbeats 4000000 in
/-- spec.Changed at every list of tasks. -/
theorem specChanged (a : Option Addr) (len cap : Nat) (ps : List Tsk) (id v : Int) (w : World) (I : Tsks w a len ps) (hs : (len : Int) ≤ 1048576) :
    Calls Tryz.prog 84 #[.slice a len cap, .int .i64 id, .int .i64 v] w (TPost (chL ps id v) (chC ps id v) w) := by
  have HI : Hid (Tsks w a len ps) := I
  have HL : Hid (ps.length = len) := I.1
  clear I
  have bad : chOk ps v = false → chC ps id v = 1 ∧ chL ps id v = asIs ps := fun h => by
    have h1 : chC ps id v = 1 := by rw [chC, h]; rfl
    exact ⟨h1, by rw [chL, h1]; rfl⟩
  cases hk : tasksOk ps
  · have HK : Hid (tasksOk ps = false ∧ True) := ⟨hk, trivial⟩
    obtain ⟨e1, e2⟩ := bad (by rw [chOk, hk]; rfl)
    rw [e1, e2]
    clear hk bad e1 e2
    go_enter Tryz.func84, Tryz.ntmps84
    go_wp2_with fail
    refine (specTasksOk a len cap ps _ HI.out hs).mono ?_
    rw [HK.out.1]
    rintro e w1 ⟨rfl, B1⟩
    have H1 : Hid (Below w.heap.size w w1) := B1
    clear B1
    go_wp2_with fail
    refine (specNoP a len cap ps 1 _ (HI.out.kept H1.out) hs (.inr rfl)).mono ?_
    rintro e wz P
    obtain ⟨g, n, c, rfl, F2, B2⟩ := tpost_at P H1.out
    have HZ : Hid (TFit wz w.heap.size (some ⟨g, 0, none⟩) n c (asIs ps) ∧ Below w.heap.size w wz) := ⟨F2, B2⟩
    clear F2 B2 P
    go_wp2_with fail
    go_ret2
    exact ⟨g, n, c, rfl, HZ.out.1, HZ.out.2⟩
  cases hw1 : within v 1 3
  · have HK : Hid (tasksOk ps = true ∧ within v 1 3 = false) := ⟨hk, hw1⟩
    obtain ⟨e1, e2⟩ := bad (by rw [chOk, hk, hw1]; rfl)
    rw [e1, e2]
    clear hk hw1 bad e1 e2
    go_enter Tryz.func84, Tryz.ntmps84
    go_wp2_with fail
    refine (specTasksOk a len cap ps _ HI.out hs).mono ?_
    rw [HK.out.1]
    rintro e w1 ⟨rfl, B1⟩
    have H1 : Hid (Below w.heap.size w w1) := B1
    clear B1
    go_wp2_with fail
    refine (specState v _).mono ?_
    rw [HK.out.2]
    rintro e w2 ⟨rfl, rfl⟩
    have H2 : Hid (Below w.heap.size w w2) := H1.out
    clear H1
    go_wp2_with fail
    refine (specNoP a len cap ps 1 _ (HI.out.kept H2.out) hs (.inr rfl)).mono ?_
    rintro e wz P
    obtain ⟨g, n, c, rfl, F2, B2⟩ := tpost_at P H2.out
    have HZ : Hid (TFit wz w.heap.size (some ⟨g, 0, none⟩) n c (asIs ps) ∧ Below w.heap.size w wz) := ⟨F2, B2⟩
    clear F2 B2 P
    go_wp2_with fail
    go_ret2
    exact ⟨g, n, c, rfl, HZ.out.1, HZ.out.2⟩
  have hok : chOk ps v = true := by rw [chOk, hk, hw1]; rfl
  rcases findT_is ps id with hf | ⟨j, hf, hj⟩
  · have HK : Hid (tasksOk ps = true ∧ within v 1 3 = true ∧ findT ps id = -1) := ⟨hk, hw1, hf⟩
    have e1 : chC ps id v = 2 := by rw [chC, hok, if_pos rfl, hf, if_pos (by decide)]
    have e2 : chL ps id v = asIs ps := by rw [chL, e1]; rfl
    rw [e1, e2]
    clear hk hw1 bad e1 e2 hok hf
    go_enter Tryz.func84, Tryz.ntmps84
    go_wp2_with fail
    refine (specTasksOk a len cap ps _ HI.out hs).mono ?_
    rw [HK.out.1]
    rintro e w1 ⟨rfl, B1⟩
    have H1 : Hid (Below w.heap.size w w1) := B1
    clear B1
    go_wp2_with fail
    refine (specState v _).mono ?_
    rw [HK.out.2.1]
    rintro e w2 ⟨rfl, rfl⟩
    have H2 : Hid (Below w.heap.size w w2) := H1.out
    clear H1
    go_wp2_with fail
    refine (specFind a len cap ps id _ (HI.out.kept H2.out) hs).mono ?_
    rw [HK.out.2.2]
    rintro e w3 ⟨rfl, rfl⟩
    have H3 : Hid (Below w.heap.size w w3) := H2.out
    clear H2
    go_wp2_with fail
    refine (specNoP a len cap ps 2 _ (HI.out.kept H3.out) hs (.inl HK.out.1)).mono ?_
    rintro e wz P
    obtain ⟨g, n, c, rfl, F2, B2⟩ := tpost_at P H3.out
    have HZ : Hid (TFit wz w.heap.size (some ⟨g, 0, none⟩) n c (asIs ps) ∧ Below w.heap.size w wz) := ⟨F2, B2⟩
    clear F2 B2 P
    go_wp2_with fail
    go_ret2
    exact ⟨g, n, c, rfl, HZ.out.1, HZ.out.2⟩
  have HK : Hid (tasksOk ps = true ∧ within v 1 3 = true ∧ findT ps id = (j : Int)) := ⟨hk, hw1, hf⟩
  have hjl : j < len := by rw [← HL.out]; exact hj
  have hjl' : (j : Int) < (len : Int) := by omega
  have hj0 : ¬ (j : Int) < 0 := by omega
  have hd : decide ((j : Int) < 0) = false := decide_eq_false hj0
  obtain ⟨x, hx⟩ : ∃ x, x = ps.getD j tz := ⟨_, rfl⟩
  have hthe : theT ps id = x := by rw [theT, hf, Int.toNat_natCast, hx]
  have HX : Hid (x = ps.getD j tz) := hx
  obtain ⟨xi, xw, xs, xh⟩ := x
  have hC : chC ps id v = if xs = v ∨ xs = 3 then 4 else 0 := by rw [chC, hok, if_pos rfl, hf, if_neg hj0, hthe]
  have hL : chC ps id v = 0 → chL ps id v = ps.set j ⟨xi, xw, v, xh⟩ := fun h => by rw [chL, if_pos h, hf, hthe, Int.toNat_natCast]
  clear hk hw1 bad hok hf hx hthe hj
  by_cases hb4 : xs = v ∨ xs = 3
  · rw [show chC ps id v = 4 from by rw [hC, if_pos hb4], show chL ps id v = asIs ps from by rw [chL, show chC ps id v = 4 from by rw [hC, if_pos hb4]]; rfl]
    clear hC hL
    by_cases hv : xs = v
    · have hb1 : (xs == v) = true := by simp [hv]
      go_enter Tryz.func84, Tryz.ntmps84
      go_wp2_with fail
      refine (specTasksOk a len cap ps _ HI.out hs).mono ?_
      rw [HK.out.1]
      rintro e w1 ⟨rfl, B1⟩
      have H1 : Hid (Below w.heap.size w w1) := B1
      clear B1
      go_wp2_with fail
      refine (specState v _).mono ?_
      rw [HK.out.2.1]
      rintro e w2 ⟨rfl, rfl⟩
      have H2 : Hid (Below w.heap.size w w2) := H1.out
      clear H1
      go_wp2_with fail
      refine (specFind a len cap ps id _ (HI.out.kept H2.out) hs).mono ?_
      rw [HK.out.2.2]
      rintro e w3 ⟨rfl, rfl⟩
      have H3 : Hid (Below w.heap.size w w3) := H2.out
      clear H2
      obtain ⟨_, h0 | ⟨b, off, rfl, hb, hc⟩⟩ := tsks_parts (HI.out.kept H3.out)
      · omega
      obtain ⟨_, _, c2, _⟩ := hc j hjl
      rw [← HX.out] at c2
      simp only at c2
      clear hc
      go_wp2_with fail
      refine (specNoP _ len cap ps 4 _ (HI.out.kept H3.out) hs (.inl HK.out.1)).mono ?_
      rintro e wz P
      obtain ⟨g, n, c, rfl, F2, B2⟩ := tpost_at P H3.out
      have HZ : Hid (TFit wz w.heap.size (some ⟨g, 0, none⟩) n c (asIs ps) ∧ Below w.heap.size w wz) := ⟨F2, B2⟩
      clear F2 B2 P
      go_wp2_with fail
      go_ret2
      exact ⟨g, n, c, rfl, HZ.out.1, HZ.out.2⟩
    · have hb1 : (xs == v) = false := by simpa using hv
      have hx3 : xs = 3 := by rcases hb4 with h | h
                              · exact absurd h hv
                              · exact h
      subst hx3
      clear hb4
      go_enter Tryz.func84, Tryz.ntmps84
      go_wp2_with fail
      refine (specTasksOk a len cap ps _ HI.out hs).mono ?_
      rw [HK.out.1]
      rintro e w1 ⟨rfl, B1⟩
      have H1 : Hid (Below w.heap.size w w1) := B1
      clear B1
      go_wp2_with fail
      refine (specState v _).mono ?_
      rw [HK.out.2.1]
      rintro e w2 ⟨rfl, rfl⟩
      have H2 : Hid (Below w.heap.size w w2) := H1.out
      clear H1
      go_wp2_with fail
      refine (specFind a len cap ps id _ (HI.out.kept H2.out) hs).mono ?_
      rw [HK.out.2.2]
      rintro e w3 ⟨rfl, rfl⟩
      have H3 : Hid (Below w.heap.size w w3) := H2.out
      clear H2
      obtain ⟨_, h0 | ⟨b, off, rfl, hb, hc⟩⟩ := tsks_parts (HI.out.kept H3.out)
      · omega
      obtain ⟨_, _, c2, _⟩ := hc j hjl
      rw [← HX.out] at c2
      simp only at c2
      clear hc
      go_wp2_with fail
      refine (specNoP _ len cap ps 4 _ (HI.out.kept H3.out) hs (.inl HK.out.1)).mono ?_
      rintro e wz P
      obtain ⟨g, n, c, rfl, F2, B2⟩ := tpost_at P H3.out
      have HZ : Hid (TFit wz w.heap.size (some ⟨g, 0, none⟩) n c (asIs ps) ∧ Below w.heap.size w wz) := ⟨F2, B2⟩
      clear F2 B2 P
      go_wp2_with fail
      go_ret2
      exact ⟨g, n, c, rfl, HZ.out.1, HZ.out.2⟩
  · have hv : ¬ xs = v := fun h => hb4 (.inl h)
    have h3 : ¬ xs = 3 := fun h => hb4 (.inr h)
    have hb1 : (xs == v) = false := by simpa using hv
    have hb2 : (xs == (3 : Int)) = false := by simpa using h3
    have h0C : chC ps id v = 0 := by rw [hC, if_neg hb4]
    rw [h0C, hL h0C]
    clear hC hL h0C
    go_enter Tryz.func84, Tryz.ntmps84
    go_wp2_with fail
    refine (specTasksOk a len cap ps _ HI.out hs).mono ?_
    rw [HK.out.1]
    rintro e w1 ⟨rfl, B1⟩
    have H1 : Hid (Below w.heap.size w w1) := B1
    clear B1
    go_wp2_with fail
    refine (specState v _).mono ?_
    rw [HK.out.2.1]
    rintro e w2 ⟨rfl, rfl⟩
    have H2 : Hid (Below w.heap.size w w2) := H1.out
    clear H1
    go_wp2_with fail
    refine (specFind a len cap ps id _ (HI.out.kept H2.out) hs).mono ?_
    rw [HK.out.2.2]
    rintro e w3 ⟨rfl, rfl⟩
    have H3 : Hid (Below w.heap.size w w3) := H2.out
    clear H2
    obtain ⟨_, h0 | ⟨b, off, rfl, hb, hc⟩⟩ := tsks_parts (HI.out.kept H3.out)
    · omega
    obtain ⟨_, _, c2, _⟩ := hc j hjl
    rw [← HX.out] at c2
    simp only at c2
    clear hc
    go_wp2_with fail
    refine (specCopyT _ len cap ps _ (HI.out.kept H3.out) hs).mono ?_
    rintro e w9 ⟨g, c, rfl, R9, hg, B9⟩
    have H9 : Hid (TRow w9 g c ps ∧ w.heap.size ≤ g ∧ Below w.heap.size w w9) := ⟨R9, Nat.le_trans H3.out.size hg, below_call H3.out H3.out.size B9⟩
    clear R9 hg B9
    have f2 := H9.out.1.frozen (j * 4 + 2)
    have q2 := H9.out.1.c (i := j) (by rw [HL.out]; exact hjl)
    obtain ⟨q0, q1, q2, q3⟩ := q2
    rw [← HX.out] at q0 q1 q2 q3
    simp only at q0 q1 q2 q3
    have HZ : Hid (TFit (w9.setCell ⟨g, j * 4 + 2, none⟩ (.int .i64 v)) w.heap.size (some ⟨g, 0, none⟩) len c (ps.set j ⟨xi, xw, v, xh⟩) ∧ Below w.heap.size w (w9.setCell ⟨g, j * 4 + 2, none⟩ (.int .i64 v))) := by
      have h := Rec.row.set H9.out.1 j (j := 2) (by decide) v
      have e : tskR.put (ps.getD j tskR.z) 2 v = ⟨xi, xw, v, xh⟩ := by
        have e2 : ps.getD j tskR.z = ⟨xi, xw, xs, xh⟩ := HX.out.symm
        rw [e2]
        rfl
      rw [e] at h
      exact ⟨h.fit H9.out.2.1 (by rw [List.length_set]; exact HL.out), below_set H9.out.2.2 H9.out.2.1 _⟩
    clear H9
    go_wp2_with fail
    go_ret2
    exact ⟨g, len, c, rfl, HZ.out.1, HZ.out.2⟩

set_option maxRecDepth 100000 in
set_option maxHeartbeats 4000000 in
/-- spec.Weighed at every list of tasks. -/
theorem specWeighed (a : Option Addr) (len cap : Nat) (ps : List Tsk) (id v : Int) (w : World) (I : Tsks w a len ps) (hs : (len : Int) ≤ 1048576) :
    Calls Tryz.prog 86 #[.slice a len cap, .int .i64 id, .int .i64 v] w (TPost (wgL ps id v) (wgC ps id v) w) := by
  have HI : Hid (Tsks w a len ps) := I
  have HL : Hid (ps.length = len) := I.1
  clear I
  have bad : wgOk ps v = false → wgC ps id v = 1 ∧ wgL ps id v = asIs ps := fun h => by
    have h1 : wgC ps id v = 1 := by rw [wgC, h]; rfl
    exact ⟨h1, by rw [wgL, h1]; rfl⟩
  cases hk : tasksOk ps
  · have HK : Hid (tasksOk ps = false ∧ True) := ⟨hk, trivial⟩
    obtain ⟨e1, e2⟩ := bad (by rw [wgOk, hk]; rfl)
    rw [e1, e2]
    clear hk bad e1 e2
    go_enter Tryz.func86, Tryz.ntmps86
    go_wp2_with fail
    refine (specTasksOk a len cap ps _ HI.out hs).mono ?_
    rw [HK.out.1]
    rintro e w1 ⟨rfl, B1⟩
    have H1 : Hid (Below w.heap.size w w1) := B1
    clear B1
    go_wp2_with fail
    refine (specNoP a len cap ps 1 _ (HI.out.kept H1.out) hs (.inr rfl)).mono ?_
    rintro e wz P
    obtain ⟨g, n, c, rfl, F2, B2⟩ := tpost_at P H1.out
    have HZ : Hid (TFit wz w.heap.size (some ⟨g, 0, none⟩) n c (asIs ps) ∧ Below w.heap.size w wz) := ⟨F2, B2⟩
    clear F2 B2 P
    go_wp2_with fail
    go_ret2
    exact ⟨g, n, c, rfl, HZ.out.1, HZ.out.2⟩
  cases hw1 : within v 1 1000000
  · have HK : Hid (tasksOk ps = true ∧ within v 1 1000000 = false) := ⟨hk, hw1⟩
    obtain ⟨e1, e2⟩ := bad (by rw [wgOk, hk, hw1]; rfl)
    rw [e1, e2]
    clear hk hw1 bad e1 e2
    go_enter Tryz.func86, Tryz.ntmps86
    go_wp2_with fail
    refine (specTasksOk a len cap ps _ HI.out hs).mono ?_
    rw [HK.out.1]
    rintro e w1 ⟨rfl, B1⟩
    have H1 : Hid (Below w.heap.size w w1) := B1
    clear B1
    go_wp2_with fail
    refine (specWeight_any v _).mono ?_
    rw [HK.out.2]
    rintro e w2 ⟨rfl, rfl⟩
    have H2 : Hid (Below w.heap.size w w2) := H1.out
    clear H1
    go_wp2_with fail
    refine (specNoP a len cap ps 1 _ (HI.out.kept H2.out) hs (.inr rfl)).mono ?_
    rintro e wz P
    obtain ⟨g, n, c, rfl, F2, B2⟩ := tpost_at P H2.out
    have HZ : Hid (TFit wz w.heap.size (some ⟨g, 0, none⟩) n c (asIs ps) ∧ Below w.heap.size w wz) := ⟨F2, B2⟩
    clear F2 B2 P
    go_wp2_with fail
    go_ret2
    exact ⟨g, n, c, rfl, HZ.out.1, HZ.out.2⟩
  have hok : wgOk ps v = true := by rw [wgOk, hk, hw1]; rfl
  rcases findT_is ps id with hf | ⟨j, hf, hj⟩
  · have HK : Hid (tasksOk ps = true ∧ within v 1 1000000 = true ∧ findT ps id = -1) := ⟨hk, hw1, hf⟩
    have e1 : wgC ps id v = 2 := by rw [wgC, hok, if_pos rfl, hf, if_pos (by decide)]
    have e2 : wgL ps id v = asIs ps := by rw [wgL, e1]; rfl
    rw [e1, e2]
    clear hk hw1 bad e1 e2 hok hf
    go_enter Tryz.func86, Tryz.ntmps86
    go_wp2_with fail
    refine (specTasksOk a len cap ps _ HI.out hs).mono ?_
    rw [HK.out.1]
    rintro e w1 ⟨rfl, B1⟩
    have H1 : Hid (Below w.heap.size w w1) := B1
    clear B1
    go_wp2_with fail
    refine (specWeight_any v _).mono ?_
    rw [HK.out.2.1]
    rintro e w2 ⟨rfl, rfl⟩
    have H2 : Hid (Below w.heap.size w w2) := H1.out
    clear H1
    go_wp2_with fail
    refine (specFind a len cap ps id _ (HI.out.kept H2.out) hs).mono ?_
    rw [HK.out.2.2]
    rintro e w3 ⟨rfl, rfl⟩
    have H3 : Hid (Below w.heap.size w w3) := H2.out
    clear H2
    go_wp2_with fail
    refine (specNoP a len cap ps 2 _ (HI.out.kept H3.out) hs (.inl HK.out.1)).mono ?_
    rintro e wz P
    obtain ⟨g, n, c, rfl, F2, B2⟩ := tpost_at P H3.out
    have HZ : Hid (TFit wz w.heap.size (some ⟨g, 0, none⟩) n c (asIs ps) ∧ Below w.heap.size w wz) := ⟨F2, B2⟩
    clear F2 B2 P
    go_wp2_with fail
    go_ret2
    exact ⟨g, n, c, rfl, HZ.out.1, HZ.out.2⟩
  have HK : Hid (tasksOk ps = true ∧ within v 1 1000000 = true ∧ findT ps id = (j : Int)) := ⟨hk, hw1, hf⟩
  have hjl : j < len := by rw [← HL.out]; exact hj
  have hjl' : (j : Int) < (len : Int) := by omega
  have hj0 : ¬ (j : Int) < 0 := by omega
  have hd : decide ((j : Int) < 0) = false := decide_eq_false hj0
  obtain ⟨x, hx⟩ : ∃ x, x = ps.getD j tz := ⟨_, rfl⟩
  have hthe : theT ps id = x := by rw [theT, hf, Int.toNat_natCast, hx]
  have HX : Hid (x = ps.getD j tz) := hx
  obtain ⟨xi, xw, xs, xh⟩ := x
  have hC : wgC ps id v = if xs = 3 then 4 else 0 := by rw [wgC, hok, if_pos rfl, hf, if_neg hj0, hthe]
  have hL : wgC ps id v = 0 → wgL ps id v = ps.set j ⟨xi, v, xs, xh⟩ := fun h => by rw [wgL, if_pos h, hf, hthe, Int.toNat_natCast]
  clear hk hw1 bad hok hf hx hthe hj
  by_cases hb4 : xs = 3
  · rw [show wgC ps id v = 4 from by rw [hC, if_pos hb4], show wgL ps id v = asIs ps from by rw [wgL, show wgC ps id v = 4 from by rw [hC, if_pos hb4]]; rfl]
    clear hC hL
    subst hb4
    go_enter Tryz.func86, Tryz.ntmps86
    go_wp2_with fail
    refine (specTasksOk a len cap ps _ HI.out hs).mono ?_
    rw [HK.out.1]
    rintro e w1 ⟨rfl, B1⟩
    have H1 : Hid (Below w.heap.size w w1) := B1
    clear B1
    go_wp2_with fail
    refine (specWeight_any v _).mono ?_
    rw [HK.out.2.1]
    rintro e w2 ⟨rfl, rfl⟩
    have H2 : Hid (Below w.heap.size w w2) := H1.out
    clear H1
    go_wp2_with fail
    refine (specFind a len cap ps id _ (HI.out.kept H2.out) hs).mono ?_
    rw [HK.out.2.2]
    rintro e w3 ⟨rfl, rfl⟩
    have H3 : Hid (Below w.heap.size w w3) := H2.out
    clear H2
    obtain ⟨_, h0 | ⟨b, off, rfl, hb, hc⟩⟩ := tsks_parts (HI.out.kept H3.out)
    · omega
    obtain ⟨_, _, c2, _⟩ := hc j hjl
    rw [← HX.out] at c2
    simp only at c2
    clear hc
    go_wp2_with fail
    refine (specNoP _ len cap ps 4 _ (HI.out.kept H3.out) hs (.inl HK.out.1)).mono ?_
    rintro e wz P
    obtain ⟨g, n, c, rfl, F2, B2⟩ := tpost_at P H3.out
    have HZ : Hid (TFit wz w.heap.size (some ⟨g, 0, none⟩) n c (asIs ps) ∧ Below w.heap.size w wz) := ⟨F2, B2⟩
    clear F2 B2 P
    go_wp2_with fail
    go_ret2
    exact ⟨g, n, c, rfl, HZ.out.1, HZ.out.2⟩
  · have hb2 : (xs == (3 : Int)) = false := by simpa using hb4
    have h0C : wgC ps id v = 0 := by rw [hC, if_neg hb4]
    rw [h0C, hL h0C]
    clear hC hL h0C
    go_enter Tryz.func86, Tryz.ntmps86
    go_wp2_with fail
    refine (specTasksOk a len cap ps _ HI.out hs).mono ?_
    rw [HK.out.1]
    rintro e w1 ⟨rfl, B1⟩
    have H1 : Hid (Below w.heap.size w w1) := B1
    clear B1
    go_wp2_with fail
    refine (specWeight_any v _).mono ?_
    rw [HK.out.2.1]
    rintro e w2 ⟨rfl, rfl⟩
    have H2 : Hid (Below w.heap.size w w2) := H1.out
    clear H1
    go_wp2_with fail
    refine (specFind a len cap ps id _ (HI.out.kept H2.out) hs).mono ?_
    rw [HK.out.2.2]
    rintro e w3 ⟨rfl, rfl⟩
    have H3 : Hid (Below w.heap.size w w3) := H2.out
    clear H2
    obtain ⟨_, h0 | ⟨b, off, rfl, hb, hc⟩⟩ := tsks_parts (HI.out.kept H3.out)
    · omega
    obtain ⟨_, _, c2, _⟩ := hc j hjl
    rw [← HX.out] at c2
    simp only at c2
    clear hc
    go_wp2_with fail
    refine (specCopyT _ len cap ps _ (HI.out.kept H3.out) hs).mono ?_
    rintro e w9 ⟨g, c, rfl, R9, hg, B9⟩
    have H9 : Hid (TRow w9 g c ps ∧ w.heap.size ≤ g ∧ Below w.heap.size w w9) := ⟨R9, Nat.le_trans H3.out.size hg, below_call H3.out H3.out.size B9⟩
    clear R9 hg B9
    have f2 := H9.out.1.frozen (j * 4 + 1)
    have q2 := H9.out.1.c (i := j) (by rw [HL.out]; exact hjl)
    obtain ⟨q0, q1, q2, q3⟩ := q2
    rw [← HX.out] at q0 q1 q2 q3
    simp only at q0 q1 q2 q3
    have HZ : Hid (TFit (w9.setCell ⟨g, j * 4 + 1, none⟩ (.int .i64 v)) w.heap.size (some ⟨g, 0, none⟩) len c (ps.set j ⟨xi, v, xs, xh⟩) ∧ Below w.heap.size w (w9.setCell ⟨g, j * 4 + 1, none⟩ (.int .i64 v))) := by
      have h := Rec.row.set H9.out.1 j (j := 1) (by decide) v
      have e : tskR.put (ps.getD j tskR.z) 1 v = ⟨xi, v, xs, xh⟩ := by
        have e2 : ps.getD j tskR.z = ⟨xi, xw, xs, xh⟩ := HX.out.symm
        rw [e2]
        rfl
      rw [e] at h
      exact ⟨h.fit H9.out.2.1 (by rw [List.length_set]; exact HL.out), below_set H9.out.2.2 H9.out.2.1 _⟩
    clear H9
    go_wp2_with fail
    go_ret2
    exact ⟨g, len, c, rfl, HZ.out.1, HZ.out.2⟩

/-- The Ids of those that are ready, among the first k. -/
def rdyTo (xs : List Tsk) : Nat → List Int
  | 0 => []
  | k + 1 => if (xs.getD k tz).s = 1 then rdyTo xs k ++ [(xs.getD k tz).i] else rdyTo xs k

def rdyL (xs : List Tsk) : List Int := if tasksOk xs then rdyTo xs xs.length else []

theorem rdyTo_len (xs : List Tsk) (k : Nat) : (rdyTo xs k).length ≤ k := by
  induction k with
  | zero => exact Nat.le_refl _
  | succ k ih =>
    rw [rdyTo]
    split
    · rw [List.length_append]; simp; omega
    · omega

set_option maxRecDepth 100000 in
/-- spec.ReadyOf at every list of tasks. -/
theorem specReadyOf (a : Option Addr) (len cap : Nat) (ps : List Tsk) (w : World) (I : Tsks w a len ps) (hs : (len : Int) ≤ 1048576) :
    Calls Tryz.prog 46 #[.slice a len cap] w fun e w' => ∃ g n c : Nat, e = .returned (.slice (some ⟨g, 0, none⟩) n c) ∧ Fit w' w.heap.size (some ⟨g, 0, none⟩) n c (rdyL ps) ∧ Below w.heap.size w w' := by
  obtain ⟨i0, hi, hz0, hz1, hz2⟩ := info_parts info_int
  have HI : Hid (Tsks w a len ps) := I
  have HL : Hid (ps.length = len) := I.1
  have R0 : Hid (Row (w.alloc (.cells #[] 2)) w.heap.size 0 [] ∧ Below w.heap.size w (w.alloc (.cells #[] 2))) := ⟨row_nil w, below_new _ _⟩
  have hz : (w.alloc (.cells #[] 2)).heap.size = w.heap.size + 1 := by simp
  clear I
  cases hk : tasksOk ps
  · have HK : Hid (tasksOk ps = false ∧ rdyL ps = []) := ⟨hk, by rw [rdyL, hk]; rfl⟩
    clear hk
    go_enter Tryz.func46, Tryz.ntmps46
    go_wp2_with fail
    refine (specTasksOk a len cap ps _ (HI.out.kept R0.out.2) hs).mono ?_
    rw [HK.out.1]
    rintro e w1 ⟨rfl, B1⟩
    have H1 : Hid (Row w1 w.heap.size 0 [] ∧ Below w.heap.size w w1) := ⟨R0.out.1.all B1, below_call R0.out.2 R0.out.2.size B1⟩
    clear B1
    go_wp2_with fail
    go_ret
    exact ⟨w.heap.size, 0, 0, rfl, by rw [HK.out.2]; exact H1.out.1.fit (Nat.le_refl _) rfl, H1.out.2⟩
  · have HK : Hid (tasksOk ps = true ∧ rdyL ps = rdyTo ps len) := ⟨hk, by rw [rdyL, hk, HL.out]; rfl⟩
    clear hk
    go_enter Tryz.func46, Tryz.ntmps46
    go_wp2_with fail
    refine (specTasksOk a len cap ps _ (HI.out.kept R0.out.2) hs).mono ?_
    rw [HK.out.1]
    rintro e w1 ⟨rfl, B1⟩
    have H1 : Hid (Row w1 w.heap.size 0 [] ∧ Below w.heap.size w w1) := ⟨R0.out.1.all B1, below_call R0.out.2 R0.out.2.size B1⟩
    clear B1 R0
    go_wp2_with fail
    go_loopw [3, 4] (fun q i wr => ∃ k m g c : Nat, k ≤ len ∧ i = .int .i64 k ∧ q = .slice (some ⟨g, 0, none⟩) m c ∧ Hid ((rdyTo ps k).length = m ∧ Row wr g c (rdyTo ps k) ∧ w.heap.size ≤ g ∧ Below w.heap.size w wr)) (fun _ i _ => len - (intOf i).toNat)
    case atStart => exact ⟨0, 0, w.heap.size, 0, Nat.zero_le _, rfl, rfl, rfl, H1.out.1, Nat.le_refl _, H1.out.2⟩
    case round =>
      obtain ⟨k, m, g, c, hkl, rfl, rfl, R⟩ := hrel
      by_cases hlt : k < len
      · obtain ⟨_, h0 | ⟨b, off, rfl, hb, hc⟩⟩ := tsks_parts (HI.out.kept R.out.2.2.2)
        · omega
        obtain ⟨c0, _, c2, _⟩ := hc k hlt
        obtain ⟨x, hx⟩ : ∃ x, x = (ps.getD k tz).i := ⟨_, rfl⟩
        obtain ⟨y, hy⟩ : ∃ y, y = (ps.getD k tz).s := ⟨_, rfl⟩
        rw [← hx] at c0
        rw [← hy] at c2
        have hlt' : (k : Int) < (len : Int) := by omega
        have HX : Hid (x = (ps.getD k tz).i ∧ y = (ps.getD k tz).s) := ⟨hx, hy⟩
        have hm := rdyTo_len ps k
        rw [R.out.1] at hm
        clear hc hx hy
        by_cases hy1 : y = 1
        · have HA : Hid (rdyTo ps (k + 1) = rdyTo ps k ++ [x]) := by show _ = _; rw [rdyTo, ← HX.out.1, ← HX.out.2, if_pos hy1]
          have hb1 : (y == (1 : Int)) = true := by simp [hy1]
          clear hy1
          go_wp2_with (at_builtin; refine wpList_append_ints rfl (.tmp 22) (.tmp 28) 27 rfl i0 Tryz.underlying27 hi hz0 hz1 hz2 _ _ _ (rdyTo ps k) rfl R.out.1.symm (R.out.2.1.alloc _) _ _ _ [x] rfl (ints_one _ _ _) (by rw [R.out.1]; omega) ?_)
          intro g4 c4 w4 R4 G4 D4
          have R5 : Hid ((rdyTo ps (k + 1)).length = m + 1 ∧ Row w4 g4 c4 (rdyTo ps (k + 1)) ∧ w.heap.size ≤ g4 ∧ Below w.heap.size w w4) := by
            have h1 := R.out.2.2.1
            have h2 := R.out.2.2.2.size
            rw [HA.out]
            exact ⟨by rw [List.length_append, R.out.1]; rfl, R4, by first | omega | (simp at D4; omega), (R.out.2.2.2.alloc h2 _).grown G4 (by simp; omega) (fun i hi => by cases hi; exact h1)⟩
          clear R4 G4 D4
          go_wp2_with fail
          go_roundw
          case rel => exact ⟨k + 1, m + 1, g4, c4, by omega, by go_num, rfl, R5⟩
          case measure => simp [intOf]; omega
        · have HA : Hid (rdyTo ps (k + 1) = rdyTo ps k) := by show _ = _; rw [rdyTo, ← HX.out.2, if_neg hy1]
          have hb1 : (y == (1 : Int)) = false := by simpa using hy1
          clear hy1
          go_wp2_with fail
          go_roundw
          case rel => exact ⟨k + 1, m, g, c, by omega, by go_num, rfl, by rw [HA.out]; exact R⟩
          case measure => simp [intOf]; omega
      · have hlt' : ¬ (k : Int) < (len : Int) := by omega
        have he : k = len := by omega
        subst he
        go_wp2_with fail
        go_ret
        exact ⟨g, m, c, rfl, by rw [HK.out.2]; exact R.out.2.1.fit R.out.2.2.1 R.out.1, R.out.2.2.2⟩

end Go.Proofs.YtcmeimfjedakeaaGreat.Crew
