/-
  impl's tasks: a copy, a list as it is, the sort by Id.
-/
import Derived.Test.YtfmcnamjhnnimaaTaskOkI
import Derived.Test.YtfmcnamjhnnimaaTaskMake
import Derived.Test.YtfmcnamjhnnimaaRecCopy
namespace Go.Proofs.Ytfmcnamjhnnimaa.Crew
open Go.ChangeShapes Go.WideShapes Go.ChangeAt Go.RowKit

theorem made_tsks (n : Nat) (hn : (n : Int) ≤ 1048576) (w : World) : (Instr.makeSlice 25 (.int .i64 n) (.int .i64 n)).run Try.prog w = .ok (.slice (some ⟨w.heap.size, 0, none⟩) n n) (w.alloc (.cells (tskR.fl (List.replicate n tz)).toArray 40)) := by
  obtain ⟨i0, hi, hz0, hz1, hz2⟩ := info_parts info_task
  have h := run_make (P := Try.prog) w 25 40 i0 (.agg #[.int .i64 0, .int .i64 0, .int .i64 0, .int .i64 0]) Try.underlying25 hi hz0 .i64 .i64 n n (by omega) (by omega) (by rw [hz2]; omega) (by omega)
  rw [h, hz1]
  have e : madeCells (Value.agg #[.int .i64 0, .int .i64 0, .int .i64 0, .int .i64 0]).cells (n * 4) = (tskR.fl (List.replicate n tz)).toArray := by
    apply Array.ext'
    rw [List.toList_toArray]
    exact made_tasks n
  simp only [Int.toNat_natCast]
  rw [e]

/-- impl.copied over tasks: a copy in a block of its own. -/
theorem copiedT_any (a : Option Addr) (len cap : Nat) (ps : List Tsk) (w : World) (I : Tsks w a len ps) (hs : (len : Int) ≤ 1048576) :
    Calls Try.prog 34 #[.slice a len cap] w fun e w' => e = .returned (.slice (some ⟨w.heap.size, 0, none⟩) len len) ∧ TRow w' w.heap.size len ps ∧ Below w.heap.size w w' := by
  obtain ⟨i0, hi, hz0, hz1, hz2⟩ := info_parts info_task
  have hm := made_tsks len hs w
  obtain ⟨w1, hc, R1, B1⟩ := Rec.run_copy (P := Try.prog) (w.alloc (.cells (tskR.fl (List.replicate len tz)).toArray 40)) 25 3 i0 Try.underlying25 hi hz1 w.heap.size w (below_new _ _) w.heap.size (Nat.le_refl _) (List.replicate len tz) a len cap ps (Rec.row_rep tskR w len tz hs) (I.kept (below_new _ _))
  have H1 : Hid (TRow w1 w.heap.size len ps ∧ Below w.heap.size w w1) := ⟨R1, B1⟩
  clear I R1 B1 hi hz0 hz1 hz2
  go_enter Try.func34, Try.ntmps34
  go_wp2_with fail
  go_ret
  exact ⟨rfl, H1.out⟩

/-- impl.asItIs. -/
theorem implAsIs (a : Option Addr) (len cap : Nat) (ps : List Tsk) (w : World) (I : Tsks w a len ps) (hs : (len : Int) ≤ 1048576) :
    Calls Try.prog 33 #[.slice a len cap] w fun e w' => ∃ g n c : Nat, e = .returned (.slice (some ⟨g, 0, none⟩) n c) ∧ TFit w' w.heap.size (some ⟨g, 0, none⟩) n c (asIs ps) ∧ Below w.heap.size w w' := by
  have HI : Hid (Tsks w a len ps) := I
  clear I
  cases hk : tasksOk ps
  · have HK : Hid (tasksOk ps = false) := hk
    have e : asIs ps = [] := by rw [asIs, hk]; rfl
    rw [e]
    clear hk e
    go_enter Try.func33, Try.ntmps33
    go_wp2_with fail
    refine (implTasksOk a len cap ps _ HI.out hs).mono ?_
    rw [HK.out]
    rintro e w1 ⟨rfl, B1⟩
    have H1 : Hid (Below w.heap.size w w1) := B1
    clear B1
    go_wp2_with fail
    go_ret
    exact ⟨w1.heap.size, 0, 0, rfl, (Rec.row_nil tskR w1).fit H1.out.size rfl, H1.out.alloc H1.out.size _⟩
  · have HK : Hid (tasksOk ps = true) := hk
    have e : asIs ps = ps := by rw [asIs, hk]; rfl
    rw [e]
    clear hk e
    go_enter Try.func33, Try.ntmps33
    go_wp2_with fail
    refine (implTasksOk a len cap ps _ HI.out hs).mono ?_
    rw [HK.out]
    rintro e w1 ⟨rfl, B1⟩
    have H1 : Hid (Below w.heap.size w w1) := B1
    clear B1
    go_wp2_with fail
    refine (copiedT_any a len cap ps _ (HI.out.kept H1.out) hs).mono ?_
    rintro e w2 ⟨rfl, R2, B2⟩
    have H2 : Hid (TRow w2 w1.heap.size len ps ∧ w.heap.size ≤ w1.heap.size ∧ Below w.heap.size w w2) := ⟨R2, H1.out.size, below_call H1.out H1.out.size B2⟩
    clear R2 B2
    go_wp2_with fail
    go_ret
    exact ⟨w1.heap.size, len, len, rfl, H2.out.1.fit H2.out.2.1 HI.out.1, H2.out.2.2⟩

/-- Where one of that Id is put among the first k. -/
def posT (id : Int) (out : List Tsk) : Nat → Nat
  | 0 => 0
  | k + 1 => if id < (out.getD k tz).i then posT id out k else k + 1

def insT (out : List Tsk) (x : Tsk) : List Tsk := out.take (posT x.i out out.length) ++ x :: out.drop (posT x.i out out.length)

/-- The first k of them, sorted. -/
def sortT (L : List Tsk) : Nat → List Tsk
  | 0 => []
  | k + 1 => insT (sortT L k) (L.getD k tz)

theorem posT_le (id : Int) (out : List Tsk) (k : Nat) : posT id out k ≤ k := by
  induction k with
  | zero => exact Nat.le_refl _
  | succ k ih =>
    rw [posT]
    split <;> omega

theorem insT_len (out : List Tsk) (x : Tsk) : (insT out x).length = out.length + 1 := by
  have := posT_le x.i out out.length
  rw [insT, List.length_append, List.length_cons, List.length_take, List.length_drop]
  omega

theorem sortT_len (L : List Tsk) (k : Nat) : (sortT L k).length = k := by
  induction k with
  | zero => rfl
  | succ k ih => rw [sortT, insT_len, ih]

theorem posT_down {id : Int} {out : List Tsk} {k : Nat} (h0 : 0 < k) (h : id < (out.getD (k - 1) tz).i) : posT id out k = posT id out (k - 1) := by
  obtain ⟨m, rfl⟩ : ∃ m, k = m + 1 := ⟨k - 1, by omega⟩
  rw [Nat.add_sub_cancel] at h ⊢
  rw [posT, if_pos h]

theorem posT_stop {id : Int} {out : List Tsk} {k : Nat} (h : k = 0 ∨ ¬ id < (out.getD (k - 1) tz).i) : posT id out k = k := by
  cases k with
  | zero => rfl
  | succ m =>
    rcases h with h | h
    · omega
    · rw [Nat.add_sub_cancel] at h
      rw [posT, if_neg h]

theorem tsk_shift {out zs : List Tsk} {t : Nat} {j : Tsk} (h0 : 0 < t) (h1 : t ≤ out.length) :
    (out.take t ++ j :: (out.drop t ++ zs)).set t (out.getD (t - 1) tz) = out.take (t - 1) ++ out.getD (t - 1) tz :: (out.drop (t - 1) ++ zs) := by
  rw [List.set_append_right _ _ (by simp; omega), List.length_take, show t - min t out.length = 0 by omega, List.set_cons_zero]
  obtain ⟨m, rfl⟩ : ∃ m, t = m + 1 := ⟨t - 1, by omega⟩
  have hm : m < out.length := by omega
  rw [Nat.add_sub_cancel, show out.getD m tz = out[m] by simp [List.getD, hm], List.take_succ_eq_append_getElem hm, List.drop_eq_getElem_cons hm, List.append_assoc]
  rfl

theorem tsk_place {out zs : List Tsk} {t : Nat} {j x : Tsk} (h1 : t ≤ out.length) :
    (out.take t ++ j :: (out.drop t ++ zs)).set t x = out.take t ++ x :: (out.drop t ++ zs) := by
  rw [List.set_append_right _ _ (by simp; omega), List.length_take, show t - min t out.length = 0 by omega, List.set_cons_zero]

theorem tsk_read {out zs : List Tsk} {t : Nat} {j : Tsk} (h0 : 0 < t) (h1 : t ≤ out.length) : (out.take t ++ j :: (out.drop t ++ zs)).getD (t - 1) tz = out.getD (t - 1) tz := by
  simp only [List.getD, List.getElem?_append]
  rw [if_pos (by simp; omega), List.getElem?_take, if_pos (by omega)]

theorem tsk_rowlen {out zs : List Tsk} {t : Nat} {j : Tsk} (h1 : t ≤ out.length) : (out.take t ++ j :: (out.drop t ++ zs)).length = out.length + 1 + zs.length := by
  simp; omega

theorem tsk_start {out : List Tsk} {n k : Nat} (hk : k < n) (hl : out.length = k) : out ++ List.replicate (n - k) tz = out.take k ++ tz :: (out.drop k ++ List.replicate (n - (k + 1)) tz) := by
  rw [show n - k = (n - (k + 1)) + 1 by omega, List.replicate_succ, List.take_of_length_le (by omega), List.drop_eq_nil_of_le (by omega)]
  rfl

/-- The end of a round: the new one has been put in. -/
theorem tsk_put {out L : List Tsk} {len k t : Nat} {j x : Tsk} (ho : out = sortT L k) (hx : x = L.getD k tz) (ht : t ≤ k) (hp : posT x.i out k = t) :
    (out.take t ++ j :: (out.drop t ++ List.replicate (len - (k + 1)) tz)).set t x = sortT L (k + 1) ++ List.replicate (len - (k + 1)) tz := by
  have hl : out.length = k := by rw [ho]; exact sortT_len L k
  rw [tsk_place (by omega), sortT, insT, ← ho, ← hx, hl, hp, List.append_assoc]
  rfl

/-- The closure of impl.Created. -/
theorem lessT_any (i v s h i' v' s' h' : Int) (w : World) :
    Calls Try.prog 36 #[tk i v s h, tk i' v' s' h'] w fun e w' => e = .returned (.bool (decide (i < i'))) ∧ Below w.heap.size w w' := by
  by_cases hl : i < i'
  · have hd : decide (i < i') = true := decide_eq_true hl
    rw [hd]
    go_enter Try.func36, Try.ntmps36
    go_wp2_with fail
    go_ret
    refine ⟨rfl, ?_⟩
    go_grown
  · have hd : decide (i < i') = false := decide_eq_false hl
    rw [hd]
    go_enter Try.func36, Try.ntmps36
    go_wp2_with fail
    go_ret
    refine ⟨rfl, ?_⟩
    go_grown

end Go.Proofs.Ytfmcnamjhnnimaa.Crew
