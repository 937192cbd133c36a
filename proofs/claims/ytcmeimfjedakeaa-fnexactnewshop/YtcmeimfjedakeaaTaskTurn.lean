/-
  spec.Changed, Weighed and ReadyOf at every list of tasks. (Written by wip/tools/gen_taskturn.py.)
-/
import Derived.Test.YtcmeimfjedakeaaTaskMake
namespace Go.Proofs.Ytcmeimfjedakeaa.Crew
open Go.ChangeShapes Go.WideShapes Go.ChangeAt Go.RowKit

theorem findT_is (xs : List Tsk) (id : Int) : findT xs id = -1 ∨ ∃ j : Nat, findT xs id = j ∧ j < xs.length := by
  rw [findT]
  split
  · rename_i h
    exact .inr ⟨_, rfl, h⟩
  · exact .inl rfl

/-- The one of that Id. -/
def theT (xs : List Tsk) (id : Int) : Tsk := xs.getD (findT xs id).toNat tz

def chOk (xs : List Tsk) (st : Int) : Bool := tasksOk xs && within st 1 3

def chC (xs : List Tsk) (id st : Int) : Int := if chOk xs st then (if findT xs id < 0 then 2 else if (theT xs id).s = st ∨ (theT xs id).s = 3 then 4 else 0) else 1

def chL (xs : List Tsk) (id st : Int) : List Tsk := if chC xs id st = 0 then xs.set (findT xs id).toNat { theT xs id with s := st } else asIs xs

def wgOk (xs : List Tsk) (wt : Int) : Bool := tasksOk xs && within wt 1 1000000

def wgC (xs : List Tsk) (id wt : Int) : Int := if wgOk xs wt then (if findT xs id < 0 then 2 else if (theT xs id).s = 3 then 4 else 0) else 1

def wgL (xs : List Tsk) (id wt : Int) : List Tsk := if wgC xs id wt = 0 then xs.set (findT xs id).toNat { theT xs id with w := wt } else asIs xs

/-- The Ids of those that are ready, among the first k. -/
def rdyTo (xs : List Tsk) : Nat → List Int
  | 0 => []
  | k + 1 => if (xs.getD k tz).s = 1 then rdyTo xs k ++ [(xs.getD k tz).i] else rdyTo xs k

def rdyL (xs : List Tsk) : List Int := if tasksOk xs then rdyTo xs xs.length else []

theorem rdyTo_len (xs : List Tsk) (k : Nat) : (rdyTo xs k).length ≤ k := by
  induction k with
  | zero => exact Nat.le_refl _
  | succ k ih =>
    rw [rdyTo]
    split
    · rw [List.length_append]; simp; omega
    · omega

set_option maxRecDepth 100000 in
/-- spec.ReadyOf at every list of tasks. -/
theorem specReadyOf (a : Option Addr) (len cap : Nat) (ps : List Tsk) (w : World) (I : Tsks w a len ps) (hs : (len : Int) ≤ 1048576) :
    Calls Try.prog 21 #[.slice a len cap] w fun e w' => ∃ g n c : Nat, e = .returned (.slice (some ⟨g, 0, none⟩) n c) ∧ Fit w' w.heap.size (some ⟨g, 0, none⟩) n c (rdyL ps) ∧ Below w.heap.size w w' := by
  obtain ⟨i0, hi, hz0, hz1, hz2⟩ := info_parts info_int
  have HI : Hid (Tsks w a len ps) := I
  have HL : Hid (ps.length = len) := I.1
  have R0 : Hid (Row (w.alloc (.cells #[] 2)) w.heap.size 0 [] ∧ Below w.heap.size w (w.alloc (.cells #[] 2))) := ⟨row_nil w, below_new _ _⟩
  have hz : (w.alloc (.cells #[] 2)).heap.size = w.heap.size + 1 := by simp
  clear I
  cases hk : tasksOk ps
  · have HK : Hid (tasksOk ps = false ∧ rdyL ps = []) := ⟨hk, by rw [rdyL, hk]; rfl⟩
    clear hk
    go_enter Try.func21, Try.ntmps21
    go_wp2_with fail
    refine (specTasksOk a len cap ps _ (HI.out.kept R0.out.2) hs).mono ?_
    rw [HK.out.1]
    rintro e w1 ⟨rfl, B1⟩
    have H1 : Hid (Row w1 w.heap.size 0 [] ∧ Below w.heap.size w w1) := ⟨R0.out.1.all B1, below_call R0.out.2 R0.out.2.size B1⟩
    clear B1
    go_wp2_with fail
    go_ret
    exact ⟨w.heap.size, 0, 0, rfl, by rw [HK.out.2]; exact H1.out.1.fit (Nat.le_refl _) rfl, H1.out.2⟩
  · have HK : Hid (tasksOk ps = true ∧ rdyL ps = rdyTo ps len) := ⟨hk, by rw [rdyL, hk, HL.out]; rfl⟩
    clear hk
    go_enter Try.func21, Try.ntmps21
    go_wp2_with fail
    refine (specTasksOk a len cap ps _ (HI.out.kept R0.out.2) hs).mono ?_
    rw [HK.out.1]
    rintro e w1 ⟨rfl, B1⟩
    have H1 : Hid (Row w1 w.heap.size 0 [] ∧ Below w.heap.size w w1) := ⟨R0.out.1.all B1, below_call R0.out.2 R0.out.2.size B1⟩
    clear B1 R0
    go_wp2_with fail
    go_loopw [3, 4] (fun q i wr => ∃ k m g c : Nat, k ≤ len ∧ i = .int .i64 k ∧ q = .slice (some ⟨g, 0, none⟩) m c ∧ Hid ((rdyTo ps k).length = m ∧ Row wr g c (rdyTo ps k) ∧ w.heap.size ≤ g ∧ Below w.heap.size w wr)) (fun _ i _ => len - (intOf i).toNat)
    case atStart => exact ⟨0, 0, w.heap.size, 0, Nat.zero_le _, rfl, rfl, rfl, H1.out.1, Nat.le_refl _, H1.out.2⟩
    case round =>
      obtain ⟨k, m, g, c, hkl, rfl, rfl, R⟩ := hrel
      by_cases hlt : k < len
      · obtain ⟨_, h0 | ⟨b, off, rfl, hb, hc⟩⟩ := tsks_parts (HI.out.kept R.out.2.2.2)
        · omega
        obtain ⟨c0, _, c2, _⟩ := hc k hlt
        obtain ⟨x, hx⟩ : ∃ x, x = (ps.getD k tz).i := ⟨_, rfl⟩
        obtain ⟨y, hy⟩ : ∃ y, y = (ps.getD k tz).s := ⟨_, rfl⟩
        rw [← hx] at c0
        rw [← hy] at c2
        have hlt' : (k : Int) < (len : Int) := by omega
        have HX : Hid (x = (ps.getD k tz).i ∧ y = (ps.getD k tz).s) := ⟨hx, hy⟩
        have hm := rdyTo_len ps k
        rw [R.out.1] at hm
        clear hc hx hy
        by_cases hy1 : y = 1
        · have HA : Hid (rdyTo ps (k + 1) = rdyTo ps k ++ [x]) := by show _ = _; rw [rdyTo, ← HX.out.1, ← HX.out.2, if_pos hy1]
          have hb1 : (y == (1 : Int)) = true := by simp [hy1]
          clear hy1
          go_wp2_with (at_builtin; refine wpList_append_ints rfl (.tmp 22) (.tmp 28) 23 rfl i0 Try.underlying23 hi hz0 hz1 hz2 _ _ _ (rdyTo ps k) rfl R.out.1.symm (R.out.2.1.alloc _) _ _ _ [x] rfl (ints_one _ _ _) (by rw [R.out.1]; omega) ?_)
          intro g4 c4 w4 R4 G4 D4
          have R5 : Hid ((rdyTo ps (k + 1)).length = m + 1 ∧ Row w4 g4 c4 (rdyTo ps (k + 1)) ∧ w.heap.size ≤ g4 ∧ Below w.heap.size w w4) := by
            have h1 := R.out.2.2.1
            have h2 := R.out.2.2.2.size
            rw [HA.out]
            exact ⟨by rw [List.length_append, R.out.1]; rfl, R4, by first | omega | (simp at D4; omega), (R.out.2.2.2.alloc h2 _).grown G4 (by simp; omega) (fun i hi => by cases hi; exact h1)⟩
          clear R4 G4 D4
          go_wp2_with fail
          go_roundw
          case rel => exact ⟨k + 1, m + 1, g4, c4, by omega, by go_num, rfl, R5⟩
          case measure => simp [intOf]; omega
        · have HA : Hid (rdyTo ps (k + 1) = rdyTo ps k) := by show _ = _; rw [rdyTo, ← HX.out.2, if_neg hy1]
          have hb1 : (y == (1 : Int)) = false := by simpa using hy1
          clear hy1
          go_wp2_with fail
          go_roundw
          case rel => exact ⟨k + 1, m, g, c, by omega, by go_num, rfl, by rw [HA.out]; exact R⟩
          case measure => simp [intOf]; omega
      · have hlt' : ¬ (k : Int) < (len : Int) := by omega
        have he : k = len := by omega
        subst he
        go_wp2_with fail
        go_ret
        exact ⟨g, m, c, rfl, by rw [HK.out.2]; exact R.out.2.1.fit R.out.2.2.1 R.out.1, R.out.2.2.2⟩

end Go.Proofs.Ytcmeimfjedakeaa.Crew
