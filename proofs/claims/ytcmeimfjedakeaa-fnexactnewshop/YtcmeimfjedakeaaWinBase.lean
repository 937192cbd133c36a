/-
  Windows: is a share right, and when each of its turns is ready and due. spec's answers, at every argument.
-/
import Derived.Test.YtcmeimfjedakeaaInBase
import Derived.Handy
namespace Go.Proofs.Ytcmeimfjedakeaa.Win
open Go.ChangeShapes Go.WideShapes Go.ChangeAt Go.RowKit Go.Proofs.Ytcmeimfjedakeaa.Crew

def shareOk (n d : Int) : Bool := within d 1 100000000 && within n 1 d

def turnOk (n d j : Int) : Bool := shareOk n d && within j 1 1000000

def readyV (n d j : Int) : Int := if turnOk n d j then (j - 1) * d / n else -1

def dueV (n d j : Int) : Int := if turnOk n d j then (j * d + n - 1) / n else -1

def overV (n d j : Int) : Int := if turnOk n d j then (if j * d % n = 0 then 0 else 1) else -1

/-- A Share as a value. -/
abbrev sh (n d : Int) : Value := .agg #[.int .i64 n, .int .i64 d]

/-- A Share in a block of its own. -/
def Box (w : World) (b : Nat) (n d : Int) : Prop := b < w.heap.size ∧ w.cell? ⟨b, 0, none⟩ = some (.int .i64 n) ∧ w.cell? ⟨b, 1, none⟩ = some (.int .i64 d)

theorem Box.kept {w w' : World} {b B : Nat} {n d : Int} (h : Box w b n d) (k : Below B w w') (hb : b < B) : Box w' b n d :=
  ⟨Nat.lt_of_lt_of_le h.1 k.size, (k.cell hb).trans h.2.1, (k.cell hb).trans h.2.2⟩

theorem box_new (w : World) (n d : Int) (t : TypeId) : Box (w.alloc (.cells #[.int .i64 n, .int .i64 d] t)) w.heap.size n d := by
  refine ⟨by simp, ?_, ?_⟩
  · rw [cell_of_row _ w.heap.size _ _ _ _ (heap_alloc_new w _)]; rfl
  · rw [cell_of_row _ w.heap.size _ _ _ _ (heap_alloc_new w _)]; rfl

theorem box_at (w : World) (n d : Int) (t : TypeId) {g : Nat} (h : g = w.heap.size) : Box (w.alloc (.cells #[.int .i64 n, .int .i64 d] t)) g n d := by
  subst h
  exact box_new w n d t

theorem box_call {w w' : World} {n d : Int} {t : TypeId} (k : Below (w.alloc (.cells #[.int .i64 n, .int .i64 d] t)).heap.size (w.alloc (.cells #[.int .i64 n, .int .i64 d] t)) w') : Box w' w.heap.size n d :=
  (box_new w n d t).kept k (by simp)

theorem specShareOk (n d : Int) (w : World) :
    Calls Try.prog 82 #[sh n d] w fun e w' => e = .returned (.bool (shareOk n d)) ∧ Below w.heap.size w w' := by
  unfold shareOk
  cases h1 : within d 1 100000000 <;> cases h2 : within n 1 d
  all_goals
    go_enter Try.func82, Try.ntmps82
    go_wp2_with fail
    refine (in_any _ _ _ _).mono ?_
    rintro e w1 ⟨rfl, rfl⟩
    rw [h1]
  · go_wp2_with fail
    go_ret
    exact ⟨rfl, (Below.refl _ _).alloc (Nat.le_refl _) _⟩
  · go_wp2_with fail
    go_ret
    exact ⟨rfl, (Below.refl _ _).alloc (Nat.le_refl _) _⟩
  · go_wp2_with fail
    refine (in_any _ _ _ _).mono ?_
    rintro e w1 ⟨rfl, rfl⟩
    rw [h2]
    go_wp2_with fail
    go_ret
    exact ⟨rfl, (Below.refl _ _).alloc (Nat.le_refl _) _⟩
  · go_wp2_with fail
    refine (in_any _ _ _ _).mono ?_
    rintro e w1 ⟨rfl, rfl⟩
    rw [h2]
    go_wp2_with fail
    go_ret
    exact ⟨rfl, (Below.refl _ _).alloc (Nat.le_refl _) _⟩

theorem toShare_any (n d : Int) (w : World) :
    Calls Try.prog 79 #[sh n d] w fun e w' => e = .returned (sh n d) ∧ Below w.heap.size w w' := by
  go_enter Try.func79, Try.ntmps79
  go_wp2_with fail
  go_returns
  refine ⟨rfl, ?_⟩
  go_grown

theorem share_yes {n d : Int} (h : shareOk n d = true) : 1 ≤ n ∧ n ≤ d ∧ d ≤ 100000000 := by
  unfold shareOk at h
  rw [Bool.and_eq_true] at h
  have h1 := within_yes h.1
  have h2 := within_yes h.2
  omega

theorem turn_yes {n d j : Int} (h : turnOk n d j = true) : 1 ≤ n ∧ n ≤ d ∧ d ≤ 100000000 ∧ 1 ≤ j ∧ j ≤ 1000000 := by
  unfold turnOk at h
  rw [Bool.and_eq_true] at h
  have h1 := share_yes h.1
  have h2 := within_yes h.2
  omega

theorem mul_bd {j d : Int} (h0 : 0 ≤ j) (h1 : j ≤ 1000000) (d0 : 0 ≤ d) (d1 : d ≤ 100000000) : 0 ≤ j * d ∧ j * d ≤ 100000000000000 := by
  refine ⟨Int.mul_nonneg h0 d0, ?_⟩
  have := Int.mul_le_mul h1 d1 d0 (by omega)
  omega

theorem readyV_yes {n d j : Int} (h : turnOk n d j = true) : readyV n d j = (j - 1) * d / n := by rw [readyV, h, if_pos rfl]
theorem readyV_no {n d j : Int} (h : turnOk n d j = false) : readyV n d j = -1 := by rw [readyV, h]; rfl
theorem dueV_yes {n d j : Int} (h : turnOk n d j = true) : dueV n d j = (j * d + n - 1) / n := by rw [dueV, h, if_pos rfl]
theorem dueV_no {n d j : Int} (h : turnOk n d j = false) : dueV n d j = -1 := by rw [dueV, h]; rfl
theorem overV_yes {n d j : Int} (h : turnOk n d j = true) : overV n d j = (if j * d % n = 0 then 0 else 1) := by rw [overV, h, if_pos rfl]
theorem overV_no {n d j : Int} (h : turnOk n d j = false) : overV n d j = -1 := by rw [overV, h]; rfl

/-- impl.ShareOk, the world written out: one new block. -/
theorem implShareOkX (n d : Int) (w : World) :
    Calls Try.prog 131 #[sh n d] w fun e w' => e = .returned (.bool (shareOk n d)) ∧ w' = w.alloc (.cells #[.int .i64 n, .int .i64 d] 102) := by
  by_cases h1 : 1 ≤ d
  · by_cases h2 : d ≤ 100000000
    · by_cases h3 : 1 ≤ n
      · by_cases h4 : n ≤ d
        · have e : shareOk n d = true := by simp [shareOk, within]; omega
          rw [e]
          clear e
          go_enter Try.func131, Try.ntmps131
          go_wp2_with fail
          go_ret
          exact ⟨rfl, rfl⟩
        · have e : shareOk n d = false := by simp [shareOk, within]; omega
          rw [e]
          clear e
          have hd : decide (n ≤ d) = false := by simp; omega
          go_enter Try.func131, Try.ntmps131
          go_wp2_with fail
          go_ret
          exact ⟨rfl, rfl⟩
      · have e : shareOk n d = false := by simp [shareOk, within]; omega
        rw [e]
        clear e
        have hd : decide (1 ≤ n) = false := by simp; omega
        go_enter Try.func131, Try.ntmps131
        go_wp2_with fail
        go_ret
        exact ⟨rfl, rfl⟩
    · have e : shareOk n d = false := by simp [shareOk, within]; omega
      rw [e]
      clear e
      have hd : decide (d ≤ 100000000) = false := by simp; omega
      go_enter Try.func131, Try.ntmps131
      go_wp2_with fail
      go_ret
      exact ⟨rfl, rfl⟩
  · have e : shareOk n d = false := by simp [shareOk, within]; omega
    rw [e]
    clear e
    have hd : decide (1 ≤ d) = false := by simp; omega
    go_enter Try.func131, Try.ntmps131
    go_wp2_with fail
    go_ret
    exact ⟨rfl, rfl⟩

theorem implShareOk (n d : Int) (w : World) :
    Calls Try.prog 131 #[sh n d] w fun e w' => e = .returned (.bool (shareOk n d)) ∧ Below w.heap.size w w' := by
  refine (implShareOkX n d w).mono ?_
  rintro e w' ⟨rfl, rfl⟩
  exact ⟨rfl, (Below.refl _ _).alloc (Nat.le_refl _) _⟩

end Go.Proofs.Ytcmeimfjedakeaa.Win
