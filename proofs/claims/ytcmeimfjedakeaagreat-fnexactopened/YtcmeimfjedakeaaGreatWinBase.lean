/-
  Windows: is a share right, and when each of its turns is ready and due. spec's answers, at every argument.
-/
import Derived.Test.YtcmeimfjedakeaaGreatInBase
import Derived.Handy
namespace Go.Proofs.YtcmeimfjedakeaaGreat.Win
open Go.ChangeShapes Go.WideShapes Go.ChangeAt Go.RowKit Go.Proofs.YtcmeimfjedakeaaGreat.Crew

def shareOk (n d : Int) : Bool := within d 1 100000000 && within n 1 d

def turnOk (n d j : Int) : Bool := shareOk n d && within j 1 1000000

def readyV (n d j : Int) : Int := if turnOk n d j then (j - 1) * d / n else -1

def dueV (n d j : Int) : Int := if turnOk n d j then (j * d + n - 1) / n else -1

def overV (n d j : Int) : Int := if turnOk n d j then (if j * d % n = 0 then 0 else 1) else -1

/-- A Share as a value. -/
abbrev sh (n d : Int) : Value := .agg #[.int .i64 n, .int .i64 d]

/-- A Share in a block of its own. -/
def Box (w : World) (b : Nat) (n d : Int) : Prop := b < w.heap.size ∧ w.cell? ⟨b, 0, none⟩ = some (.int .i64 n) ∧ w.cell? ⟨b, 1, none⟩ = some (.int .i64 d)

theorem Box.kept {w w' : World} {b B : Nat} {n d : Int} (h : Box w b n d) (k : Below B w w') (hb : b < B) : Box w' b n d :=
  ⟨Nat.lt_of_lt_of_le h.1 k.size, (k.cell hb).trans h.2.1, (k.cell hb).trans h.2.2⟩

theorem box_new (w : World) (n d : Int) (t : TypeId) : Box (w.alloc (.cells #[.int .i64 n, .int .i64 d] t)) w.heap.size n d := by
  refine ⟨by simp, ?_, ?_⟩
  · rw [cell_of_row _ w.heap.size _ _ _ _ (heap_alloc_new w _)]; rfl
  · rw [cell_of_row _ w.heap.size _ _ _ _ (heap_alloc_new w _)]; rfl

theorem box_at (w : World) (n d : Int) (t : TypeId) {g : Nat} (h : g = w.heap.size) : Box (w.alloc (.cells #[.int .i64 n, .int .i64 d] t)) g n d := by
  subst h
  exact box_new w n d t

theorem box_call {w w' : World} {n d : Int} {t : TypeId} (k : Below (w.alloc (.cells #[.int .i64 n, .int .i64 d] t)).heap.size (w.alloc (.cells #[.int .i64 n, .int .i64 d] t)) w') : Box w' w.heap.size n d :=
  (box_new w n d t).kept k (by simp)

theorem specShareOk (n d : Int) (w : World) :
    Calls Tryz.prog 167 #[sh n d] w fun e w' => e = .returned (.bool (shareOk n d)) ∧ Below w.heap.size w w' := by
  unfold shareOk
  cases h1 : within d 1 100000000 <;> cases h2 : within n 1 d
  all_goals
    go_enter Tryz.func167, Tryz.ntmps167
    go_wp2_with fail
    refine (in_any _ _ _ _).mono ?_
    rintro e w1 ⟨rfl, rfl⟩
    rw [h1]
  · go_wp2_with fail
    go_ret
    exact ⟨rfl, (Below.refl _ _).alloc (Nat.le_refl _) _⟩
  · go_wp2_with fail
    go_ret
    exact ⟨rfl, (Below.refl _ _).alloc (Nat.le_refl _) _⟩
  · go_wp2_with fail
    refine (in_any _ _ _ _).mono ?_
    rintro e w1 ⟨rfl, rfl⟩
    rw [h2]
    go_wp2_with fail
    go_ret
    exact ⟨rfl, (Below.refl _ _).alloc (Nat.le_refl _) _⟩
  · go_wp2_with fail
    refine (in_any _ _ _ _).mono ?_
    rintro e w1 ⟨rfl, rfl⟩
    rw [h2]
    go_wp2_with fail
    go_ret
    exact ⟨rfl, (Below.refl _ _).alloc (Nat.le_refl _) _⟩

theorem toShare_any (n d : Int) (w : World) :
    Calls Tryz.prog 155 #[sh n d] w fun e w' => e = .returned (sh n d) ∧ Below w.heap.size w w' := by
  go_enter Tryz.func155, Tryz.ntmps155
  go_wp2_with fail
  go_returns
  refine ⟨rfl, ?_⟩
  go_grown

theorem specTurn (n d j : Int) (w : World) :
    Calls Tryz.prog 187 #[sh n d, .int .i64 j] w fun e w' => e = .returned (.bool (turnOk n d j)) ∧ Below w.heap.size w w' := by
  unfold turnOk
  cases h1 : shareOk n d
  · go_enter Tryz.func187, Tryz.ntmps187
    go_wp2_with fail
    refine (specShareOk n d _).mono ?_
    rintro e w1 ⟨rfl, b1⟩
    rw [h1]
    go_wp2_with fail
    go_ret
    exact ⟨rfl, ((Below.refl _ w).alloc (Nat.le_refl _) _).trans (b1.mono (by simp))⟩
  · cases h2 : within j 1 1000000
    all_goals
      go_enter Tryz.func187, Tryz.ntmps187
      go_wp2_with fail
      refine (specShareOk n d _).mono ?_
      rintro e w1 ⟨rfl, b1⟩
      rw [h1]
      go_wp2_with fail
      refine (in_any _ _ _ _).mono ?_
      rintro e w2 ⟨rfl, rfl⟩
      rw [h2]
      go_wp2_with fail
      go_ret
      exact ⟨rfl, ((Below.refl _ w).alloc (Nat.le_refl _) _).trans (b1.mono (by simp))⟩

theorem share_yes {n d : Int} (h : shareOk n d = true) : 1 ≤ n ∧ n ≤ d ∧ d ≤ 100000000 := by
  unfold shareOk at h
  rw [Bool.and_eq_true] at h
  have h1 := within_yes h.1
  have h2 := within_yes h.2
  omega

theorem turn_yes {n d j : Int} (h : turnOk n d j = true) : 1 ≤ n ∧ n ≤ d ∧ d ≤ 100000000 ∧ 1 ≤ j ∧ j ≤ 1000000 := by
  unfold turnOk at h
  rw [Bool.and_eq_true] at h
  have h1 := share_yes h.1
  have h2 := within_yes h.2
  omega

theorem mul_bd {j d : Int} (h0 : 0 ≤ j) (h1 : j ≤ 1000000) (d0 : 0 ≤ d) (d1 : d ≤ 100000000) : 0 ≤ j * d ∧ j * d ≤ 100000000000000 := by
  refine ⟨Int.mul_nonneg h0 d0, ?_⟩
  have := Int.mul_le_mul h1 d1 d0 (by omega)
  omega

theorem readyV_yes {n d j : Int} (h : turnOk n d j = true) : readyV n d j = (j - 1) * d / n := by rw [readyV, h, if_pos rfl]
theorem readyV_no {n d j : Int} (h : turnOk n d j = false) : readyV n d j = -1 := by rw [readyV, h]; rfl
theorem dueV_yes {n d j : Int} (h : turnOk n d j = true) : dueV n d j = (j * d + n - 1) / n := by rw [dueV, h, if_pos rfl]
theorem dueV_no {n d j : Int} (h : turnOk n d j = false) : dueV n d j = -1 := by rw [dueV, h]; rfl
theorem overV_yes {n d j : Int} (h : turnOk n d j = true) : overV n d j = (if j * d % n = 0 then 0 else 1) := by rw [overV, h, if_pos rfl]
theorem overV_no {n d j : Int} (h : turnOk n d j = false) : overV n d j = -1 := by rw [overV, h]; rfl

theorem specReadyIn (n d j : Int) (h : turnOk n d j = true) (w : World) :
    Calls Tryz.prog 178 #[sh n d, .int .i64 j] w fun e w' => e = .returned (.int .i64 (readyV n d j)) ∧ Below w.heap.size w w' := by
  rw [readyV_yes h]
  obtain ⟨n1, n2, d2, j1, j2⟩ := turn_yes h
  obtain ⟨m0, m1⟩ := mul_bd (j := j - 1) (d := d) (by omega) (by omega) (by omega) d2
  clear h
  have hn : ¬ n = 0 := by omega
  go_enter Tryz.func178, Tryz.ntmps178
  go_wp2_with fail
  go_ret
  exact ⟨rfl, ((Below.refl _ w).alloc (Nat.le_refl _) _)⟩

theorem up_any (a b : Int) (a0 : 0 ≤ a) (a1 : a ≤ 100000000000000) (b0 : 1 ≤ b) (b1 : b ≤ 100000000) (w : World) :
    Calls Tryz.prog 186 #[.int .i64 a, .int .i64 b] w fun e w' => e = .returned (.int .i64 ((a + b - 1) / b)) ∧ w' = w := by
  have hn : ¬ b = 0 := by omega
  go_enter Tryz.func186, Tryz.ntmps186
  go_wp2_with fail
  go_ret
  exact ⟨rfl, rfl⟩

theorem specDueIn (n d j : Int) (h : turnOk n d j = true) (w : World) :
    Calls Tryz.prog 182 #[sh n d, .int .i64 j] w fun e w' => e = .returned (.int .i64 (dueV n d j)) ∧ Below w.heap.size w w' := by
  rw [dueV_yes h]
  obtain ⟨n1, n2, d2, j1, j2⟩ := turn_yes h
  obtain ⟨m0, m1⟩ := mul_bd (j := j) (d := d) (by omega) (by omega) (by omega) d2
  clear h
  go_enter Tryz.func182, Tryz.ntmps182
  go_wp2_with fail
  refine (up_any _ _ m0 m1 n1 (by omega) _).mono ?_
  rintro e w1 ⟨rfl, rfl⟩
  go_wp2_with fail
  go_ret
  exact ⟨rfl, ((Below.refl _ w).alloc (Nat.le_refl _) _)⟩

theorem specOver (n d j : Int) (w : World) :
    Calls Tryz.prog 183 #[sh n d, .int .i64 j] w fun e w' => e = .returned (.int .i64 (overV n d j)) ∧ Below w.heap.size w w' := by
  cases h : turnOk n d j
  · rw [overV_no h]
    go_enter Tryz.func183, Tryz.ntmps183
    go_wp2_with fail
    refine (specTurn n d j _).mono ?_
    rintro e w1 ⟨rfl, b1⟩
    rw [h]
    go_wp2_with fail
    go_ret
    exact ⟨rfl, ((Below.refl _ w).alloc (Nat.le_refl _) _).trans (b1.mono (by simp))⟩
  · rw [overV_yes h]
    obtain ⟨n1, n2, d2, j1, j2⟩ := turn_yes h
    obtain ⟨m0, m1⟩ := mul_bd (j := j) (d := d) (by omega) (by omega) (by omega) d2
    have hn : ¬ n = 0 := by omega
    by_cases hz : j * d % n = 0
    · rw [if_pos hz]
      go_enter Tryz.func183, Tryz.ntmps183
      go_wp2_with fail
      refine (specTurn n d j _).mono ?_
      rintro e w1 ⟨rfl, b1⟩
      rw [h]
      clear h
      obtain ⟨k0, k1, k2⟩ := box_call b1
      have b1' : Below w.heap.size w w1 := ((Below.refl _ w).alloc (Nat.le_refl _) _).trans (b1.mono (by simp))
      go_wp2_with fail
      go_ret
      exact ⟨rfl, b1'⟩
    · rw [if_neg hz]
      go_enter Tryz.func183, Tryz.ntmps183
      go_wp2_with fail
      refine (specTurn n d j _).mono ?_
      rintro e w1 ⟨rfl, b1⟩
      rw [h]
      clear h
      obtain ⟨k0, k1, k2⟩ := box_call b1
      have b1' : Below w.heap.size w w1 := ((Below.refl _ w).alloc (Nat.le_refl _) _).trans (b1.mono (by simp))
      go_wp2_with fail
      go_ret
      exact ⟨rfl, b1'⟩

/-- impl.ShareOk, the world written out: one new block. -/
theorem implShareOkX (n d : Int) (w : World) :
    Calls Tryz.prog 239 #[sh n d] w fun e w' => e = .returned (.bool (shareOk n d)) ∧ w' = w.alloc (.cells #[.int .i64 n, .int .i64 d] 122) := by
  by_cases h1 : 1 ≤ d
  · by_cases h2 : d ≤ 100000000
    · by_cases h3 : 1 ≤ n
      · by_cases h4 : n ≤ d
        · have e : shareOk n d = true := by simp [shareOk, within]; omega
          rw [e]
          clear e
          go_enter Tryz.func239, Tryz.ntmps239
          go_wp2_with fail
          go_ret
          exact ⟨rfl, rfl⟩
        · have e : shareOk n d = false := by simp [shareOk, within]; omega
          rw [e]
          clear e
          have hd : decide (n ≤ d) = false := by simp; omega
          go_enter Tryz.func239, Tryz.ntmps239
          go_wp2_with fail
          go_ret
          exact ⟨rfl, rfl⟩
      · have e : shareOk n d = false := by simp [shareOk, within]; omega
        rw [e]
        clear e
        have hd : decide (1 ≤ n) = false := by simp; omega
        go_enter Tryz.func239, Tryz.ntmps239
        go_wp2_with fail
        go_ret
        exact ⟨rfl, rfl⟩
    · have e : shareOk n d = false := by simp [shareOk, within]; omega
      rw [e]
      clear e
      have hd : decide (d ≤ 100000000) = false := by simp; omega
      go_enter Tryz.func239, Tryz.ntmps239
      go_wp2_with fail
      go_ret
      exact ⟨rfl, rfl⟩
  · have e : shareOk n d = false := by simp [shareOk, within]; omega
    rw [e]
    clear e
    have hd : decide (1 ≤ d) = false := by simp; omega
    go_enter Tryz.func239, Tryz.ntmps239
    go_wp2_with fail
    go_ret
    exact ⟨rfl, rfl⟩

theorem implShareOk (n d : Int) (w : World) :
    Calls Tryz.prog 239 #[sh n d] w fun e w' => e = .returned (.bool (shareOk n d)) ∧ Below w.heap.size w w' := by
  refine (implShareOkX n d w).mono ?_
  rintro e w' ⟨rfl, rfl⟩
  exact ⟨rfl, (Below.refl _ _).alloc (Nat.le_refl _) _⟩

end Go.Proofs.YtcmeimfjedakeaaGreat.Win
