/-
  impl.Overlaps, at every argument.
-/
import Derived.Test.YtppcjcllffkpiaaWinFace
namespace Go.Proofs.Ytppcjcllffkpiaa.Win
open Go.ChangeShapes Go.WideShapes Go.ChangeAt Go.RowKit Go.Proofs.Ytppcjcllffkpiaa.Crew

theorem up_int (x n : Int) (x0 : 0 ≤ x) (hn : 1 ≤ n) : (x + n - 1) / n = if x % n = 0 then x / n else x / n + 1 := by
  obtain ⟨x, rfl⟩ := Int.eq_ofNat_of_zero_le x0
  obtain ⟨n, rfl⟩ := Int.eq_ofNat_of_zero_le (by omega : 0 ≤ n)
  have e : (x : Int) + (n : Int) - 1 = ((x + n - 1 : Nat) : Int) := by omega
  rw [e, ← Int.natCast_ediv, up_nat x n (by omega), ← Int.natCast_ediv, ← Int.natCast_emod]
  by_cases h : 0 < x % n
  · rw [if_pos h, if_neg (by omega)]; rfl
  · rw [if_neg h, if_pos (by omega)]

theorem over_cmp (n d j : Int) (hn : 1 ≤ n) (x0 : 0 ≤ j * d) : (j * d / n < (j * d + n - 1) / n) ↔ ¬ j * d % n = 0 := by
  rw [up_int _ _ x0 hn]
  by_cases h : j * d % n = 0
  · simp [h]
  · rw [if_neg h]
    constructor
    · intro _; exact h
    · intro _; omega

theorem win_load {w : World} {g : Nat} {j : Int} {t : TypeId} (x : Kin (w.alloc (.cells #[.pointer (some ⟨g, 0, none⟩), .int .i64 j] t))) :
    x.u.cell? ⟨w.heap.size, 0, none⟩ = some (.pointer (some ⟨g, 0, none⟩)) ∧ x.u.cell? ⟨w.heap.size, 1, none⟩ = some (.int .i64 j) := by
  refine ⟨x.cell (by simp) ?_, x.cell (by simp) ?_⟩
  · rw [World.cell?_alloc_at _ _ _ _ rfl]; rfl
  · rw [World.cell?_alloc_at _ _ _ _ rfl]; rfl

theorem over_yes (n d j : Int) (h : turnOk n d j = true) (b : Bool) (hb : decide (j * d / n < (j * d + n - 1) / n) = b) (w : World) :
    Calls Try.prog 11 #[sh n d, .int .i64 j] w fun e w' => e = .returned (.int .i64 (if b then 1 else 0)) ∧ Below w.heap.size w w' := by
  obtain ⟨q, hq⟩ : ∃ q, q = j * d / n := ⟨_, rfl⟩
  obtain ⟨p, hp⟩ : ∃ p, p = (j * d + n - 1) / n := ⟨_, rfl⟩
  rw [← hq, ← hp] at hb
  have H : Hid (turnOk n d j = true ∧ q = j * d / n ∧ p = (j * d + n - 1) / n) := ⟨h, hq, hp⟩
  clear h hq hp
  have R : Hid (∀ g w, Box w g n d → Calls Try.prog 20 #[.agg #[.pointer (some ⟨g, 0, none⟩), .int .i64 (j + 1)]] w fun e w' => e = .returned (.int .i64 q) ∧ Below w.heap.size w w') := by
    intro g w B
    have T := turn_yes H.out.1
    refine (ready_at n d (j + 1) g T.1 T.2.1 T.2.2.1 (by omega) (by omega) w B).mono ?_
    rintro e w' ⟨rfl, b⟩
    exact ⟨ret_i (by rw [H.out.2.1, Int.add_sub_cancel]), b⟩
  have D : Hid (∀ g w, Box w g n d → Calls Try.prog 21 #[.agg #[.pointer (some ⟨g, 0, none⟩), .int .i64 j]] w fun e w' => e = .returned (.int .i64 p) ∧ Below w.heap.size w w') := by
    intro g w B
    have T := turn_yes H.out.1
    refine (due_at n d j g T.1 T.2.1 T.2.2.1 T.2.2.2.1 T.2.2.2.2 w B).mono ?_
    rintro e w' ⟨rfl, b⟩
    exact ⟨ret_i H.out.2.2.symm, b⟩
  have N : Hid (∀ g w, Calls Try.prog 22 #[.agg #[.pointer (some ⟨g, 0, none⟩), .int .i64 j]] w fun e w' => e = .returned (.agg #[.pointer (some ⟨g, 0, none⟩), .int .i64 (j + 1)]) ∧ Below w.heap.size w w') := by
    intro g w
    have T := turn_yes H.out.1
    exact next_at g j T.2.2.2.1 T.2.2.2.2 w
  cases b
  all_goals
    go_enter Try.func11, Try.ntmps11
    go_wp2_with fail
    refine (windowOf_yes n d j H.out.1 _).mono ?_
    rintro e w1 ⟨g, rfl, hg, B, b1⟩
    have b1' : Below w.heap.size w w1 := ((Below.refl _ w).alloc (Nat.le_refl _) _).trans (b1.mono (by simp))
    have HB : Hid (Box w1 g n d) := B
    clear B b1
    go_wp2_with fail
    have c0 := fun x => (win_load (w := w1) (g := g) (t := 36) (j := j) x).1
    have c1 := fun x => (win_load (w := w1) (g := g) (t := 36) (j := j) x).2
    have KB : Hid (∀ x : Kin (w1.alloc (.cells #[.pointer (some ⟨g, 0, none⟩), .int .i64 j] 36)), Box x.u g n d) := fun x => (HB.out.alloc _).kept x.b (by have := HB.out.1; simp; omega)
    refine wp_region_kin (by kernel_rfl) (by kernel_rfl) (fun hne => ?_)
    repeat (go_big_quiet_step ((first | (go_at_call 22; exact kin_calls (N.out _ _)) | (go_at_call 20; exact kin_calls (R.out _ _ (KB.out _))) | (go_at_call 21; exact kin_calls (D.out _ _ (KB.out _))))))
    refine wpQuiet_nil ?_
    rintro _ ⟨x, rfl⟩
    have bx : Below w.heap.size w x.u := (b1'.alloc b1'.size _).trans (x.b.mono (Nat.le_trans b1'.size (by simp)))
    clear c0 c1 KB hne
    go_wp2_with fail
    go_ret
    exact ⟨rfl, bx⟩

theorem implOver (n d j : Int) (w : World) :
    Calls Try.prog 11 #[sh n d, .int .i64 j] w fun e w' => e = .returned (.int .i64 (overV n d j)) ∧ Below w.heap.size w w' := by
  cases h : turnOk n d j
  · rw [overV_no h]
    go_enter Try.func11, Try.ntmps11
    go_wp2_with fail
    refine (windowOf_no n d j h _).mono ?_
    rintro e w1 ⟨rfl, b1⟩
    have b1' : Below w.heap.size w w1 := ((Below.refl _ w).alloc (Nat.le_refl _) _).trans (b1.mono (by simp))
    go_wp2_with fail
    go_ret
    exact ⟨rfl, b1'.alloc b1'.size _⟩
  · rw [overV_yes h]
    obtain ⟨n1, n2, d2, j1, j2⟩ := turn_yes h
    have m0 := (mul_bd (j := j) (d := d) (by omega) (by omega) (by omega) d2).1
    have hc := over_cmp n d j n1 m0
    by_cases hz : j * d % n = 0
    · rw [if_pos hz]
      exact over_yes n d j h false (decide_eq_false (fun hl => hc.1 hl hz)) w
    · rw [if_neg hz]
      exact over_yes n d j h true (decide_eq_true (hc.2 hz)) w

end Go.Proofs.Ytppcjcllffkpiaa.Win
