/-
  impl.Overlaps, at every argument; the window's own method.
-/
import Derived.Test.YtjhenfdmbagaiaaGreatWinFace
namespace Go.Proofs.YtjhenfdmbagaiaaGreat.Win
open Go.ChangeShapes Go.WideShapes Go.ChangeAt Go.RowKit Go.Proofs.YtjhenfdmbagaiaaGreat.Crew

theorem up_int (x n : Int) (x0 : 0 ≤ x) (hn : 1 ≤ n) : (x + n - 1) / n = if x % n = 0 then x / n else x / n + 1 := by
  obtain ⟨x, rfl⟩ := Int.eq_ofNat_of_zero_le x0
  obtain ⟨n, rfl⟩ := Int.eq_ofNat_of_zero_le (by omega : 0 ≤ n)
  have e : (x : Int) + (n : Int) - 1 = ((x + n - 1 : Nat) : Int) := by omega
  rw [e, ← Int.natCast_ediv, up_nat x n (by omega), ← Int.natCast_ediv, ← Int.natCast_emod]
  by_cases h : 0 < x % n
  · rw [if_pos h, if_neg (by omega)]; rfl
  · rw [if_neg h, if_pos (by omega)]

theorem over_cmp (n d j : Int) (hn : 1 ≤ n) (x0 : 0 ≤ j * d) : (j * d / n < (j * d + n - 1) / n) ↔ ¬ j * d % n = 0 := by
  rw [up_int _ _ x0 hn]
  by_cases h : j * d % n = 0
  · simp [h]
  · rw [if_neg h]
    constructor
    · intro _; exact h
    · intro _; omega

theorem win_load {w : World} {g : Nat} {j : Int} {t : TypeId} (x : Kin (w.alloc (.cells #[.pointer (some ⟨g, 0, none⟩), .int .i64 j] t))) :
    x.u.cell? ⟨w.heap.size, 0, none⟩ = some (.pointer (some ⟨g, 0, none⟩)) ∧ x.u.cell? ⟨w.heap.size, 1, none⟩ = some (.int .i64 j) := by
  refine ⟨x.cell (by simp) ?_, x.cell (by simp) ?_⟩
  · rw [World.cell?_alloc_at _ _ _ _ rfl]; rfl
  · rw [World.cell?_alloc_at _ _ _ _ rfl]; rfl

/-- Does the next turn begin ahead of when this one is due? -/
def overB (n d j : Int) : Bool := decide (¬ j * d % n = 0)

theorem over_lt (n d j : Int) (h : turnOk n d j = true) : decide (j * d / n < (j * d + n - 1) / n) = overB n d j := by
  obtain ⟨n1, n2, d2, j1, j2⟩ := turn_yes h
  have m0 := (mul_bd (j := j) (d := d) (by omega) (by omega) (by omega) d2).1
  unfold overB
  exact decide_eq_decide.2 (over_cmp n d j n1 m0)

theorem overV_B {n d j : Int} (h : turnOk n d j = true) : overV n d j = if overB n d j then 1 else 0 := by
  rw [overV_yes h, overB]
  by_cases hz : j * d % n = 0
  · rw [if_pos hz]; simp [hz]
  · rw [if_neg hz]; simp [hz]

theorem over_at (n d j : Int) (g : Nat) (h : turnOk n d j = true) (w : World) (B : Box w g n d) :
    Calls Tryz.prog 93 #[.agg #[.pointer (some ⟨g, 0, none⟩), .int .i64 j]] w fun e w' => e = .returned (.bool (overB n d j)) ∧ Below w.heap.size w w' := by
  obtain ⟨b, hb⟩ : ∃ b, b = overB n d j := ⟨_, rfl⟩
  rw [← hb]
  rw [← over_lt n d j h] at hb
  obtain ⟨q, hq⟩ : ∃ q, q = j * d / n := ⟨_, rfl⟩
  obtain ⟨p, hp⟩ : ∃ p, p = (j * d + n - 1) / n := ⟨_, rfl⟩
  rw [← hq, ← hp] at hb
  have H : Hid (turnOk n d j = true ∧ q = j * d / n ∧ p = (j * d + n - 1) / n) := ⟨h, hq, hp⟩
  have HB : Hid (Box w g n d) := B
  have HE : Hid (b = decide (q < p)) := hb
  clear h hq hp B hb
  have R : Hid (∀ g w, Box w g n d → Calls Tryz.prog 80 #[.agg #[.pointer (some ⟨g, 0, none⟩), .int .i64 (j + 1)]] w fun e w' => e = .returned (.int .i64 q) ∧ Below w.heap.size w w') := by
    intro g w B
    have T := turn_yes H.out.1
    refine (ready_at n d (j + 1) g T.1 T.2.1 T.2.2.1 (by omega) (by omega) w B).mono ?_
    rintro e w' ⟨rfl, b⟩
    exact ⟨ret_i (by rw [H.out.2.1, Int.add_sub_cancel]), b⟩
  have D : Hid (∀ g w, Box w g n d → Calls Tryz.prog 96 #[.agg #[.pointer (some ⟨g, 0, none⟩), .int .i64 j]] w fun e w' => e = .returned (.int .i64 p) ∧ Below w.heap.size w w') := by
    intro g w B
    have T := turn_yes H.out.1
    refine (due_at n d j g T.1 T.2.1 T.2.2.1 T.2.2.2.1 T.2.2.2.2 w B).mono ?_
    rintro e w' ⟨rfl, b⟩
    exact ⟨ret_i H.out.2.2.symm, b⟩
  have N : Hid (∀ g w, Calls Tryz.prog 112 #[.agg #[.pointer (some ⟨g, 0, none⟩), .int .i64 j]] w fun e w' => e = .returned (.agg #[.pointer (some ⟨g, 0, none⟩), .int .i64 (j + 1)]) ∧ Below w.heap.size w w') := by
    intro g w
    have T := turn_yes H.out.1
    exact next_at g j T.2.2.2.1 T.2.2.2.2 w
  go_enter Tryz.func93, Tryz.ntmps93
  go_wp2_with fail
  have c0 := fun x => (win_load (w := w) (g := g) (t := 101) (j := j) x).1
  have c1 := fun x => (win_load (w := w) (g := g) (t := 101) (j := j) x).2
  have KB : Hid (∀ x : Kin (w.alloc (.cells #[.pointer (some ⟨g, 0, none⟩), .int .i64 j] 101)), Box x.u g n d) := fun x => (HB.out.alloc _).kept x.b (by have := HB.out.1; simp; omega)
  refine wp_region_kin (by kernel_rfl) (by kernel_rfl) (fun hne => ?_)
  repeat (go_big_quiet_step ((first | (go_at_call 112; exact kin_calls (N.out _ _)) | (go_at_call 80; exact kin_calls (R.out _ _ (KB.out _))) | (go_at_call 96; exact kin_calls (D.out _ _ (KB.out _))))))
  refine wpQuiet_nil ?_
  rintro _ ⟨x, rfl⟩
  have bx : Below w.heap.size w x.u := ((Below.refl _ w).alloc (Nat.le_refl _) _).trans (x.b.mono (by simp))
  clear c0 c1 KB hne
  go_wp2_with fail
  go_ret
  rw [HE.out]
  exact ⟨rfl, bx⟩

end Go.Proofs.YtjhenfdmbagaiaaGreat.Win
