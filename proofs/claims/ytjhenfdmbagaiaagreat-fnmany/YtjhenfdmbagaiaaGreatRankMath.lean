/-
  Chains: is a share heavy, and where a chain of its windows ends. spec's answers, at every argument; impl.HeavyOk.
-/
import Derived.Test.YtjhenfdmbagaiaaGreatWinFace
namespace Go.Proofs.YtjhenfdmbagaiaaGreat.Win
open Go.ChangeShapes Go.WideShapes Go.ChangeAt Go.RowKit Go.Proofs.YtjhenfdmbagaiaaGreat.Crew

def heavyOk (n d : Int) : Bool := shareOk n d && decide (d ≤ 2 * n) && decide (n < d)

def chainX (n d j : Int) : Int := Ratio.ceilV (dueV n d j) (d - n) d

def chainIn (n d j : Int) : Int := if heavyOk n d then Ratio.ceilV (chainX n d j) d (d - n) else 0

def chainV (n d j : Int) : Int := if turnOk n d j then chainIn n d j else -1

theorem heavy_yes {n d : Int} (h : heavyOk n d = true) : shareOk n d = true ∧ d ≤ 2 * n ∧ n < d := by
  simpa [heavyOk, and_assoc] using h

theorem heavy_mk {n d : Int} (h : shareOk n d = true) (h1 : d ≤ 2 * n) (h2 : n < d) : heavyOk n d = true := by
  simp [heavyOk, h, h1, h2]

theorem heavy_not {n d : Int} (h : shareOk n d = false) : heavyOk n d = false := by simp [heavyOk, h]
theorem heavy_light {n d : Int} (h : ¬ d ≤ 2 * n) : heavyOk n d = false := by simp [heavyOk, h]
theorem heavy_whole {n d : Int} (h : ¬ n < d) : heavyOk n d = false := by simp [heavyOk, h]

theorem chainIn_yes {n d j : Int} (h : heavyOk n d = true) : chainIn n d j = Ratio.ceilV (chainX n d j) d (d - n) := by rw [chainIn, h, if_pos rfl]
theorem chainIn_no {n d j : Int} (h : heavyOk n d = false) : chainIn n d j = 0 := by rw [chainIn, h]; rfl
theorem chainV_yes {n d j : Int} (h : turnOk n d j = true) : chainV n d j = chainIn n d j := by rw [chainV, h, if_pos rfl]
theorem chainV_no {n d j : Int} (h : turnOk n d j = false) : chainV n d j = -1 := by rw [chainV, h]; rfl

theorem specHeavy (n d : Int) (w : World) :
    Calls Tryz.prog 103 #[sh n d] w fun e w' => e = .returned (.bool (heavyOk n d)) ∧ Below w.heap.size w w' := by
  cases hs : shareOk n d
  · rw [heavy_not hs]
    go_enter Tryz.func103, Tryz.ntmps103
    go_wp2_with fail
    refine (specShareOk n d _).mono ?_
    rintro e w1 ⟨rfl, b1⟩
    rw [hs]
    have b1' : Below w.heap.size w w1 := ((Below.refl _ w).alloc (Nat.le_refl _) _).trans (b1.mono (by simp))
    go_wp2_with fail
    go_ret
    exact ⟨rfl, b1'⟩
  · obtain ⟨n1, n2, d2⟩ := share_yes hs
    by_cases h1 : d ≤ 2 * n
    · by_cases h2 : n < d
      · rw [heavy_mk hs h1 h2]
        go_enter Tryz.func103, Tryz.ntmps103
        go_wp2_with fail
        refine (specShareOk n d _).mono ?_
        rintro e w1 ⟨rfl, b1⟩
        rw [hs]
        obtain ⟨k0, k1, k2⟩ := box_call b1
        have b1' : Below w.heap.size w w1 := ((Below.refl _ w).alloc (Nat.le_refl _) _).trans (b1.mono (by simp))
        go_wp2_with fail
        go_ret
        exact ⟨rfl, b1'⟩
      · rw [heavy_whole h2]
        have hd : decide (n < d) = false := by simp; omega
        go_enter Tryz.func103, Tryz.ntmps103
        go_wp2_with fail
        refine (specShareOk n d _).mono ?_
        rintro e w1 ⟨rfl, b1⟩
        rw [hs]
        obtain ⟨k0, k1, k2⟩ := box_call b1
        have b1' : Below w.heap.size w w1 := ((Below.refl _ w).alloc (Nat.le_refl _) _).trans (b1.mono (by simp))
        go_wp2_with fail
        go_ret
        exact ⟨rfl, b1'⟩
    · rw [heavy_light h1]
      have hd : decide (d ≤ 2 * n) = false := by simp; omega
      go_enter Tryz.func103, Tryz.ntmps103
      go_wp2_with fail
      refine (specShareOk n d _).mono ?_
      rintro e w1 ⟨rfl, b1⟩
      rw [hs]
      obtain ⟨k0, k1, k2⟩ := box_call b1
      have b1' : Below w.heap.size w w1 := ((Below.refl _ w).alloc (Nat.le_refl _) _).trans (b1.mono (by simp))
      go_wp2_with fail
      go_ret
      exact ⟨rfl, b1'⟩

theorem implHeavy (n d : Int) (w : World) :
    Calls Tryz.prog 94 #[sh n d] w fun e w' => e = .returned (.bool (heavyOk n d)) ∧ Below w.heap.size w w' := by
  cases hs : shareOk n d
  · rw [heavy_not hs]
    go_enter Tryz.func94, Tryz.ntmps94
    go_wp2_with fail
    refine (implShareOk n d _).mono ?_
    rintro e w1 ⟨rfl, b1⟩
    rw [hs]
    have b1' : Below w.heap.size w w1 := ((Below.refl _ w).alloc (Nat.le_refl _) _).trans (b1.mono (by simp))
    go_wp2_with fail
    go_ret
    exact ⟨rfl, b1'⟩
  · obtain ⟨n1, n2, d2⟩ := share_yes hs
    by_cases h1 : d ≤ 2 * n
    · by_cases h2 : n < d
      · rw [heavy_mk hs h1 h2]
        go_enter Tryz.func94, Tryz.ntmps94
        go_wp2_with fail
        refine (implShareOk n d _).mono ?_
        rintro e w1 ⟨rfl, b1⟩
        rw [hs]
        obtain ⟨k0, k1, k2⟩ := box_call b1
        have b1' : Below w.heap.size w w1 := ((Below.refl _ w).alloc (Nat.le_refl _) _).trans (b1.mono (by simp))
        go_wp2_with fail
        go_ret
        exact ⟨rfl, b1'⟩
      · rw [heavy_whole h2]
        have hd : decide (n < d) = false := by simp; omega
        go_enter Tryz.func94, Tryz.ntmps94
        go_wp2_with fail
        refine (implShareOk n d _).mono ?_
        rintro e w1 ⟨rfl, b1⟩
        rw [hs]
        obtain ⟨k0, k1, k2⟩ := box_call b1
        have b1' : Below w.heap.size w w1 := ((Below.refl _ w).alloc (Nat.le_refl _) _).trans (b1.mono (by simp))
        go_wp2_with fail
        go_ret
        exact ⟨rfl, b1'⟩
    · rw [heavy_light h1]
      have hd : decide (d ≤ 2 * n) = false := by simp; omega
      go_enter Tryz.func94, Tryz.ntmps94
      go_wp2_with fail
      refine (implShareOk n d _).mono ?_
      rintro e w1 ⟨rfl, b1⟩
      rw [hs]
      obtain ⟨k0, k1, k2⟩ := box_call b1
      have b1' : Below w.heap.size w w1 := ((Below.refl _ w).alloc (Nat.le_refl _) _).trans (b1.mono (by simp))
      go_wp2_with fail
      go_ret
      exact ⟨rfl, b1'⟩

theorem specCeilB (a b c : Int) (w : World) :
    Calls Tryz.prog 104 #[.int .i64 a, .int .i64 b, .int .i64 c] w fun e w' => e = .returned (.tuple #[.int .i64 (Ratio.ceilV a b c), .bool (Ratio.ceilFits a b c)]) ∧ Below w.heap.size w w' := by
  refine (Ratio.specCeil a b c w).mono ?_
  rintro e w' ⟨rfl, rfl⟩
  exact ⟨rfl, Below.refl _ _⟩

theorem specChainIn (n d j : Int) (h : turnOk n d j = true) (w : World) :
    Calls Tryz.prog 87 #[sh n d, .int .i64 j] w fun e w' => e = .returned (.int .i64 (chainIn n d j)) ∧ Below w.heap.size w w' := by
  have H : Hid (turnOk n d j = true) := h
  clear h
  cases hs : heavyOk n d
  · rw [chainIn_no hs]
    go_enter Tryz.func87, Tryz.ntmps87
    go_wp2_with fail
    refine (specHeavy n d _).mono ?_
    rintro e w1 ⟨rfl, b1⟩
    rw [hs]
    have b1' : Below w.heap.size w w1 := ((Below.refl _ w).alloc (Nat.le_refl _) _).trans (b1.mono (by simp))
    go_wp2_with fail
    go_ret
    exact ⟨rfl, b1'⟩
  · rw [chainIn_yes hs]
    obtain ⟨x, hx⟩ : ∃ x, x = chainX n d j := ⟨_, rfl⟩
    rw [← hx]
    obtain ⟨f, hf⟩ : ∃ f, f = dueV n d j := ⟨_, rfl⟩
    have X : Hid (f = dueV n d j ∧ Ratio.ceilV f (d - n) d = x) := ⟨hf, by rw [hf, hx]; rfl⟩
    have HS : Hid (heavyOk n d = true) := hs
    clear hx hf hs
    obtain ⟨n1, n2, d2⟩ := share_yes (heavy_yes HS.out).1
    have SD : Hid (∀ w, Calls Tryz.prog 85 #[sh n d, .int .i64 j] w fun e w' => e = .returned (.int .i64 f) ∧ Below w.heap.size w w') := by rw [X.out.1]; exact specDueIn n d j H.out
    go_enter Tryz.func87, Tryz.ntmps87
    go_wp2_with fail
    refine (specHeavy n d _).mono ?_
    rintro e w1 ⟨rfl, b1⟩
    rw [HS.out]
    have K : Hid (Box w1 w.heap.size n d) := box_call b1
    have b1' : Below w.heap.size w w1 := ((Below.refl _ w).alloc (Nat.le_refl _) _).trans (b1.mono (by simp))
    clear b1
    have k1 := K.out.2.1
    have k2 := K.out.2.2
    go_wp2_with fail
    have c0 : ∀ x : Kin w1, x.u.cell? ⟨w.heap.size, 0, none⟩ = some (.int .i64 n) := fun x => x.cell K.out.1 K.out.2.1
    have c1 : ∀ x : Kin w1, x.u.cell? ⟨w.heap.size, 1, none⟩ = some (.int .i64 d) := fun x => x.cell K.out.1 K.out.2.2
    refine wp_region_kin (by kernel_rfl) (by kernel_rfl) (fun hne => ?_)
    repeat (go_big_quiet_step ((first | (go_at_call 85; exact kin_calls (SD.out _)) | (go_at_call 104; exact kin_calls (specCeilB _ _ _ _)))))
    refine wpQuiet_nil ?_
    rintro _ ⟨x, rfl⟩
    have bx : Below w.heap.size w x.u := b1'.trans (x.b.mono (Nat.le_of_lt K.out.1))
    have k3 := c0 x
    have k4 := c1 x
    clear c0 c1 hne k1 k2
    rw [X.out.2]
    go_wp2_with fail
    refine (specCeilB _ _ _ _).mono ?_
    rintro e w3 ⟨rfl, b3⟩
    go_wp2_with fail
    go_ret
    exact ⟨rfl, bx.trans (b3.mono bx.size)⟩

end Go.Proofs.YtjhenfdmbagaiaaGreat.Win

/-
  impl.Overlaps, at every argument; the window's own method.
-/
namespace Go.Proofs.YtjhenfdmbagaiaaGreat.Win
open Go.ChangeShapes Go.WideShapes Go.ChangeAt Go.RowKit Go.Proofs.YtjhenfdmbagaiaaGreat.Crew

theorem up_int (x n : Int) (x0 : 0 ≤ x) (hn : 1 ≤ n) : (x + n - 1) / n = if x % n = 0 then x / n else x / n + 1 := by
  obtain ⟨x, rfl⟩ := Int.eq_ofNat_of_zero_le x0
  obtain ⟨n, rfl⟩ := Int.eq_ofNat_of_zero_le (by omega : 0 ≤ n)
  have e : (x : Int) + (n : Int) - 1 = ((x + n - 1 : Nat) : Int) := by omega
  rw [e, ← Int.natCast_ediv, up_nat x n (by omega), ← Int.natCast_ediv, ← Int.natCast_emod]
  by_cases h : 0 < x % n
  · rw [if_pos h, if_neg (by omega)]; rfl
  · rw [if_neg h, if_pos (by omega)]

theorem over_cmp (n d j : Int) (hn : 1 ≤ n) (x0 : 0 ≤ j * d) : (j * d / n < (j * d + n - 1) / n) ↔ ¬ j * d % n = 0 := by
  rw [up_int _ _ x0 hn]
  by_cases h : j * d % n = 0
  · simp [h]
  · rw [if_neg h]
    constructor
    · intro _; exact h
    · intro _; omega

theorem win_load {w : World} {g : Nat} {j : Int} {t : TypeId} (x : Kin (w.alloc (.cells #[.pointer (some ⟨g, 0, none⟩), .int .i64 j] t))) :
    x.u.cell? ⟨w.heap.size, 0, none⟩ = some (.pointer (some ⟨g, 0, none⟩)) ∧ x.u.cell? ⟨w.heap.size, 1, none⟩ = some (.int .i64 j) := by
  refine ⟨x.cell (by simp) ?_, x.cell (by simp) ?_⟩
  · rw [World.cell?_alloc_at _ _ _ _ rfl]; rfl
  · rw [World.cell?_alloc_at _ _ _ _ rfl]; rfl

/-- Does the next turn begin ahead of when this one is due? -/
def overB (n d j : Int) : Bool := decide (¬ j * d % n = 0)

theorem over_lt (n d j : Int) (h : turnOk n d j = true) : decide (j * d / n < (j * d + n - 1) / n) = overB n d j := by
  obtain ⟨n1, n2, d2, j1, j2⟩ := turn_yes h
  have m0 := (mul_bd (j := j) (d := d) (by omega) (by omega) (by omega) d2).1
  unfold overB
  exact decide_eq_decide.2 (over_cmp n d j n1 m0)

theorem overV_B {n d j : Int} (h : turnOk n d j = true) : overV n d j = if overB n d j then 1 else 0 := by
  rw [overV_yes h, overB]
  by_cases hz : j * d % n = 0
  · rw [if_pos hz]; simp [hz]
  · rw [if_neg hz]; simp [hz]

theorem over_at (n d j : Int) (g : Nat) (h : turnOk n d j = true) (w : World) (B : Box w g n d) :
    Calls Tryz.prog 93 #[.agg #[.pointer (some ⟨g, 0, none⟩), .int .i64 j]] w fun e w' => e = .returned (.bool (overB n d j)) ∧ Below w.heap.size w w' := by
  obtain ⟨b, hb⟩ : ∃ b, b = overB n d j := ⟨_, rfl⟩
  rw [← hb]
  rw [← over_lt n d j h] at hb
  obtain ⟨q, hq⟩ : ∃ q, q = j * d / n := ⟨_, rfl⟩
  obtain ⟨p, hp⟩ : ∃ p, p = (j * d + n - 1) / n := ⟨_, rfl⟩
  rw [← hq, ← hp] at hb
  have H : Hid (turnOk n d j = true ∧ q = j * d / n ∧ p = (j * d + n - 1) / n) := ⟨h, hq, hp⟩
  have HB : Hid (Box w g n d) := B
  have HE : Hid (b = decide (q < p)) := hb
  clear h hq hp B hb
  have R : Hid (∀ g w, Box w g n d → Calls Tryz.prog 80 #[.agg #[.pointer (some ⟨g, 0, none⟩), .int .i64 (j + 1)]] w fun e w' => e = .returned (.int .i64 q) ∧ Below w.heap.size w w') := by
    intro g w B
    have T := turn_yes H.out.1
    refine (ready_at n d (j + 1) g T.1 T.2.1 T.2.2.1 (by omega) (by omega) w B).mono ?_
    rintro e w' ⟨rfl, b⟩
    exact ⟨ret_i (by rw [H.out.2.1, Int.add_sub_cancel]), b⟩
  have D : Hid (∀ g w, Box w g n d → Calls Tryz.prog 96 #[.agg #[.pointer (some ⟨g, 0, none⟩), .int .i64 j]] w fun e w' => e = .returned (.int .i64 p) ∧ Below w.heap.size w w') := by
    intro g w B
    have T := turn_yes H.out.1
    refine (due_at n d j g T.1 T.2.1 T.2.2.1 T.2.2.2.1 T.2.2.2.2 w B).mono ?_
    rintro e w' ⟨rfl, b⟩
    exact ⟨ret_i H.out.2.2.symm, b⟩
  have N : Hid (∀ g w, Calls Tryz.prog 112 #[.agg #[.pointer (some ⟨g, 0, none⟩), .int .i64 j]] w fun e w' => e = .returned (.agg #[.pointer (some ⟨g, 0, none⟩), .int .i64 (j + 1)]) ∧ Below w.heap.size w w') := by
    intro g w
    have T := turn_yes H.out.1
    exact next_at g j T.2.2.2.1 T.2.2.2.2 w
  go_enter Tryz.func93, Tryz.ntmps93
  go_wp2_with fail
  have c0 := fun x => (win_load (w := w) (g := g) (t := 101) (j := j) x).1
  have c1 := fun x => (win_load (w := w) (g := g) (t := 101) (j := j) x).2
  have KB : Hid (∀ x : Kin (w.alloc (.cells #[.pointer (some ⟨g, 0, none⟩), .int .i64 j] 101)), Box x.u g n d) := fun x => (HB.out.alloc _).kept x.b (by have := HB.out.1; simp; omega)
  refine wp_region_kin (by kernel_rfl) (by kernel_rfl) (fun hne => ?_)
  repeat (go_big_quiet_step ((first | (go_at_call 112; exact kin_calls (N.out _ _)) | (go_at_call 80; exact kin_calls (R.out _ _ (KB.out _))) | (go_at_call 96; exact kin_calls (D.out _ _ (KB.out _))))))
  refine wpQuiet_nil ?_
  rintro _ ⟨x, rfl⟩
  have bx : Below w.heap.size w x.u := ((Below.refl _ w).alloc (Nat.le_refl _) _).trans (x.b.mono (by simp))
  clear c0 c1 KB hne
  go_wp2_with fail
  go_ret
  rw [HE.out]
  exact ⟨rfl, bx⟩

end Go.Proofs.YtjhenfdmbagaiaaGreat.Win

/-
  What a chain's end is; ranks: the one that is due earlier, of those that are due at once one that overlaps, of those that do both the one whose chain ends later: an order.
-/
namespace Go.Proofs.YtjhenfdmbagaiaaGreat.Win
open Go.ChangeShapes Go.WideShapes Go.ChangeAt Go.RowKit Go.Proofs.YtjhenfdmbagaiaaGreat.Crew

theorem ceil_mid {a b c : Int} (a0 : 0 ≤ a) (a1 : a ≤ 10000000000) (b0 : 0 ≤ b) (b1 : b ≤ 100000000) (c0 : 1 ≤ c) (c1 : c ≤ 100000000) : Ratio.ceilV a b c = (a * b + c - 1) / c := by
  obtain ⟨a, rfl⟩ := Int.eq_ofNat_of_zero_le a0
  obtain ⟨b, rfl⟩ := Int.eq_ofNat_of_zero_le b0
  obtain ⟨c, rfl⟩ := Int.eq_ofNat_of_zero_le (by omega : 0 ≤ c)
  have h1 : a * b ≤ 10000000000 * 100000000 := Nat.mul_le_mul (by omega) (by omega)
  have h2 := Nat.div_le_self (a * b) c
  obtain ⟨C1, _⟩ := Ratio.ceil_of a b c (by omega) (by omega) (by omega) (by omega)
  have hu : Ratio.up (a * b / c) (a * b % c) = (a * b + c - 1) / c := by
    rw [up_nat _ _ (by omega), Ratio.up]
    by_cases hr : 0 < a * b % c
    · rw [if_pos hr, if_pos (by omega)]
    · rw [if_neg hr, if_neg (by omega)]
  have hle : Ratio.up (a * b / c) (a * b % c) ≤ 4611686018427387904 := by
    rw [hu, up_nat _ _ (by omega)]
    split <;> omega
  rw [(C1 hle).2, hu]
  rw [Int.natCast_ediv]
  congr 1
  have : 1 ≤ c := by omega
  push_cast
  omega

/-- t over c, rounded up. -/
def upQ (t c : Int) : Int := (t + c - 1) / c

theorem upQ_ge (t c : Int) (hc : 1 ≤ c) : t ≤ c * upQ t c := by
  have h := Int.mul_ediv_add_emod (t + c - 1) c
  have h2 := Int.emod_lt_of_pos (t + c - 1) (show 0 < c by omega)
  unfold upQ
  generalize c * ((t + c - 1) / c) = q at *
  generalize (t + c - 1) % c = m at *
  omega

theorem upQ_mono {t u c : Int} (hc : 1 ≤ c) (h : t ≤ u) : upQ t c ≤ upQ u c := Int.ediv_le_ediv (by omega) (by omega)

theorem upQ_le {t c k : Int} (hc : 1 ≤ c) (h : t ≤ k * c) : upQ t c ≤ k := by
  have : (t + c - 1) / c < k + 1 := Int.ediv_lt_of_lt_mul (by omega) (by rw [Int.add_mul]; omega)
  unfold upQ
  omega

theorem upQ_nonneg {t c : Int} (hc : 1 ≤ c) (h : 0 ≤ t) : 0 ≤ upQ t c := Int.ediv_nonneg (by omega) (by omega)

theorem due_heavy (n d j : Int) (h : turnOk n d j = true) (hh : heavyOk n d = true) : dueV n d j = upQ (j * d) n ∧ 1 ≤ dueV n d j ∧ dueV n d j ≤ 2000000 := by
  obtain ⟨n1, n2, d2, j1, j2⟩ := turn_yes h
  obtain ⟨_, h1, _⟩ := heavy_yes hh
  have e : dueV n d j = upQ (j * d) n := dueV_yes h
  refine ⟨e, ?_, ?_⟩
  · rw [e]
    have a1 : n ≤ j * d := by
      have := Int.mul_le_mul j1 n2 (by omega) (by omega)
      omega
    have a2 := upQ_ge (j * d) n n1
    have a3 := upQ_nonneg n1 (show 0 ≤ j * d by omega)
    by_cases hz : upQ (j * d) n = 0
    · rw [hz] at a2; omega
    · omega
  · rw [e]
    refine Int.le_trans (upQ_le (k := 2 * j) n1 ?_) (by omega)
    have := Int.mul_le_mul_of_nonneg_left h1 (show 0 ≤ j by omega)
    rw [show 2 * j * n = j * (2 * n) by rw [Int.mul_comm 2 j, Int.mul_assoc]]
    exact this

theorem chain_is (n d j : Int) (h : turnOk n d j = true) (hh : heavyOk n d = true) :
    chainV n d j = upQ (upQ (dueV n d j * (d - n)) d * d) (d - n) := by
  obtain ⟨n1, n2, d2, j1, j2⟩ := turn_yes h
  obtain ⟨_, h1, h2⟩ := heavy_yes hh
  obtain ⟨_, u1, u2⟩ := due_heavy n d j h hh
  rw [chainV_yes h, chainIn_yes hh]
  have e1 : chainX n d j = upQ (dueV n d j * (d - n)) d := ceil_mid (by omega) (by omega) (by omega) (by omega) (by omega) d2
  rw [e1]
  have x0 : 0 ≤ upQ (dueV n d j * (d - n)) d := upQ_nonneg (by omega) (Int.mul_nonneg (by omega) (by omega))
  have x1 : upQ (dueV n d j * (d - n)) d ≤ dueV n d j := upQ_le (by omega) (Int.mul_le_mul_of_nonneg_left (by omega) (by omega))
  exact ceil_mid x0 (by omega) (by omega) d2 (by omega) (by omega)

theorem chain_due (n d j : Int) (h : turnOk n d j = true) (hh : heavyOk n d = true) : dueV n d j ≤ chainV n d j ∧ 1 ≤ dueV n d j := by
  obtain ⟨n1, n2, d2, j1, j2⟩ := turn_yes h
  obtain ⟨_, h1, h2⟩ := heavy_yes hh
  obtain ⟨_, u1, u2⟩ := due_heavy n d j h hh
  refine ⟨?_, u1⟩
  rw [chain_is n d j h hh]
  have a1 := upQ_ge (dueV n d j * (d - n)) d (by omega)
  have a2 := upQ_ge (upQ (dueV n d j * (d - n)) d * d) (d - n) (by omega)
  rw [Int.mul_comm d] at a1
  have a3 := Int.le_trans a1 a2
  generalize upQ (upQ (dueV n d j * (d - n)) d * d) (d - n) = y at *
  rw [Int.mul_comm] at a3
  exact Int.le_of_mul_le_mul_left a3 (show 0 < d - n by omega)

theorem chain_next (n d j : Int) (h : turnOk n d j = true) (hh : heavyOk n d = true) (hj : ¬ j = 1) : chainV n d (j - 1) ≤ chainV n d j := by
  obtain ⟨n1, n2, d2, j1, j2⟩ := turn_yes h
  obtain ⟨_, h1, h2⟩ := heavy_yes hh
  have h' : turnOk n d (j - 1) = true := by
    simp only [turnOk, shareOk, within, Bool.and_eq_true, decide_eq_true_eq]
    omega
  rw [chain_is n d j h hh, chain_is n d (j - 1) h' hh]
  have e : dueV n d (j - 1) ≤ dueV n d j := by
    rw [(due_heavy n d j h hh).1, (due_heavy n d (j - 1) h' hh).1]
    exact upQ_mono n1 (Int.mul_le_mul_of_nonneg_right (by omega) (by omega))
  exact upQ_mono (by omega) (Int.mul_le_mul_of_nonneg_right (upQ_mono (by omega) (Int.mul_le_mul_of_nonneg_right e (by omega))) (by omega))

end Go.Proofs.YtjhenfdmbagaiaaGreat.Win

namespace Go.Proofs.YtjhenfdmbagaiaaGreat.Win
open Go.ChangeShapes Go.WideShapes Go.ChangeAt Go.RowKit Go.Proofs.YtjhenfdmbagaiaaGreat.Crew

theorem hide {p : Prop} (h : p) : Hid p := h

/-- Where the chain of a turn ends, as far as it counts: 0 of one that does not overlap. -/
def rankC (n d j : Int) : Int := if overB n d j then chainIn n d j else 0

/-- 1 where the first goes ahead, -1 where the second does, 0 where neither does. -/
def cmpR (a : Int) (o : Bool) (c : Int) (a' : Int) (o' : Bool) (c' : Int) : Int :=
  if a < a' then 1 else if a' < a then -1 else if o && !o' then 1 else if !o && o' then -1 else if c' < c then 1 else if c < c' then -1 else 0

def aheadIn (n d i m e j : Int) : Int := cmpR (dueV n d i) (overB n d i) (rankC n d i) (dueV m e j) (overB m e j) (rankC m e j)

def aheadV (n d i m e j : Int) : Int := if turnOk n d i && turnOk m e j then aheadIn n d i m e j else 2

theorem aheadV_yes {n d i m e j : Int} (h : turnOk n d i = true) (h' : turnOk m e j = true) : aheadV n d i m e j = aheadIn n d i m e j := by rw [aheadV, h, h']; rfl
theorem aheadV_no1 {n d i m e j : Int} (h : turnOk n d i = false) : aheadV n d i m e j = 2 := by rw [aheadV, h]; rfl
theorem aheadV_no2 {n d i m e j : Int} (h : turnOk m e j = false) : aheadV n d i m e j = 2 := by rw [aheadV, h, Bool.and_false]; rfl

theorem cmp_neg (a : Int) (o : Bool) (c : Int) (a' : Int) (o' : Bool) (c' : Int) : cmpR a' o' c' a o c = - cmpR a o c a' o' c' := by
  unfold cmpR
  cases o <;> cases o' <;> simp <;> grind

theorem cmp_bd (a : Int) (o : Bool) (c : Int) (a' : Int) (o' : Bool) (c' : Int) : -1 ≤ cmpR a o c a' o' c' ∧ cmpR a o c a' o' c' ≤ 1 := by
  unfold cmpR
  cases o <;> cases o' <;> simp <;> grind

theorem cmp_self (a : Int) (o : Bool) (c : Int) : cmpR a o c a o c = 0 := by
  unfold cmpR
  cases o <;> simp

theorem cmp_trans (a : Int) (o : Bool) (c : Int) (a' : Int) (o' : Bool) (c' : Int) (a'' : Int) (o'' : Bool) (c'' : Int) (h : 0 ≤ cmpR a o c a' o' c') (h' : 0 ≤ cmpR a' o' c' a'' o'' c'') : 0 ≤ cmpR a o c a'' o'' c'' := by
  unfold cmpR at *
  cases o <;> cases o' <;> cases o'' <;> simp at * <;> grind

theorem cmp_zero (a : Int) (o : Bool) (c : Int) (a' : Int) (o' : Bool) (c' : Int) (a'' : Int) (o'' : Bool) (c'' : Int) (h : cmpR a o c a' o' c' = 0) (h' : cmpR a' o' c' a'' o'' c'' = 0) : cmpR a o c a'' o'' c'' = 0 := by
  unfold cmpR at *
  cases o <;> cases o' <;> cases o'' <;> simp at * <;> grind

theorem cmp_due {a a' : Int} (o : Bool) (c : Int) (o' : Bool) (c' : Int) (h : a < a') : cmpR a o c a' o' c' = 1 := by
  unfold cmpR
  rw [if_pos h]

theorem cmp_gt {a a' : Int} (o : Bool) (c : Int) (o' : Bool) (c' : Int) (h : a' < a) : cmpR a o c a' o' c' = -1 := by
  unfold cmpR
  rw [if_neg (by omega), if_pos h]

theorem cmp_eq (a : Int) (o : Bool) (c : Int) (o' : Bool) (c' : Int) : cmpR a o c a o' c' = if o && !o' then 1 else if !o && o' then -1 else if c' < c then 1 else if c < c' then -1 else 0 := by
  unfold cmpR
  rw [if_neg (by omega), if_neg (by omega)]

theorem rankC_no {n d j : Int} (h : overB n d j = false) : rankC n d j = 0 := by rw [rankC, h]; rfl
theorem rankC_yes {n d j : Int} (h : overB n d j = true) : rankC n d j = chainIn n d j := by rw [rankC, h]; rfl

theorem turn_next {n d j : Int} (h : turnOk n d j = true) (hj : j < 1000000) : turnOk n d (j + 1) = true := by
  obtain ⟨n1, n2, d2, j1, j2⟩ := turn_yes h
  simp only [turnOk, shareOk, within, Bool.and_eq_true, decide_eq_true_eq]
  omega

theorem due_next (n d j : Int) (h : turnOk n d j = true) (hj : j < 1000000) : dueV n d j < dueV n d (j + 1) := by
  obtain ⟨n1, n2, d2, j1, j2⟩ := turn_yes h
  rw [dueV_yes h, dueV_yes (turn_next h hj)]
  have e1 : (j + 1) * d = j * d + d := by rw [Int.add_mul, Int.one_mul]
  rw [e1]
  generalize j * d = x at *
  have h5 : (x + n + n - 1) / n ≤ (x + d + n - 1) / n := Int.ediv_le_ediv (by omega) (by omega)
  have h6 : (x + n + n - 1) / n = (x + n - 1) / n + 1 := by
    have := Int.add_mul_ediv_right (x + n - 1) 1 (c := n) (by omega)
    rw [show x + n - 1 + 1 * n = x + n + n - 1 by omega] at this
    exact this
  omega

/-- Of one share an earlier turn goes ahead. -/
theorem ahead_next (n d j : Int) (h : turnOk n d j = true) (hj : j < 1000000) : aheadV n d j n d (j + 1) = 1 := by
  rw [aheadV_yes h (turn_next h hj)]
  exact cmp_due _ _ _ _ (due_next n d j h hj)

end Go.Proofs.YtjhenfdmbagaiaaGreat.Win
