/-
  Chains: is a share heavy, and where a chain of its windows ends. spec's answers, at every argument; impl.HeavyOk.
-/
import Derived.Test.YtjhenfdmbagaiaaGreatWinFace
namespace Go.Proofs.YtjhenfdmbagaiaaGreat.Win
open Go.ChangeShapes Go.WideShapes Go.ChangeAt Go.RowKit Go.Proofs.YtjhenfdmbagaiaaGreat.Crew

def heavyOk (n d : Int) : Bool := shareOk n d && decide (d ≤ 2 * n) && decide (n < d)

def chainX (n d j : Int) : Int := Ratio.ceilV (dueV n d j) (d - n) d

def chainIn (n d j : Int) : Int := if heavyOk n d then Ratio.ceilV (chainX n d j) d (d - n) else 0

def chainV (n d j : Int) : Int := if turnOk n d j then chainIn n d j else -1

theorem heavy_yes {n d : Int} (h : heavyOk n d = true) : shareOk n d = true ∧ d ≤ 2 * n ∧ n < d := by
  simpa [heavyOk, and_assoc] using h

theorem heavy_mk {n d : Int} (h : shareOk n d = true) (h1 : d ≤ 2 * n) (h2 : n < d) : heavyOk n d = true := by
  simp [heavyOk, h, h1, h2]

theorem heavy_not {n d : Int} (h : shareOk n d = false) : heavyOk n d = false := by simp [heavyOk, h]
theorem heavy_light {n d : Int} (h : ¬ d ≤ 2 * n) : heavyOk n d = false := by simp [heavyOk, h]
theorem heavy_whole {n d : Int} (h : ¬ n < d) : heavyOk n d = false := by simp [heavyOk, h]

theorem chainIn_yes {n d j : Int} (h : heavyOk n d = true) : chainIn n d j = Ratio.ceilV (chainX n d j) d (d - n) := by rw [chainIn, h, if_pos rfl]
theorem chainIn_no {n d j : Int} (h : heavyOk n d = false) : chainIn n d j = 0 := by rw [chainIn, h]; rfl
theorem chainV_yes {n d j : Int} (h : turnOk n d j = true) : chainV n d j = chainIn n d j := by rw [chainV, h, if_pos rfl]
theorem chainV_no {n d j : Int} (h : turnOk n d j = false) : chainV n d j = -1 := by rw [chainV, h]; rfl

theorem specHeavy (n d : Int) (w : World) :
    Calls Tryz.prog 103 #[sh n d] w fun e w' => e = .returned (.bool (heavyOk n d)) ∧ Below w.heap.size w w' := by
  cases hs : shareOk n d
  · rw [heavy_not hs]
    go_enter Tryz.func103, Tryz.ntmps103
    go_wp2_with fail
    refine (specShareOk n d _).mono ?_
    rintro e w1 ⟨rfl, b1⟩
    rw [hs]
    have b1' : Below w.heap.size w w1 := ((Below.refl _ w).alloc (Nat.le_refl _) _).trans (b1.mono (by simp))
    go_wp2_with fail
    go_ret
    exact ⟨rfl, b1'⟩
  · obtain ⟨n1, n2, d2⟩ := share_yes hs
    by_cases h1 : d ≤ 2 * n
    · by_cases h2 : n < d
      · rw [heavy_mk hs h1 h2]
        go_enter Tryz.func103, Tryz.ntmps103
        go_wp2_with fail
        refine (specShareOk n d _).mono ?_
        rintro e w1 ⟨rfl, b1⟩
        rw [hs]
        obtain ⟨k0, k1, k2⟩ := box_call b1
        have b1' : Below w.heap.size w w1 := ((Below.refl _ w).alloc (Nat.le_refl _) _).trans (b1.mono (by simp))
        go_wp2_with fail
        go_ret
        exact ⟨rfl, b1'⟩
      · rw [heavy_whole h2]
        have hd : decide (n < d) = false := by simp; omega
        go_enter Tryz.func103, Tryz.ntmps103
        go_wp2_with fail
        refine (specShareOk n d _).mono ?_
        rintro e w1 ⟨rfl, b1⟩
        rw [hs]
        obtain ⟨k0, k1, k2⟩ := box_call b1
        have b1' : Below w.heap.size w w1 := ((Below.refl _ w).alloc (Nat.le_refl _) _).trans (b1.mono (by simp))
        go_wp2_with fail
        go_ret
        exact ⟨rfl, b1'⟩
    · rw [heavy_light h1]
      have hd : decide (d ≤ 2 * n) = false := by simp; omega
      go_enter Tryz.func103, Tryz.ntmps103
      go_wp2_with fail
      refine (specShareOk n d _).mono ?_
      rintro e w1 ⟨rfl, b1⟩
      rw [hs]
      obtain ⟨k0, k1, k2⟩ := box_call b1
      have b1' : Below w.heap.size w w1 := ((Below.refl _ w).alloc (Nat.le_refl _) _).trans (b1.mono (by simp))
      go_wp2_with fail
      go_ret
      exact ⟨rfl, b1'⟩

theorem implHeavy (n d : Int) (w : World) :
    Calls Tryz.prog 94 #[sh n d] w fun e w' => e = .returned (.bool (heavyOk n d)) ∧ Below w.heap.size w w' := by
  cases hs : shareOk n d
  · rw [heavy_not hs]
    go_enter Tryz.func94, Tryz.ntmps94
    go_wp2_with fail
    refine (implShareOk n d _).mono ?_
    rintro e w1 ⟨rfl, b1⟩
    rw [hs]
    have b1' : Below w.heap.size w w1 := ((Below.refl _ w).alloc (Nat.le_refl _) _).trans (b1.mono (by simp))
    go_wp2_with fail
    go_ret
    exact ⟨rfl, b1'⟩
  · obtain ⟨n1, n2, d2⟩ := share_yes hs
    by_cases h1 : d ≤ 2 * n
    · by_cases h2 : n < d
      · rw [heavy_mk hs h1 h2]
        go_enter Tryz.func94, Tryz.ntmps94
        go_wp2_with fail
        refine (implShareOk n d _).mono ?_
        rintro e w1 ⟨rfl, b1⟩
        rw [hs]
        obtain ⟨k0, k1, k2⟩ := box_call b1
        have b1' : Below w.heap.size w w1 := ((Below.refl _ w).alloc (Nat.le_refl _) _).trans (b1.mono (by simp))
        go_wp2_with fail
        go_ret
        exact ⟨rfl, b1'⟩
      · rw [heavy_whole h2]
        have hd : decide (n < d) = false := by simp; omega
        go_enter Tryz.func94, Tryz.ntmps94
        go_wp2_with fail
        refine (implShareOk n d _).mono ?_
        rintro e w1 ⟨rfl, b1⟩
        rw [hs]
        obtain ⟨k0, k1, k2⟩ := box_call b1
        have b1' : Below w.heap.size w w1 := ((Below.refl _ w).alloc (Nat.le_refl _) _).trans (b1.mono (by simp))
        go_wp2_with fail
        go_ret
        exact ⟨rfl, b1'⟩
    · rw [heavy_light h1]
      have hd : decide (d ≤ 2 * n) = false := by simp; omega
      go_enter Tryz.func94, Tryz.ntmps94
      go_wp2_with fail
      refine (implShareOk n d _).mono ?_
      rintro e w1 ⟨rfl, b1⟩
      rw [hs]
      obtain ⟨k0, k1, k2⟩ := box_call b1
      have b1' : Below w.heap.size w w1 := ((Below.refl _ w).alloc (Nat.le_refl _) _).trans (b1.mono (by simp))
      go_wp2_with fail
      go_ret
      exact ⟨rfl, b1'⟩

theorem specCeilB (a b c : Int) (w : World) :
    Calls Tryz.prog 104 #[.int .i64 a, .int .i64 b, .int .i64 c] w fun e w' => e = .returned (.tuple #[.int .i64 (Ratio.ceilV a b c), .bool (Ratio.ceilFits a b c)]) ∧ Below w.heap.size w w' := by
  refine (Ratio.specCeil a b c w).mono ?_
  rintro e w' ⟨rfl, rfl⟩
  exact ⟨rfl, Below.refl _ _⟩

theorem specChainIn (n d j : Int) (h : turnOk n d j = true) (w : World) :
    Calls Tryz.prog 87 #[sh n d, .int .i64 j] w fun e w' => e = .returned (.int .i64 (chainIn n d j)) ∧ Below w.heap.size w w' := by
  have H : Hid (turnOk n d j = true) := h
  clear h
  cases hs : heavyOk n d
  · rw [chainIn_no hs]
    go_enter Tryz.func87, Tryz.ntmps87
    go_wp2_with fail
    refine (specHeavy n d _).mono ?_
    rintro e w1 ⟨rfl, b1⟩
    rw [hs]
    have b1' : Below w.heap.size w w1 := ((Below.refl _ w).alloc (Nat.le_refl _) _).trans (b1.mono (by simp))
    go_wp2_with fail
    go_ret
    exact ⟨rfl, b1'⟩
  · rw [chainIn_yes hs]
    obtain ⟨x, hx⟩ : ∃ x, x = chainX n d j := ⟨_, rfl⟩
    rw [← hx]
    obtain ⟨f, hf⟩ : ∃ f, f = dueV n d j := ⟨_, rfl⟩
    have X : Hid (f = dueV n d j ∧ Ratio.ceilV f (d - n) d = x) := ⟨hf, by rw [hf, hx]; rfl⟩
    have HS : Hid (heavyOk n d = true) := hs
    clear hx hf hs
    obtain ⟨n1, n2, d2⟩ := share_yes (heavy_yes HS.out).1
    have SD : Hid (∀ w, Calls Tryz.prog 85 #[sh n d, .int .i64 j] w fun e w' => e = .returned (.int .i64 f) ∧ Below w.heap.size w w') := by rw [X.out.1]; exact specDueIn n d j H.out
    go_enter Tryz.func87, Tryz.ntmps87
    go_wp2_with fail
    refine (specHeavy n d _).mono ?_
    rintro e w1 ⟨rfl, b1⟩
    rw [HS.out]
    have K : Hid (Box w1 w.heap.size n d) := box_call b1
    have b1' : Below w.heap.size w w1 := ((Below.refl _ w).alloc (Nat.le_refl _) _).trans (b1.mono (by simp))
    clear b1
    have k1 := K.out.2.1
    have k2 := K.out.2.2
    go_wp2_with fail
    have c0 : ∀ x : Kin w1, x.u.cell? ⟨w.heap.size, 0, none⟩ = some (.int .i64 n) := fun x => x.cell K.out.1 K.out.2.1
    have c1 : ∀ x : Kin w1, x.u.cell? ⟨w.heap.size, 1, none⟩ = some (.int .i64 d) := fun x => x.cell K.out.1 K.out.2.2
    refine wp_region_kin (by kernel_rfl) (by kernel_rfl) (fun hne => ?_)
    repeat (go_big_quiet_step ((first | (go_at_call 85; exact kin_calls (SD.out _)) | (go_at_call 104; exact kin_calls (specCeilB _ _ _ _)))))
    refine wpQuiet_nil ?_
    rintro _ ⟨x, rfl⟩
    have bx : Below w.heap.size w x.u := b1'.trans (x.b.mono (Nat.le_of_lt K.out.1))
    have k3 := c0 x
    have k4 := c1 x
    clear c0 c1 hne k1 k2
    rw [X.out.2]
    go_wp2_with fail
    refine (specCeilB _ _ _ _).mono ?_
    rintro e w3 ⟨rfl, b3⟩
    go_wp2_with fail
    go_ret
    exact ⟨rfl, bx.trans (b3.mono bx.size)⟩

end Go.Proofs.YtjhenfdmbagaiaaGreat.Win
