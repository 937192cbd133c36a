/-
  Slices of tasks, and what the exact laws do with them: how many, copy one, hold two against each other, mark one and look whether the marks are held; the kind of them.
-/
import Derived.Test.YtcmeimfjedakeaaGreatRecs
import Derived.Test.YtcmeimfjedakeaaGreatKin
import Derived.Handy
namespace Go.Proofs.YtcmeimfjedakeaaGreat.Crew
open Go.ChangeShapes Go.WideShapes Go.ChangeAt Go.RowKit

/-- A task as it reads. -/
structure Tsk where
  i : Int
  w : Int
  s : Int
  h : Int

def tskR : Rec Tsk where
  n := 4
  cs x := [x.i, x.w, x.s, x.h]
  len _ := rfl
  pos := by decide
  ty := 73
  z := ⟨0, 0, 0, 0⟩
  put x j v := match j with
    | 0 => { x with i := v }
    | 1 => { x with w := v }
    | 2 => { x with s := v }
    | 3 => { x with h := v }
    | _ => x
  cs_put x j v := match j with
    | 0 => rfl
    | 1 => rfl
    | 2 => rfl
    | 3 => rfl
    | _ + 4 => rfl

/-- A task as a value. -/
abbrev tk (i w s h : Int) : Value := .agg #[.int .i64 i, .int .i64 w, .int .i64 s, .int .i64 h]

abbrev Tsks (w : World) (a : Option Addr) (len : Nat) (xs : List Tsk) : Prop := tskR.sl w a len xs

abbrev TRow (w : World) (g cap : Nat) (xs : List Tsk) : Prop := tskR.row w g cap xs

abbrev TFit (w : World) (base : Nat) (a : Option Addr) (len cap : Nat) (xs : List Tsk) : Prop := tskR.fit w base a len cap xs

abbrev tz : Tsk := ⟨0, 0, 0, 0⟩

theorem tsks_parts {w : World} {a : Option Addr} {len : Nat} {xs : List Tsk} (h : Tsks w a len xs) : xs.length = len ∧ (len = 0 ∨ ∃ b off, a = some ⟨b, off, none⟩ ∧ b < w.heap.size ∧ ∀ i, i < len → w.cell? ⟨b, off + i * 4, none⟩ = some (.int .i64 (xs.getD i tz).i) ∧ w.cell? ⟨b, off + i * 4 + 1, none⟩ = some (.int .i64 (xs.getD i tz).w) ∧ w.cell? ⟨b, off + i * 4 + 2, none⟩ = some (.int .i64 (xs.getD i tz).s) ∧ w.cell? ⟨b, off + i * 4 + 3, none⟩ = some (.int .i64 (xs.getD i tz).h)) := by
  obtain ⟨h1, h0 | ⟨b, off, ha, hb, hc⟩⟩ := h
  · exact ⟨h1, .inl h0⟩
  · exact ⟨h1, .inr ⟨b, off, ha, hb, fun i hi => ⟨hc i 0 hi (by decide), hc i 1 hi (by decide), hc i 2 hi (by decide), hc i 3 hi (by decide)⟩⟩⟩

theorem TRow.c {w : World} {g cap : Nat} {xs : List Tsk} (h : TRow w g cap xs) {i : Nat} (hi : i < xs.length) : w.cell? ⟨g, i * 4, none⟩ = some (.int .i64 (xs.getD i tz).i) ∧ w.cell? ⟨g, i * 4 + 1, none⟩ = some (.int .i64 (xs.getD i tz).w) ∧ w.cell? ⟨g, i * 4 + 2, none⟩ = some (.int .i64 (xs.getD i tz).s) ∧ w.cell? ⟨g, i * 4 + 3, none⟩ = some (.int .i64 (xs.getD i tz).h) :=
  ⟨h.cell (j := 0) hi (by decide), h.cell (j := 1) hi (by decide), h.cell (j := 2) hi (by decide), h.cell (j := 3) hi (by decide)⟩

/-- All four fields of one are written. -/
theorem TRow.put {w : World} {g cap : Nat} {xs : List Tsk} (R : TRow w g cap xs) (k : Nat) (i v s h : Int) : TRow ((((w.setCell ⟨g, k * 4, none⟩ (.int .i64 i)).setCell ⟨g, k * 4 + 1, none⟩ (.int .i64 v)).setCell ⟨g, k * 4 + 2, none⟩ (.int .i64 s)).setCell ⟨g, k * 4 + 3, none⟩ (.int .i64 h)) g cap (xs.set k ⟨i, v, s, h⟩) := by
  by_cases hk : k < xs.length
  · have step : ∀ {W : World} {x : Tsk} {j : Nat} (v : Int), tskR.row W g cap (xs.set k x) → j < 4 → tskR.row (W.setCell ⟨g, k * 4 + j, none⟩ (.int .i64 v)) g cap (xs.set k (tskR.put x j v)) := by
      intro W x j v h hj
      have h2 := h.set k (j := j) hj v
      have e : (xs.set k x).getD k tskR.z = x := by simp [List.getD, hk]
      rw [List.set_set, e] at h2
      exact h2
    have R0 : tskR.row w g cap (xs.set k (xs.getD k tz)) := by
      have e : xs.set k (xs.getD k tz) = xs := by
        rw [show xs.getD k tz = xs[k] by simp [List.getD, hk]]
        exact List.set_getElem_self hk
      rw [e]
      exact R
    exact step h (step s (step v (step i R0 (j := 0) (by decide)) (j := 1) (by decide)) (j := 2) (by decide)) (j := 3) (by decide)
  · have e : ∀ (x : Tsk), xs.set k x = xs := fun x => List.set_eq_of_length_le (by omega)
    have R1 := (((R.set k (j := 0) (by decide) i).set k (j := 1) (by decide) v).set k (j := 2) (by decide) s).set k (j := 3) (by decide) h
    rw [e, e, e, e] at R1
    rw [e]
    exact R1

theorem TRow.sets {w : World} {g : Nat} (k : Nat) (a b c d : Value) : w.grownBy ((((w.setCell ⟨g, k * 4, none⟩ a).setCell ⟨g, k * 4 + 1, none⟩ b).setCell ⟨g, k * 4 + 2, none⟩ c).setCell ⟨g, k * 4 + 3, none⟩ d) (some g) :=
  (((grown_at w g _ a).trans (grown_at _ g _ b)).trans (grown_at _ g _ c)).trans (grown_at _ g _ d)

theorem info_task : (Tryz.prog.info? 73).map (fun i => (i.zero, i.size, i.bytes)) = some (some (.agg #[.int .i64 0, .int .i64 0, .int .i64 0, .int .i64 0]), 4, 32) := by kernel_rfl

theorem task_zeros (n : Nat) : tskR.fl (List.replicate n tz) = List.replicate (n * 4) (.int .i64 0) := by
  induction n with
  | zero => rfl
  | succ n ih =>
    rw [List.replicate_succ, Rec.fl_cons, ih, show (n + 1) * 4 = n * 4 + 1 + 1 + 1 + 1 by omega, List.replicate_succ, List.replicate_succ, List.replicate_succ, List.replicate_succ]
    rfl

theorem made_tasks (n : Nat) : (madeCells #[.int .i64 0, .int .i64 0, .int .i64 0, .int .i64 0] (n * 4)).toList = tskR.fl (List.replicate n tz) := by
  rw [task_zeros, List.eq_replicate_iff]
  refine ⟨by simp [madeCells], fun b hb => ?_⟩
  simp only [madeCells, Array.toList_map, List.mem_map] at hb
  obtain ⟨a, _, rfl⟩ := hb
  have : a % 4 = 0 ∨ a % 4 = 1 ∨ a % 4 = 2 ∨ a % 4 = 3 := by omega
  rcases this with h | h | h | h <;> simp [h]

theorem tsk_take_step {ps : List Tsk} {k : Nat} (h : k < ps.length) : (ps.take k ++ List.replicate (ps.length - k) tz).set k (ps.getD k tz) = ps.take (k + 1) ++ List.replicate (ps.length - (k + 1)) tz := by
  rw [show ps.length - k = (ps.length - (k + 1)) + 1 by omega, List.replicate_succ, List.set_append_right _ _ (by simp; omega), List.length_take, show k - min k ps.length = 0 by omega, List.set_cons_zero, List.take_succ_eq_append_getElem h]
  rw [show ps.getD k tz = ps[k] by simp [List.getD, h], List.append_assoc]
  rfl

theorem szTasks_yes (a : Option Addr) (len cap : Nat) (left : Int) (w : World) (h0 : 0 ≤ left) (h1 : left ≤ 1048576) (hs : (len : Int) ≤ left) :
    Calls Tryz.prog 55 #[.slice a len cap, .int .i64 left] w fun e w' => e = .returned (.int .i64 (left - len)) ∧ w' = w := by
  have hn : ¬ left - (len : Int) < 0 := by omega
  go_enter Tryz.func55, Tryz.ntmps55
  go_wp2_with fail
  go_ret
  exact ⟨rfl, rfl⟩

theorem szTasks_no (a : Option Addr) (len cap : Nat) (left : Int) (w : World) (h0 : 0 ≤ left) (h1 : left ≤ 1048576) (hm : (len : Int) ≤ 9223372036854775807) (hs : ¬ (len : Int) ≤ left) :
    Calls Tryz.prog 55 #[.slice a len cap, .int .i64 left] w fun e w' => e = .returned (.int .i64 (-1)) ∧ w' = w := by
  have hn : left - (len : Int) < 0 := by omega
  go_enter Tryz.func55, Tryz.ntmps55
  go_wp2_with fail
  go_ret
  exact ⟨rfl, rfl⟩

theorem toTask_any (i v s h : Int) (w : World) :
    Calls Tryz.prog 117 #[tk i v s h] w fun e w' => e = .returned (tk i v s h) ∧ Below w.heap.size w w' := by
  go_enter Tryz.func117, Tryz.ntmps117
  go_wp2_with fail
  go_returns
  refine ⟨rfl, ?_⟩
  go_grown

/-- laws.toTaskS: a copy, in a block of its own. -/
theorem toTasks_any (a : Option Addr) (len cap : Nat) (ps : List Tsk) (w : World) (I : Tsks w a len ps) (hs : (len : Int) ≤ 1048576) :
    Calls Tryz.prog 60 #[.slice a len cap] w fun e w' => e = .returned (.slice (some ⟨w.heap.size, 0, none⟩) len len) ∧ TRow w' w.heap.size len ps ∧ Below w.heap.size w w' := by
  obtain ⟨i0, hi, hz0, hz1, hz2⟩ := info_parts info_task
  have HI : Hid (Tsks w a len ps) := I
  clear I
  go_enter Tryz.func60, Tryz.ntmps60
  go_wp2_with (at_make; refine wpList_make_full _ rfl (.tmp 6) (.tmp 6) 26 rfl w.heap.size 73 i0 (.agg #[.int .i64 0, .int .i64 0, .int .i64 0, .int .i64 0]) 4 Tryz.underlying26 hi hz0 hz1 _ _ _ _ len rfl rfl rfl rfl (by rw [hz2]; omega) (by unfold maxLen; omega) (Nat.le_refl _) ?_)
  intro w1 hown hgrow
  have hown' : w1.ownsRow w.heap.size tskR.ty tskR.n (.slice (some ⟨w.heap.size, 0, none⟩) len len) len (tskR.fl (List.replicate len tz)) := by rw [← made_tasks]; exact hown
  have R0 : Hid (TRow w1 w.heap.size len (List.replicate len tz)) := (Rec.row_of_owns hown').1
  have B0 : Hid (Below w.heap.size w w1) := (Below.refl _ w).grown hgrow (Nat.le_refl _) (fun k h => by cases h)
  clear hown hown' hgrow hi hz0 hz1 hz2
  go_wp2_with fail
  go_loopw [4] (fun i wr => ∃ k : Nat, k ≤ len ∧ i = .int .i64 k ∧ Hid (TRow wr w.heap.size len (ps.take k ++ List.replicate (len - k) tz)) ∧ Hid (Below w.heap.size w wr)) (fun i _ => len - (intOf i).toNat)
  case atStart => exact ⟨0, Nat.zero_le _, rfl, by simpa using R0, B0⟩
  case round =>
    obtain ⟨k, hk, rfl, R, B⟩ := hrel
    by_cases hlt : k < len
    · obtain ⟨hl, h0 | ⟨b, off, rfl, hb, hc⟩⟩ := tsks_parts (HI.out.kept B.out)
      · omega
      · obtain ⟨x, hz⟩ : ∃ x, x = ps.getD k tz := ⟨_, rfl⟩
        obtain ⟨c0, c1, c2, c3⟩ := hc k hlt
        rw [← hz] at c0 c1 c2 c3
        have Z : Hid (x = ps.getD k tz ∧ ps.length = len) := ⟨hz, hl⟩
        clear hz hc hl
        obtain ⟨xi, xw, xs, xh⟩ := x
        simp only at c0 c1 c2 c3
        have hlt' : (k : Int) < (len : Int) := by omega
        go_wp2_with fail
        refine (toTask_any xi xw xs xh _).mono ?_
        rintro e w2 ⟨rfl, B2⟩
        have R2 : Hid (TRow w2 w.heap.size len (ps.take k ++ List.replicate (len - k) tz)) := R.out.all B2
        have C2 : Hid (Below w.heap.size w w2) := B.out.trans (B2.mono B.out.size)
        have f0 := R2.out.frozen (k * 4)
        have f1 := R2.out.frozen (k * 4 + 1)
        have f2 := R2.out.frozen (k * 4 + 2)
        have f3 := R2.out.frozen (k * 4 + 3)
        obtain ⟨q0, q1, q2, q3⟩ := TRow.c R2.out (i := k) (by have := Z.out.2; simp; omega)
        generalize ((ps.take k ++ List.replicate (len - k) tz).getD k tz).i = u0 at q0
        generalize ((ps.take k ++ List.replicate (len - k) tz).getD k tz).w = u1 at q1
        generalize ((ps.take k ++ List.replicate (len - k) tz).getD k tz).s = u2 at q2
        generalize ((ps.take k ++ List.replicate (len - k) tz).getD k tz).h = u3 at q3
        clear B2 R B c0 c1 c2 c3
        go_wp2_with fail
        go_roundw
        case rel =>
          refine ⟨k + 1, by omega, by go_num, ?_, ?_⟩
          · have := TRow.put R2.out k xi xw xs xh
            have hl := Z.out.2
            rw [Z.out.1, ← hl, tsk_take_step (by omega), hl] at this
            exact this
          · exact C2.out.grown (TRow.sets k _ _ _ _) C2.out.size (fun j hj => by cases hj; exact Nat.le_refl _)
        case measure => simp [intOf]; omega
    · have hlt' : ¬ (k : Int) < (len : Int) := by omega
      go_wp2_with fail
      go_ret
      have e : k = len := by omega
      subst e
      have := R.out
      simp [List.take_of_length_le (show ps.length ≤ k by have := HI.out.1; omega)] at this
      exact ⟨rfl, this, B.out⟩

theorem eqTask_same (i v s h : Int) (w : World) :
    Calls Tryz.prog 119 #[tk i v s h, tk i v s h] w fun e w' => e = .returned (.bool true) ∧ Below w.heap.size w w' := by
  have h1 : (i != i) = false := by simp
  have h2 : (v != v) = false := by simp
  have h3 : (s != s) = false := by simp
  have h4 : (h != h) = false := by simp
  go_enter Tryz.func119, Tryz.ntmps119
  go_wp2_with fail
  go_ret
  refine ⟨rfl, ?_⟩
  go_grown

/-- laws.eqTaskS where both read alike. -/
theorem eqTasks_same (a : Option Addr) (la ca : Nat) (ps : List Tsk) (b : Option Addr) (lb cb : Nat) (w : World) (I : Tsks w a la ps) (J : Tsks w b lb ps) (hs : (la : Int) ≤ 1048576) :
    Calls Tryz.prog 65 #[.slice a la ca, .slice b lb cb] w fun e w' => e = .returned (.bool true) ∧ Below w.heap.size w w' := by
  have hll : la = lb := by have := I.1; have := J.1; omega
  subst hll
  have HI : Hid (Tsks w a la ps) := I
  have HJ : Hid (Tsks w b la ps) := J
  clear I J
  have hne : ((la : Int) != (la : Int)) = false := by simp
  go_enter Tryz.func65, Tryz.ntmps65
  go_wp2_with fail
  go_loopw [5] (fun i wr => ∃ k : Nat, k ≤ la ∧ i = .int .i64 k ∧ Hid (Below w.heap.size w wr)) (fun i _ => la - (intOf i).toNat)
  case atStart => exact ⟨0, Nat.zero_le _, rfl, Below.refl _ _⟩
  case round =>
    obtain ⟨k, hk, rfl, B⟩ := hrel
    by_cases hlt : k < la
    · obtain ⟨_, h0 | ⟨b1, off1, rfl, hb1, hc1⟩⟩ := tsks_parts (HI.out.kept B.out)
      · omega
      obtain ⟨_, h0 | ⟨b2, off2, rfl, hb2, hc2⟩⟩ := tsks_parts (HJ.out.kept B.out)
      · omega
      obtain ⟨x, hx⟩ : ∃ x, x = ps.getD k tz := ⟨_, rfl⟩
      obtain ⟨p0, p1, p2, p3⟩ := hc1 k hlt
      obtain ⟨q0, q1, q2, q3⟩ := hc2 k hlt
      rw [← hx] at p0 p1 p2 p3 q0 q1 q2 q3
      obtain ⟨xi, xw, xs, xh⟩ := x
      simp only at p0 p1 p2 p3 q0 q1 q2 q3
      have c0 := fun z : Kin wr => z.cell (p := ⟨b1, off1 + k * 4, none⟩) hb1 p0
      have c1 := fun z : Kin wr => z.cell (p := ⟨b1, off1 + k * 4 + 1, none⟩) hb1 p1
      have c2 := fun z : Kin wr => z.cell (p := ⟨b1, off1 + k * 4 + 2, none⟩) hb1 p2
      have c3 := fun z : Kin wr => z.cell (p := ⟨b1, off1 + k * 4 + 3, none⟩) hb1 p3
      have d0 := fun z : Kin wr => z.cell (p := ⟨b2, off2 + k * 4, none⟩) hb2 q0
      have d1 := fun z : Kin wr => z.cell (p := ⟨b2, off2 + k * 4 + 1, none⟩) hb2 q1
      have d2 := fun z : Kin wr => z.cell (p := ⟨b2, off2 + k * 4 + 2, none⟩) hb2 q2
      have d3 := fun z : Kin wr => z.cell (p := ⟨b2, off2 + k * 4 + 3, none⟩) hb2 q3
      have hlt' : (k : Int) < (la : Int) := by omega
      clear hc1 hc2 hx p0 p1 p2 p3 q0 q1 q2 q3
      go_wp2_with fail
      refine wp_region_kin (by kernel_rfl) (by kernel_rfl) (fun hne => ?_)
      repeat (go_big_quiet_step ((go_at_call 119; exact kin_calls (eqTask_same _ _ _ _ _))))
      refine wpQuiet_nil ?_
      rintro _ ⟨z, rfl⟩
      have BZ : Hid (Below w.heap.size w z.u) := B.out.trans (z.b.mono B.out.size)
      clear c0 c1 c2 c3 d0 d1 d2 d3
      go_wp2_with fail
      go_roundw
      case rel => exact ⟨k + 1, by omega, by go_num, BZ⟩
      case measure => simp [intOf]; omega
    · have hlt' : ¬ (k : Int) < (la : Int) := by omega
      go_wp2_with fail
      go_ret
      exact ⟨rfl, B.out⟩

/-- The numbers from k on, four a task. -/
def tmarks (k : Int) (n : Nat) : List Tsk := (List.range n).map (fun i : Nat => ⟨k + 4 * (i : Int), k + 4 * (i : Int) + 1, k + 4 * (i : Int) + 2, k + 4 * (i : Int) + 3⟩)

theorem tmarks_length (k : Int) (n : Nat) : (tmarks k n).length = n := by simp [tmarks]

theorem tmarks_get (k : Int) (n i : Nat) (h : i < n) : (tmarks k n).getD i tz = ⟨k + 4 * (i : Int), k + 4 * (i : Int) + 1, k + 4 * (i : Int) + 2, k + 4 * (i : Int) + 3⟩ := by simp [tmarks, List.getD, h]

theorem tmarks_step (k : Int) (n : Nat) (ps : List Tsk) (h : n < ps.length) : (tmarks k n ++ ps.drop n).set n ⟨k + 4 * (n : Int), k + 4 * (n : Int) + 1, k + 4 * (n : Int) + 2, k + 4 * (n : Int) + 3⟩ = tmarks k (n + 1) ++ ps.drop (n + 1) := by
  have e : tmarks k (n + 1) = tmarks k n ++ [⟨k + 4 * (n : Int), k + 4 * (n : Int) + 1, k + 4 * (n : Int) + 2, k + 4 * (n : Int) + 3⟩] := by simp [tmarks, List.range_succ]
  rw [List.set_append_right _ _ (by rw [tmarks_length]; omega), tmarks_length, Nat.sub_self, List.drop_eq_getElem_cons h, List.set_cons_zero, e, List.append_assoc]
  rfl

set_option maxHeartbeats 1000000 in
/-- laws.markTaskS: it writes the numbers from k on into the row. -/
theorem markTasks_any (g cap : Nat) (ps : List Tsk) (k : Int) (w : World) (R : TRow w g cap ps) (hs : (ps.length : Int) ≤ 1048576) (hk0 : 0 ≤ k) (hk1 : k ≤ 1000000000000) :
    Calls Tryz.prog 70 #[.slice (some ⟨g, 0, none⟩) ps.length cap, .int .i64 k] w fun e w' => e = .returned (.int .i64 (k + 4 * ps.length)) ∧ TRow w' g cap (tmarks k ps.length) ∧ w.grownBy w' (some g) := by
  have HR : Hid (TRow w g cap ps) := R
  clear R
  obtain ⟨len, hlen⟩ : ∃ len, len = ps.length := ⟨_, rfl⟩
  rw [← hlen] at hs ⊢
  have HL : Hid (len = ps.length) := hlen
  clear hlen
  go_enter Tryz.func70, Tryz.ntmps70
  go_wp2_with fail
  go_loopw [1, 5] (fun q i wr => ∃ n : Nat, n ≤ len ∧ i = .int .i64 n ∧ q = .int .i64 (k + 4 * n) ∧ Hid (TRow wr g cap (tmarks k n ++ ps.drop n)) ∧ Hid (w.grownBy wr (some g))) (fun _ i _ => len - (intOf i).toNat)
  case atStart => exact ⟨0, Nat.zero_le _, rfl, by simp, by simpa [tmarks] using HR, World.grownBy.refl _ _⟩
  case round =>
    obtain ⟨n, hn, rfl, rfl, R, G⟩ := hrel
    by_cases hlt : n < len
    · have hlt' : (n : Int) < (len : Int) := by omega
      have f0 := R.out.frozen (n * 4)
      have f1 := R.out.frozen (n * 4 + 1)
      have f2 := R.out.frozen (n * 4 + 2)
      have f3 := R.out.frozen (n * 4 + 3)
      obtain ⟨q0, q1, q2, q3⟩ := TRow.c R.out (i := n) (by have := HL.out; simp [tmarks_length]; omega)
      generalize ((tmarks k n ++ ps.drop n).getD n tz).i = u0 at q0
      generalize ((tmarks k n ++ ps.drop n).getD n tz).w = u1 at q1
      generalize ((tmarks k n ++ ps.drop n).getD n tz).s = u2 at q2
      generalize ((tmarks k n ++ ps.drop n).getD n tz).h = u3 at q3
      have H3 : Hid (TRow ((((wr.setCell ⟨g, n * 4, none⟩ (.int .i64 (k + 4 * n))).setCell ⟨g, n * 4 + 1, none⟩ (.int .i64 (k + 4 * n + 1))).setCell ⟨g, n * 4 + 2, none⟩ (.int .i64 (k + 4 * n + 1 + 1))).setCell ⟨g, n * 4 + 3, none⟩ (.int .i64 (k + 4 * n + 1 + 1 + 1))) g cap (tmarks k (n + 1) ++ ps.drop (n + 1))) := by
        have := TRow.put R.out n (k + 4 * n) (k + 4 * n + 1) (k + 4 * n + 2) (k + 4 * n + 3)
        rw [tmarks_step k n ps (by have := HL.out; omega)] at this
        rw [show k + 4 * (n : Int) + 1 + 1 = k + 4 * n + 2 by omega, show k + 4 * (n : Int) + 2 + 1 = k + 4 * n + 3 by omega]
        exact this
      go_wp2_with fail
      go_roundw
      case rel => exact ⟨n + 1, by omega, by go_num, by go_num, H3, G.out.trans (TRow.sets n _ _ _ _)⟩
      case measure => simp [intOf]; omega
    · have hlt' : ¬ (n : Int) < (len : Int) := by omega
      go_wp2_with fail
      go_ret
      have e : n = len := by omega
      subst e
      have := R.out
      rw [List.drop_eq_nil_of_le (by have := HL.out; omega), List.append_nil] at this
      exact ⟨rfl, this, G.out⟩

/-- laws.heldTaskS where the marks are held. -/
theorem heldTasks_any (a : Option Addr) (len cap : Nat) (k : Int) (w : World) (I : Tsks w a len (tmarks k len)) (hs : (len : Int) ≤ 1048576) (hk0 : 0 ≤ k) (hk1 : k ≤ 1000000000000) :
    Calls Tryz.prog 75 #[.slice a len cap, .int .i64 k] w fun e w' => e = .returned (.int .i64 (k + 4 * len)) ∧ Below w.heap.size w w' := by
  have HI : Hid (Tsks w a len (tmarks k len)) := I
  clear I
  go_enter Tryz.func75, Tryz.ntmps75
  go_wp2_with fail
  go_loop [1, 5] (fun q i => ∃ n : Nat, n ≤ len ∧ i = .int .i64 n ∧ q = .int .i64 (k + 4 * n)) (fun _ i => len - (intOf i).toNat)
  case atStart => exact ⟨0, Nat.zero_le _, rfl, by simp⟩
  case round =>
    obtain ⟨n, hn, rfl, rfl⟩ := hrel
    by_cases hlt : n < len
    · obtain ⟨_, h0 | ⟨b1, off1, rfl, hb1, hc1⟩⟩ := tsks_parts HI.out
      · omega
      have hlt' : (n : Int) < (len : Int) := by omega
      obtain ⟨c0, c1, c2, c3⟩ := hc1 n hlt
      rw [tmarks_get k len n hlt] at c0 c1 c2 c3
      simp only at c0 c1 c2 c3
      rw [show k + 4 * (n : Int) + 3 = k + 4 * n + 2 + 1 by omega] at c3
      rw [show k + 4 * (n : Int) + 2 = k + 4 * n + 1 + 1 by omega] at c2 c3
      have e0 : (k + 4 * (n : Int) != k + 4 * (n : Int)) = false := by simp
      have e1 : (k + 4 * (n : Int) + 1 != k + 4 * (n : Int) + 1) = false := by simp
      have e2 : (k + 4 * (n : Int) + 1 + 1 != k + 4 * (n : Int) + 1 + 1) = false := by simp
      have e3 : (k + 4 * (n : Int) + 1 + 1 + 1 != k + 4 * (n : Int) + 1 + 1 + 1) = false := by simp
      clear hc1
      go_wp2_with fail
      go_round
      case rel => exact ⟨n + 1, by omega, by go_num, by go_num⟩
      case measure => simp [intOf]; omega
    · have hlt' : ¬ (n : Int) < (len : Int) := by omega
      go_wp2_with fail
      go_ret
      have e : n = len := by omega
      subst e
      exact ⟨rfl, Below.refl _ _⟩

/-- Slices of tasks, as a kind. -/
def tsksK : Knd (List Tsk) where
  rep w S v ps := ∃ a len cap, v = .slice a len cap ∧ TFit w 0 a len cap ps ∧ ∀ j, S j ↔ blk a = some j
  hld w S v ps k := ∃ a len cap, v = .slice a len cap ∧ TFit w 0 a len cap (tmarks k len) ∧ ps.length = len ∧ ∀ j, S j ↔ blk a = some j
  slots ps := 4 * ps.length
  lt := by
    rintro w S v d ⟨a, len, cap, rfl, F, hS⟩ j hj
    have := (hS j).1 hj
    cases a with
    | none => cases this
    | some x => rw [blk_some] at this; rw [← Option.some.inj this]; exact (F.ge rfl).2
  still := by
    rintro w w' S v d ⟨a, len, cap, rfl, F, hS⟩ hs he
    exact ⟨a, len, cap, rfl, F.still (fun x hx => he _ ((hS _).2 (by rw [hx]; rfl))), hS⟩
  hlt := by
    rintro w S v d k ⟨a, len, cap, rfl, F, _, hS⟩ j hj
    have := (hS j).1 hj
    cases a with
    | none => cases this
    | some x => rw [blk_some] at this; rw [← Option.some.inj this]; exact (F.ge rfl).2
  hstill := by
    rintro w w' S v d k ⟨a, len, cap, rfl, F, hl, hS⟩ hs he
    exact ⟨a, len, cap, rfl, F.still (fun x hx => he _ ((hS _).2 (by rw [hx]; rfl))), hl, hS⟩

theorem tsks_fit {w : World} {base : Nat} {a : Option Addr} {len cap : Nat} {xs : List Tsk} (F : TFit w base a len cap xs) : tsksK.rep w (fun j => blk a = some j) (.slice a len cap) xs := ⟨a, len, cap, rfl, F.mono (Nat.zero_le _), fun _ => Iff.rfl⟩

theorem tfit_fresh {w : World} {base : Nat} {a : Option Addr} {len cap : Nat} {xs : List Tsk} (F : TFit w base a len cap xs) : ∀ j, blk a = some j → base ≤ j := by
  intro j hj
  cases a with
  | none => cases hj
  | some x => rw [blk_some] at hj; rw [← Option.some.inj hj]; exact (F.ge rfl).1

theorem tsks_rd {w : World} {S : Bs} {v : Value} {xs : List Tsk} (h : tsksK.rep w S v xs) : ∃ a len cap, v = .slice a len cap ∧ Tsks w a len xs := by
  obtain ⟨a, len, cap, rfl, F, _⟩ := h
  exact ⟨a, len, cap, rfl, F.sl⟩

theorem tsks_eq {w : World} {S T : Bs} {u v : Value} {xs : List Tsk} (h : tsksK.rep w S u xs) (k : tsksK.rep w T v xs) (hs : (xs.length : Int) ≤ 1048576) :
    Calls Tryz.prog 65 #[u, v] w fun e w' => e = .returned (.bool true) ∧ Below w.heap.size w w' := by
  obtain ⟨a, len, cap, rfl, I⟩ := tsks_rd h
  obtain ⟨b, lb, cb, rfl, J⟩ := tsks_rd k
  exact eqTasks_same a len cap xs b lb cb w I J (by have := I.1; omega)

theorem tsks_mark {w : World} {S : Bs} {v : Value} {xs : List Tsk} (h : tsksK.rep w S v xs) (k : Int) (hs : (xs.length : Int) ≤ 1048576) (hk0 : 0 ≤ k) (hk1 : k ≤ 1000000000) :
    Calls Tryz.prog 70 #[v, .int .i64 k] w fun e w' => e = .returned (.int .i64 (k + (tsksK.slots xs : Nat))) ∧ tsksK.hld w' S v xs k ∧ Chg S w w' := by
  obtain ⟨a, len, cap, rfl, F, hS⟩ := h
  have hl := F.1
  show Calls _ _ _ _ fun e w' => e = .returned (.int .i64 (k + ((4 * xs.length : Nat) : Int))) ∧ _
  obtain ⟨_, ⟨h0, h1⟩ | ⟨g, rfl, hb, R⟩⟩ := F
  · subst h0 h1
    have hx : xs = [] := List.eq_nil_of_length_eq_zero hl
    subst hx
    go_enter Tryz.func70, Tryz.ntmps70
    go_wp2_with fail
    go_loop [1, 5] (fun q i => i = .int .i64 0 ∧ q = .int .i64 k) (fun _ _ => 0)
    case atStart => exact ⟨rfl, rfl⟩
    case round =>
      obtain ⟨rfl, rfl⟩ := hrel
      go_wp2_with fail
      go_ret
      exact ⟨by simp, ⟨none, 0, cap, rfl, ⟨rfl, .inl ⟨rfl, rfl⟩⟩, rfl, hS⟩, Chg.refl _ _⟩
  · subst hl
    refine (markTasks_any g cap xs k w R hs hk0 (by omega)).mono ?_
    rintro e w' ⟨rfl, R', G⟩
    refine ⟨by push_cast; rfl, ⟨_, _, _, rfl, R'.fit (Nat.zero_le _) (tmarks_length _ _), rfl, hS⟩, ?_⟩
    exact chg_of_blk (a := some ⟨g, 0, none⟩) G (fun x hx => (hS _).2 (by rw [hx]; rfl))

theorem tsks_held {w : World} {S : Bs} {v : Value} {xs : List Tsk} {k : Int} (h : tsksK.hld w S v xs k) (hs : (xs.length : Int) ≤ 1048576) (hk0 : 0 ≤ k) (hk1 : k ≤ 1000000000) :
    Calls Tryz.prog 75 #[v, .int .i64 k] w fun e w' => e = .returned (.int .i64 (k + (tsksK.slots xs : Nat))) ∧ Below w.heap.size w w' := by
  obtain ⟨a, len, cap, rfl, F, hl, hS⟩ := h
  refine (heldTasks_any a len cap k w F.sl (by omega) hk0 (by omega)).mono ?_
  rintro e w' ⟨rfl, B⟩
  exact ⟨by show _ = Ending.returned (.int .i64 (k + ((4 * xs.length : Nat) : Int))); rw [hl]; push_cast; rfl, B⟩

theorem tsks_to (a : Option Addr) (len cap : Nat) (xs : List Tsk) (w : World) (I : Tsks w a len xs) (hs : (len : Int) ≤ 1048576) :
    Calls Tryz.prog 60 #[.slice a len cap] w fun e w' => ∃ v S, e = .returned v ∧ tsksK.rep w' S v xs ∧ (∀ j, S j → w.heap.size ≤ j) ∧ Below w.heap.size w w' := by
  refine (toTasks_any a len cap xs w I hs).mono ?_
  rintro e w' ⟨rfl, R, B⟩
  exact ⟨_, _, rfl, tsks_fit (R.fit (Nat.le_refl _) I.1), tfit_fresh (R.fit (Nat.le_refl _) I.1), B⟩

end Go.Proofs.YtcmeimfjedakeaaGreat.Crew
