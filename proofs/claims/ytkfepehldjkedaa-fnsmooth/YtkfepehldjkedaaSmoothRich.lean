/-
  impl.richestOf: who has most once each one's weight came.
-/
import Derived.Test.YtkfepehldjkedaaSmoothIter
import Derived.Test.YtkfepehldjkedaaLawSmoothOk
namespace Go.Proofs.Ytkfepehldjkedaa.Crew
open Go.ChangeShapes Go.WideShapes Go.ChangeAt Go.RowKit Go.Shelf

attribute [local go_sem] Oper.semAt_some

/-- One of them comes by. -/
def rich1 (v : Nat → Int) (s : Nat × Int) (i : Nat) : Nat × Int := if i = 0 ∨ s.2 < v i then (i, v i) else s

def richL {n : Nat} (v : Nat → Int) (pre : List (Fin n)) : Nat × Int := pre.foldl (fun s i => rich1 v s i.1) (0, 0)

theorem richL_snoc {n : Nat} (v : Nat → Int) (pre : List (Fin n)) (x : Fin n) : richL v (pre ++ [x]) = rich1 v (richL v pre) x.1 := by simp [richL]

theorem best_succ (p : List Int) (k : Nat) : bestTo p (k + 1) = if p.getD (bestTo p k) 0 < p.getD k 0 then k else bestTo p k := rfl

theorem richL_firsts {n : Nat} (p : List Int) (v : Nat → Int) (hp : ∀ k, k < n → p.getD k 0 = v k) (k : Nat) (hk : k + 1 ≤ n) : richL v (firsts n (k + 1)) = (bestTo p (k + 1), p.getD (bestTo p (k + 1)) 0) := by
  induction k with
  | zero =>
    rw [firsts_succ (by omega), richL_snoc, firsts_zero]
    show rich1 v (0, 0) 0 = _
    rw [rich1, if_pos (.inl rfl), show bestTo p (0 + 1) = 0 by simp [bestTo], hp 0 (by omega)]
  | succ k ih =>
    rw [firsts_succ (by omega), richL_snoc, ih (by omega), rich1, best_succ p (k + 1)]
    have e := hp (k + 1) (by omega)
    by_cases h : p.getD (bestTo p (k + 1)) 0 < p.getD (k + 1) 0
    · rw [if_pos h, if_pos (.inr (by rw [← e]; exact h)), e]
    · rw [if_neg h, if_neg (by rw [← e]; intro h'; rcases h' with h' | h'; exact absurd h' (by simp); exact h h')]

set_option maxRecDepth 100000 in
set_option maxHeartbeats 2000000 in
theorem richest_any (b off b' off' len cap cap' : Nat) (cs rs : List Int) (w : World) (I : Ints w (some ⟨b, off, none⟩) len cs) (J : Ints w (some ⟨b', off', none⟩) len rs) (hk : smoothOk cs rs = true) :
    Calls Try.prog 50 #[sm (.slice (some ⟨b, off, none⟩) len cap) (.slice (some ⟨b', off', none⟩) len cap')] w fun e w' => e = .returned (.int .i64 (best cs rs : Nat)) ∧ Below w.heap.size w w' := by
  obtain ⟨k1, k2, k3, k4⟩ := smooth_parts hk
  have hl := I.1
  have hl' := J.1
  have h24 : (len : Int) ≤ 24 := by have := crew_len k1; omega
  have h1n : 1 ≤ len := by have := crew_len k1; omega
  refine callsIn_wide.1 (callsIn_of_wp_marks (F := Fence.wide) (n := 5) Try.func50 rfl trivial (wpIn_wide.2 ?_) rfl)
  simp only [Try.ntmps50, List.size_toArray, List.length_cons, List.length_nil, Nat.reduceAdd, Nat.reduceSub, Array.replicate_succ, Array.replicate_zero, List.push_toArray, List.append_toArray, List.nil_append, List.cons_append]
  go_wp2_with fail
  refine (paid_any _ _ _).mono ?_
  rintro e w1 ⟨rfl, rfl⟩
  obtain ⟨W0, hW0⟩ : ∃ W0, W0 = (((w.alloc (.cells #[.slice (some ⟨b, off, none⟩) len cap, .slice (some ⟨b', off', none⟩) len cap'] 31)).alloc (.cells #[.int .i64 0] 3)).alloc (.cells #[.int .i64 0] 2)).alloc (.cells #[.slice (some ⟨b, off, none⟩) len cap, .slice (some ⟨b', off', none⟩) len cap'] 31) := ⟨_, rfl⟩
  have hz : W0.heap.size = w.heap.size + 1 + 1 + 1 + 1 := by rw [hW0]; simp
  have b1 : Boxed W0 (w.heap.size + 1) 3 (.int .i64 0) := by
    rw [hW0]
    have := (Boxed.new (w.alloc (.cells #[.slice (some ⟨b, off, none⟩) len cap, .slice (some ⟨b', off', none⟩) len cap'] 31)) 3 (.int .i64 0))
    simp at this
    exact (this.alloc _).alloc _
  have b2 : Boxed W0 (w.heap.size + 1 + 1) 2 (.int .i64 0) := by
    rw [hW0]
    have := (Boxed.new ((w.alloc (.cells #[.slice (some ⟨b, off, none⟩) len cap, .slice (some ⟨b', off', none⟩) len cap'] 31)).alloc (.cells #[.int .i64 0] 3)) 2 (.int .i64 0))
    simp at this
    exact this.alloc _
  have P0 : Pair W0 (w.heap.size + 1 + 1 + 1) (.slice (some ⟨b, off, none⟩) len cap) (.slice (some ⟨b', off', none⟩) len cap') := by
    rw [hW0]
    have := pair_new (((w.alloc (.cells #[.slice (some ⟨b, off, none⟩) len cap, .slice (some ⟨b', off', none⟩) len cap'] 31)).alloc (.cells #[.int .i64 0] 3)).alloc (.cells #[.int .i64 0] 2)) (.slice (some ⟨b, off, none⟩) len cap) (.slice (some ⟨b', off', none⟩) len cap')
    simp at this
    exact this
  have C0 : Below w.heap.size w W0 := by
    rw [hW0]
    exact (((below_new _ _).alloc (by simp) _).alloc (by simp; omega) _).alloc (by simp; omega) _
  have lb : b < w.heap.size := by
    rcases I.2 with h | ⟨x, y, h, h', _⟩
    · omega
    · cases h; exact h'
  have lb' : b' < w.heap.size := by
    rcases J.2 with h | ⟨x, y, h, h', _⟩
    · omega
    · cases h; exact h'
  have cI : ∀ j, j < len → W0.cell? ⟨b, off + j, none⟩ = some (.int .i64 (cs.getD j 0)) := by
    rcases (I.kept C0).2 with h | ⟨x, y, h, h', h2⟩
    · omega
    · cases h; exact h2
  have cJ : ∀ j, j < len → W0.cell? ⟨b', off' + j, none⟩ = some (.int .i64 (rs.getD j 0)) := by
    rcases (J.kept C0).2 with h | ⟨x, y, h, h', h2⟩
    · omega
    · cases h; exact h2
  obtain ⟨v, hv⟩ : ∃ v : Nat → Int, ∀ k, k < len → (paidL cs rs).getD k 0 = v k := ⟨_, fun _ _ => rfl⟩
  have hv' : ∀ k, k < len → rs.getD k 0 + cs.getD k 0 = v k := fun k hk => (paid_get k2 (by omega)).symm.trans (hv k hk)
  have HE : Hid ((richL v (firsts len len)).1 = best cs rs) := by
    show _ = _
    obtain ⟨k, rfl⟩ : ∃ k, len = k + 1 := ⟨len - 1, by omega⟩
    rw [richL_firsts (paidL cs rs) v hv k (Nat.le_refl _), best, hl']
  go_wp2_with fail
  rw [← hW0]
  clear hW0
  refine wpIn_wide.1 (wpIn_rangeFunc_ownF (F := Fence.wide) (n := 5) rfl (by omega) (gf := 64) (lb := #[.pointer (some ⟨w.heap.size + 1 + 1 + 1, 0, none⟩)]) rfl trivial (enters_of Try.func64 (by kernel_rfl) rfl)
    (paid_stops Fence.wide 4 trivial rfl (by omega) (w.heap.size + 1 + 1 + 1) b off b' off' len cap cap' cs rs v hv' (crew_get k1) (richs_get k3) h24 W0 (by omega) (by omega) (by omega) P0.c0 P0.c1 cI cJ)
    (fun h k => Keep.trans h k) (fun W l o o' hl _ _ _ => Keep.put (s := W0.heap.size) (by omega) (by omega) (by omega) W l o' hl) (Below.refl _ _) (fun _ => rfl)
    (fun pre W => (Boxed W (w.heap.size + 1) 3 (.int .i64 ((richL v pre).1 : Nat)) ∧ Boxed W (w.heap.size + 1 + 1) 2 (.int .i64 (richL v pre).2)) ∧ Below w.heap.size w W)
    (fun _ _ _ => False)
    (OwnFrom.and (fun s A B row hs hg hr => ⟨hs.1.kept hg (fun e => by have := (hr _ e.symm).1; omega), hs.2.kept hg (fun e => by have := (hr _ e.symm).1; omega)⟩) (ownFrom_below (Nat.le_refl _) (by omega)))
    (fun _ _ _ _ _ hs _ _ => hs)
    ⟨⟨b1, b2⟩, C0⟩
    (fun x => { tmps := #[sm (.slice (some ⟨b, off, none⟩) len cap) (.slice (some ⟨b', off', none⟩) len cap'), .pointer (some ⟨w.heap.size, 0, none⟩), .int .i64 0, .pointer (some ⟨w.heap.size + 1, 0, none⟩), .pointer (some ⟨w.heap.size + 1 + 1, 0, none⟩), .int .i64 ((x.1 : Nat) : Int), .int .i64 (v x.1), .agg #[.slice (some ⟨b, off, none⟩) len cap, .slice (some ⟨b', off', none⟩) len cap'], .func (.func 64) #[] #[.pointer (some ⟨w.heap.size + 1 + 1 + 1, 0, none⟩)], .int .i64 ((x.1 : Nat) : Int), .int .i64 (v x.1), undef, undef, undef, undef, undef, undef, undef, undef, undef, undef], defers := [] }) ?assign ?body ?done ?stop)
  case assign =>
    intro l x W K hK
    gi_wp2
    exact hK
  case body =>
    rintro l pre x W ⟨⟨h1, h2⟩, hB⟩ _
    obtain ⟨r, m, hrm⟩ : ∃ r m, richL v pre = (r, m) := ⟨_, _, rfl⟩
    have HRM : Hid (richL v pre = (r, m)) := hrm
    rw [hrm] at h1 h2
    have e1 := h1.cell
    have e2 := h2.cell
    have f1 := h1.frozen
    have f2 := h2.frozen
    obtain ⟨i, hi⟩ := x
    have hn : ¬ w.heap.size + 1 = w.heap.size + 1 + 1 := by omega
    have HH : Hid (Boxed W (w.heap.size + 1) 3 (.int .i64 (r : Nat)) ∧ Boxed W (w.heap.size + 1 + 1) 2 (.int .i64 m) ∧ Below w.heap.size w W) := ⟨h1, h2, hB⟩
    clear h1 h2 hB hrm
    have HS : Hid (rich1 v (r, m) i = (i, v i) → KeepsOthers W ((W.setCell ⟨w.heap.size + 1, 0, none⟩ (.int .i64 (i : Nat))).setCell ⟨w.heap.size + 1 + 1, 0, none⟩ (.int .i64 (v i))) ∧ Keep (w.heap.size + 1 + 1 + 1) b b' W ((W.setCell ⟨w.heap.size + 1, 0, none⟩ (.int .i64 (i : Nat))).setCell ⟨w.heap.size + 1 + 1, 0, none⟩ (.int .i64 (v i))) ∧ (Boxed ((W.setCell ⟨w.heap.size + 1, 0, none⟩ (.int .i64 (i : Nat))).setCell ⟨w.heap.size + 1 + 1, 0, none⟩ (.int .i64 (v i))) (w.heap.size + 1) 3 (.int .i64 ((richL v (pre ++ [⟨i, hi⟩])).1 : Nat)) ∧ Boxed ((W.setCell ⟨w.heap.size + 1, 0, none⟩ (.int .i64 (i : Nat))).setCell ⟨w.heap.size + 1 + 1, 0, none⟩ (.int .i64 (v i))) (w.heap.size + 1 + 1) 2 (.int .i64 (richL v (pre ++ [⟨i, hi⟩])).2)) ∧ Below w.heap.size w ((W.setCell ⟨w.heap.size + 1, 0, none⟩ (.int .i64 (i : Nat))).setCell ⟨w.heap.size + 1 + 1, 0, none⟩ (.int .i64 (v i)))) := by
      intro hr
      refine ⟨(KeepsOthers.setCell _ _ _).trans (KeepsOthers.setCell _ _ _), (Keep.set (by omega) (by omega) (by omega) _ _ _).trans (Keep.set (by omega) (by omega) (by omega) _ _ _), ?_⟩
      rw [richL_snoc, HRM.out, hr]
      exact ⟨⟨(HH.out.1.set _).kept (grownBy_setCell' _ _ _) (by simp), (HH.out.2.1.kept (grownBy_setCell' _ _ _) (by simp)).set _⟩, below_set (below_set HH.out.2.2 (by omega) _) (by omega) _⟩
    by_cases h0 : i = 0
    · subst h0
      have HR : Hid (rich1 v (r, m) 0 = (0, v 0)) := by show _ = _; rw [rich1, if_pos (.inl rfl)]
      gi_wp2
      exact HS.out HR.out
    · have hz0 : ¬ (i : Int) = 0 := by omega
      have hz1 : ((i : Int) == 0) = false := by simpa using h0
      by_cases h1 : m < v i
      · have HR : Hid (rich1 v (r, m) i = (i, v i)) := by show _ = _; rw [rich1, if_pos (.inr h1)]
        gi_wp2
        exact HS.out HR.out
      · have hd : decide (m < v i) = false := by simpa using h1
        have HR : Hid (rich1 v (r, m) i = (r, m)) := by show _ = _; rw [rich1, if_neg (by intro h; rcases h with h | h; exact h0 h; exact h1 h)]
        gi_wp2
        refine ⟨KeepsOthers.refl _, Keep.refl _ _ _ _, ?_⟩
        dsimp only
        rw [richL_snoc, HRM.out, HR.out]
        exact ⟨⟨HH.out.1, HH.out.2.1⟩, HH.out.2.2⟩
  case done =>
    rintro D ys W hD rfl ⟨⟨h1, _⟩, hB⟩ hK
    rw [HE.out] at h1
    have e1 := h1.cell
    go_wp2_with fail
    refine ⟨by simp, .inl ⟨_, _, rfl, run_takeDeferred hK, ?_⟩⟩
    exact ⟨_, results_tmp rfl _ _ _, rfl, hB.trans (belowK_b (w := w) (Nat.le_refl _) W D _ _ (by omega) hK rfl rfl)⟩
  case stop =>
    rintro D c pre W _ _ h _
    exact h.elim

end Go.Proofs.Ytkfepehldjkedaa.Crew
