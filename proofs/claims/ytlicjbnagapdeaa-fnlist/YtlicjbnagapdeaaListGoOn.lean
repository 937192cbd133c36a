/-
  A walk down the list: it goes on, takes a turn, and is told as a List.
-/
import Derived.Test.YtlicjbnagapdeaaListWalk
namespace Go.Proofs.Ytlicjbnagapdeaa.Crew
open Go.ChangeShapes Go.WideShapes Go.ChangeAt Go.RowKit

theorem calls_drawn {P : Program} {f : FuncId} {args : Array Value} {w : World} {v : Value} (h : Calls P f args w fun e w' => e = .returned v ∧ ∃ m, w' = w.drewN m) : Calls P f args w fun e w' => e = .returned v ∧ Below w.heap.size w w' :=
  h.mono fun _ _ ⟨h1, m, h2⟩ => ⟨h1, by rw [h2]; exact below_drewN (Below.refl _ _) m⟩

theorem Right.moved {cs : List Int} {s : Ls} (h : Right cs s) {p : Nat} (hp : p < cs.length) : Right cs ⟨s.had, s.turns, p⟩ := ⟨h.crew, h.len, hp, h.had, h.sum⟩

/-- Where a walk goes on to. -/
def goPos (cs : List Int) (s : Ls) : Nat := if s.pos + 1 = cs.length then 0 else if lsGoes cs s.had s.turns (ordN cs s.pos) (ordN cs (s.pos + 1)) then s.pos + 1 else 0

/-- impl's walk: it goes on. -/
theorem goOn_at (w0 : World) (l : Wl) (cs : List Int) (s : Ls) (w : World) (K : Wk w0 w l cs s) (R : Right cs s) :
    Calls Try.prog 64 #[.pointer (some ⟨l.b, 0, none⟩)] w fun e w' => e = .returned (.tuple #[]) ∧ Wk w0 w' l cs ⟨s.had, s.turns, goPos cs s⟩ ∧ Mine l.b l.gH w w' := by
  have hl := K.len
  have h24 := (crew_len R.crew).2
  have hp := R.lt
  have c4 := K.wlk.c4
  have c5 := K.wlk.c5
  have f5 := K.wlk.fr 5
  obtain ⟨p, hpp⟩ : ∃ p, p = s.pos := ⟨_, rfl⟩
  obtain ⟨k, hk⟩ : ∃ k, k = ordN cs p := ⟨_, rfl⟩
  rw [← hpp] at c5 hp
  have hkn : k < l.n := by rw [hk, ← hl]; exact ordN_lt hp
  have d0 := K.ord.cell (j := p) (by rw [byW_length]; exact hp)
  rw [ordN_get hp, ← hk] at d0
  have hp' : (p : Int) < (l.n : Int) := by omega
  have n24 : (l.n : Int) ≤ 24 := by omega
  have HK : Hid (Wk w0 w l cs s ∧ Right cs s ∧ cs.length = l.n ∧ p = s.pos ∧ k = ordN cs p) := ⟨K, R, hl, hpp, hk⟩
  by_cases hend : p + 1 = l.n
  · have e : goPos cs s = 0 := by rw [goPos, ← hpp, hl, if_pos hend]
    rw [e]
    have hend' : (p : Int) + 1 = (l.n : Int) := by omega
    clear K R hl hpp hk h24 hp hend e
    go_enter Try.func64, Try.ntmps64
    go_wp2_with fail
    go_quiet (fail)
    go_wp2_with fail
    go_quiet (fail)
    go_wp2_with fail
    refine bodyPost_ret (results_none rfl _ _ _) rfl ⟨rfl, (((HK.out.1.drewN _).go l.n).drewN _).go 0, ?_⟩
    exact (((mine_below (below_drewN (Below.refl _ _) _)).trans (mine_b _)).trans (mine_below (below_drewN (Below.refl _ _) _))).trans (mine_b _)
  · have hend' : ((p : Int) + 1 == (l.n : Int)) = false := by simp; omega
    have hp1 : p + 1 < cs.length := by omega
    obtain ⟨j, hj⟩ : ∃ j, j = ordN cs (p + 1) := ⟨_, rfl⟩
    have hjn : j < l.n := by rw [hj, ← hl]; exact ordN_lt hp1
    have hg : goPos cs s = if lsGoes cs s.had s.turns k j then p + 1 else 0 := by rw [goPos, ← hpp, hl, if_neg hend, hk, hj]
    have HJ : Hid (j = ordN cs (p + 1) ∧ p + 1 < cs.length ∧ Right cs ⟨s.had, s.turns, p + 1⟩) := ⟨hj, hp1, R.moved hp1⟩
    have hp1' : (p : Int) + 1 < (l.n : Int) := by omega
    obtain ⟨x, hx⟩ : ∃ x, x = lef cs s.had k := ⟨_, rfl⟩
    obtain ⟨y, hy⟩ : ∃ y, y = lef cs s.had j := ⟨_, rfl⟩
    obtain ⟨z, hz⟩ : ∃ z, z = decide (s.had.getD j 0 * sumI cs < (s.turns + 1) * cs.getD j 0) := ⟨_, rfl⟩
    have hgo : lsGoes cs s.had s.turns k j = (decide (x < y) || z) := by rw [lsGoes, hx, hy, hz]
    have T : Hid (∀ u : World, Wk w0 u l cs ⟨s.had, s.turns, p + 1⟩ → Calls Try.prog 46 #[.pointer (some ⟨l.b, 0, none⟩), .int .i64 k] u (fun e w' => e = .returned (.int .i64 x) ∧ Below u.heap.size u w') ∧ Calls Try.prog 46 #[.pointer (some ⟨l.b, 0, none⟩), .int .i64 j] u (fun e w' => e = .returned (.int .i64 y) ∧ Below u.heap.size u w') ∧ Calls Try.prog 73 #[.pointer (some ⟨l.b, 0, none⟩), .int .i64 j] u (fun e w' => e = .returned (.bool z) ∧ Below u.heap.size u w')) := by
      intro u hu
      rw [hx, hy, hz]
      exact ⟨calls_drawn (left_at w0 l cs _ u hu HJ.out.2.2 k hkn), calls_drawn (left_at w0 l cs _ u hu HJ.out.2.2 j hjn), calls_drawn (isBehind_at w0 l cs _ u hu HJ.out.2.2 j hjn)⟩
    rw [hg, hgo]
    have hjx : (j : Int) = (ordN cs (p + 1) : Int) := by rw [← hj]
    clear K R hl hpp hk h24 hp hend hj hp1 hg hgo hx hy hz
    have HJX := hid hjx
    clear hjx
    by_cases hxy : x < y
    · have e : (decide (x < y) || z) = true := by simp [hxy]
      rw [e]
      have hd : decide (y ≤ x) = false := by simp; omega
      clear e
      go_enter Try.func64, Try.ntmps64
      go_wp2_with fail
      go_quiet (fail)
      have H1 : Hid (Wk w0 (w.drewN nq) l cs s ∧ Mine l.b l.gH w (w.drewN nq)) := ⟨HK.out.1.drewN _, mine_below (below_drewN (Below.refl _ _) _)⟩
      generalize w.drewN nq = w1 at *
      clear c4 c5 f5 d0
      have c5 := H1.out.1.wlk.c5
      have f5 := H1.out.1.wlk.fr 5
      rw [← HK.out.2.2.2.1] at c5
      go_wp2_with fail
      have H2 : Hid (Wk w0 (w1.setCell ⟨l.b, 5, none⟩ (.int .i64 ((p : Int) + 1))) l cs ⟨s.had, s.turns, p + 1⟩ ∧ Mine l.b l.gH w (w1.setCell ⟨l.b, 5, none⟩ (.int .i64 ((p : Int) + 1)))) := ⟨H1.out.1.go (p + 1), H1.out.2.trans (mine_b _)⟩
      generalize w1.setCell ⟨l.b, 5, none⟩ (.int .i64 ((p : Int) + 1)) = w2 at *
      clear c5 f5 H1
      have c4 := H2.out.1.wlk.c4
      have c5 : w2.cell? ⟨l.b, 5, none⟩ = some (.int .i64 ((p : Int) + 1)) := H2.out.1.wlk.c5
      go_quiet (fail)
      have H3 : Hid (Wk w0 (w2.drewN nq) l cs ⟨s.had, s.turns, p + 1⟩ ∧ Mine l.b l.gH w (w2.drewN nq)) := ⟨H2.out.1.drewN _, H2.out.2.trans (mine_below (below_drewN (Below.refl _ _) _))⟩
      generalize w2.drewN nq = w3 at *
      clear c4 c5 H2
      have c4 := H3.out.1.wlk.c4
      have c5 : w3.cell? ⟨l.b, 5, none⟩ = some (.int .i64 ((p : Int) + 1)) := H3.out.1.wlk.c5
      have d1 := H3.out.1.ord.cell (j := p + 1) (by rw [byW_length]; exact HJ.out.2.1)
      rw [ordN_get HJ.out.2.1, ← HJX.out] at d1
      go_wp2_with fail
      go_quiet (fail)
      have H4 : Hid (Wk w0 (w3.drewN nq) l cs ⟨s.had, s.turns, p + 1⟩ ∧ Mine l.b l.gH w (w3.drewN nq)) := ⟨H3.out.1.drewN _, H3.out.2.trans (mine_below (below_drewN (Below.refl _ _) _))⟩
      generalize w3.drewN nq = w4 at *
      clear c4 c5 d1 H3
      have F : Hid (∀ u : Kin w4, _) := fun u : Kin w4 => T.out u.u (H4.out.1.all u.b)
      go_wp2_with fail
      refine wp_region_kin (by kernel_rfl) (by kernel_rfl) (fun hne => ?_)
      repeat (go_big_quiet_step ((first | (go_at_call_of 46 (Value.int .i64 (k : Int)); exact kin_calls (F.out _).1) | (go_at_call_of 46 (Value.int .i64 (j : Int)); exact kin_calls (F.out _).2.1) | (go_at_call 73; exact kin_calls (F.out _).2.2))))
      refine wpQuiet_nil ?_
      rintro _ ⟨v, rfl⟩
      have H5 : Hid (Wk w0 v.u l cs ⟨s.had, s.turns, p + 1⟩ ∧ Mine l.b l.gH w v.u) := ⟨H4.out.1.all v.b, H4.out.2.trans (mine_below v.b)⟩
      go_wp2_with fail
      go_end0
      exact ⟨rfl, H5.out⟩
    · have hd : decide (y ≤ x) = true := by simp; omega
      cases z
      · have e : (decide (x < y) || false) = false := by simp; omega
        rw [e]
        clear e
        go_enter Try.func64, Try.ntmps64
        go_wp2_with fail
        go_quiet (fail)
        have H1 : Hid (Wk w0 (w.drewN nq) l cs s ∧ Mine l.b l.gH w (w.drewN nq)) := ⟨HK.out.1.drewN _, mine_below (below_drewN (Below.refl _ _) _)⟩
        generalize w.drewN nq = w1 at *
        clear c4 c5 f5 d0
        have c5 := H1.out.1.wlk.c5
        have f5 := H1.out.1.wlk.fr 5
        rw [← HK.out.2.2.2.1] at c5
        go_wp2_with fail
        have H2 : Hid (Wk w0 (w1.setCell ⟨l.b, 5, none⟩ (.int .i64 ((p : Int) + 1))) l cs ⟨s.had, s.turns, p + 1⟩ ∧ Mine l.b l.gH w (w1.setCell ⟨l.b, 5, none⟩ (.int .i64 ((p : Int) + 1)))) := ⟨H1.out.1.go (p + 1), H1.out.2.trans (mine_b _)⟩
        generalize w1.setCell ⟨l.b, 5, none⟩ (.int .i64 ((p : Int) + 1)) = w2 at *
        clear c5 f5 H1
        have c4 := H2.out.1.wlk.c4
        have c5 : w2.cell? ⟨l.b, 5, none⟩ = some (.int .i64 ((p : Int) + 1)) := H2.out.1.wlk.c5
        go_quiet (fail)
        have H3 : Hid (Wk w0 (w2.drewN nq) l cs ⟨s.had, s.turns, p + 1⟩ ∧ Mine l.b l.gH w (w2.drewN nq)) := ⟨H2.out.1.drewN _, H2.out.2.trans (mine_below (below_drewN (Below.refl _ _) _))⟩
        generalize w2.drewN nq = w3 at *
        clear c4 c5 H2
        have c4 := H3.out.1.wlk.c4
        have c5 : w3.cell? ⟨l.b, 5, none⟩ = some (.int .i64 ((p : Int) + 1)) := H3.out.1.wlk.c5
        have d1 := H3.out.1.ord.cell (j := p + 1) (by rw [byW_length]; exact HJ.out.2.1)
        rw [ordN_get HJ.out.2.1, ← HJX.out] at d1
        go_wp2_with fail
        go_quiet (fail)
        have H4 : Hid (Wk w0 (w3.drewN nq) l cs ⟨s.had, s.turns, p + 1⟩ ∧ Mine l.b l.gH w (w3.drewN nq)) := ⟨H3.out.1.drewN _, H3.out.2.trans (mine_below (below_drewN (Below.refl _ _) _))⟩
        generalize w3.drewN nq = w4 at *
        clear c4 c5 d1 H3
        have F : Hid (∀ u : Kin w4, _) := fun u : Kin w4 => T.out u.u (H4.out.1.all u.b)
        go_wp2_with fail
        refine wp_region_kin (by kernel_rfl) (by kernel_rfl) (fun hne => ?_)
        repeat (go_big_quiet_step ((first | (go_at_call_of 46 (Value.int .i64 (k : Int)); exact kin_calls (F.out _).1) | (go_at_call_of 46 (Value.int .i64 (j : Int)); exact kin_calls (F.out _).2.1) | (go_at_call 73; exact kin_calls (F.out _).2.2))))
        refine wpQuiet_nil ?_
        rintro _ ⟨v, rfl⟩
        have H5 : Hid (Wk w0 v.u l cs ⟨s.had, s.turns, p + 1⟩ ∧ Mine l.b l.gH w v.u) := ⟨H4.out.1.all v.b, H4.out.2.trans (mine_below v.b)⟩
        have c5 := H5.out.1.wlk.c5
        have f5 := H5.out.1.wlk.fr 5
        have H6 : Hid (Wk w0 (v.u.setCell ⟨l.b, 5, none⟩ (.int .i64 0)) l cs ⟨s.had, s.turns, 0⟩ ∧ Mine l.b l.gH w (v.u.setCell ⟨l.b, 5, none⟩ (.int .i64 0))) := ⟨H5.out.1.go 0, H5.out.2.trans (mine_b _)⟩
        go_wp2_with fail
        go_end0
        exact ⟨rfl, H6.out⟩
      · have e : (decide (x < y) || true) = true := by simp
        rw [e]
        clear e
        go_enter Try.func64, Try.ntmps64
        go_wp2_with fail
        go_quiet (fail)
        have H1 : Hid (Wk w0 (w.drewN nq) l cs s ∧ Mine l.b l.gH w (w.drewN nq)) := ⟨HK.out.1.drewN _, mine_below (below_drewN (Below.refl _ _) _)⟩
        generalize w.drewN nq = w1 at *
        clear c4 c5 f5 d0
        have c5 := H1.out.1.wlk.c5
        have f5 := H1.out.1.wlk.fr 5
        rw [← HK.out.2.2.2.1] at c5
        go_wp2_with fail
        have H2 : Hid (Wk w0 (w1.setCell ⟨l.b, 5, none⟩ (.int .i64 ((p : Int) + 1))) l cs ⟨s.had, s.turns, p + 1⟩ ∧ Mine l.b l.gH w (w1.setCell ⟨l.b, 5, none⟩ (.int .i64 ((p : Int) + 1)))) := ⟨H1.out.1.go (p + 1), H1.out.2.trans (mine_b _)⟩
        generalize w1.setCell ⟨l.b, 5, none⟩ (.int .i64 ((p : Int) + 1)) = w2 at *
        clear c5 f5 H1
        have c4 := H2.out.1.wlk.c4
        have c5 : w2.cell? ⟨l.b, 5, none⟩ = some (.int .i64 ((p : Int) + 1)) := H2.out.1.wlk.c5
        go_quiet (fail)
        have H3 : Hid (Wk w0 (w2.drewN nq) l cs ⟨s.had, s.turns, p + 1⟩ ∧ Mine l.b l.gH w (w2.drewN nq)) := ⟨H2.out.1.drewN _, H2.out.2.trans (mine_below (below_drewN (Below.refl _ _) _))⟩
        generalize w2.drewN nq = w3 at *
        clear c4 c5 H2
        have c4 := H3.out.1.wlk.c4
        have c5 : w3.cell? ⟨l.b, 5, none⟩ = some (.int .i64 ((p : Int) + 1)) := H3.out.1.wlk.c5
        have d1 := H3.out.1.ord.cell (j := p + 1) (by rw [byW_length]; exact HJ.out.2.1)
        rw [ordN_get HJ.out.2.1, ← HJX.out] at d1
        go_wp2_with fail
        go_quiet (fail)
        have H4 : Hid (Wk w0 (w3.drewN nq) l cs ⟨s.had, s.turns, p + 1⟩ ∧ Mine l.b l.gH w (w3.drewN nq)) := ⟨H3.out.1.drewN _, H3.out.2.trans (mine_below (below_drewN (Below.refl _ _) _))⟩
        generalize w3.drewN nq = w4 at *
        clear c4 c5 d1 H3
        have F : Hid (∀ u : Kin w4, _) := fun u : Kin w4 => T.out u.u (H4.out.1.all u.b)
        go_wp2_with fail
        refine wp_region_kin (by kernel_rfl) (by kernel_rfl) (fun hne => ?_)
        repeat (go_big_quiet_step ((first | (go_at_call_of 46 (Value.int .i64 (k : Int)); exact kin_calls (F.out _).1) | (go_at_call_of 46 (Value.int .i64 (j : Int)); exact kin_calls (F.out _).2.1) | (go_at_call 73; exact kin_calls (F.out _).2.2))))
        refine wpQuiet_nil ?_
        rintro _ ⟨v, rfl⟩
        have H5 : Hid (Wk w0 v.u l cs ⟨s.had, s.turns, p + 1⟩ ∧ Mine l.b l.gH w v.u) := ⟨H4.out.1.all v.b, H4.out.2.trans (mine_below v.b)⟩
        go_wp2_with fail
        go_end0
        exact ⟨rfl, H5.out⟩

end Go.Proofs.Ytlicjbnagapdeaa.Crew
