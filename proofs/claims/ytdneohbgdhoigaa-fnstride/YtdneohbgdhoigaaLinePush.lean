/-
  A line's Push: a place behind all others is taken.
-/
import Derived.Test.YtdneohbgdhoigaaLinePop
import Derived.Deep.RegionLaw
namespace Go.Proofs.Ytdneohbgdhoigaa.Crew
open Go.ChangeShapes Go.WideShapes Go.ChangeAt Go.RowKit

/-- append of one number onto a slice of the call's own, nil or not. -/
theorem run_append_fit {P : Program} (w : World) (t ty : TypeId) (i : TypeInfo) (ht : P.underlying t = some (.slice 2)) (hi : P.info? 2 = some i) (hz : i.zero = some (.int .i64 0)) (hsize : i.size = 1) (hby : i.bytes = 8)
    (base : Nat) (a : Option Addr) (len cap : Nat) (xs : List Int) (F : Fit w base a len cap xs) (hnil : a = none → cap = 0) (ad : Addr) (c : Nat) (x : Int) (I : Ints w (some ad) 1 [x]) (hlen : len ≤ 1000000) (hb : base ≤ w.heap.size) :
    ∃ g' cap' w', (Builtin.append_ #[t, t] ty #[.slice a len cap, .slice (some ad) 1 c]).run P w = .ok (.slice (some ⟨g', 0, none⟩) (len + 1) cap') w' ∧ Row w' g' cap' (xs ++ [x]) ∧ w.grownBy w' (blk a) ∧ (some g' = blk a ∨ g' = w.heap.size) ∧ base ≤ g' := by
  have hown : w.ownsRow base 2 1 (.slice a len cap) len (xs.map (Value.int .i64)) ∧ (Value.slice a len cap).ownBlock = blk a := by
    obtain ⟨hl, ⟨h0, h1⟩ | ⟨g, rfl, hg, R⟩⟩ := F
    · subst h0 h1
      rw [hnil rfl, List.eq_nil_of_length_eq_zero hl]
      exact ⟨World.ownsRow_nil _ _ _ _, rfl⟩
    · subst hl
      exact ⟨R.owns hg, rfl⟩
  obtain ⟨v', w', hr, h2, h3, h4, h5⟩ := run_append_own_at (P := P) w base t ty 2 i (.int .i64 0) 1 8 ht hi hz hsize hby rfl (by decide) _ len _ hown.1 ad 1 c ([x].map (Value.int .i64)) (by simp) I.cellsAt (ints_oneCell _ _) (by unfold maxLen; omega) (by omega) hb
  rw [← List.map_append] at h2
  rcases h2.2 with ⟨hv, _⟩ | ⟨g', cap', cur, hv, _⟩
  · rw [h4] at hv
    simp at hv
  · subst hv
    have hRr := row_of_owns h2
    rw [hown.2] at h3 h5
    exact ⟨g', cap', w', hr, hRr.1, h3, by simpa [Value.ownBlock] using h5, hRr.2.1⟩

/-- At a step of a region that draws its order. -/
theorem step_append_fit {P : Program} {w : World} {ops : Array Oper} {o : Oper} {a : Act} {K : Act → World → Prop} {Q : Exit → Act → World → Prop} {E : Prop} (hgd : o.guard = none) (s y : Operand) (t : TypeId)
    (ho : o.op = .call { callee := .builtin .append, args := #[s, y], argTypes := #[t, t] })
    (i : TypeInfo) (ht : P.underlying t = some (.slice 2)) (hi : P.info? 2 = some i) (hz : i.zero = some (.int .i64 0)) (hsize : i.size = 1) (hby : i.bytes = 8)
    (base : Nat) (b : Option Addr) (len cap : Nat) (xs : List Int) (hs : a.eval s = .slice b len cap) (F : Fit w base b len cap xs) (hnil : b = none → cap = 0) (ad : Addr) (c : Nat) (x : Int) (hy : a.eval y = .slice (some ad) 1 c) (I : Ints w (some ad) 1 [x]) (hlen : len ≤ 1000000) (hb : base ≤ w.heap.size) (H : Nat) (hH : w.heap.size = H)
    (h : ∀ g' cap' w', Row w' g' cap' (xs ++ [x]) → w.grownBy w' (blk b) → (some g' = blk b ∨ g' = H) → base ≤ g' → K (a.put o.dst (.slice (some ⟨g', 0, none⟩) (len + 1) cap')) w') :
    if Region.wanted o (yielded ops a.tmps) = true then Oper.wp P o a w K Q else E := by
  have hw : Region.wanted o (yielded ops a.tmps) = true := by simp [Region.wanted, hgd]
  rw [if_pos hw]
  subst hH
  obtain ⟨g', cap', w', hr, h2, h3, h4, h5⟩ := run_append_fit (P := P) w t o.type i ht hi hz hsize hby base b len cap xs F hnil ad c x I hlen hb
  unfold Oper.wp execOp
  simp only [ho, resolve, invoke, builtin, Sem.run_bind, Sem.run_pure, Result.andThen_ok, List.map_toArray, List.map_cons, List.map_nil, hs, hy, hr]
  exact h g' cap' w' h2 h3 h4 h5

theorem asserted (x : Int) (w : World) : (Instr.typeAssert (.iface 2 (.int .i64 x)) 20 2 false).run Try.prog w = .ok (.int .i64 x) w := by kernel_rfl

/-- A place more, and what was appended lies at g1. -/
theorem Ln.more {w0 w w1 : World} {b : Nat} {ca : Option Addr} {la cca : Nat} {cs : List Int} {g lg cg : Nat} {ns : List Int} {ha : Option Addr} {lh ch g1 c1 : Nat} {ws ws' : List Int} (h : Ln w0 w b ca la cca cs g lg cg ns ha lh ch ws) (R : Row w1 g1 c1 ws') (G : w.grownBy w1 (blk ha)) (D : some g1 = blk ha ∨ w.heap.size ≤ g1) (hl : ws'.length = lh + 1) :
    Ln w0 (w1.setCell ⟨b, 2, none⟩ (.slice (some ⟨g1, 0, none⟩) (lh + 1) c1)) b ca la cca cs g lg cg ns (some ⟨g1, 0, none⟩) (lh + 1) c1 ws' := by
  have hbl := h.line.lt
  have hgl := h.cnt.lt
  have k1 : g1 ≠ b := by
    rcases D with e | e
    · cases ha with
      | none => cases e
      | some y => have := h.hb y rfl; have : g1 = y.block := Option.some.inj e; omega
    · omega
  have k2 : g1 ≠ g := by
    rcases D with e | e
    · cases ha with
      | none => cases e
      | some y => have := h.hg y rfl; have : g1 = y.block := Option.some.inj e; omega
    · omega
  have k3 : w0.heap.size ≤ g1 := by
    rcases D with e | e
    · cases ha with
      | none => cases e
      | some y => have := (h.wait.ge (x := y) rfl).1; have : g1 = y.block := Option.some.inj e; omega
    · have := h.bel.size; omega
  have nb : some b ≠ blk ha := by
    cases ha with
    | none => simp [blk]
    | some y => have := h.hb y rfl; simp [blk]; omega
  have ng : some g ≠ blk ha := by
    cases ha with
    | none => simp [blk]
    | some y => have := h.hg y rfl; simp [blk]; omega
  have B1 : Below w0.heap.size w0 w1 := h.bel.grown G h.bel.size (fun k hk => by
    cases ha with
    | none => cases hk
    | some y => have h1 := (h.wait.ge (x := y) rfl).1; have h2 : y.block = k := Option.some.inj hk; omega)
  exact ⟨below_set B1 h.lob _, h.crew, (h.line.other G nb).set2 _, (h.cnt.other G ng).past (Ne.symm h.bg) _, h.cntl, (R.past k1 _).fit k3 hl, h.lob, h.log, h.bg, fun x e => by cases e; exact k1, fun x e => by cases e; exact k2, fun e => by cases e⟩

theorem grown_late (w : World) (o : Obj) (row : Option Nat) : w.grownBy (w.alloc o).drew row :=
  have h := World.grownBy_alloc w o row
  ⟨h.os, h.tape, h.output, h.size, h.block⟩

theorem only_blk {b g : Nat} {ha : Option Addr} {w w' : World} (G : w.grownBy w' (blk ha)) : Only b g ha w w' :=
  ⟨G.size, fun i hi _ _ hx => G.block i hi (by
    cases ha with
    | none => simp [blk]
    | some y => have := hx y rfl; simp [blk]; omega)⟩

theorem push_at (w0 : World) (b : Nat) (ca : Option Addr) (la cca : Nat) (cs : List Int) (g lg cg : Nat) (ns : List Int) (ha : Option Addr) (lh ch : Nat) (ws : List Int) (w : World) (L : Ln w0 w b ca la cca cs g lg cg ns ha lh ch ws) (h24 : lh ≤ 24) (x : Int) :
    Calls Try.prog 84 #[.pointer (some ⟨b, 0, none⟩), .iface 2 (.int .i64 x)] w fun e w' => e = .returned (.tuple #[]) ∧ ∃ g1 c1 : Nat, Ln w0 w' b ca la cca cs g lg cg ns (some ⟨g1, 0, none⟩) (lh + 1) c1 (ws ++ [x]) ∧ Only b g ha w w' ∧ (some g1 = blk ha ∨ w.heap.size ≤ g1) := by
  obtain ⟨i0, hi, hz0, hz1, hz2⟩ := info_parts info_int
  have hsz : w0.heap.size ≤ w.heap.size := L.bel.size
  have tA := asserted x
  have c2 := L.line.c2
  have f2 := L.line.fr 2
  have hbs := L.line.lt
  have hnb : ¬ b = w.heap.size := by omega
  have HB : Hid (Ln w0 (w.alloc (.cells #[.int .i64 x] 2)).drew b ca la cca cs g lg cg ns ha lh ch ws ∧ some b ≠ blk ha) := ⟨(L.all ((Below.refl _ w).alloc (Nat.le_refl _) (.cells #[.int .i64 x] 2))).drewN 1, by
    cases ha with
    | none => simp [blk]
    | some y => have := L.hb y rfl; simp [blk]; omega⟩
  have HL : Hid (Ln w0 w b ca la cca cs g lg cg ns ha lh ch ws) := L
  clear L
  go_enter Try.func84, Try.ntmps84
  go_wp2_with fail
  go_region_law ((refine step_append_fit (by rfl) (.tmp 8) (.tmp 11) 27 (by rfl) i0 Try.underlying27 hi hz0 hz1 hz2 w0.heap.size ha lh ch ws (by rfl) (HB.out.1).wait HL.out.nil ⟨w.heap.size, 0, none⟩ 1 x (by rfl) (ints_one w x _).drew (by omega) (by simp; omega) (w.heap.size + 1) (by simp) ?_; intro g1 c1 w1 R1 G1 D1 O1; have k2 := (HB.out.1.line.other G1 HB.out.2).c2; have k3 := (HB.out.1.line.other G1 HB.out.2).fr 2))
  all_goals
    go_wp2_with fail
    have D2 : some g1 = blk ha ∨ w.heap.size ≤ g1 := D1.imp id (fun h => by omega)
    have G2 : w.grownBy w1 (blk ha) := (grown_late w (.cells #[.int .i64 x] 2) (blk ha)).trans G1
    have hl := HL.out.wait.1
    go_end0
    exact ⟨rfl, g1, c1, HL.out.more R1 G2 D2 (by simp [hl]), (only_blk G2).trans (only_line _), D2⟩

end Go.Proofs.Ytdneohbgdhoigaa.Crew
