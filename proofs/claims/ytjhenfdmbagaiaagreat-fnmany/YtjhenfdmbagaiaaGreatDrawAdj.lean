/-
  Drawing what Adjusted, WholeOf and FitsOn are asked.
-/
import Derived.Test.YtjhenfdmbagaiaaGreatAdjSpec
import Derived.Test.YtjhenfdmbagaiaaGreatAdjFair
import Derived.Test.YtjhenfdmbagaiaaGreatDrawCrew
import Derived.Test.YtjhenfdmbagaiaaGreatDrawShare
namespace Go.Proofs.YtjhenfdmbagaiaaGreat.Draw
open Go.ChangeShapes Go.WideShapes Go.ChangeAt Go.RowKit
open Go.Proofs.YtjhenfdmbagaiaaGreat.Crew
open Go.Proofs.YtjhenfdmbagaiaaGreat.Win

theorem max_two (a b : Int) (w : World) :
    Calls Tryz.prog 48 #[.int .i64 a, .int .i64 b] w fun e w' => e = .returned (.int .i64 (max a b)) ∧ w' = w := by
  by_cases h : b < a
  · have e : max a b = a := by omega
    rw [e]
    clear e
    go_enter Tryz.func48, Tryz.ntmps48
    go_wp2_with fail
    go_ret
    exact ⟨rfl, rfl⟩
  · have e : max a b = b := by omega
    rw [e]
    clear e
    go_enter Tryz.func48, Tryz.ntmps48
    go_wp2_with fail
    go_ret
    exact ⟨rfl, rfl⟩

theorem Shs.cellsAt {w : World} {ad : Addr} {m : Nat} {ps : List Shr} (h : Shs w (some ad) m ps) : ∀ j u, (flat ps)[j]? = some u → w.cell? (ad.add j) = some u := by
  intro j u hu
  have hj : j < ps.length * 2 := by
    have := (List.getElem?_eq_some_iff.1 hu).1
    rwa [flat_length] at this
  obtain ⟨hl, h0 | ⟨b, off, ha, hb, hc⟩⟩ := h
  · omega
  · obtain rfl := Option.some.inj ha
    rw [Crew.add_plain]
    have hd : j / 2 < m := by omega
    obtain ⟨c0, c1⟩ := hc (j / 2) hd
    by_cases he : j % 2 = 0
    · have e : j = j / 2 * 2 := by omega
      rw [e, flat_get0 ps _ (by omega)] at hu
      rw [← hu, show off + j = off + j / 2 * 2 by omega]
      exact c0
    · have e : j = j / 2 * 2 + 1 := by omega
      rw [e, flat_get1 ps _ (by omega)] at hu
      rw [← hu, show off + j = off + j / 2 * 2 + 1 by omega]
      exact c1

theorem flat_one (ps : List Shr) : ∀ u ∈ flat ps, u.oneCell' = true := by
  intro u hu
  simp only [flat, List.mem_flatMap, List.mem_cons, List.not_mem_nil, or_false] at hu
  obtain ⟨p, _, rfl | rfl⟩ := hu <;> rfl

/-- append onto a row of Shares of the call's own, at the operation. -/
theorem wpList_append_shares {P : Program} {w : World} {ops : Array Oper} {rest : List Oper} {o : Oper} {a : Act} {Q : Exit → Act → World → Prop} (hgd : o.guard = none) (s x : Operand) (t : TypeId)
    (ho : o.op = .call { callee := .builtin .append, args := #[s, x], argTypes := #[t, t] })
    (i : TypeInfo) (ht : P.underlying t = some (.slice 63)) (hi : P.info? 63 = some i) (hz : i.zero = some (.agg #[.int .i64 0, .int .i64 0])) (hsize : i.size = 2) (hby : i.bytes = 16)
    (g n cap : Nat) (xs : List Shr) (hs : a.eval s = .slice (some ⟨g, 0, none⟩) n cap) (hn : n = xs.length) (R : SRow w g cap xs) (ad : Addr) (m c : Nat) (ys : List Shr) (hx : a.eval x = .slice (some ad) m c) (I : Shs w (some ad) m ys) (hlen : xs.length + m ≤ 1000000000)
    (h : ∀ g' cap' w', SRow w' g' cap' (xs ++ ys) → w.grownBy w' (some g) → (g' = g ∨ g' = w.heap.size) → wpList P ops Q rest (a.put o.dst (.slice (some ⟨g', 0, none⟩) (n + m) cap')) w') :
    wpList P ops Q (o :: rest) a w := by
  refine wpList_plain hgd fun K hK => ?_
  subst hn
  have hown := R.owns (base := 0) (Nat.zero_le _)
  obtain ⟨v', w', hr, h2, h3, h4, h5⟩ := run_append_own_at (P := P) w 0 t o.type 63 i (.agg #[.int .i64 0, .int .i64 0]) 2 16 ht hi hz hsize hby rfl (by decide) _ xs.length _ hown ad m c (flat ys) (by rw [flat_length, I.1]) (Shs.cellsAt I) (flat_one _) (by unfold maxLen; omega) (by omega) (Nat.zero_le _)
  rw [← flat_append] at h2
  rcases h2.2 with ⟨hv, _⟩ | ⟨g', cap', cur, hv, _⟩
  · rw [h4] at hv
    simp at hv
  · subst hv
    have hRr := (srow_of_owns h2).1
    unfold Oper.wp execOp
    simp only [ho, resolve, invoke, builtin, Sem.run_bind, Sem.run_pure, Result.andThen_ok, List.map_toArray, List.map_cons, List.map_nil, hs, hx, hr]
    refine hK _ _ (h g' cap' w' hRr h3 ?_)
    rcases h5 with h | h
    · simp [Value.ownBlock] at h; exact .inl h
    · simp [Value.ownBlock] at h; exact .inr h

/-- Shares in a block of the call's own, beside the cursor. -/
structure OwnS (T : TypeId) (p : Nat) (a : Option Addr) (len cap : Nat) (w wr : World) (g cp : Nat) (ps : List Shr) : Prop where
  row : SRow wr g cp ps
  base : w.heap.size ≤ g
  left : Left .i64 T p a len cap w wr

theorem OwnS.draw {T : TypeId} {p : Nat} {a : Option Addr} {len cap : Nat} {w wr w' : World} {g cp : Nat} {ps : List Shr} (h : OwnS T p a len cap w wr g cp ps) (hp : p < w.heap.size) (L : Left .i64 T p a len cap wr w') : OwnS T p a len cap w w' g cp ps :=
  ⟨h.row.other L.1 (by have := h.base; simp; omega), h.base, h.left.trans L⟩

theorem OwnS.set {T : TypeId} {p : Nat} {a : Option Addr} {len cap : Nat} {w wr : World} {g cp : Nat} {ps : List Shr} (h : OwnS T p a len cap w wr g cp ps) (hp : p < w.heap.size) (j : Nat) (x y : Int) : OwnS T p a len cap w ((wr.setCell ⟨g, j * 2, none⟩ (.int .i64 x)).setCell ⟨g, j * 2 + 1, none⟩ (.int .i64 y)) g cp (ps.set j (x, y)) :=
  ⟨h.row.set j x y, h.base, left_own h.left (grown_two _ _ _ _ _ _) (fun i hi => by cases hi; exact h.base) hp⟩

theorem OwnS.set0 {T : TypeId} {p : Nat} {a : Option Addr} {len cap : Nat} {w wr : World} {g cp : Nat} {ps : List Shr} (h : OwnS T p a len cap w wr g cp ps) (hp : p < w.heap.size) (j : Nat) (x : Int) : OwnS T p a len cap w (wr.setCell ⟨g, j * 2, none⟩ (.int .i64 x)) g cp (ps.set j (x, (ps.getD j (0, 0)).2)) :=
  ⟨h.row.set0 j x, h.base, left_own h.left (grown_at _ _ _ _) (fun i hi => by cases hi; exact h.base) hp⟩

theorem OwnS.append {T : TypeId} {p : Nat} {a : Option Addr} {len cap : Nat} {w wr w' : World} {g cp g' cp' : Nat} {xs ys : List Shr} {o : Obj} (h : OwnS T p a len cap w wr g cp xs) (hp : p < w.heap.size) (R : SRow w' g' cp' ys) (G : (wr.alloc o).grownBy w' (some g)) (D : g' = g ∨ g' = wr.heap.size + 1) : OwnS T p a len cap w w' g' cp' ys := by
  have hb := h.base
  have hs := h.left.1.size
  exact ⟨R, by omega, left_own (left_own h.left (World.grownBy_alloc wr o none) (by simp) hp) G (fun i hi => by cases hi; exact hb) hp⟩

theorem wts_crew {xs : List Int} (h1 : 1 ≤ xs.length) (h6 : xs.length ≤ 6) (h : wts xs = true) : crewOk xs = true := by
  unfold crewOk
  unfold wts at h
  rw [h, Bool.and_true]
  simp [within]
  omega

theorem grownB {w w' : World} (b : Below w.heap.size w w') : w.grownBy w' none := ⟨b.os, b.tape, b.output, b.size, fun i hi _ => b.block i hi⟩

/-- spec.l11DrawShares: Shares of a right crew of at most six. -/
theorem draw_shares (T : TypeId) (p : Nat) (a : Option Addr) (len cap : Nat) (w : World) (C : Cur .i64 T p a len cap w) :
    Calls Tryz.prog 75 #[.pointer (some ⟨p, 0, none⟩)] w fun e w' => ∃ g cp, ∃ ps : List Shr, ∃ x : Int, e = .returned (.tuple #[.slice (some ⟨g, 0, none⟩) ps.length cp, .int .i64 x]) ∧ OwnS T p a len cap w w' g cp ps ∧ 1 ≤ ps.length ∧ ps.length ≤ 6 := by
  have hp := C.lt
  have HC : Hid (Cur .i64 T p a len cap w) := C
  clear C
  go_enter Tryz.func75, Tryz.ntmps75
  go_wp2_with fail
  refine (below_any T p a len cap _ _ HC.out).mono ?_
  rintro e w1 ⟨x, rfl, x0, x1, _, L1⟩
  have hx : x < 4 := x1 (by omega)
  have H1 : Hid (Left .i64 T p a len cap w w1) := L1
  clear L1 x1
  go_wp2_with fail
  refine (draw_crew T p a len cap _ (H1.out.cur HC.out)).mono ?_
  rintro e w2 ⟨g, cp, xs, rfl, O2, l1, l6, hw⟩
  have hl := H1.out.1.size
  have H2 : Hid (Own T p a len cap w1 w2 g cp xs ∧ wts xs = true) := ⟨O2, hw⟩
  clear O2 hw
  go_wp2_with fail
  have hc := wts_crew l1 l6 H2.out.2
  have hpr : procsOk (1 + x) = true := by simp [procsOk, within]; omega
  refine (specAdj _ _ _ xs (1 + x) _ H2.out.1.row.ints (by omega)).mono ?_
  rintro e w3 ⟨g3, cp3, rfl, R3, hg3, B3⟩
  obtain ⟨c, P, W, F⟩ := fairly hc hpr
  have hlen := F.len
  have L3 : Left .i64 T p a len cap w w3 := left_own (H1.out.trans H2.out.1.left) (grownB B3) (by simp) hp
  have hs2 := H2.out.1.left.1.size
  obtain ⟨qs, hqs⟩ : ∃ qs, qs = adjusted xs (1 + x) := ⟨_, rfl⟩
  rw [← hqs] at R3 hlen
  have H3 : Hid (OwnS T p a len cap w w3 g3 cp3 qs) := ⟨R3, by omega, L3⟩
  rw [← hqs]
  have HL : Hid (qs.length = xs.length) := hlen
  clear hc hpr F B3 R3 L3 hqs hlen
  go_wp2_with fail
  go_ret2
  exact ⟨g3, cp3, qs, _, rfl, H3.out, by have := HL.out; omega, by have := HL.out; omega⟩

end Go.Proofs.YtjhenfdmbagaiaaGreat.Draw
