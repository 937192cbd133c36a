/-
  The exact laws' own steps over Shops: boxes of laws.Shop, contracts by the kind. (Written by wip/tools/gen_shopnew.py.)
-/
import Derived.Test.YtcmeimfjedakeaaGreatShopRightI
namespace Go.Proofs.YtcmeimfjedakeaaGreat.Crew
open Go.ChangeShapes Go.WideShapes Go.ChangeAt Go.RowKit

theorem size_shl (L : LT) (d : SD) : (Tryz.prog.info? 50).map (·.size) = some (sc L d).toList.length := by kernel_rfl

theorem Bx.range {w : World} {b : Nat} {cs : List Value} (h : Bx w b cs) : w.rangeAt b 0 cs := fun j v hv => by
  rw [Nat.zero_add]
  exact h.2 j v hv

/-- A variable of laws.Shop that holds a Shop. -/
def Shl (w : World) (b : Nat) (L : LT) (d : SD) : Prop := Bx w b (sc L d).toList

theorem Shl.all {w w' : World} {b : Nat} {L : LT} {d : SD} (h : Shl w b L d) (k : Below w.heap.size w w') : Shl w' b L d := Bx.all h k

theorem Shl.past {w w' : World} {b : Nat} {L : LT} {d : SD} {X : Bs} (h : Shl w b L d) (k : Chg X w w') (hx : ¬ X b) : Shl w' b L d := Bx.past h k hx

theorem shl_box {ops : Array Oper} {rest : List Oper} {a : Act} {w : World} {Q : Exit → Act → World → Prop} {dst : Option Tmp} {x : Operand} {ty : TypeId} {pos : String} {af : Array Edge} {L : LT} {d : SD}
    (hx : a.eval x = sv L d) (h : ∀ W b, b = w.heap.size → Shl W b L d → Below w.heap.size w W → wpList Tryz.prog ops Q rest (a.put dst (.pointer (some ⟨b, 0, none⟩))) W) :
    wpList Tryz.prog ops Q (⟨dst, .box 50 x, ty, pos, af, none⟩ :: rest) a w := by
  refine wpList_plain rfl fun K hK => ?_
  have hr : (execOp a.eval ⟨dst, .box 50 x, ty, pos, af, none⟩).run Tryz.prog w = .ok (.value (.pointer (some ⟨w.heap.size, 0, none⟩))) (w.alloc (.cells (sc L d) 50)) := by
    simp [execOp, hx, Instr.box, newVar, newRow, Value.cells]
  unfold Oper.wp
  rw [hr, Oper.upon_value]
  exact hK _ _ (h _ _ rfl (bx_new _ _ _) (below_new _ _))

theorem shl_loadg {ops : Array Oper} {rest : List Oper} {a : Act} {w : World} {Q : Exit → Act → World → Prop} {dst : Option Tmp} {x : Operand} {ty : TypeId} {pos : String} {af : Array Edge} {gd : Option (Nat × Bool)} {b : Nat} {L : LT} {d : SD}
    (hw : Region.wanted (⟨dst, .load 50 x, ty, pos, af, gd⟩ : Oper) (yielded ops a.tmps) = true) (hx : a.eval x = .pointer (some ⟨b, 0, none⟩)) (S : Shl w b L d) (h : wpList Tryz.prog ops Q rest (a.put dst (sv L d)) w) :
    wpList Tryz.prog ops Q (⟨dst, .load 50 x, ty, pos, af, gd⟩ :: rest) a w :=
  wpList_step (fun K hK => by rw [if_pos hw]; exact wp_load_mid 50 x rfl b 0 hx (sc L d).toList _ (Bx.range S) Tryz.underlying50 rfl (size_shl L d) (hK _ _ h))

/-- A new variable that is given a Shop. -/
theorem Shp.chg {w w' : World} {b : Nat} {L : LT} {d : SD} {X : Bs} (h : Shp w b L d) (k : Chg X w w') (hx : ¬ X b) : Shp w' b L d := by
  unfold Shp
  rw [k.block b h.lt hx]
  exact h

theorem shop_rd {w : World} {S : Bs} {v : Value} {d : SD} (h : shopK.rep w S v d) : ∃ M, v = sv M d ∧ Rd w M d := by
  obtain ⟨M, rfl, O, _, _⟩ := h
  exact ⟨M, rfl, O.rd⟩

theorem mk_rep {n : Nat} {w : World} {M : LT} {D : SD} (h : Mk n w M D) : shopK.rep w (Has M) (sv M D) D := ⟨M, rfl, h.own, h.par, fun _ => Iff.rfl⟩

theorem short_of_small {w : World} {M : LT} {d : SD} (I : Rd w M d) (h : Small10 d) : Short M := by
  have l0 := I.t.1; have l1 := I.m.1; have l2 := I.c.1; have l3 := I.n.1; have l4 := I.s.1; have l5 := I.r.1; have l6 := I.l.1; have l7 := I.h.1; have l8 := I.y.1; have l9 := I.z.1
  obtain ⟨h0, h1, h2, h3, h4, h5, h6, h7, h8, h9⟩ := h
  intro x hx
  simp only [List.mem_cons, List.not_mem_nil, or_false] at hx
  rcases hx with rfl | rfl | rfl | rfl | rfl | rfl | rfl | rfl | rfl | rfl <;> omega

theorem small_of_short {w : World} {M : LT} {d : SD} (I : Rd w M d) (h : Short M) : Small10 d := by
  have l0 := I.t.1; have l1 := I.m.1; have l2 := I.c.1; have l3 := I.n.1; have l4 := I.s.1; have l5 := I.r.1; have l6 := I.l.1; have l7 := I.h.1; have l8 := I.y.1; have l9 := I.z.1
  obtain ⟨s0, s1, s2, s3, s4, s5, s6, s7, s8, s9⟩ := short_parts h
  refine ⟨?_, ?_, ?_, ?_, ?_, ?_, ?_, ?_, ?_, ?_⟩ <;> omega

theorem post_k {D : SD} {w w' : World} {e : Ending} (h : ShPost D w e w') : ∃ M S, e = .returned (sv M D) ∧ shopK.rep w' S (sv M D) D ∧ (∀ j, S j → w.heap.size ≤ j) ∧ Below w.heap.size w w' := by
  obtain ⟨M, rfl, K, B⟩ := h
  exact ⟨M, Has M, rfl, mk_rep K, K.fre, B⟩

theorem post_k2 {D : SD} {k : Value} {w w' : World} {e : Ending} (h : ShPost2 D k w e w') : ∃ M S, e = .returned (.tuple #[sv M D, k]) ∧ shopK.rep w' S (sv M D) D ∧ (∀ j, S j → w.heap.size ≤ j) ∧ Below w.heap.size w w' := by
  obtain ⟨M, rfl, K, B⟩ := h
  exact ⟨M, Has M, rfl, mk_rep K, K.fre, B⟩

theorem not_newer {w : World} {S : Bs} {v : Value} {d : SD} (h : shopK.rep w S v d) {b : Nat} (hb : w.heap.size ≤ b) : ¬ S b := fun e => by have := shopK.lt h b e; omega

theorem not_elder {n b : Nat} {S : Bs} (f : ∀ j, S j → n ≤ j) (hb : b < n) : ¬ S b := fun e => by have := f b e; omega

theorem sh_new {ops : Array Oper} {rest : List Oper} {a : Act} {w : World} {Q : Exit → Act → World → Prop} {p : Tmp} {d2 : Option Tmp} {y : Operand} {ty ty2 : TypeId} {pos pos2 : String} {af af2 : Array Edge} {L : LT} {d : SD}
    (hx : ∀ b, (a.put (some p) (.pointer (some ⟨b, 0, none⟩))).eval (.tmp p) = .pointer (some ⟨b, 0, none⟩)) (hy : ∀ b, (a.put (some p) (.pointer (some ⟨b, 0, none⟩))).eval y = sv L d)
    (h : ∀ W b, b = w.heap.size → Shp W b L d → Below w.heap.size w W → wpList Tryz.prog ops Q rest ((a.put (some p) (.pointer (some ⟨b, 0, none⟩))).put d2 undef) W) :
    wpList Tryz.prog ops Q (⟨some p, .alloc 36, ty, pos, af, none⟩ :: ⟨d2, .store 36 (.tmp p) y, ty2, pos2, af2, none⟩ :: rest) a w := by
  refine sh_alloc (fun W b hb S B => ?_)
  refine sh_store (hx b) (hy b) S (fun W' S' G => ?_)
  exact h W' b hb S' (B.grown G B.size (fun j hj => by cases hj; omega))

theorem sh_yield {a : Act} {w : World} {dst : Option Tmp} {x : Operand} {ty : TypeId} {pos : String} {af : Array Edge} {gd : Option (Nat × Bool)} {b : Nat} {L : LT} {d : SD}
    (hx : a.eval x = .pointer (some ⟨b, 0, none⟩)) (S : Shp w b L d) : (execOp a.eval (⟨dst, .load 36 x, ty, pos, af, gd⟩ : Oper)).run Tryz.prog w = .ok (.value (sv L d)) w := by
  unfold execOp
  simp only [hx, Instr.loadAt, Instr.sureAddr, Sem.run_bind, Sem.run_pure, Result.andThen_ok, run_loadVar_mid w b 0 36 (sc L d).toList _ S.range Tryz.underlying36 rfl (size_shop L d)]

theorem shl_yield {a : Act} {w : World} {dst : Option Tmp} {x : Operand} {ty : TypeId} {pos : String} {af : Array Edge} {gd : Option (Nat × Bool)} {b : Nat} {L : LT} {d : SD}
    (hx : a.eval x = .pointer (some ⟨b, 0, none⟩)) (S : Shl w b L d) : (execOp a.eval (⟨dst, .load 50 x, ty, pos, af, gd⟩ : Oper)).run Tryz.prog w = .ok (.value (sv L d)) w := by
  unfold execOp
  simp only [hx, Instr.loadAt, Instr.sureAddr, Sem.run_bind, Sem.run_pure, Result.andThen_ok, run_loadVar_mid w b 0 50 (sc L d).toList _ (Bx.range S) Tryz.underlying50 rfl (size_shl L d)]

theorem Mk.chg {n : Nat} {w w' : World} {L : LT} {d : SD} {X : Bs} (h : Mk n w L d) (k : Chg X w w') (hx : ∀ j, Has L j → ¬ X j) : Mk n w' L d :=
  ⟨h.own.still (fun j hj => k.block j (h.own.lt j hj) (hx j hj)), h.par, h.fre⟩

end Go.Proofs.YtcmeimfjedakeaaGreat.Crew
