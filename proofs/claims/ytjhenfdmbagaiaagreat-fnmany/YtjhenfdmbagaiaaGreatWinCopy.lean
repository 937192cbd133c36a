/-
  impl.copied over one Share: a new block that holds it.
-/
import Derived.Test.YtjhenfdmbagaiaaGreatWinBase
import Derived.Laws.CopyOwn
import Derived.Laws.IdiomCopy
namespace Go.Proofs.YtjhenfdmbagaiaaGreat.Win
open Go.ChangeShapes Go.WideShapes Go.ChangeAt Go.RowKit Go.Proofs.YtjhenfdmbagaiaaGreat.Crew

theorem made_one (w : World) : (Instr.makeSlice 24 (.int .i64 1) (.int .i64 1)).run Tryz.prog w = .ok (.slice (some ⟨w.heap.size, 0, none⟩) 1 1) (w.alloc (.cells #[.int .i64 0, .int .i64 0] 63)) := by kernel_rfl

theorem info_share : (Tryz.prog.info? 63).map (fun i => i.size) = some 2 := by kernel_rfl

theorem cells2 {w : World} {b : Nat} {n d : Int} (B : Box w b n d) : ∀ j v, [Value.int .i64 n, Value.int .i64 d][j]? = some v → w.cell? ((⟨b, 0, none⟩ : Addr).add j) = some v := by
  intro j v h
  have e : (⟨b, 0, none⟩ : Addr).add j = ⟨b, 0 + j, none⟩ := by unfold Addr.add; split <;> simp_all
  rw [e]
  match j, h with
  | 0, h => rw [← Option.some.inj h]; exact B.2.1
  | 1, h => rw [← Option.some.inj h]; exact B.2.2

theorem set_two (w : World) (x y n d : Value) (t : TypeId) : (w.alloc (.cells #[x, y] t)).setCells w.heap.size 0 [n, d] = w.alloc (.cells #[n, d] t) := by
  simp [World.setCells, World.setCell_alloc_at]

theorem copy_one (n d : Int) (b : Nat) (w : World) (B : Box w b n d) :
    (Builtin.copy_ #[24, 24] 3 #[.slice (some ⟨w.heap.size, 0, none⟩) 1 1, .slice (some ⟨b, 0, none⟩) 1 1]).run Tryz.prog (w.alloc (.cells #[.int .i64 0, .int .i64 0] 63)) = .ok (.int .i64 1) (w.alloc (.cells #[.int .i64 n, .int .i64 d] 63)) := by
  have B' : Box (w.alloc (.cells #[.int .i64 0, .int .i64 0] 63)) b n d := B.kept ((Below.refl w.heap.size w).alloc (Nat.le_refl _) _) B.1
  have hl := run_loadCells_list (P := Tryz.prog) (w.alloc (.cells #[.int .i64 0, .int .i64 0] 63)) ⟨b, 0, none⟩ [Value.int .i64 n, Value.int .i64 d] (cells2 B')
  have hst := run_storeCells_cells (P := Tryz.prog) w.heap.size 0 [Value.int .i64 n, Value.int .i64 d] 0 (w.alloc (.cells #[.int .i64 0, .int .i64 0] 63)) (by intro j hj; rw [World.cell?_alloc_at _ _ _ _ rfl]; simp at hj; simp; omega) (by intro j hj; exact World.frozen?_alloc_at _ _ _ _ rfl) (by simp [Value.oneCell'])
  rw [set_two] at hst
  have hl' : (loadCells ⟨b, 0, none⟩ 2).run Tryz.prog (w.alloc (.cells #[.int .i64 0, .int .i64 0] 63)) = .ok #[.int .i64 n, .int .i64 d] (w.alloc (.cells #[.int .i64 0, .int .i64 0] 63)) := hl
  have hm : Nat.min 1 1 = 1 := rfl
  cases hq : Tryz.prog.info? 63 with
  | none => have := info_share; simp [hq] at this
  | some i =>
    have hs := info_share
    simp [hq] at hs
    simp [Builtin.copy_, run_underlying Tryz.underlying24, Builtin.lenOf, Builtin.firstCells, sizeOf, typeInfo, hq, hs, hm, hl', hst]
    rfl

theorem copied_one (n d : Int) (b : Nat) (w : World) (B : Box w b n d) :
    Calls Tryz.prog 39 #[.slice (some ⟨b, 0, none⟩) 1 1] w fun e w' => e = .returned (.slice (some ⟨w.heap.size, 0, none⟩) 1 1) ∧ w' = w.alloc (.cells #[.int .i64 n, .int .i64 d] 63) := by
  have hm := made_one w
  have hc := copy_one n d b w B
  go_enter Tryz.func39, Tryz.ntmps39
  go_wp2_with fail
  go_ret
  exact ⟨rfl, rfl⟩

end Go.Proofs.YtjhenfdmbagaiaaGreat.Win
