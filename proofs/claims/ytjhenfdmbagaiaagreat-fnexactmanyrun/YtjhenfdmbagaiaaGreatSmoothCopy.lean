/-
  Copies of slices, and a new Smooth: spec.l1Copy, impl.copied, spec.NewSmooth, impl.NewSmooth.
-/
import Derived.Test.YtjhenfdmbagaiaaGreatSmoothLaws
import Derived.Laws.CopyOwn
import Derived.Laws.IdiomCopy
import Derived.Deep.RegionHeld3
namespace Go.Proofs.YtjhenfdmbagaiaaGreat.Crew
open Go.ChangeShapes Go.WideShapes Go.ChangeAt Go.RowKit

/-- So many zeros in a block. -/
def zeros (n : Nat) : Array Value := ((List.replicate n (0 : Int)).map (Value.int .i64)).toArray

theorem made_ints (n : Nat) (hn : (n : Int) ≤ 1048576) (w : World) : (Instr.makeSlice 25 (.int .i64 n) (.int .i64 n)).run Tryz.prog w = .ok (.slice (some ⟨w.heap.size, 0, none⟩) n n) (w.alloc (.cells (zeros n) 2)) := by
  obtain ⟨i0, hi, hz0, hz1, hz2⟩ := info_parts info_int
  have h := run_make (P := Tryz.prog) w 25 2 i0 (.int .i64 0) Tryz.underlying25 hi hz0 .i64 .i64 n n (by omega) (by omega) (by rw [hz2]; omega) (by omega)
  rw [h, hz1]
  have e : madeCells (Value.int .i64 0).cells n = zeros n := by
    have := made_zero n
    apply Array.ext'
    rw [zeros, List.toList_toArray]
    exact this
  simp only [Int.toNat_natCast, Nat.mul_one]
  rw [e]

theorem row_zeros (w : World) (n : Nat) (hn : (n : Int) ≤ 1048576) : Row (w.alloc (.cells (zeros n) 2)) w.heap.size n (List.replicate n 0) := by
  have := row_new w (List.replicate n (0 : Int)) (by simp [maxLen]; omega)
  rwa [List.length_replicate] at this

theorem row_zeros_at {X : World} {s : Nat} (h : X.heap.size = s) (n : Nat) (hn : (n : Int) ≤ 1048576) : Row (X.alloc (.cells (zeros n) 2)) s n (List.replicate n 0) := by
  subst h
  exact row_zeros X n hn

theorem Ints.drew {w : World} {a : Option Addr} {len : Nat} {xs : List Int} (h : Ints w a len xs) : Ints w.drew a len xs := ints_drewN h 1

theorem Row.drew {w : World} {g cap : Nat} {xs : List Int} (h : Row w g cap xs) : Row w.drew g cap xs := row_drewN h 1

/-- spec.l1Copy: a copy in a block of its own. -/
theorem copy_any (a : Option Addr) (len cap : Nat) (xs : List Int) (w : World) (I : Ints w a len xs) (hs : (len : Int) ≤ 1048576) :
    Calls Tryz.prog 63 #[.slice a len cap] w fun e w' => ∃ g c : Nat, e = .returned (.slice (some ⟨g, 0, none⟩) len c) ∧ Row w' g c xs ∧ w.heap.size ≤ g ∧ Below w.heap.size w w' := by
  obtain ⟨i0, hi, hz0, hz1, hz2⟩ := info_parts info_int
  have HI : Hid (Ints w a len xs) := I
  clear I
  go_enter Tryz.func63, Tryz.ntmps63
  go_wp2_with (at_builtin; refine wpList_append_ints rfl (.tmp 3) (.tmp 4) 25 rfl i0 Tryz.underlying25 hi hz0 hz1 hz2 _ _ _ [] rfl rfl (row_nil w) _ _ _ xs rfl (HI.out.alloc _) (by simp; omega) ?_)
  intro g1 c1 w1 R1 G1 D1
  have H1 : Hid (Row w1 g1 c1 xs ∧ w.heap.size ≤ g1 ∧ Below w.heap.size w w1) :=
    ⟨by simpa using R1, by rcases D1 with h | h <;> (try simp at h) <;> omega, ((Below.refl _ w).alloc (Nat.le_refl _) _).grown G1 (by simp) (fun k hk => by cases hk; exact Nat.le_refl _)⟩
  clear R1 G1 D1
  go_wp2_with fail
  go_ret
  exact ⟨_, _, rfl, H1.out⟩

theorem size_one : (Tryz.prog.info? 2).map (·.size) = some 1 := by kernel_rfl

theorem copy_run (a : Option Addr) (len cap : Nat) (xs : List Int) (w : World) (I : Ints w a len xs) (hs : (len : Int) ≤ 1048576) :
    ∃ w1, (Builtin.copy_ #[25, 25] 3 #[.slice (some ⟨w.heap.size, 0, none⟩) len len, .slice a len cap]).run Tryz.prog (w.alloc (.cells (zeros len) 2)) = .ok (.int .i64 len) w1 ∧ Row w1 w.heap.size len xs ∧ Below w.heap.size w w1 := by
  have B0 : Below w.heap.size w (w.alloc (.cells (zeros len) 2)) := (Below.refl _ w).alloc (Nat.le_refl _) _
  have J := I.alloc (.cells (zeros len) 2)
  obtain ⟨hl, h0 | ⟨b, off, rfl, hb, hc⟩⟩ := I
  · subst h0
    have hx : xs = [] := List.eq_nil_of_length_eq_zero hl
    subst hx
    exact ⟨_, run_copy_none (P := Tryz.prog) _ _ _ _ _ _ _ _ _ _ _ Tryz.underlying25 size_one rfl, row_zeros w 0 (by omega), B0⟩
  · have hg : (w.alloc (.cells (zeros len) 2)).heap[w.heap.size]? = some (.cells (zeros len) 2 (0, 0)) := heap_alloc_new w _
    have hr := run_copy_row (P := Tryz.prog) (w.alloc (.cells (zeros len) 2)) 25 25 3 2 w.heap.size 0 len len ⟨b, off, none⟩ len cap (zeros len) 2 (xs.map (Value.int .i64)) Tryz.underlying25 size_one hg (by rw [List.length_map, hl]; exact (Nat.min_self len).symm) J.cellsAt (by simp [zeros, hl]) (ints_oneCell _ _)
    rw [List.length_map, hl] at hr
    refine ⟨_, hr, ⟨_, setRow_heap _ _ _ _ _ _ hg, by omega, by simp [maxLen]; omega, by simp [zeros, hl], by rw [hl]; simp [zeros, List.take_of_length_le, hl]⟩, below_setRow B0 (Nat.le_refl _) _⟩

/-- impl.copied over int64: a copy in a block of its own. -/
theorem copied_any (a : Option Addr) (len cap : Nat) (xs : List Int) (w : World) (I : Ints w a len xs) (hs : (len : Int) ≤ 1048576) :
    Calls Tryz.prog 40 #[.slice a len cap] w fun e w' => e = .returned (.slice (some ⟨w.heap.size, 0, none⟩) len len) ∧ Row w' w.heap.size len xs ∧ Below w.heap.size w w' := by
  have hm := made_ints len hs w
  obtain ⟨w1, hc, R1, B1⟩ := copy_run a len cap xs w I hs
  have H1 : Hid (Row w1 w.heap.size len xs ∧ Below w.heap.size w w1) := ⟨R1, B1⟩
  clear I R1 B1
  go_enter Tryz.func40, Tryz.ntmps40
  go_wp2_with fail
  go_ret
  exact ⟨rfl, H1.out⟩

/-- What NewSmooth answers. -/
def newC (cs : List Int) : List Int := if crewOk cs then cs else []

def newR (cs : List Int) : List Int := if crewOk cs then List.replicate cs.length 0 else []

theorem newC_yes {cs : List Int} (h : crewOk cs = true) : newC cs = cs := by rw [newC, h, if_pos rfl]

theorem newC_no {cs : List Int} (h : crewOk cs = false) : newC cs = [] := by rw [newC, h]; rfl

theorem newR_yes {cs : List Int} (h : crewOk cs = true) : newR cs = List.replicate cs.length 0 := by rw [newR, h, if_pos rfl]

theorem newR_no {cs : List Int} (h : crewOk cs = false) : newR cs = [] := by rw [newR, h]; rfl

end Go.Proofs.YtjhenfdmbagaiaaGreat.Crew
