/-
  Copies of slices, and a new Smooth: spec.l1Copy, impl.copied, spec.NewSmooth, impl.NewSmooth.
-/
import Derived.Test.YtkfepehldjkedaaSmoothLaws
import Derived.Laws.CopyOwn
import Derived.Laws.IdiomCopy
import Derived.Deep.RegionHeld3
namespace Go.Proofs.Ytkfepehldjkedaa.Crew
open Go.ChangeShapes Go.WideShapes Go.ChangeAt Go.RowKit

/-- So many zeros in a block. -/
def zeros (n : Nat) : Array Value := ((List.replicate n (0 : Int)).map (Value.int .i64)).toArray

theorem made_ints (n : Nat) (hn : (n : Int) ≤ 1048576) (w : World) : (Instr.makeSlice 27 (.int .i64 n) (.int .i64 n)).run Try.prog w = .ok (.slice (some ⟨w.heap.size, 0, none⟩) n n) (w.alloc (.cells (zeros n) 2)) := by
  obtain ⟨i0, hi, hz0, hz1, hz2⟩ := info_parts info_int
  have h := run_make (P := Try.prog) w 27 2 i0 (.int .i64 0) Try.underlying27 hi hz0 .i64 .i64 n n (by omega) (by omega) (by rw [hz2]; omega) (by omega)
  rw [h, hz1]
  have e : madeCells (Value.int .i64 0).cells n = zeros n := by
    have := made_zero n
    apply Array.ext'
    rw [zeros, List.toList_toArray]
    exact this
  simp only [Int.toNat_natCast, Nat.mul_one]
  rw [e]

theorem row_zeros (w : World) (n : Nat) (hn : (n : Int) ≤ 1048576) : Row (w.alloc (.cells (zeros n) 2)) w.heap.size n (List.replicate n 0) := by
  have := row_new w (List.replicate n (0 : Int)) (by simp [maxLen]; omega)
  rwa [List.length_replicate] at this

theorem row_zeros_at {X : World} {s : Nat} (h : X.heap.size = s) (n : Nat) (hn : (n : Int) ≤ 1048576) : Row (X.alloc (.cells (zeros n) 2)) s n (List.replicate n 0) := by
  subst h
  exact row_zeros X n hn

theorem Ints.drew {w : World} {a : Option Addr} {len : Nat} {xs : List Int} (h : Ints w a len xs) : Ints w.drew a len xs := ints_drewN h 1

theorem Row.drew {w : World} {g cap : Nat} {xs : List Int} (h : Row w g cap xs) : Row w.drew g cap xs := row_drewN h 1

theorem Pair.drew {w : World} {b : Nat} {x y : Value} (h : Pair w b x y) : Pair w.drew b x y := h

/-- spec.l1Copy: a copy in a block of its own. -/
theorem copy_any (a : Option Addr) (len cap : Nat) (xs : List Int) (w : World) (I : Ints w a len xs) (hs : (len : Int) ≤ 1048576) :
    Calls Try.prog 56 #[.slice a len cap] w fun e w' => ∃ g c : Nat, e = .returned (.slice (some ⟨g, 0, none⟩) len c) ∧ Row w' g c xs ∧ w.heap.size ≤ g ∧ Below w.heap.size w w' := by
  obtain ⟨i0, hi, hz0, hz1, hz2⟩ := info_parts info_int
  have HI : Hid (Ints w a len xs) := I
  clear I
  go_enter Try.func56, Try.ntmps56
  go_wp2_with (at_builtin; refine wpList_append_ints rfl (.tmp 3) (.tmp 4) 27 rfl i0 Try.underlying27 hi hz0 hz1 hz2 _ _ _ [] rfl rfl (row_nil w) _ _ _ xs rfl (HI.out.alloc _) (by simp; omega) ?_)
  intro g1 c1 w1 R1 G1 D1
  have H1 : Hid (Row w1 g1 c1 xs ∧ w.heap.size ≤ g1 ∧ Below w.heap.size w w1) :=
    ⟨by simpa using R1, by rcases D1 with h | h <;> (try simp at h) <;> omega, ((Below.refl _ w).alloc (Nat.le_refl _) _).grown G1 (by simp) (fun k hk => by cases hk; exact Nat.le_refl _)⟩
  clear R1 G1 D1
  go_wp2_with fail
  go_ret
  exact ⟨_, _, rfl, H1.out⟩

theorem size_one : (Try.prog.info? 2).map (·.size) = some 1 := by kernel_rfl

theorem copy_run (a : Option Addr) (len cap : Nat) (xs : List Int) (w : World) (I : Ints w a len xs) (hs : (len : Int) ≤ 1048576) :
    ∃ w1, (Builtin.copy_ #[27, 27] 3 #[.slice (some ⟨w.heap.size, 0, none⟩) len len, .slice a len cap]).run Try.prog (w.alloc (.cells (zeros len) 2)) = .ok (.int .i64 len) w1 ∧ Row w1 w.heap.size len xs ∧ Below w.heap.size w w1 := by
  have B0 : Below w.heap.size w (w.alloc (.cells (zeros len) 2)) := (Below.refl _ w).alloc (Nat.le_refl _) _
  have J := I.alloc (.cells (zeros len) 2)
  obtain ⟨hl, h0 | ⟨b, off, rfl, hb, hc⟩⟩ := I
  · subst h0
    have hx : xs = [] := List.eq_nil_of_length_eq_zero hl
    subst hx
    exact ⟨_, run_copy_none (P := Try.prog) _ _ _ _ _ _ _ _ _ _ _ Try.underlying27 size_one rfl, row_zeros w 0 (by omega), B0⟩
  · have hg : (w.alloc (.cells (zeros len) 2)).heap[w.heap.size]? = some (.cells (zeros len) 2 (0, 0)) := heap_alloc_new w _
    have hr := run_copy_row (P := Try.prog) (w.alloc (.cells (zeros len) 2)) 27 27 3 2 w.heap.size 0 len len ⟨b, off, none⟩ len cap (zeros len) 2 (xs.map (Value.int .i64)) Try.underlying27 size_one hg (by rw [List.length_map, hl]; exact (Nat.min_self len).symm) J.cellsAt (by simp [zeros, hl]) (ints_oneCell _ _)
    rw [List.length_map, hl] at hr
    refine ⟨_, hr, ⟨_, setRow_heap _ _ _ _ _ _ hg, by omega, by simp [maxLen]; omega, by simp [zeros, hl], by rw [hl]; simp [zeros, List.take_of_length_le, hl]⟩, below_setRow B0 (Nat.le_refl _) _⟩

/-- impl.copied over int64: a copy in a block of its own. -/
theorem copied_any (a : Option Addr) (len cap : Nat) (xs : List Int) (w : World) (I : Ints w a len xs) (hs : (len : Int) ≤ 1048576) :
    Calls Try.prog 40 #[.slice a len cap] w fun e w' => e = .returned (.slice (some ⟨w.heap.size, 0, none⟩) len len) ∧ Row w' w.heap.size len xs ∧ Below w.heap.size w w' := by
  have hm := made_ints len hs w
  obtain ⟨w1, hc, R1, B1⟩ := copy_run a len cap xs w I hs
  have H1 : Hid (Row w1 w.heap.size len xs ∧ Below w.heap.size w w1) := ⟨R1, B1⟩
  clear I R1 B1
  go_enter Try.func40, Try.ntmps40
  go_wp2_with fail
  go_ret
  exact ⟨rfl, H1.out⟩

/-- What NewSmooth answers. -/
def newC (cs : List Int) : List Int := if crewOk cs then cs else []

def newR (cs : List Int) : List Int := if crewOk cs then List.replicate cs.length 0 else []

theorem newC_yes {cs : List Int} (h : crewOk cs = true) : newC cs = cs := by rw [newC, h, if_pos rfl]

theorem newC_no {cs : List Int} (h : crewOk cs = false) : newC cs = [] := by rw [newC, h]; rfl

theorem newR_yes {cs : List Int} (h : crewOk cs = true) : newR cs = List.replicate cs.length 0 := by rw [newR, h, if_pos rfl]

theorem newR_no {cs : List Int} (h : crewOk cs = false) : newR cs = [] := by rw [newR, h]; rfl

/-- impl.NewSmooth. -/
theorem implNew (a : Option Addr) (len cap : Nat) (cs : List Int) (w : World) (I : Ints w a len cs) :
    Calls Try.prog 13 #[.slice a len cap] w fun e w' => ∃ b lb cb d ld cd, e = .returned (.tuple #[sm (.slice b lb cb) (.slice d ld cd), .bool (crewOk cs)]) ∧ Fit w' w.heap.size b lb cb (newC cs) ∧ Fit w' w.heap.size d ld cd (newR cs) ∧ Apart b d ∧ Below w.heap.size w w' := by
  have HI : Hid (Ints w a len cs) := I
  have hl := I.1
  clear I
  have P0 := pair_new w (.slice none 0 0) (.slice none 0 0)
  cases hc : crewOk cs
  · have HC : Hid (crewOk cs = false) := hc
    rw [newC_no hc, newR_no hc]
    clear hc P0
    go_enter Try.func13, Try.ntmps13
    go_wp2_with fail
    refine (implCrewOk a len cap cs _ (HI.out.alloc _)).mono ?_
    rw [HC.out]
    rintro e w1 ⟨rfl, rfl⟩
    go_wp2_with fail
    refine bodyPost_ret (ret_pair2 rfl rfl rfl (pair_new w _ _)) rfl ⟨_, _, _, _, _, _, rfl, fit_nil _ _, fit_nil _ _, apart_none _, below_new _ _⟩
  · have HC : Hid (crewOk cs = true ∧ cs.length = len) := ⟨hc, hl⟩
    have hs : (len : Int) ≤ 1048576 := by have := crew_len hc; omega
    have hm := made_ints len hs
    rw [newC_yes hc, newR_yes hc, hl]
    clear hc hl
    go_enter Try.func13, Try.ntmps13
    go_wp2_with fail
    refine (implCrewOk a len cap cs _ (HI.out.alloc _)).mono ?_
    rw [HC.out.1]
    rintro e w1 ⟨rfl, rfl⟩
    go_wp2_with fail
    go_region_held3 (fun _ => True) (trivial)
      ((go_at_call 40; refine (copied_any a len cap cs _ ?_ hs).mono ?_; (repeat (first | exact HI.out | apply Ints.drew | apply Ints.alloc)); rintro e w2 ⟨rfl, R2, B2⟩; have P2 : Pair w2 w.heap.size (.slice none 0 0) (.slice none 0 0) := Pair.kept (by (repeat (first | exact P0 | apply Pair.drew | apply Pair.alloc))) B2 (by simp <;> omega); have p0 := P2.c0; have p1 := P2.c1; have f0 := P2.fr 0; have f1 := P2.fr 1; have n1 : w.heap.size < w2.heap.size := P2.lt; have n2 : ¬ w.heap.size = w2.heap.size := Nat.ne_of_lt n1; have n3 : ¬ w2.heap.size = w.heap.size := Nat.ne_of_gt n1))
    · clear p0 p1 f0 f1
      have hz : (w.alloc (.cells #[.slice none 0 0, .slice none 0 0] 31)).drew.heap.size = w.heap.size + 1 := by simp
      rw [hz] at R2 B2
      have H2 : Hid (Row w2 (w.heap.size + 1) len cs ∧ Pair w2 w.heap.size (.slice none 0 0) (.slice none 0 0) ∧ Below w.heap.size w w2) := ⟨R2, P2, (below_new w _).drew.trans (B2.mono (Nat.le_succ _))⟩
      have h1 := R2.lt
      clear hz R2 B2 P2
      go_wp2_with fail
      refine bodyPost_ret (ret_pair2 rfl rfl rfl (((H2.out.2.1.set0 _).set1 _).alloc _)) rfl ⟨_, _, _, _, _, _, rfl, ?_, ?_, ?_, ?_⟩
      · exact (((H2.out.1.past (by omega) _).past (by omega) _).alloc _).fit (by omega) HC.out.2
      · exact (row_zeros_at (by simp) len hs).fit (by omega) (by simp)
      · exact fun x y hx hy => by cases hx; cases hy; exact (by simp; omega)
      · exact (below_set (below_set H2.out.2.2 (Nat.le_refl _) _) (Nat.le_refl _) _).alloc (by simp; omega) _
    · clear p0 p1 f0 f1
      have Z2 := Row.kept (row_zeros_at (X := w.alloc (.cells #[.slice none 0 0, .slice none 0 0] 31)) (s := w.heap.size + 1) (by simp) len hs).drew B2 (by simp)
      have hz : ((w.alloc (.cells #[.slice none 0 0, .slice none 0 0] 31)).alloc (.cells (zeros len) 2)).drew.heap.size = w.heap.size + 1 + 1 := by simp
      have B3 : Below w.heap.size w w2 := (((below_new w (.cells #[.slice none 0 0, .slice none 0 0] 31)).alloc (by simp) (.cells (zeros len) 2)).drew).trans (B2.mono (by simp; omega))
      rw [hz] at R2
      have H2 : Hid (Row w2 (w.heap.size + 1 + 1) len cs ∧ Pair w2 w.heap.size (.slice none 0 0) (.slice none 0 0) ∧ Below w.heap.size w w2 ∧ Row w2 (w.heap.size + 1) len (List.replicate len 0)) := ⟨R2, P2, B3, Z2⟩
      clear hz R2 B2 P2 B3 Z2
      go_wp2_with fail
      refine bodyPost_ret (ret_pair2 rfl rfl rfl ((H2.out.2.1.set0 _).set1 _)) rfl ⟨_, _, _, _, _, _, rfl, ?_, ?_, ?_, ?_⟩
      · exact ((H2.out.1.past (by omega) _).past (by omega) _).fit (by omega) HC.out.2
      · exact ((H2.out.2.2.2.past (by omega) _).past (by omega) _).fit (by omega) (by simp)
      · exact fun x y hx hy => by cases hx; cases hy; exact (by simp)
      · exact below_set (below_set H2.out.2.2.1 (Nat.le_refl _) _) (Nat.le_refl _) _

/-- spec.NewSmooth. -/
theorem specNew (a : Option Addr) (len cap : Nat) (cs : List Int) (w : World) (I : Ints w a len cs) (hs : (len : Int) ≤ 1048576) :
    Calls Try.prog 30 #[.slice a len cap] w fun e w' => ∃ b lb cb d ld cd, e = .returned (.tuple #[sm (.slice b lb cb) (.slice d ld cd), .bool (crewOk cs)]) ∧ Fit w' w.heap.size b lb cb (newC cs) ∧ Fit w' w.heap.size d ld cd (newR cs) ∧ Apart b d ∧ Below w.heap.size w w' := by
  have HI : Hid (Ints w a len cs) := I
  have hl := I.1
  clear I
  have P0 := pair_new w (.slice none 0 0) (.slice none 0 0)
  cases hc : crewOk cs
  · have HC : Hid (crewOk cs = false) := hc
    rw [newC_no hc, newR_no hc]
    clear hc P0
    go_enter Try.func30, Try.ntmps30
    go_wp2_with fail
    refine (specCrewOk a len cap cs _ (HI.out.alloc _) hs).mono ?_
    rw [HC.out]
    rintro e w1 ⟨rfl, rfl⟩
    go_wp2_with fail
    refine bodyPost_ret (ret_pair2 rfl rfl rfl (pair_new w _ _)) rfl ⟨_, _, _, _, _, _, rfl, fit_nil _ _, fit_nil _ _, apart_none _, below_new _ _⟩
  · have HC : Hid (crewOk cs = true ∧ cs.length = len) := ⟨hc, hl⟩
    have hm := made_ints len hs
    rw [newC_yes hc, newR_yes hc, hl]
    clear hc hl
    go_enter Try.func30, Try.ntmps30
    go_wp2_with fail
    refine (specCrewOk a len cap cs _ (HI.out.alloc _) hs).mono ?_
    rw [HC.out.1]
    rintro e w1 ⟨rfl, rfl⟩
    go_wp2_with fail
    go_region_held3 (fun _ => True) (trivial)
      ((go_at_call 56; refine (copy_any a len cap cs _ ?_ hs).mono ?_; (repeat (first | exact HI.out | apply Ints.drew | apply Ints.alloc)); rintro e w2 ⟨g2, c2, rfl, R2, hg2, B2⟩; have P2 : Pair w2 w.heap.size (.slice none 0 0) (.slice none 0 0) := Pair.kept (by (repeat (first | exact P0 | apply Pair.drew | apply Pair.alloc))) B2 (by simp <;> omega); have p0 := P2.c0; have p1 := P2.c1; have f0 := P2.fr 0; have f1 := P2.fr 1; have n1 : w.heap.size < w2.heap.size := P2.lt; have n2 : ¬ w.heap.size = w2.heap.size := Nat.ne_of_lt n1; have n3 : ¬ w2.heap.size = w.heap.size := Nat.ne_of_gt n1))
    · clear p0 p1 f0 f1
      have hz : (w.alloc (.cells #[.slice none 0 0, .slice none 0 0] 31)).drew.heap.size = w.heap.size + 1 := by simp
      rw [hz] at hg2 B2
      have H2 : Hid (Row w2 g2 c2 cs ∧ Pair w2 w.heap.size (.slice none 0 0) (.slice none 0 0) ∧ Below w.heap.size w w2) := ⟨R2, P2, (below_new w _).drew.trans (B2.mono (Nat.le_succ _))⟩
      have h1 := R2.lt
      clear hz R2 B2 P2
      go_wp2_with fail
      refine bodyPost_ret (ret_pair2 rfl rfl rfl (((H2.out.2.1.set0 _).set1 _).alloc _)) rfl ⟨_, _, _, _, _, _, rfl, ?_, ?_, ?_, ?_⟩
      · exact (((H2.out.1.past (by omega) _).past (by omega) _).alloc _).fit (by omega) HC.out.2
      · exact (row_zeros_at (by simp) len hs).fit (by omega) (by simp)
      · exact fun x y hx hy => by cases hx; cases hy; exact (by simp; omega)
      · exact (below_set (below_set H2.out.2.2 (Nat.le_refl _) _) (Nat.le_refl _) _).alloc (by simp; omega) _
    · clear p0 p1 f0 f1
      have Z2 := Row.kept (row_zeros_at (X := w.alloc (.cells #[.slice none 0 0, .slice none 0 0] 31)) (s := w.heap.size + 1) (by simp) len hs).drew B2 (by simp)
      have hz : ((w.alloc (.cells #[.slice none 0 0, .slice none 0 0] 31)).alloc (.cells (zeros len) 2)).drew.heap.size = w.heap.size + 1 + 1 := by simp
      have B3 : Below w.heap.size w w2 := (((below_new w (.cells #[.slice none 0 0, .slice none 0 0] 31)).alloc (by simp) (.cells (zeros len) 2)).drew).trans (B2.mono (by simp; omega))
      rw [hz] at hg2
      have H2 : Hid (Row w2 g2 c2 cs ∧ Pair w2 w.heap.size (.slice none 0 0) (.slice none 0 0) ∧ Below w.heap.size w w2 ∧ Row w2 (w.heap.size + 1) len (List.replicate len 0)) := ⟨R2, P2, B3, Z2⟩
      clear hz R2 B2 P2 B3 Z2
      go_wp2_with fail
      refine bodyPost_ret (ret_pair2 rfl rfl rfl ((H2.out.2.1.set0 _).set1 _)) rfl ⟨_, _, _, _, _, _, rfl, ?_, ?_, ?_, ?_⟩
      · exact ((H2.out.1.past (by omega) _).past (by omega) _).fit (by omega) HC.out.2
      · exact ((H2.out.2.2.2.past (by omega) _).past (by omega) _).fit (by omega) (by simp)
      · exact fun x y hx hy => by cases hx; cases hy; exact (by simp; omega)
      · exact below_set (below_set H2.out.2.2.1 (Nat.le_refl _) _) (Nat.le_refl _) _

end Go.Proofs.Ytkfepehldjkedaa.Crew
