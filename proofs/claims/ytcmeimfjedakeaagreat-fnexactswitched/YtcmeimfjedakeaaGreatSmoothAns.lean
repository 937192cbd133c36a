/-
  Copies of slices, and a new Smooth: spec.l1Copy, impl.copied, spec.NewSmooth, impl.NewSmooth.
-/
import Derived.Test.YtcmeimfjedakeaaGreatSmoothLaws
import Derived.Laws.CopyOwn
import Derived.Laws.IdiomCopy
import Derived.Deep.RegionHeld3
import Derived.Test.YtcmeimfjedakeaaGreatLawSmoothOk
namespace Go.Proofs.YtcmeimfjedakeaaGreat.Crew
open Go.ChangeShapes Go.WideShapes Go.ChangeAt Go.RowKit

/-- So many zeros in a block. -/
def zeros (n : Nat) : Array Value := ((List.replicate n (0 : Int)).map (Value.int .i64)).toArray

theorem made_ints (n : Nat) (hn : (n : Int) ≤ 1048576) (w : World) : (Instr.makeSlice 27 (.int .i64 n) (.int .i64 n)).run Tryz.prog w = .ok (.slice (some ⟨w.heap.size, 0, none⟩) n n) (w.alloc (.cells (zeros n) 2)) := by
  obtain ⟨i0, hi, hz0, hz1, hz2⟩ := info_parts info_int
  have h := run_make (P := Tryz.prog) w 27 2 i0 (.int .i64 0) Tryz.underlying27 hi hz0 .i64 .i64 n n (by omega) (by omega) (by rw [hz2]; omega) (by omega)
  rw [h, hz1]
  have e : madeCells (Value.int .i64 0).cells n = zeros n := by
    have := made_zero n
    apply Array.ext'
    rw [zeros, List.toList_toArray]
    exact this
  simp only [Int.toNat_natCast, Nat.mul_one]
  rw [e]

theorem row_zeros (w : World) (n : Nat) (hn : (n : Int) ≤ 1048576) : Row (w.alloc (.cells (zeros n) 2)) w.heap.size n (List.replicate n 0) := by
  have := row_new w (List.replicate n (0 : Int)) (by simp [maxLen]; omega)
  rwa [List.length_replicate] at this

theorem row_zeros_at {X : World} {s : Nat} (h : X.heap.size = s) (n : Nat) (hn : (n : Int) ≤ 1048576) : Row (X.alloc (.cells (zeros n) 2)) s n (List.replicate n 0) := by
  subst h
  exact row_zeros X n hn

theorem Ints.drew {w : World} {a : Option Addr} {len : Nat} {xs : List Int} (h : Ints w a len xs) : Ints w.drew a len xs := ints_drewN h 1

theorem Row.drew {w : World} {g cap : Nat} {xs : List Int} (h : Row w g cap xs) : Row w.drew g cap xs := row_drewN h 1

theorem Pair.drew {w : World} {b : Nat} {x y : Value} (h : Pair w b x y) : Pair w.drew b x y := h

/-- spec.l1Copy: a copy in a block of its own. -/
theorem copy_any (a : Option Addr) (len cap : Nat) (xs : List Int) (w : World) (I : Ints w a len xs) (hs : (len : Int) ≤ 1048576) :
    Calls Tryz.prog 112 #[.slice a len cap] w fun e w' => ∃ g c : Nat, e = .returned (.slice (some ⟨g, 0, none⟩) len c) ∧ Row w' g c xs ∧ w.heap.size ≤ g ∧ Below w.heap.size w w' := by
  obtain ⟨i0, hi, hz0, hz1, hz2⟩ := info_parts info_int
  have HI : Hid (Ints w a len xs) := I
  clear I
  go_enter Tryz.func112, Tryz.ntmps112
  go_wp2_with (at_builtin; refine wpList_append_ints rfl (.tmp 3) (.tmp 4) 27 rfl i0 Tryz.underlying27 hi hz0 hz1 hz2 _ _ _ [] rfl rfl (row_nil w) _ _ _ xs rfl (HI.out.alloc _) (by simp; omega) ?_)
  intro g1 c1 w1 R1 G1 D1
  have H1 : Hid (Row w1 g1 c1 xs ∧ w.heap.size ≤ g1 ∧ Below w.heap.size w w1) :=
    ⟨by simpa using R1, by rcases D1 with h | h <;> (try simp at h) <;> omega, ((Below.refl _ w).alloc (Nat.le_refl _) _).grown G1 (by simp) (fun k hk => by cases hk; exact Nat.le_refl _)⟩
  clear R1 G1 D1
  go_wp2_with fail
  go_ret
  exact ⟨_, _, rfl, H1.out⟩

theorem size_one : (Tryz.prog.info? 2).map (·.size) = some 1 := by kernel_rfl

theorem copy_run (a : Option Addr) (len cap : Nat) (xs : List Int) (w : World) (I : Ints w a len xs) (hs : (len : Int) ≤ 1048576) :
    ∃ w1, (Builtin.copy_ #[27, 27] 3 #[.slice (some ⟨w.heap.size, 0, none⟩) len len, .slice a len cap]).run Tryz.prog (w.alloc (.cells (zeros len) 2)) = .ok (.int .i64 len) w1 ∧ Row w1 w.heap.size len xs ∧ Below w.heap.size w w1 := by
  have B0 : Below w.heap.size w (w.alloc (.cells (zeros len) 2)) := (Below.refl _ w).alloc (Nat.le_refl _) _
  have J := I.alloc (.cells (zeros len) 2)
  obtain ⟨hl, h0 | ⟨b, off, rfl, hb, hc⟩⟩ := I
  · subst h0
    have hx : xs = [] := List.eq_nil_of_length_eq_zero hl
    subst hx
    exact ⟨_, run_copy_none (P := Tryz.prog) _ _ _ _ _ _ _ _ _ _ _ Tryz.underlying27 size_one rfl, row_zeros w 0 (by omega), B0⟩
  · have hg : (w.alloc (.cells (zeros len) 2)).heap[w.heap.size]? = some (.cells (zeros len) 2 (0, 0)) := heap_alloc_new w _
    have hr := run_copy_row (P := Tryz.prog) (w.alloc (.cells (zeros len) 2)) 27 27 3 2 w.heap.size 0 len len ⟨b, off, none⟩ len cap (zeros len) 2 (xs.map (Value.int .i64)) Tryz.underlying27 size_one hg (by rw [List.length_map, hl]; exact (Nat.min_self len).symm) J.cellsAt (by simp [zeros, hl]) (ints_oneCell _ _)
    rw [List.length_map, hl] at hr
    refine ⟨_, hr, ⟨_, setRow_heap _ _ _ _ _ _ hg, by omega, by simp [maxLen]; omega, by simp [zeros, hl], by rw [hl]; simp [zeros, List.take_of_length_le, hl]⟩, below_setRow B0 (Nat.le_refl _) _⟩

/-- impl.copied over int64: a copy in a block of its own. -/
theorem copied_any (a : Option Addr) (len cap : Nat) (xs : List Int) (w : World) (I : Ints w a len xs) (hs : (len : Int) ≤ 1048576) :
    Calls Tryz.prog 138 #[.slice a len cap] w fun e w' => e = .returned (.slice (some ⟨w.heap.size, 0, none⟩) len len) ∧ Row w' w.heap.size len xs ∧ Below w.heap.size w w' := by
  have hm := made_ints len hs w
  obtain ⟨w1, hc, R1, B1⟩ := copy_run a len cap xs w I hs
  have H1 : Hid (Row w1 w.heap.size len xs ∧ Below w.heap.size w w1) := ⟨R1, B1⟩
  clear I R1 B1
  go_enter Tryz.func138, Tryz.ntmps138
  go_wp2_with fail
  go_ret
  exact ⟨rfl, H1.out⟩

/-- What NewSmooth answers. -/
def newC (cs : List Int) : List Int := if crewOk cs then cs else []

def newR (cs : List Int) : List Int := if crewOk cs then List.replicate cs.length 0 else []

theorem newC_yes {cs : List Int} (h : crewOk cs = true) : newC cs = cs := by rw [newC, h, if_pos rfl]

theorem newC_no {cs : List Int} (h : crewOk cs = false) : newC cs = [] := by rw [newC, h]; rfl

theorem newR_yes {cs : List Int} (h : crewOk cs = true) : newR cs = List.replicate cs.length 0 := by rw [newR, h, if_pos rfl]

theorem newR_no {cs : List Int} (h : crewOk cs = false) : newR cs = [] := by rw [newR, h]; rfl

/-- impl.NewSmooth. -/
theorem implNew (a : Option Addr) (len cap : Nat) (cs : List Int) (w : World) (I : Ints w a len cs) :
    Calls Tryz.prog 216 #[.slice a len cap] w fun e w' => ∃ b lb cb d ld cd, e = .returned (.tuple #[sm (.slice b lb cb) (.slice d ld cd), .bool (crewOk cs)]) ∧ Fit w' w.heap.size b lb cb (newC cs) ∧ Fit w' w.heap.size d ld cd (newR cs) ∧ Apart b d ∧ Below w.heap.size w w' := by
  have HI : Hid (Ints w a len cs) := I
  have hl := I.1
  clear I
  have P0 := pair_new w (.slice none 0 0) (.slice none 0 0)
  cases hc : crewOk cs
  · have HC : Hid (crewOk cs = false) := hc
    rw [newC_no hc, newR_no hc]
    clear hc P0
    go_enter Tryz.func216, Tryz.ntmps216
    go_wp2_with fail
    refine (implCrewOk a len cap cs _ (HI.out.alloc _)).mono ?_
    rw [HC.out]
    rintro e w1 ⟨rfl, rfl⟩
    go_wp2_with fail
    refine bodyPost_ret (ret_pair2 rfl rfl rfl (pair_new w _ _)) rfl ⟨_, _, _, _, _, _, rfl, fit_nil _ _, fit_nil _ _, apart_none _, below_new _ _⟩
  · have HC : Hid (crewOk cs = true ∧ cs.length = len) := ⟨hc, hl⟩
    have hs : (len : Int) ≤ 1048576 := by have := crew_len hc; omega
    have hm := made_ints len hs
    rw [newC_yes hc, newR_yes hc, hl]
    clear hc hl
    go_enter Tryz.func216, Tryz.ntmps216
    go_wp2_with fail
    refine (implCrewOk a len cap cs _ (HI.out.alloc _)).mono ?_
    rw [HC.out.1]
    rintro e w1 ⟨rfl, rfl⟩
    go_wp2_with fail
    go_region_held3 (fun _ => True) (trivial)
      ((go_at_call 138; refine (copied_any a len cap cs _ ?_ hs).mono ?_; (repeat (first | exact HI.out | apply Ints.drew | apply Ints.alloc)); rintro e w2 ⟨rfl, R2, B2⟩; have P2 : Pair w2 w.heap.size (.slice none 0 0) (.slice none 0 0) := Pair.kept (by (repeat (first | exact P0 | apply Pair.drew | apply Pair.alloc))) B2 (by simp <;> omega); have p0 := P2.c0; have p1 := P2.c1; have f0 := P2.fr 0; have f1 := P2.fr 1; have n1 : w.heap.size < w2.heap.size := P2.lt; have n2 : ¬ w.heap.size = w2.heap.size := Nat.ne_of_lt n1; have n3 : ¬ w2.heap.size = w.heap.size := Nat.ne_of_gt n1))
    · clear p0 p1 f0 f1
      have hz : (w.alloc (.cells #[.slice none 0 0, .slice none 0 0] 29)).drew.heap.size = w.heap.size + 1 := by simp
      rw [hz] at R2 B2
      have H2 : Hid (Row w2 (w.heap.size + 1) len cs ∧ Pair w2 w.heap.size (.slice none 0 0) (.slice none 0 0) ∧ Below w.heap.size w w2) := ⟨R2, P2, (below_new w _).drew.trans (B2.mono (Nat.le_succ _))⟩
      have h1 := R2.lt
      clear hz R2 B2 P2
      go_wp2_with fail
      refine bodyPost_ret (ret_pair2 rfl rfl rfl (((H2.out.2.1.set0 _).set1 _).alloc _)) rfl ⟨_, _, _, _, _, _, rfl, ?_, ?_, ?_, ?_⟩
      · exact (((H2.out.1.past (by omega) _).past (by omega) _).alloc _).fit (by omega) HC.out.2
      · exact (row_zeros_at (by simp) len hs).fit (by omega) (by simp)
      · exact fun x y hx hy => by cases hx; cases hy; exact (by simp; omega)
      · exact (below_set (below_set H2.out.2.2 (Nat.le_refl _) _) (Nat.le_refl _) _).alloc (by simp; omega) _
    · clear p0 p1 f0 f1
      have Z2 := Row.kept (row_zeros_at (X := w.alloc (.cells #[.slice none 0 0, .slice none 0 0] 29)) (s := w.heap.size + 1) (by simp) len hs).drew B2 (by simp)
      have hz : ((w.alloc (.cells #[.slice none 0 0, .slice none 0 0] 29)).alloc (.cells (zeros len) 2)).drew.heap.size = w.heap.size + 1 + 1 := by simp
      have B3 : Below w.heap.size w w2 := (((below_new w (.cells #[.slice none 0 0, .slice none 0 0] 29)).alloc (by simp) (.cells (zeros len) 2)).drew).trans (B2.mono (by simp; omega))
      rw [hz] at R2
      have H2 : Hid (Row w2 (w.heap.size + 1 + 1) len cs ∧ Pair w2 w.heap.size (.slice none 0 0) (.slice none 0 0) ∧ Below w.heap.size w w2 ∧ Row w2 (w.heap.size + 1) len (List.replicate len 0)) := ⟨R2, P2, B3, Z2⟩
      clear hz R2 B2 P2 B3 Z2
      go_wp2_with fail
      refine bodyPost_ret (ret_pair2 rfl rfl rfl ((H2.out.2.1.set0 _).set1 _)) rfl ⟨_, _, _, _, _, _, rfl, ?_, ?_, ?_, ?_⟩
      · exact ((H2.out.1.past (by omega) _).past (by omega) _).fit (by omega) HC.out.2
      · exact ((H2.out.2.2.2.past (by omega) _).past (by omega) _).fit (by omega) (by simp)
      · exact fun x y hx hy => by cases hx; cases hy; exact (by simp)
      · exact below_set (below_set H2.out.2.2.1 (Nat.le_refl _) _) (Nat.le_refl _) _

/-- spec.NewSmooth. -/
theorem specNew (a : Option Addr) (len cap : Nat) (cs : List Int) (w : World) (I : Ints w a len cs) (hs : (len : Int) ≤ 1048576) :
    Calls Tryz.prog 48 #[.slice a len cap] w fun e w' => ∃ b lb cb d ld cd, e = .returned (.tuple #[sm (.slice b lb cb) (.slice d ld cd), .bool (crewOk cs)]) ∧ Fit w' w.heap.size b lb cb (newC cs) ∧ Fit w' w.heap.size d ld cd (newR cs) ∧ Apart b d ∧ Below w.heap.size w w' := by
  have HI : Hid (Ints w a len cs) := I
  have hl := I.1
  clear I
  have P0 := pair_new w (.slice none 0 0) (.slice none 0 0)
  cases hc : crewOk cs
  · have HC : Hid (crewOk cs = false) := hc
    rw [newC_no hc, newR_no hc]
    clear hc P0
    go_enter Tryz.func48, Tryz.ntmps48
    go_wp2_with fail
    refine (specCrewOk a len cap cs _ (HI.out.alloc _) hs).mono ?_
    rw [HC.out]
    rintro e w1 ⟨rfl, rfl⟩
    go_wp2_with fail
    refine bodyPost_ret (ret_pair2 rfl rfl rfl (pair_new w _ _)) rfl ⟨_, _, _, _, _, _, rfl, fit_nil _ _, fit_nil _ _, apart_none _, below_new _ _⟩
  · have HC : Hid (crewOk cs = true ∧ cs.length = len) := ⟨hc, hl⟩
    have hm := made_ints len hs
    rw [newC_yes hc, newR_yes hc, hl]
    clear hc hl
    go_enter Tryz.func48, Tryz.ntmps48
    go_wp2_with fail
    refine (specCrewOk a len cap cs _ (HI.out.alloc _) hs).mono ?_
    rw [HC.out.1]
    rintro e w1 ⟨rfl, rfl⟩
    go_wp2_with fail
    go_region_held3 (fun _ => True) (trivial)
      ((go_at_call 112; refine (copy_any a len cap cs _ ?_ hs).mono ?_; (repeat (first | exact HI.out | apply Ints.drew | apply Ints.alloc)); rintro e w2 ⟨g2, c2, rfl, R2, hg2, B2⟩; have P2 : Pair w2 w.heap.size (.slice none 0 0) (.slice none 0 0) := Pair.kept (by (repeat (first | exact P0 | apply Pair.drew | apply Pair.alloc))) B2 (by simp <;> omega); have p0 := P2.c0; have p1 := P2.c1; have f0 := P2.fr 0; have f1 := P2.fr 1; have n1 : w.heap.size < w2.heap.size := P2.lt; have n2 : ¬ w.heap.size = w2.heap.size := Nat.ne_of_lt n1; have n3 : ¬ w2.heap.size = w.heap.size := Nat.ne_of_gt n1))
    · clear p0 p1 f0 f1
      have hz : (w.alloc (.cells #[.slice none 0 0, .slice none 0 0] 29)).drew.heap.size = w.heap.size + 1 := by simp
      rw [hz] at hg2 B2
      have H2 : Hid (Row w2 g2 c2 cs ∧ Pair w2 w.heap.size (.slice none 0 0) (.slice none 0 0) ∧ Below w.heap.size w w2) := ⟨R2, P2, (below_new w _).drew.trans (B2.mono (Nat.le_succ _))⟩
      have h1 := R2.lt
      clear hz R2 B2 P2
      go_wp2_with fail
      refine bodyPost_ret (ret_pair2 rfl rfl rfl (((H2.out.2.1.set0 _).set1 _).alloc _)) rfl ⟨_, _, _, _, _, _, rfl, ?_, ?_, ?_, ?_⟩
      · exact (((H2.out.1.past (by omega) _).past (by omega) _).alloc _).fit (by omega) HC.out.2
      · exact (row_zeros_at (by simp) len hs).fit (by omega) (by simp)
      · exact fun x y hx hy => by cases hx; cases hy; exact (by simp; omega)
      · exact (below_set (below_set H2.out.2.2 (Nat.le_refl _) _) (Nat.le_refl _) _).alloc (by simp; omega) _
    · clear p0 p1 f0 f1
      have Z2 := Row.kept (row_zeros_at (X := w.alloc (.cells #[.slice none 0 0, .slice none 0 0] 29)) (s := w.heap.size + 1) (by simp) len hs).drew B2 (by simp)
      have hz : ((w.alloc (.cells #[.slice none 0 0, .slice none 0 0] 29)).alloc (.cells (zeros len) 2)).drew.heap.size = w.heap.size + 1 + 1 := by simp
      have B3 : Below w.heap.size w w2 := (((below_new w (.cells #[.slice none 0 0, .slice none 0 0] 29)).alloc (by simp) (.cells (zeros len) 2)).drew).trans (B2.mono (by simp; omega))
      rw [hz] at hg2
      have H2 : Hid (Row w2 g2 c2 cs ∧ Pair w2 w.heap.size (.slice none 0 0) (.slice none 0 0) ∧ Below w.heap.size w w2 ∧ Row w2 (w.heap.size + 1) len (List.replicate len 0)) := ⟨R2, P2, B3, Z2⟩
      clear hz R2 B2 P2 B3 Z2
      go_wp2_with fail
      refine bodyPost_ret (ret_pair2 rfl rfl rfl ((H2.out.2.1.set0 _).set1 _)) rfl ⟨_, _, _, _, _, _, rfl, ?_, ?_, ?_, ?_⟩
      · exact ((H2.out.1.past (by omega) _).past (by omega) _).fit (by omega) HC.out.2
      · exact ((H2.out.2.2.2.past (by omega) _).past (by omega) _).fit (by omega) (by simp)
      · exact fun x y hx hy => by cases hx; cases hy; exact (by simp; omega)
      · exact below_set (below_set H2.out.2.2.1 (Nat.le_refl _) _) (Nat.le_refl _) _

end Go.Proofs.YtcmeimfjedakeaaGreat.Crew

/-
  A Smooth that was answered and lies in a variable: its block, its two slices in blocks of the call's own, between two bounds; and what a store between other bounds leaves of it.
-/
namespace Go.Proofs.YtcmeimfjedakeaaGreat.Crew
open Go.ChangeShapes Go.WideShapes Go.ChangeAt Go.RowKit

/-- The slice lies below s. -/
def Under (s : Nat) (a : Option Addr) : Prop := ∀ x, a = some x → x.block < s

theorem Fit.under {w : World} {base : Nat} {a : Option Addr} {len cap : Nat} {xs : List Int} (h : Fit w base a len cap xs) : Under w.heap.size a := fun _ hx => (h.ge hx).2

theorem Fit.still {w w' : World} {base : Nat} {a : Option Addr} {len cap : Nat} {xs : List Int} (h : Fit w base a len cap xs) (hs : ∀ x, a = some x → w'.heap[x.block]? = w.heap[x.block]?) : Fit w' base a len cap xs := by
  obtain ⟨hl, ⟨h0, h1⟩ | ⟨b, rfl, hb', R⟩⟩ := h
  · exact ⟨hl, .inl ⟨h0, h1⟩⟩
  · obtain ⟨cur, hh, r⟩ := R
    exact ⟨hl, .inr ⟨b, rfl, hb', cur, by rw [hs _ rfl]; exact hh, r⟩⟩

/-- From w to w' nothing was written but between lo and hi, and new blocks. -/
structure Wr (lo hi : Nat) (w w' : World) : Prop where
  size : w.heap.size ≤ w'.heap.size
  block : ∀ i, i < w.heap.size → i < lo ∨ hi ≤ i → w'.heap[i]? = w.heap[i]?
  below : ∀ B v, Below B v w → B ≤ lo → B ≤ w.heap.size → Below B v w'

theorem wr_row {w w' : World} {g : Nat} (h : w.grownBy w' (some g)) : Wr g (g + 1) w w' :=
  ⟨h.size, fun i hi hd => h.block i hi (by simp; omega), fun B v hb hl hs => hb.grown h hs (fun k hk => by cases hk; exact hl)⟩

theorem wr_blk {w w' : World} {lo hi : Nat} {a : Option Addr} (h : w.grownBy w' (blk a)) (ha : ∀ x, a = some x → lo ≤ x.block ∧ x.block < hi) : Wr lo hi w w' :=
  ⟨h.size, fun i hi' hd => h.block i hi' (by
    cases a with
    | none => simp [blk]
    | some x => have := ha x rfl; simp [blk]; omega), fun B v hb hl hs => hb.grown h hs (fun k hk => by
    cases a with
    | none => cases hk
    | some x => have h1 := ha x rfl; have h2 : x.block = k := Option.some.inj hk; omega)⟩

theorem Wr.trans {w w1 w2 : World} {lo hi : Nat} (h : Wr lo hi w w1) (k : Wr lo hi w1 w2) : Wr lo hi w w2 :=
  ⟨Nat.le_trans h.size k.size, fun i hi' hd => (k.block i (Nat.lt_of_lt_of_le hi' h.size) hd).trans (h.block i hi' hd), fun B v hb hl hs => k.below B v (h.below B v hb hl hs) hl (Nat.le_trans hs h.size)⟩

theorem Row.wr {w w' : World} {g cap lo hi : Nat} {xs : List Int} (h : Row w g cap xs) (k : Wr lo hi w w') (hd : g < lo ∨ hi ≤ g) : Row w' g cap xs := by
  have hl := h.lt
  obtain ⟨cur, hh, r⟩ := h
  exact ⟨cur, by rw [k.block g hl hd]; exact hh, r⟩

theorem Pair.wr {w w' : World} {b lo hi : Nat} {x y : Value} (h : Pair w b x y) (k : Wr lo hi w w') (hd : b < lo ∨ hi ≤ b) : Pair w' b x y := by
  unfold Pair
  rw [k.block b h.lt hd]
  exact h

theorem Two.wr {w w' : World} {b lo hi : Nat} {x y : Value} (h : Two w b x y) (k : Wr lo hi w w') (hd : b < lo ∨ hi ≤ b) : Two w' b x y :=
  ⟨Nat.lt_of_lt_of_le h.1 k.size, (World.cell?_of_block (k.block b h.1 hd)).trans h.2.1, (World.cell?_of_block (k.block b h.1 hd)).trans h.2.2⟩

/-- A slice that was answered, between two bounds. -/
structure Sl (w : World) (lo hi : Nat) (a : Option Addr) (len cap : Nat) (xs : List Int) : Prop where
  fit : Fit w lo a len cap xs
  under : Under hi a
  top : hi ≤ w.heap.size

theorem Sl.all {w w' : World} {lo hi : Nat} {a : Option Addr} {len cap : Nat} {xs : List Int} (h : Sl w lo hi a len cap xs) (k : Below w.heap.size w w') : Sl w' lo hi a len cap xs :=
  ⟨h.fit.all k, h.under, Nat.le_trans h.top k.size⟩

theorem Sl.wr {w w' : World} {lo hi l2 h2 : Nat} {a : Option Addr} {len cap : Nat} {xs : List Int} (h : Sl w lo hi a len cap xs) (k : Wr l2 h2 w w') (hd : hi ≤ l2 ∨ h2 ≤ lo) : Sl w' lo hi a len cap xs :=
  ⟨h.fit.still (fun x hx => k.block _ (h.fit.ge hx).2 (by have := (h.fit.ge hx).1; have := h.under x hx; omega)), h.under, Nat.le_trans h.top k.size⟩

theorem Sl.range {w : World} {lo hi : Nat} {a : Option Addr} {len cap : Nat} {xs : List Int} (h : Sl w lo hi a len cap xs) : ∀ x, a = some x → lo ≤ x.block ∧ x.block < hi := fun x hx => ⟨(h.fit.ge hx).1, h.under x hx⟩

theorem Fit.sl {w : World} {lo : Nat} {a : Option Addr} {len cap : Nat} {xs : List Int} (h : Fit w lo a len cap xs) : Sl w lo w.heap.size a len cap xs := ⟨h, h.under, Nat.le_refl _⟩

/-- A Smooth that was answered, in the variable at block hi. -/
structure Ans (w : World) (lo hi : Nat) (a : Option Addr) (la ca : Nat) (xs : List Int) (b : Option Addr) (lb cb : Nat) (ys : List Int) : Prop where
  pair : Pair w hi (.slice a la ca) (.slice b lb cb)
  one : Sl w lo hi a la ca xs
  two : Sl w lo hi b lb cb ys
  apart : Apart a b

theorem Ans.all {w w' : World} {lo hi : Nat} {a : Option Addr} {la ca : Nat} {xs : List Int} {b : Option Addr} {lb cb : Nat} {ys : List Int} (h : Ans w lo hi a la ca xs b lb cb ys) (k : Below w.heap.size w w') : Ans w' lo hi a la ca xs b lb cb ys :=
  ⟨h.pair.all k, h.one.all k, h.two.all k, h.apart⟩

theorem Ans.wr {w w' : World} {lo hi l2 h2 : Nat} {a : Option Addr} {la ca : Nat} {xs : List Int} {b : Option Addr} {lb cb : Nat} {ys : List Int} (h : Ans w lo hi a la ca xs b lb cb ys) (k : Wr l2 h2 w w') (hd : hi < l2 ∨ h2 ≤ lo) (hl : lo ≤ hi) : Ans w' lo hi a la ca xs b lb cb ys :=
  ⟨h.pair.wr k (by omega), h.one.wr k (by omega), h.two.wr k (by omega), h.apart⟩

theorem Ans.lt {w : World} {lo hi : Nat} {a : Option Addr} {la ca : Nat} {xs : List Int} {b : Option Addr} {lb cb : Nat} {ys : List Int} (h : Ans w lo hi a la ca xs b lb cb ys) : hi < w.heap.size := h.pair.lt

/-- An answer laid into a new variable. -/
theorem ans_new {w : World} {lo : Nat} {a : Option Addr} {la ca : Nat} {xs : List Int} {b : Option Addr} {lb cb : Nat} {ys : List Int} (F : Fit w lo a la ca xs) (G : Fit w lo b lb cb ys) (D : Apart a b) : Ans (w.alloc (.cells #[.slice a la ca, .slice b lb cb] 29)) lo w.heap.size a la ca xs b lb cb ys :=
  ⟨pair_new _ _ _, F.sl.all (below_new _ _), G.sl.all (below_new _ _), D⟩

/-- Marked. -/
theorem ans_marked {w w' : World} {lo hi : Nat} {a : Option Addr} {la ca : Nat} {xs : List Int} {b : Option Addr} {lb cb : Nat} {ys xs' ys' : List Int} (h : Ans w lo hi a la ca xs b lb cb ys) (F : Fit w' lo a la ca xs') (G : Fit w' lo b lb cb ys') (M : ∃ wm, w.grownBy wm (blk a) ∧ wm.grownBy w' (blk b)) :
    Ans w' lo hi a la ca xs' b lb cb ys' ∧ Wr lo hi w w' := by
  obtain ⟨wm, g1, g2⟩ := M
  have k := (wr_blk g1 h.one.range).trans (wr_blk g2 h.two.range)
  exact ⟨⟨h.pair.wr k (.inr (Nat.le_refl _)), ⟨F, h.one.under, Nat.le_trans h.one.top k.size⟩, ⟨G, h.two.under, Nat.le_trans h.two.top k.size⟩, h.apart⟩, k⟩

theorem newC_len (cs : List Int) : (newC cs).length ≤ 24 := by
  cases h : crewOk cs
  · rw [newC_no h]; simp
  · rw [newC_yes h]; exact (crew_len h).2

theorem newR_len (cs : List Int) : (newR cs).length ≤ 24 := by
  cases h : crewOk cs
  · rw [newR_no h]; simp
  · rw [newR_yes h]; simp; exact (crew_len h).2

/-- The four cells of a List, whatever its type. -/
structure Four (w : World) (b : Nat) (x y : Value) (t p : Int) : Prop where
  lt : b < w.heap.size
  c0 : w.cell? ⟨b, 0, none⟩ = some x
  c1 : w.cell? ⟨b, 1, none⟩ = some y
  c2 : w.cell? ⟨b, 2, none⟩ = some (.int .i64 t)
  c3 : w.cell? ⟨b, 3, none⟩ = some (.int .i64 p)

theorem Four.all {w w' : World} {b : Nat} {x y : Value} {t p : Int} (h : Four w b x y t p) (g : Below w.heap.size w w') : Four w' b x y t p :=
  ⟨Nat.lt_of_lt_of_le h.1 g.size, (g.cell (p := ⟨b, 0, none⟩) h.1).trans h.2, (g.cell (p := ⟨b, 1, none⟩) h.1).trans h.3, (g.cell (p := ⟨b, 2, none⟩) h.1).trans h.4, (g.cell (p := ⟨b, 3, none⟩) h.1).trans h.5⟩

theorem Four.same {w w' : World} {b : Nat} {x y : Value} {t p : Int} (h : Four w b x y t p) (hs : w.heap.size ≤ w'.heap.size) (e : w'.heap[b]? = w.heap[b]?) : Four w' b x y t p :=
  ⟨Nat.lt_of_lt_of_le h.1 hs, (World.cell?_of_block e).trans h.2, (World.cell?_of_block e).trans h.3, (World.cell?_of_block e).trans h.4, (World.cell?_of_block e).trans h.5⟩

theorem Four.other {w w' : World} {b : Nat} {x y : Value} {t p : Int} {row : Option Nat} (h : Four w b x y t p) (g : w.grownBy w' row) (hb : some b ≠ row) : Four w' b x y t p := h.same g.size (g.block b h.1 hb)

theorem Four.alloc {w : World} {b : Nat} {x y : Value} {t p : Int} (h : Four w b x y t p) (o : Obj) : Four (w.alloc o) b x y t p := h.other (World.grownBy_alloc w o none) (by simp)

theorem Four.wr {w w' : World} {b lo hi : Nat} {x y : Value} {t p : Int} (h : Four w b x y t p) (k : Wr lo hi w w') (hd : b < lo ∨ hi ≤ b) : Four w' b x y t p := h.same k.size (k.block b h.1 hd)

theorem Four.drew {w : World} {b : Nat} {x y : Value} {t p : Int} (h : Four w b x y t p) : Four w.drew b x y t p := ⟨h.1, h.2, h.3, h.4, h.5⟩

theorem four_new (w : World) (x y : Value) (t p : Int) (ty : TypeId) : Four (w.alloc (.cells #[x, y, .int .i64 t, .int .i64 p] ty)) w.heap.size x y t p :=
  ⟨by simp, cell_pair (heap_alloc_new w (.cells #[x, y, .int .i64 t, .int .i64 p] ty)) 0, cell_pair (heap_alloc_new w (.cells #[x, y, .int .i64 t, .int .i64 p] ty)) 1, cell_pair (heap_alloc_new w (.cells #[x, y, .int .i64 t, .int .i64 p] ty)) 2, cell_pair (heap_alloc_new w (.cells #[x, y, .int .i64 t, .int .i64 p] ty)) 3⟩

theorem Four.past {w : World} {b b' j : Nat} {x y : Value} {t p : Int} (h : Four w b x y t p) (hb : b ≠ b') (v : Value) : Four (w.setCell ⟨b', j, none⟩ v) b x y t p := h.other (grown_at w b' j v) (by simpa using hb)

end Go.Proofs.YtcmeimfjedakeaaGreat.Crew

/-
  What an answer reads as, in which blocks it lies, what it holds once it is marked: one shape for all types, so that an exact law's text can be written by a program (wip/tools/genlaw7.py).
-/
namespace Go.Proofs.YtcmeimfjedakeaaGreat.Crew
open Go.ChangeShapes Go.WideShapes Go.ChangeAt Go.RowKit

/-- Some blocks. -/
abbrev Bs := Nat → Prop

/-- No block of both. -/
def Dj (S T : Bs) : Prop := ∀ j, S j → ¬ T j

theorem Dj.symm {S T : Bs} (h : Dj S T) : Dj T S := fun j ht hs => h j hs ht

/-- Nothing that was there is written but in some blocks. -/
structure Chg (X : Bs) (w w' : World) : Prop where
  os : w'.os = w.os
  tape : w'.tape = w.tape
  output : w'.output = w.output
  size : w.heap.size ≤ w'.heap.size
  block : ∀ j, j < w.heap.size → ¬ X j → w'.heap[j]? = w.heap[j]?

theorem Chg.refl (X : Bs) (w : World) : Chg X w w := ⟨rfl, rfl, rfl, Nat.le_refl _, fun _ _ _ => rfl⟩

theorem Chg.trans {X : Bs} {a b c : World} (h : Chg X a b) (k : Chg X b c) : Chg X a c :=
  ⟨k.os.trans h.os, k.tape.trans h.tape, k.output.trans h.output, Nat.le_trans h.size k.size, fun j hj hx => (k.block j (Nat.lt_of_lt_of_le hj h.size) hx).trans (h.block j hj hx)⟩

theorem Chg.mono {X Y : Bs} {a b : World} (h : Chg X a b) (k : ∀ j, X j → Y j) : Chg Y a b :=
  ⟨h.os, h.tape, h.output, h.size, fun j hj hy => h.block j hj (fun hx => hy (k j hx))⟩

theorem chg_of_below {w w' : World} (h : Below w.heap.size w w') (X : Bs) : Chg X w w' := ⟨h.os, h.tape, h.output, h.size, fun j hj _ => h.block j hj⟩

theorem chg_of_blk {w w' : World} {a : Option Addr} {X : Bs} (h : w.grownBy w' (blk a)) (hx : ∀ x, a = some x → X x.block) : Chg X w w' :=
  ⟨h.os, h.tape, h.output, h.size, fun j hj hn => h.block j hj (fun e => by
    cases a with
    | none => cases e
    | some x => rw [blk_some] at e; exact hn (by rw [Option.some.inj e]; exact hx x rfl))⟩

theorem Chg.under {X : Bs} {B : Nat} {v w w' : World} (k : Chg X w w') (h : Below B v w) (hx : ∀ j, X j → B ≤ j) (hB : B ≤ w.heap.size) : Below B v w' :=
  h.trans ⟨k.os, k.tape, k.output, k.size, fun j hj => k.block j (by omega) (fun e => by have := hx j e; omega)⟩

/-- A variable's cells. -/
def Bx (w : World) (b : Nat) (vs : List Value) : Prop := b < w.heap.size ∧ ∀ i v, vs[i]? = some v → w.cell? ⟨b, i, none⟩ = some v

theorem bx_new (w : World) (vs : Array Value) (ty : TypeId) : Bx (w.alloc (.cells vs ty)) w.heap.size vs.toList :=
  ⟨by simp, fun i v h => by rw [cell_of_row _ w.heap.size _ _ _ _ (heap_alloc_new w _)]; simpa using h⟩

theorem Bx.still {w w' : World} {b : Nat} {vs : List Value} (h : Bx w b vs) (hs : w.heap.size ≤ w'.heap.size) (e : w'.heap[b]? = w.heap[b]?) : Bx w' b vs :=
  ⟨Nat.lt_of_lt_of_le h.1 hs, fun i v hv => by rw [World.cell?_of_block (a := ⟨b, i, none⟩) e]; exact h.2 i v hv⟩

theorem Bx.all {w w' : World} {b : Nat} {vs : List Value} (h : Bx w b vs) (k : Below w.heap.size w w') : Bx w' b vs := h.still k.size (k.block b h.1)

theorem Bx.past {w w' : World} {b : Nat} {vs : List Value} {X : Bs} (h : Bx w b vs) (k : Chg X w w') (hx : ¬ X b) : Bx w' b vs := h.still k.size (k.block b h.1 hx)

theorem Bx.drew {w : World} {b : Nat} {vs : List Value} (h : Bx w b vs) : Bx w.drew b vs := h.all (Below.refl _ _).drew

/-- A kind of value. -/
structure Knd (δ : Type) where
  rep : World → Bs → Value → δ → Prop
  hld : World → Bs → Value → δ → Int → Prop
  slots : δ → Nat
  lt : ∀ {w : World} {S : Bs} {v : Value} {d : δ}, rep w S v d → ∀ j, S j → j < w.heap.size
  still : ∀ {w w' : World} {S : Bs} {v : Value} {d : δ}, rep w S v d → w.heap.size ≤ w'.heap.size → (∀ j, S j → w'.heap[j]? = w.heap[j]?) → rep w' S v d
  hlt : ∀ {w : World} {S : Bs} {v : Value} {d : δ} {k : Int}, hld w S v d k → ∀ j, S j → j < w.heap.size
  hstill : ∀ {w w' : World} {S : Bs} {v : Value} {d : δ} {k : Int}, hld w S v d k → w.heap.size ≤ w'.heap.size → (∀ j, S j → w'.heap[j]? = w.heap[j]?) → hld w' S v d k

section
variable {δ : Type} {K : Knd δ} {w w' : World} {S X : Bs} {v : Value} {d : δ} {k : Int}

theorem Knd.all (h : K.rep w S v d) (b : Below w.heap.size w w') : K.rep w' S v d := K.still h b.size (fun j hj => b.block j (K.lt h j hj))

theorem Knd.past (h : K.rep w S v d) (c : Chg X w w') (n : Dj S X) : K.rep w' S v d := K.still h c.size (fun j hj => c.block j (K.lt h j hj) (n j hj))

theorem Knd.drew (h : K.rep w S v d) : K.rep w.drew S v d := Knd.all h (Below.refl _ _).drew

theorem Knd.hall (h : K.hld w S v d k) (b : Below w.heap.size w w') : K.hld w' S v d k := K.hstill h b.size (fun j hj => b.block j (K.hlt h j hj))

theorem Knd.hpast (h : K.hld w S v d k) (c : Chg X w w') (n : Dj S X) : K.hld w' S v d k := K.hstill h c.size (fun j hj => c.block j (K.hlt h j hj) (n j hj))

theorem Knd.hdrew (h : K.hld w S v d k) : K.hld w.drew S v d k := Knd.hall h (Below.refl _ _).drew

/-- What was there lies apart from what is made new. -/
theorem dj_new (h : K.rep w S v d) {T : Bs} (f : ∀ j, T j → w.heap.size ≤ j) : Dj S T := fun j hs ht => by have := K.lt h j hs; have := f j ht; omega

theorem dj_held (h : K.hld w S v d k) {T : Bs} (f : ∀ j, T j → w.heap.size ≤ j) : Dj S T := fun j hs ht => by have := K.hlt h j hs; have := f j ht; omega

/-- A variable made behind it is none of its blocks. -/
theorem not_new (h : K.rep w S v d) : ¬ S w.heap.size := fun e => Nat.lt_irrefl _ (K.lt h _ e)

end

theorem bx_free {w : World} {b : Nat} {vs : List Value} (h : Bx w b vs) {T : Bs} (f : ∀ j, T j → w.heap.size ≤ j) : ¬ T b := fun e => by have := h.1; have := f b e; omega

/-- Slices of int64. -/
def intsK : Knd (List Int) where
  rep w S v xs := ∃ a len cap, v = .slice a len cap ∧ Fit w 0 a len cap xs ∧ ∀ j, S j ↔ blk a = some j
  hld w S v xs k := ∃ a len cap, v = .slice a len cap ∧ Fit w 0 a len cap (marks k len) ∧ xs.length = len ∧ ∀ j, S j ↔ blk a = some j
  slots xs := xs.length
  lt := by
    rintro w S v d ⟨a, len, cap, rfl, F, hS⟩ j hj
    have := (hS j).1 hj
    cases a with
    | none => cases this
    | some x => rw [blk_some] at this; rw [← Option.some.inj this]; exact (F.ge rfl).2
  still := by
    rintro w w' S v d ⟨a, len, cap, rfl, F, hS⟩ hs he
    exact ⟨a, len, cap, rfl, F.still (fun x hx => he _ ((hS _).2 (by rw [hx]; rfl))), hS⟩
  hlt := by
    rintro w S v d k ⟨a, len, cap, rfl, F, _, hS⟩ j hj
    have := (hS j).1 hj
    cases a with
    | none => cases this
    | some x => rw [blk_some] at this; rw [← Option.some.inj this]; exact (F.ge rfl).2
  hstill := by
    rintro w w' S v d k ⟨a, len, cap, rfl, F, hl, hS⟩ hs he
    exact ⟨a, len, cap, rfl, F.still (fun x hx => he _ ((hS _).2 (by rw [hx]; rfl))), hl, hS⟩

theorem fit_ints {w : World} {base : Nat} {a : Option Addr} {len cap : Nat} {xs : List Int} (F : Fit w base a len cap xs) : intsK.rep w (fun j => blk a = some j) (.slice a len cap) xs := ⟨a, len, cap, rfl, F.mono (Nat.zero_le _), fun _ => Iff.rfl⟩

theorem fit_fresh {w : World} {base : Nat} {a : Option Addr} {len cap : Nat} {xs : List Int} (F : Fit w base a len cap xs) : ∀ j, blk a = some j → base ≤ j := by
  intro j hj
  cases a with
  | none => cases hj
  | some x => rw [blk_some] at hj; rw [← Option.some.inj hj]; exact (F.ge rfl).1

theorem apart_dj {a b : Option Addr} (h : Apart a b) : Dj (fun j => blk a = some j) (fun j => blk b = some j) := by
  intro j h1 h2
  cases a with
  | none => cases h1
  | some x => cases b with
    | none => cases h2
    | some y =>
      rw [blk_some] at h1 h2
      exact h x y rfl rfl ((Option.some.inj h1).trans (Option.some.inj h2).symm)

theorem ints_rd {w : World} {S : Bs} {v : Value} {xs : List Int} (h : intsK.rep w S v xs) : ∃ a len cap, v = .slice a len cap ∧ Ints w a len xs := by
  obtain ⟨a, len, cap, rfl, F, _⟩ := h
  exact ⟨a, len, cap, rfl, F.ints⟩

theorem ints_eq {w : World} {S T : Bs} {u v : Value} {xs : List Int} (h : intsK.rep w S u xs) (k : intsK.rep w T v xs) (hs : (xs.length : Int) ≤ 1048576) :
    Calls Tryz.prog 66 #[u, v] w fun e w' => e = .returned (.bool true) ∧ Below w.heap.size w w' := by
  obtain ⟨a, len, cap, rfl, I⟩ := ints_rd h
  obtain ⟨b, lb, cb, rfl, J⟩ := ints_rd k
  exact eqInts_same a len cap xs b lb cb w I J (by have := I.1; omega)

theorem ints_mark {w : World} {S : Bs} {v : Value} {xs : List Int} (h : intsK.rep w S v xs) (k : Int) (hs : (xs.length : Int) ≤ 1048576) (hk0 : 0 ≤ k) (hk1 : k ≤ 1000000000) :
    Calls Tryz.prog 71 #[v, .int .i64 k] w fun e w' => e = .returned (.int .i64 (k + (intsK.slots xs : Nat))) ∧ intsK.hld w' S v xs k ∧ Chg S w w' := by
  obtain ⟨a, len, cap, rfl, F, hS⟩ := h
  have hl := F.1
  refine (markFit 0 a len cap xs k w F (by omega) hk0 (by omega)).mono ?_
  rintro e w' ⟨rfl, F', G⟩
  refine ⟨by show _ = Ending.returned (.int .i64 (k + (xs.length : Int))); rw [hl], ⟨a, len, cap, rfl, F', hl, hS⟩, chg_of_blk G (fun x hx => (hS _).2 (by rw [hx]; rfl))⟩

theorem ints_held {w : World} {S : Bs} {v : Value} {xs : List Int} {k : Int} (h : intsK.hld w S v xs k) (hs : (xs.length : Int) ≤ 1048576) (hk0 : 0 ≤ k) (hk1 : k ≤ 1000000000) :
    Calls Tryz.prog 76 #[v, .int .i64 k] w fun e w' => e = .returned (.int .i64 (k + (intsK.slots xs : Nat))) ∧ Below w.heap.size w w' := by
  obtain ⟨a, len, cap, rfl, F, hl, hS⟩ := h
  refine (heldInts_any a len cap k w F.ints (by omega) hk0 (by omega)).mono ?_
  rintro e w' ⟨rfl, B⟩
  exact ⟨by show _ = Ending.returned (.int .i64 (k + (xs.length : Int))); rw [hl], B⟩

end Go.Proofs.YtcmeimfjedakeaaGreat.Crew
