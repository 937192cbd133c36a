/-
  Copies of slices of Shares; a new Many: impl.NewMany.
-/
import Derived.Test.YtcmeimfjedakeaaGreatManyBase
import Derived.Laws.CopyOwn
import Derived.Laws.IdiomCopy
import Derived.Deep.RegionHeld3
import Derived.Deep.CutRange
namespace Go.Proofs.YtcmeimfjedakeaaGreat.Crew
open Go.ChangeShapes Go.WideShapes Go.ChangeAt Go.RowKit

/-- So many zero Shares in a block. -/
def zerosS (n : Nat) : Array Value := (flat (List.replicate n (0, 0))).toArray

theorem made_shs (n : Nat) (hn : (n : Int) ≤ 1048576) (w : World) : (Instr.makeSlice 32 (.int .i64 n) (.int .i64 n)).run Tryz.prog w = .ok (.slice (some ⟨w.heap.size, 0, none⟩) n n) (w.alloc (.cells (zerosS n) 122)) := by
  obtain ⟨i0, hi, hz0, hz1, hz2⟩ := info_parts info_shr
  have h := run_make (P := Tryz.prog) w 32 122 i0 (.agg #[.int .i64 0, .int .i64 0]) Tryz.underlying32 hi hz0 .i64 .i64 n n (by omega) (by omega) (by rw [hz2]; omega) (by omega)
  rw [h, hz1]
  have e : madeCells (Value.agg #[.int .i64 0, .int .i64 0]).cells (n * 2) = zerosS n := by
    apply Array.ext'
    rw [zerosS, List.toList_toArray]
    exact made_shares n
  simp only [Int.toNat_natCast]
  rw [e]

theorem srow_zeros (w : World) (n : Nat) (hn : (n : Int) ≤ 1048576) : SRow (w.alloc (.cells (zerosS n) 122)) w.heap.size n (List.replicate n (0, 0)) := by
  have := srow_new w (List.replicate n (0, 0)) (by simp [maxLen]; omega)
  rwa [List.length_replicate] at this

theorem size_two : (Tryz.prog.info? 122).map (·.size) = some 2 := by kernel_rfl

theorem flat_one (ps : List Shr) : ∀ v ∈ flat ps, v.oneCell' = true := by
  intro v hv
  simp only [flat, List.mem_flatMap, List.mem_cons, List.not_mem_nil, or_false] at hv
  obtain ⟨p, _, h | h⟩ := hv <;> subst h <;> rfl

theorem Shs.cellsAt {w : World} {ad : Addr} {m : Nat} {ps : List Shr} (h : Shs w (some ad) m ps) : ∀ j u, (flat ps)[j]? = some u → w.cell? (ad.add j) = some u := by
  intro j u hj
  have hl := h.1
  have hlt : j < (flat ps).length := by
    by_cases hh : j < (flat ps).length
    · exact hh
    · rw [List.getElem?_eq_none (by omega)] at hj; cases hj
  rw [flat_length] at hlt
  rcases h.2 with h0 | ⟨b, off, e, hb, hc⟩
  · omega
  · cases e
    have hadd : (⟨b, off, none⟩ : Addr).add j = ⟨b, off + j, none⟩ := by unfold Addr.add; split <;> simp_all
    rw [hadd]
    have h2 : j / 2 < ps.length := by omega
    obtain ⟨c0, c1⟩ := hc (j / 2) (by omega)
    rcases Nat.mod_two_eq_zero_or_one j with hm | hm
    · have e : j = j / 2 * 2 := by omega
      rw [e, flat_get0 ps _ h2] at hj
      cases hj
      rw [e]
      have e2 : j / 2 * 2 / 2 = j / 2 := by omega
      rw [e2]
      exact c0
    · have e : j = j / 2 * 2 + 1 := by omega
      rw [e, flat_get1 ps _ h2] at hj
      cases hj
      rw [e]
      have e2 : (j / 2 * 2 + 1) / 2 = j / 2 := by omega
      rw [e2]
      exact c1

/-- What copy does with elements of two cells. -/
theorem copy_pairs (w : World) (g dLen dCap : Nat) (a : Addr) (sLen sCap : Nat) (cur : Array Value) (t : TypeId) (cs : List Value) (ty : TypeId) (m : Nat)
    (hg : w.heap[g]? = some (.cells cur t (0, 0))) (hm : m = Nat.min sLen dLen) (hn : cs.length = m * 2)
    (hsrc : ∀ j v, cs[j]? = some v → w.cell? (a.add j) = some v) (hfit : cs.length ≤ cur.size) (h1 : ∀ v ∈ cs, v.oneCell' = true) :
    (Builtin.copy_ #[32, 32] ty #[.slice (some ⟨g, 0, none⟩) dLen dCap, .slice (some a) sLen sCap]).run Tryz.prog w =
      .ok (goInt m) (w.setRow g (cs ++ cur.toList.drop cs.length).toArray) := by
  have hl := run_loadCells_list (P := Tryz.prog) w a cs hsrc
  have hst := run_storeCells_at Tryz.prog g 0 t cs 0 cur w hg (by simpa using hfit) h1
  have hs := size_two
  cases hq : Tryz.prog.info? 122 with
  | none => simp [hq] at hs
  | some i =>
    have hi : i.size = 2 := by simpa [hq] using hs
    rw [hn] at hl
    simp only [Nat.zero_add, List.take_zero, List.nil_append] at hst
    simp [Builtin.copy_, run_underlying Tryz.underlying32, Builtin.lenOf, Builtin.firstCells, sizeOf, typeInfo, hq, hi, ← hm, hl, hst]

theorem copy_pairs0 (w : World) (d a : Option Addr) (dLen dCap sLen sCap : Nat) (ty : TypeId) (hn : Nat.min sLen dLen = 0) :
    (Builtin.copy_ #[32, 32] ty #[.slice d dLen dCap, .slice a sLen sCap]).run Tryz.prog w = .ok (goInt 0) w := by
  have hs := size_two
  cases hq : Tryz.prog.info? 122 with
  | none => simp [hq] at hs
  | some i =>
    have hl : ∀ (x : Addr), (loadCells x 0).run Tryz.prog w = .ok #[] w := fun x => by simpa using run_loadCells_list (P := Tryz.prog) w x [] (by simp)
    cases d <;> cases a <;> simp [Builtin.copy_, run_underlying Tryz.underlying32, Builtin.lenOf, Builtin.firstCells, sizeOf, typeInfo, hq, hn, storeCells, hl]

theorem copyS_run (a : Option Addr) (len cap : Nat) (ps : List Shr) (w : World) (I : Shs w a len ps) (hs : (len : Int) ≤ 1048576) :
    ∃ w1, (Builtin.copy_ #[32, 32] 3 #[.slice (some ⟨w.heap.size, 0, none⟩) len len, .slice a len cap]).run Tryz.prog (w.alloc (.cells (zerosS len) 122)) = .ok (.int .i64 len) w1 ∧ SRow w1 w.heap.size len ps ∧ Below w.heap.size w w1 := by
  have B0 : Below w.heap.size w (w.alloc (.cells (zerosS len) 122)) := below_new _ _
  have J := I.alloc (.cells (zerosS len) 122)
  obtain ⟨hl, h0 | ⟨b, off, rfl, hb, hc⟩⟩ := I
  · subst h0
    have hx : ps = [] := List.eq_nil_of_length_eq_zero hl
    subst hx
    exact ⟨_, copy_pairs0 _ _ _ _ _ _ _ _ rfl, srow_zeros w 0 (by omega), B0⟩
  · have hg : (w.alloc (.cells (zerosS len) 122)).heap[w.heap.size]? = some (.cells (zerosS len) 122 (0, 0)) := heap_alloc_new w _
    have hz : (zerosS len).size = len * 2 := by simp [zerosS, flat_length]
    have hr := copy_pairs (w.alloc (.cells (zerosS len) 122)) w.heap.size len len ⟨b, off, none⟩ len cap (zerosS len) 122 (flat ps) 3 len hg (Nat.min_self len).symm (by rw [flat_length, hl]) J.cellsAt (by rw [flat_length, hz, hl]; exact Nat.le_refl _) (flat_one ps)
    refine ⟨_, hr, ⟨_, setRow_heap _ _ _ _ _ _ hg, by omega, by simp [maxLen]; omega, ?_, ?_⟩, below_setRow B0 (Nat.le_refl _) _⟩
    · simp [flat_length, hl, zerosS]
    · have e : ps.length * 2 = (flat ps).length := (flat_length ps).symm
      rw [List.toList_toArray, e, List.take_left]

/-- impl.copied over Shares: a copy in a block of its own. -/
theorem copiedS_any (a : Option Addr) (len cap : Nat) (ps : List Shr) (w : World) (I : Shs w a len ps) (hs : (len : Int) ≤ 1048576) :
    Calls Tryz.prog 139 #[.slice a len cap] w fun e w' => e = .returned (.slice (some ⟨w.heap.size, 0, none⟩) len len) ∧ SRow w' w.heap.size len ps ∧ Below w.heap.size w w' := by
  have hm := made_shs len hs w
  obtain ⟨w1, hc, R1, B1⟩ := copyS_run a len cap ps w I hs
  have H1 : Hid (SRow w1 w.heap.size len ps ∧ Below w.heap.size w w1) := ⟨R1, B1⟩
  clear I R1 B1
  go_enter Tryz.func139, Tryz.ntmps139
  go_wp2_with fail
  go_ret
  exact ⟨rfl, H1.out⟩

end Go.Proofs.YtcmeimfjedakeaaGreat.Crew

namespace Go.Proofs.YtcmeimfjedakeaaGreat.Crew
open Go.ChangeShapes Go.WideShapes Go.ChangeAt Go.RowKit

/-- What NewMany answers. -/
def nmS (ps : List Shr) (q : Int) : List Shr := if fitsOn ps q then ps else []

def nmN (ps : List Shr) (q : Int) : List Int := if fitsOn ps q then List.replicate ps.length 0 else []

def nmQ (ps : List Shr) (q : Int) : Int := if fitsOn ps q then q else 0

theorem nm_yes {ps : List Shr} {q : Int} (h : fitsOn ps q = true) : nmS ps q = ps ∧ nmN ps q = List.replicate ps.length 0 ∧ nmQ ps q = q := by simp [nmS, nmN, nmQ, h]

theorem nm_no {ps : List Shr} {q : Int} (h : fitsOn ps q = false) : nmS ps q = [] ∧ nmN ps q = [] ∧ nmQ ps q = 0 := by simp [nmS, nmN, nmQ, h]

theorem nm_len (ps : List Shr) (q : Int) : (nmS ps q).length ≤ 24 ∧ (nmN ps q).length ≤ 24 := by
  cases h : fitsOn ps q
  · rw [(nm_no h).1, (nm_no h).2.1]; simp
  · rw [(nm_yes h).1, (nm_yes h).2.1]
    have := fits_len h
    simp; omega

theorem mapart_none (d : Option Addr) : Apart none d := fun x y hx => by cases hx

/-- impl.NewMany. -/
theorem implNewM (a : Option Addr) (len cap : Nat) (ps : List Shr) (q : Int) (w : World) (I : Shs w a len ps) (hsz : (len : Int) ≤ 1048576) :
    Calls Tryz.prog 226 #[.slice a len cap, .int .i64 q] w fun e w' => ∃ b lb cb d ld cd, e = .returned (.tuple #[mv (.slice b lb cb) (.slice d ld cd) (nmQ ps q) 0, .bool (fitsOn ps q)]) ∧ SFit w' w.heap.size b lb cb (nmS ps q) ∧ Fit w' w.heap.size d ld cd (nmN ps q) ∧ Apart b d ∧ Below w.heap.size w w' := by
  have HI : Hid (Shs w a len ps) := I
  have hl := I.1
  clear I
  have P0 := mny_new w (.slice none 0 0) (.slice none 0 0) 0 0
  cases hc : fitsOn ps q
  · have HC : Hid (fitsOn ps q = false) := hc
    rw [(nm_no hc).1, (nm_no hc).2.1, (nm_no hc).2.2]
    clear hc
    go_enter Tryz.func226, Tryz.ntmps226
    go_wp2_with fail
    refine (implFits a len cap ps q _ (HI.out.alloc _) hsz).mono ?_
    rw [HC.out]
    rintro e w1 ⟨rfl, B1⟩
    have P1 := hid (P0.all B1)
    have B2 := hid (below_call (below_new w (.cells #[.slice none 0 0, .slice none 0 0, .int .i64 0, .int .i64 0] 34)) (by simp) B1)
    have p0 := P1.out.c0
    have p1 := P1.out.c1
    have p2 := P1.out.c2
    have p3 := P1.out.c3
    have f0 := P1.out.fr 0
    have f1 := P1.out.fr 1
    have f2 := P1.out.fr 2
    have f3 := P1.out.fr 3
    clear B1 P0
    go_wp2_with fail
    refine bodyPost_ret (ret_mny2 rfl rfl rfl ((((P1.out.set0 _).set1 _).set2 0).set3 0)) rfl ⟨_, _, _, _, _, _, rfl, sfit_nil _ _, fit_nil _ _, mapart_none _, ?_⟩
    exact below_set (below_set (below_set (below_set B2.out (Nat.le_refl _) _) (Nat.le_refl _) _) (Nat.le_refl _) _) (Nat.le_refl _) _
  · have HC : Hid (fitsOn ps q = true ∧ ps.length = len) := ⟨hc, hl⟩
    have hm := made_ints len hsz
    rw [(nm_yes hc).1, (nm_yes hc).2.1, (nm_yes hc).2.2, hl]
    clear hc hl
    go_enter Tryz.func226, Tryz.ntmps226
    go_wp2_with fail
    refine (implFits a len cap ps q _ (HI.out.alloc _) hsz).mono ?_
    rw [HC.out.1]
    rintro e w1 ⟨rfl, B1⟩
    have P1 := P0.all B1
    have H1 : Hid (Shs w1 a len ps ∧ Below w.heap.size w w1) := ⟨(HI.out.alloc _).kept B1, below_call (below_new w (.cells #[.slice none 0 0, .slice none 0 0, .int .i64 0, .int .i64 0] 34)) (by simp) B1⟩
    have hlt := P1.lt
    clear B1 P0
    go_upto_region 3 with fail
    go_region_held3 (fun _ => True) (trivial)
      ((go_at_call 139; refine (copiedS_any a len cap ps _ ?_ hsz).mono ?_; (repeat (first | exact H1.out.1 | apply Shs.drew | apply Shs.alloc)); rintro e w2 ⟨rfl, R2, B2⟩; have P2 : Mny w2 w.heap.size (.slice none 0 0) (.slice none 0 0) 0 0 := Mny.kept (by (repeat (first | exact P1 | apply Mny.drew | apply Mny.alloc))) B2 (by simp <;> omega); have p0 := P2.c0; have p1 := P2.c1; have p2 := P2.c2; have p3 := P2.c3; have f0 := P2.fr 0; have f1 := P2.fr 1; have f2 := P2.fr 2; have f3 := P2.fr 3; have n1 : w.heap.size < w2.heap.size := P2.lt; have n2 : ¬ w.heap.size = w2.heap.size := Nat.ne_of_lt n1; have n3 : ¬ w2.heap.size = w.heap.size := Nat.ne_of_gt n1))
    · clear p0 p1 p2 p3 f0 f1 f2 f3
      have e : w1.drew.heap.size = w1.heap.size := rfl
      rw [e] at R2 B2
      have B3 : Below w1.heap.size w1 w2 := (Below.refl _ w1).drew.trans B2
      have H2 : Hid (SRow w2 w1.heap.size len ps ∧ Mny w2 w.heap.size (.slice none 0 0) (.slice none 0 0) 0 0 ∧ Below w.heap.size w w2 ∧ w.heap.size < w1.heap.size ∧ w1.heap.size < w2.heap.size) := ⟨R2, P2, below_call H1.out.2 H1.out.2.size B3, hlt, R2.lt⟩
      clear R2 B2 P2 B3 e
      go_wp2_with fail
      have l1 := H2.out.2.2.2.1
      have l2 := H2.out.2.2.2.2
      refine bodyPost_ret (ret_mny2 rfl rfl rfl (((((H2.out.2.1.set0 _).set1 _).set2 q).set3 0).alloc _)) rfl ⟨_, _, _, _, _, _, rfl, ?_, ?_, ?_, ?_⟩
      · exact (((((H2.out.1.past (by omega) _).past (by omega) _).past (by omega) _).past (by omega) _).alloc _).fit (by omega) HC.out.2
      · exact (row_zeros_at (by simp) len hsz).fit (by omega) (by simp)
      · exact fun x y hx hy => by cases hx; cases hy; exact (by simp; omega)
      · exact (below_set (below_set (below_set (below_set H2.out.2.2.1 (Nat.le_refl _) _) (Nat.le_refl _) _) (Nat.le_refl _) _) (Nat.le_refl _) _).alloc (by simp; omega) _
    · clear p0 p1 p2 p3 f0 f1 f2 f3
      have Z2 := Row.kept (row_zeros_at (X := w1) (s := w1.heap.size) rfl len hsz).drew B2 (by simp)
      have hz : ((w1.alloc (.cells (zeros len) 2)).drew).heap.size = w1.heap.size + 1 := by simp
      rw [hz] at R2
      have B3 : Below w1.heap.size w1 w2 := (below_new w1 (.cells (zeros len) 2)).drew.trans (B2.mono (by simp))
      have H2 : Hid (SRow w2 (w1.heap.size + 1) len ps ∧ Mny w2 w.heap.size (.slice none 0 0) (.slice none 0 0) 0 0 ∧ Below w.heap.size w w2 ∧ w.heap.size < w1.heap.size ∧ w1.heap.size < w2.heap.size ∧ Row w2 w1.heap.size len (List.replicate len 0)) := ⟨R2, P2, below_call H1.out.2 H1.out.2.size B3, hlt, by have := R2.lt; omega, Z2⟩
      clear hz R2 B2 P2 B3 Z2
      go_wp2_with fail
      have l1 := H2.out.2.2.2.1
      have l2 := H2.out.2.2.2.2.1
      refine bodyPost_ret (ret_mny2 rfl rfl rfl ((((H2.out.2.1.set0 _).set1 _).set2 q).set3 0)) rfl ⟨_, _, _, _, _, _, rfl, ?_, ?_, ?_, ?_⟩
      · exact ((((H2.out.1.past (by omega) _).past (by omega) _).past (by omega) _).past (by omega) _).fit (by omega) HC.out.2
      · exact ((((H2.out.2.2.2.2.2.past (by omega) _).past (by omega) _).past (by omega) _).past (by omega) _).fit (by omega) (by simp)
      · exact fun x y hx hy => by cases hx; cases hy; exact (by simp)
      · exact below_set (below_set (below_set (below_set H2.out.2.2.1 (Nat.le_refl _) _) (Nat.le_refl _) _) (Nat.le_refl _) _) (Nat.le_refl _) _

end Go.Proofs.YtcmeimfjedakeaaGreat.Crew
