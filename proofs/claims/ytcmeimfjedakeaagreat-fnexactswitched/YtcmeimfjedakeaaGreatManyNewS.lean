/-
  Copies of slices of Shares; a new Many: impl.NewMany.
-/
import Derived.Test.YtcmeimfjedakeaaGreatManyBase
import Derived.Laws.CopyOwn
import Derived.Laws.IdiomCopy
import Derived.Deep.RegionHeld3
import Derived.Deep.CutRange
import Derived.Deep.RegionLaw
namespace Go.Proofs.YtcmeimfjedakeaaGreat.Crew
open Go.ChangeShapes Go.WideShapes Go.ChangeAt Go.RowKit

/-- So many zero Shares in a block. -/
def zerosS (n : Nat) : Array Value := (flat (List.replicate n (0, 0))).toArray

theorem made_shs (n : Nat) (hn : (n : Int) ≤ 1048576) (w : World) : (Instr.makeSlice 32 (.int .i64 n) (.int .i64 n)).run Tryz.prog w = .ok (.slice (some ⟨w.heap.size, 0, none⟩) n n) (w.alloc (.cells (zerosS n) 122)) := by
  obtain ⟨i0, hi, hz0, hz1, hz2⟩ := info_parts info_shr
  have h := run_make (P := Tryz.prog) w 32 122 i0 (.agg #[.int .i64 0, .int .i64 0]) Tryz.underlying32 hi hz0 .i64 .i64 n n (by omega) (by omega) (by rw [hz2]; omega) (by omega)
  rw [h, hz1]
  have e : madeCells (Value.agg #[.int .i64 0, .int .i64 0]).cells (n * 2) = zerosS n := by
    apply Array.ext'
    rw [zerosS, List.toList_toArray]
    exact made_shares n
  simp only [Int.toNat_natCast]
  rw [e]

theorem srow_zeros (w : World) (n : Nat) (hn : (n : Int) ≤ 1048576) : SRow (w.alloc (.cells (zerosS n) 122)) w.heap.size n (List.replicate n (0, 0)) := by
  have := srow_new w (List.replicate n (0, 0)) (by simp [maxLen]; omega)
  rwa [List.length_replicate] at this

theorem size_two : (Tryz.prog.info? 122).map (·.size) = some 2 := by kernel_rfl

theorem flat_one (ps : List Shr) : ∀ v ∈ flat ps, v.oneCell' = true := by
  intro v hv
  simp only [flat, List.mem_flatMap, List.mem_cons, List.not_mem_nil, or_false] at hv
  obtain ⟨p, _, h | h⟩ := hv <;> subst h <;> rfl

theorem Shs.cellsAt {w : World} {ad : Addr} {m : Nat} {ps : List Shr} (h : Shs w (some ad) m ps) : ∀ j u, (flat ps)[j]? = some u → w.cell? (ad.add j) = some u := by
  intro j u hj
  have hl := h.1
  have hlt : j < (flat ps).length := by
    by_cases hh : j < (flat ps).length
    · exact hh
    · rw [List.getElem?_eq_none (by omega)] at hj; cases hj
  rw [flat_length] at hlt
  rcases h.2 with h0 | ⟨b, off, e, hb, hc⟩
  · omega
  · cases e
    have hadd : (⟨b, off, none⟩ : Addr).add j = ⟨b, off + j, none⟩ := by unfold Addr.add; split <;> simp_all
    rw [hadd]
    have h2 : j / 2 < ps.length := by omega
    obtain ⟨c0, c1⟩ := hc (j / 2) (by omega)
    rcases Nat.mod_two_eq_zero_or_one j with hm | hm
    · have e : j = j / 2 * 2 := by omega
      rw [e, flat_get0 ps _ h2] at hj
      cases hj
      rw [e]
      have e2 : j / 2 * 2 / 2 = j / 2 := by omega
      rw [e2]
      exact c0
    · have e : j = j / 2 * 2 + 1 := by omega
      rw [e, flat_get1 ps _ h2] at hj
      cases hj
      rw [e]
      have e2 : (j / 2 * 2 + 1) / 2 = j / 2 := by omega
      rw [e2]
      exact c1

/-- What copy does with elements of two cells. -/
theorem copy_pairs (w : World) (g dLen dCap : Nat) (a : Addr) (sLen sCap : Nat) (cur : Array Value) (t : TypeId) (cs : List Value) (ty : TypeId) (m : Nat)
    (hg : w.heap[g]? = some (.cells cur t (0, 0))) (hm : m = Nat.min sLen dLen) (hn : cs.length = m * 2)
    (hsrc : ∀ j v, cs[j]? = some v → w.cell? (a.add j) = some v) (hfit : cs.length ≤ cur.size) (h1 : ∀ v ∈ cs, v.oneCell' = true) :
    (Builtin.copy_ #[32, 32] ty #[.slice (some ⟨g, 0, none⟩) dLen dCap, .slice (some a) sLen sCap]).run Tryz.prog w =
      .ok (goInt m) (w.setRow g (cs ++ cur.toList.drop cs.length).toArray) := by
  have hl := run_loadCells_list (P := Tryz.prog) w a cs hsrc
  have hst := run_storeCells_at Tryz.prog g 0 t cs 0 cur w hg (by simpa using hfit) h1
  have hs := size_two
  cases hq : Tryz.prog.info? 122 with
  | none => simp [hq] at hs
  | some i =>
    have hi : i.size = 2 := by simpa [hq] using hs
    rw [hn] at hl
    simp only [Nat.zero_add, List.take_zero, List.nil_append] at hst
    simp [Builtin.copy_, run_underlying Tryz.underlying32, Builtin.lenOf, Builtin.firstCells, sizeOf, typeInfo, hq, hi, ← hm, hl, hst]

theorem copy_pairs0 (w : World) (d a : Option Addr) (dLen dCap sLen sCap : Nat) (ty : TypeId) (hn : Nat.min sLen dLen = 0) :
    (Builtin.copy_ #[32, 32] ty #[.slice d dLen dCap, .slice a sLen sCap]).run Tryz.prog w = .ok (goInt 0) w := by
  have hs := size_two
  cases hq : Tryz.prog.info? 122 with
  | none => simp [hq] at hs
  | some i =>
    have hl : ∀ (x : Addr), (loadCells x 0).run Tryz.prog w = .ok #[] w := fun x => by simpa using run_loadCells_list (P := Tryz.prog) w x [] (by simp)
    cases d <;> cases a <;> simp [Builtin.copy_, run_underlying Tryz.underlying32, Builtin.lenOf, Builtin.firstCells, sizeOf, typeInfo, hq, hn, storeCells, hl]

theorem copyS_run (a : Option Addr) (len cap : Nat) (ps : List Shr) (w : World) (I : Shs w a len ps) (hs : (len : Int) ≤ 1048576) :
    ∃ w1, (Builtin.copy_ #[32, 32] 3 #[.slice (some ⟨w.heap.size, 0, none⟩) len len, .slice a len cap]).run Tryz.prog (w.alloc (.cells (zerosS len) 122)) = .ok (.int .i64 len) w1 ∧ SRow w1 w.heap.size len ps ∧ Below w.heap.size w w1 := by
  have B0 : Below w.heap.size w (w.alloc (.cells (zerosS len) 122)) := below_new _ _
  have J := I.alloc (.cells (zerosS len) 122)
  obtain ⟨hl, h0 | ⟨b, off, rfl, hb, hc⟩⟩ := I
  · subst h0
    have hx : ps = [] := List.eq_nil_of_length_eq_zero hl
    subst hx
    exact ⟨_, copy_pairs0 _ _ _ _ _ _ _ _ rfl, srow_zeros w 0 (by omega), B0⟩
  · have hg : (w.alloc (.cells (zerosS len) 122)).heap[w.heap.size]? = some (.cells (zerosS len) 122 (0, 0)) := heap_alloc_new w _
    have hz : (zerosS len).size = len * 2 := by simp [zerosS, flat_length]
    have hr := copy_pairs (w.alloc (.cells (zerosS len) 122)) w.heap.size len len ⟨b, off, none⟩ len cap (zerosS len) 122 (flat ps) 3 len hg (Nat.min_self len).symm (by rw [flat_length, hl]) J.cellsAt (by rw [flat_length, hz, hl]; exact Nat.le_refl _) (flat_one ps)
    refine ⟨_, hr, ⟨_, setRow_heap _ _ _ _ _ _ hg, by omega, by simp [maxLen]; omega, ?_, ?_⟩, below_setRow B0 (Nat.le_refl _) _⟩
    · simp [flat_length, hl, zerosS]
    · have e : ps.length * 2 = (flat ps).length := (flat_length ps).symm
      rw [List.toList_toArray, e, List.take_left]

/-- impl.copied over Shares: a copy in a block of its own. -/
theorem copiedS_any (a : Option Addr) (len cap : Nat) (ps : List Shr) (w : World) (I : Shs w a len ps) (hs : (len : Int) ≤ 1048576) :
    Calls Tryz.prog 139 #[.slice a len cap] w fun e w' => e = .returned (.slice (some ⟨w.heap.size, 0, none⟩) len len) ∧ SRow w' w.heap.size len ps ∧ Below w.heap.size w w' := by
  have hm := made_shs len hs w
  obtain ⟨w1, hc, R1, B1⟩ := copyS_run a len cap ps w I hs
  have H1 : Hid (SRow w1 w.heap.size len ps ∧ Below w.heap.size w w1) := ⟨R1, B1⟩
  clear I R1 B1
  go_enter Tryz.func139, Tryz.ntmps139
  go_wp2_with fail
  go_ret
  exact ⟨rfl, H1.out⟩

end Go.Proofs.YtcmeimfjedakeaaGreat.Crew

namespace Go.Proofs.YtcmeimfjedakeaaGreat.Crew
open Go.ChangeShapes Go.WideShapes Go.ChangeAt Go.RowKit

/-- What NewMany answers. -/
def nmS (ps : List Shr) (q : Int) : List Shr := if fitsOn ps q then ps else []

def nmN (ps : List Shr) (q : Int) : List Int := if fitsOn ps q then List.replicate ps.length 0 else []

def nmQ (ps : List Shr) (q : Int) : Int := if fitsOn ps q then q else 0

theorem nm_yes {ps : List Shr} {q : Int} (h : fitsOn ps q = true) : nmS ps q = ps ∧ nmN ps q = List.replicate ps.length 0 ∧ nmQ ps q = q := by simp [nmS, nmN, nmQ, h]

theorem nm_no {ps : List Shr} {q : Int} (h : fitsOn ps q = false) : nmS ps q = [] ∧ nmN ps q = [] ∧ nmQ ps q = 0 := by simp [nmS, nmN, nmQ, h]

theorem nm_len (ps : List Shr) (q : Int) : (nmS ps q).length ≤ 24 ∧ (nmN ps q).length ≤ 24 := by
  cases h : fitsOn ps q
  · rw [(nm_no h).1, (nm_no h).2.1]; simp
  · rw [(nm_yes h).1, (nm_yes h).2.1]
    have := fits_len h
    simp; omega

theorem mapart_none (d : Option Addr) : Apart none d := fun x y hx => by cases hx

/-- impl.NewMany. -/
theorem implNewM (a : Option Addr) (len cap : Nat) (ps : List Shr) (q : Int) (w : World) (I : Shs w a len ps) (hsz : (len : Int) ≤ 1048576) :
    Calls Tryz.prog 226 #[.slice a len cap, .int .i64 q] w fun e w' => ∃ b lb cb d ld cd, e = .returned (.tuple #[mv (.slice b lb cb) (.slice d ld cd) (nmQ ps q) 0, .bool (fitsOn ps q)]) ∧ SFit w' w.heap.size b lb cb (nmS ps q) ∧ Fit w' w.heap.size d ld cd (nmN ps q) ∧ Apart b d ∧ Below w.heap.size w w' := by
  have HI : Hid (Shs w a len ps) := I
  have hl := I.1
  clear I
  have P0 := mny_new w (.slice none 0 0) (.slice none 0 0) 0 0
  cases hc : fitsOn ps q
  · have HC : Hid (fitsOn ps q = false) := hc
    rw [(nm_no hc).1, (nm_no hc).2.1, (nm_no hc).2.2]
    clear hc
    go_enter Tryz.func226, Tryz.ntmps226
    go_wp2_with fail
    refine (implFits a len cap ps q _ (HI.out.alloc _) hsz).mono ?_
    rw [HC.out]
    rintro e w1 ⟨rfl, B1⟩
    have P1 := hid (P0.all B1)
    have B2 := hid (below_call (below_new w (.cells #[.slice none 0 0, .slice none 0 0, .int .i64 0, .int .i64 0] 34)) (by simp) B1)
    have p0 := P1.out.c0
    have p1 := P1.out.c1
    have p2 := P1.out.c2
    have p3 := P1.out.c3
    have f0 := P1.out.fr 0
    have f1 := P1.out.fr 1
    have f2 := P1.out.fr 2
    have f3 := P1.out.fr 3
    clear B1 P0
    go_wp2_with fail
    refine bodyPost_ret (ret_mny2 rfl rfl rfl ((((P1.out.set0 _).set1 _).set2 0).set3 0)) rfl ⟨_, _, _, _, _, _, rfl, sfit_nil _ _, fit_nil _ _, mapart_none _, ?_⟩
    exact below_set (below_set (below_set (below_set B2.out (Nat.le_refl _) _) (Nat.le_refl _) _) (Nat.le_refl _) _) (Nat.le_refl _) _
  · have HC : Hid (fitsOn ps q = true ∧ ps.length = len) := ⟨hc, hl⟩
    have hm := made_ints len hsz
    rw [(nm_yes hc).1, (nm_yes hc).2.1, (nm_yes hc).2.2, hl]
    clear hc hl
    go_enter Tryz.func226, Tryz.ntmps226
    go_wp2_with fail
    refine (implFits a len cap ps q _ (HI.out.alloc _) hsz).mono ?_
    rw [HC.out.1]
    rintro e w1 ⟨rfl, B1⟩
    have P1 := P0.all B1
    have H1 : Hid (Shs w1 a len ps ∧ Below w.heap.size w w1) := ⟨(HI.out.alloc _).kept B1, below_call (below_new w (.cells #[.slice none 0 0, .slice none 0 0, .int .i64 0, .int .i64 0] 34)) (by simp) B1⟩
    have hlt := P1.lt
    clear B1 P0
    go_upto_region 3 with fail
    go_region_held3 (fun _ => True) (trivial)
      ((go_at_call 139; refine (copiedS_any a len cap ps _ ?_ hsz).mono ?_; (repeat (first | exact H1.out.1 | apply Shs.drew | apply Shs.alloc)); rintro e w2 ⟨rfl, R2, B2⟩; have P2 : Mny w2 w.heap.size (.slice none 0 0) (.slice none 0 0) 0 0 := Mny.kept (by (repeat (first | exact P1 | apply Mny.drew | apply Mny.alloc))) B2 (by simp <;> omega); have p0 := P2.c0; have p1 := P2.c1; have p2 := P2.c2; have p3 := P2.c3; have f0 := P2.fr 0; have f1 := P2.fr 1; have f2 := P2.fr 2; have f3 := P2.fr 3; have n1 : w.heap.size < w2.heap.size := P2.lt; have n2 : ¬ w.heap.size = w2.heap.size := Nat.ne_of_lt n1; have n3 : ¬ w2.heap.size = w.heap.size := Nat.ne_of_gt n1))
    · clear p0 p1 p2 p3 f0 f1 f2 f3
      have e : w1.drew.heap.size = w1.heap.size := rfl
      rw [e] at R2 B2
      have B3 : Below w1.heap.size w1 w2 := (Below.refl _ w1).drew.trans B2
      have H2 : Hid (SRow w2 w1.heap.size len ps ∧ Mny w2 w.heap.size (.slice none 0 0) (.slice none 0 0) 0 0 ∧ Below w.heap.size w w2 ∧ w.heap.size < w1.heap.size ∧ w1.heap.size < w2.heap.size) := ⟨R2, P2, below_call H1.out.2 H1.out.2.size B3, hlt, R2.lt⟩
      clear R2 B2 P2 B3 e
      go_wp2_with fail
      have l1 := H2.out.2.2.2.1
      have l2 := H2.out.2.2.2.2
      refine bodyPost_ret (ret_mny2 rfl rfl rfl (((((H2.out.2.1.set0 _).set1 _).set2 q).set3 0).alloc _)) rfl ⟨_, _, _, _, _, _, rfl, ?_, ?_, ?_, ?_⟩
      · exact (((((H2.out.1.past (by omega) _).past (by omega) _).past (by omega) _).past (by omega) _).alloc _).fit (by omega) HC.out.2
      · exact (row_zeros_at (by simp) len hsz).fit (by omega) (by simp)
      · exact fun x y hx hy => by cases hx; cases hy; exact (by simp; omega)
      · exact (below_set (below_set (below_set (below_set H2.out.2.2.1 (Nat.le_refl _) _) (Nat.le_refl _) _) (Nat.le_refl _) _) (Nat.le_refl _) _).alloc (by simp; omega) _
    · clear p0 p1 p2 p3 f0 f1 f2 f3
      have Z2 := Row.kept (row_zeros_at (X := w1) (s := w1.heap.size) rfl len hsz).drew B2 (by simp)
      have hz : ((w1.alloc (.cells (zeros len) 2)).drew).heap.size = w1.heap.size + 1 := by simp
      rw [hz] at R2
      have B3 : Below w1.heap.size w1 w2 := (below_new w1 (.cells (zeros len) 2)).drew.trans (B2.mono (by simp))
      have H2 : Hid (SRow w2 (w1.heap.size + 1) len ps ∧ Mny w2 w.heap.size (.slice none 0 0) (.slice none 0 0) 0 0 ∧ Below w.heap.size w w2 ∧ w.heap.size < w1.heap.size ∧ w1.heap.size < w2.heap.size ∧ Row w2 w1.heap.size len (List.replicate len 0)) := ⟨R2, P2, below_call H1.out.2 H1.out.2.size B3, hlt, by have := R2.lt; omega, Z2⟩
      clear hz R2 B2 P2 B3 Z2
      go_wp2_with fail
      have l1 := H2.out.2.2.2.1
      have l2 := H2.out.2.2.2.2.1
      refine bodyPost_ret (ret_mny2 rfl rfl rfl ((((H2.out.2.1.set0 _).set1 _).set2 q).set3 0)) rfl ⟨_, _, _, _, _, _, rfl, ?_, ?_, ?_, ?_⟩
      · exact ((((H2.out.1.past (by omega) _).past (by omega) _).past (by omega) _).past (by omega) _).fit (by omega) HC.out.2
      · exact ((((H2.out.2.2.2.2.2.past (by omega) _).past (by omega) _).past (by omega) _).past (by omega) _).fit (by omega) (by simp)
      · exact fun x y hx hy => by cases hx; cases hy; exact (by simp)
      · exact below_set (below_set (below_set (below_set H2.out.2.2.1 (Nat.le_refl _) _) (Nat.le_refl _) _) (Nat.le_refl _) _) (Nat.le_refl _) _

end Go.Proofs.YtcmeimfjedakeaaGreat.Crew

/-
  append of Shares onto a row of the call's own, from whatever slice, at a step of a region that draws its order.
-/
namespace Go.Proofs.YtcmeimfjedakeaaGreat.Crew
open Go.ChangeShapes Go.WideShapes Go.ChangeAt Go.RowKit

theorem run_append_shs {P : Program} (w : World) (t ty : TypeId) (i : TypeInfo) (ht : P.underlying t = some (.slice 122)) (hi : P.info? 122 = some i) (hz : i.zero = some (.agg #[.int .i64 0, .int .i64 0])) (hsize : i.size = 2) (hby : i.bytes = 16)
    (g cap : Nat) (xs : List Shr) (R : SRow w g cap xs) (ao : Option Addr) (m c : Nat) (ys : List Shr) (I : Shs w ao m ys) (hlen : xs.length + m ≤ 1000000000) :
    ∃ g' cap' w', (Builtin.append_ #[t, t] ty #[.slice (some ⟨g, 0, none⟩) xs.length cap, .slice ao m c]).run P w = .ok (.slice (some ⟨g', 0, none⟩) (xs.length + m) cap') w' ∧ SRow w' g' cap' (xs ++ ys) ∧ w.grownBy w' (some g) ∧ (g' = g ∨ g' = w.heap.size) := by
  cases ao with
  | none =>
    have hm : m = 0 := by
      rcases I.2 with h | ⟨b, off, ha, _⟩
      · exact h
      · cases ha
    subst hm
    have hy : ys = [] := List.eq_nil_of_length_eq_zero I.1
    subst hy
    have hl : xs.length ≤ cap := by obtain ⟨_, _, h, _⟩ := R; exact h
    refine ⟨g, cap, w, ?_, by simpa using R, World.grownBy.refl _ _, .inl rfl⟩
    simp [Builtin.append_, run_underlying ht, sizeOf, typeInfo, hi, Builtin.lenOf, Builtin.firstCells, hl, storeCells]
  | some ad =>
    have hown := R.owns (base := 0) (Nat.zero_le _)
    obtain ⟨v', w', hr, h2, h3, h4, h5⟩ := run_append_own_at (P := P) w 0 t ty 122 i (.agg #[.int .i64 0, .int .i64 0]) 2 16 ht hi hz hsize hby rfl (by decide) _ xs.length _ hown ad m c (flat ys) (by rw [flat_length, I.1]) (Shs.cellsAt I) (flat_one _) (by unfold maxLen; omega) (by omega) (Nat.zero_le _)
    rw [← flat_append] at h2
    rcases h2.2 with ⟨hv, _⟩ | ⟨g', cap', cur, hv, _⟩
    · rw [h4] at hv
      simp at hv
    · subst hv
      have hRr := (srow_of_owns h2).1
      refine ⟨g', cap', w', hr, hRr, h3, ?_⟩
      rcases h5 with h | h
      · simp [Value.ownBlock] at h; exact .inl h
      · simp [Value.ownBlock] at h; exact .inr h

theorem step_append_shs {P : Program} {w : World} {ops : Array Oper} {o : Oper} {a : Act} {K : Act → World → Prop} {Q : Exit → Act → World → Prop} {E : Prop} (hgd : o.guard = none) (s y : Operand) (t : TypeId)
    (ho : o.op = .call { callee := .builtin .append, args := #[s, y], argTypes := #[t, t] })
    (i : TypeInfo) (ht : P.underlying t = some (.slice 122)) (hi : P.info? 122 = some i) (hz : i.zero = some (.agg #[.int .i64 0, .int .i64 0])) (hsize : i.size = 2) (hby : i.bytes = 16)
    (g n cap : Nat) (xs : List Shr) (hs : a.eval s = .slice (some ⟨g, 0, none⟩) n cap) (hn : n = xs.length) (R : SRow w g cap xs) (ao : Option Addr) (m c : Nat) (ys : List Shr) (hy : a.eval y = .slice ao m c) (I : Shs w ao m ys) (hlen : xs.length + m ≤ 1000000000) (H : Nat) (hH : w.heap.size = H)
    (h : ∀ g' cap' w', SRow w' g' cap' (xs ++ ys) → w.grownBy w' (some g) → (g' = g ∨ g' = H) → K (a.put o.dst (.slice (some ⟨g', 0, none⟩) (n + m) cap')) w') :
    if Region.wanted o (yielded ops a.tmps) = true then Oper.wp P o a w K Q else E := by
  have hw : Region.wanted o (yielded ops a.tmps) = true := by simp [Region.wanted, hgd]
  rw [if_pos hw]
  subst hH
  subst hn
  obtain ⟨g', cap', w', hr, h2, h3, h4⟩ := run_append_shs (P := P) w t o.type i ht hi hz hsize hby g cap xs R ao m c ys I hlen
  unfold Oper.wp execOp
  simp only [ho, resolve, invoke, builtin, Sem.run_bind, Sem.run_pure, Result.andThen_ok, List.map_toArray, List.map_cons, List.map_nil, hs, hy, hr]
  exact h g' cap' w' h2 h3 h4

end Go.Proofs.YtcmeimfjedakeaaGreat.Crew

/-
  spec.NewMany at every slice of Shares and number.
-/
namespace Go.Proofs.YtcmeimfjedakeaaGreat.Crew
open Go.ChangeShapes Go.WideShapes Go.ChangeAt Go.RowKit

theorem srow_nil_at {X : World} {s : Nat} (h : X.heap.size = s) : SRow (X.alloc (.cells #[] 122)) s 0 [] := by
  subst h
  exact srow_nil X

theorem mny_new_at {X : World} {s : Nat} (h : X.heap.size = s) (x y : Value) (t p : Int) : Mny (X.alloc (.cells #[x, y, .int .i64 t, .int .i64 p] 34)) s x y t p := by
  subst h
  exact mny_new X x y t p

/-- What lies there when the slices and the variable of spec.NewMany are made. -/
structure Nw (w W : World) (t g c d len : Nat) (ps : List Shr) (q : Int) : Prop where
  box : Mny W t (.slice (some ⟨g, 0, none⟩) len c) (.slice (some ⟨d, 0, none⟩) len len) q 0
  res : Mny W w.heap.size (.slice none 0 0) (.slice none 0 0) 0 0
  sh : SRow W g c ps
  cn : Row W d len (List.replicate len 0)
  bel : Below w.heap.size w W
  g0 : w.heap.size < g
  d0 : w.heap.size < d
  t0 : w.heap.size < t
  gd : g ≠ d

theorem Nw.keep {w W W' : World} {t g c d len : Nat} {ps : List Shr} {q : Int} (h : Nw w W t g c d len ps q) (k : Below W.heap.size W W') : Nw w W' t g c d len ps q :=
  ⟨h.box.all k, h.res.all k, h.sh.all k, h.cn.all k, below_call h.bel h.bel.size k, h.g0, h.d0, h.t0, h.gd⟩

theorem nb2 {w w1 : World} {o1 o2 : Obj} {e : Nat} (G : ((w.alloc o1).alloc o2).drew.grownBy w1 (some e)) (he : w.heap.size ≤ e) : Below w.heap.size w w1 :=
  Below.grown ((below_new w o1).alloc (by simp) o2).drew G (by simp; omega) (fun j hj => by cases hj; exact he)

theorem nb3 {w w1 : World} {o1 o2 o3 : Obj} {e : Nat} (G : (((w.alloc o1).alloc o2).alloc o3).drew.grownBy w1 (some e)) (he : w.heap.size ≤ e) : Below w.heap.size w w1 :=
  Below.grown (((below_new w o1).alloc (by simp) o2).alloc (by simp; omega) o3).drew G (by simp; omega) (fun j hj => by cases hj; exact he)

theorem nb4 {w w1 : World} {o1 o2 o3 o4 : Obj} {e : Nat} (G : ((((w.alloc o1).alloc o2).alloc o3).alloc o4).drew.grownBy w1 (some e)) (he : w.heap.size ≤ e) : Below w.heap.size w w1 :=
  Below.grown ((((below_new w o1).alloc (by simp) o2).alloc (by simp; omega) o3).alloc (by simp; omega) o4).drew G (by simp; omega) (fun j hj => by cases hj; exact he)

theorem new_ok {ps : List Shr} {len : Nat} (q : Int) (hl : ps.length = len) : manyOk ps (List.replicate len 0) q 0 = fitsOn ps q := by
  cases h : fitsOn ps q
  · exact many_fits h
  · refine many_end h (by rw [List.length_replicate, hl]) (by decide) ?_
    rw [cnts, List.all_eq_true]
    intro x hx
    rw [List.eq_of_mem_replicate hx]
    rfl

set_option maxRecDepth 100000 in
set_option maxHeartbeats 8000000 in
theorem specNewM (a : Option Addr) (len cap : Nat) (ps : List Shr) (q : Int) (w : World) (I : Shs w a len ps) (hsz : (len : Int) ≤ 1048576) :
    Calls Tryz.prog 50 #[.slice a len cap, .int .i64 q] w fun e w' => ∃ b lb cb d ld cd, e = .returned (.tuple #[mv (.slice b lb cb) (.slice d ld cd) (nmQ ps q) 0, .bool (fitsOn ps q)]) ∧ SFit w' w.heap.size b lb cb (nmS ps q) ∧ Fit w' w.heap.size d ld cd (nmN ps q) ∧ Apart b d ∧ Below w.heap.size w w' := by
  have HI : Hid (Shs w a len ps) := I
  have hl := I.1
  clear I
  have hm := made_ints len hsz
  have hsh := info_shr
  obtain ⟨i0, hi, hzz⟩ : ∃ i, Tryz.prog.info? 122 = some i ∧ (i.zero, i.size, i.bytes) = (some (.agg #[.int .i64 0, .int .i64 0]), 2, 16) := by
    cases h : Tryz.prog.info? 122 with
    | none => rw [h] at hsh; cases hsh
    | some i => rw [h] at hsh; exact ⟨i, rfl, by simpa using hsh⟩
  have hz0 : i0.zero = some (.agg #[.int .i64 0, .int .i64 0]) := congrArg (·.1) hzz
  have hz1 : i0.size = 2 := congrArg (·.2.1) hzz
  have hz2 : i0.bytes = 16 := congrArg (·.2.2) hzz
  clear hsh hzz
  go_enter Tryz.func50, Tryz.ntmps50
  go_wp2_with fail
  rename_i K hK
  have TAIL : ∀ (t g c d : Nat) (v : Value) (W : World), Nw w W t g c d len ps q → K { tmps := #[.slice a len cap, .int .i64 q, undef, undef, .pointer (some ⟨w.heap.size, 0, none⟩), .bool false, .pointer (some ⟨t, 0, none⟩), v, .slice a len cap, .slice (some ⟨g, 0, none⟩) len c, .slice a len cap, .int .i64 len, .slice (some ⟨d, 0, none⟩) len len, .int .i64 q, .agg #[.slice (some ⟨g, 0, none⟩) len c, .slice (some ⟨d, 0, none⟩) len len, .int .i64 q, .int .i64 0], undef, undef, undef, undef, undef], defers := [] } W := by
    intro t g c d v W N
    apply hK
    have HN : Hid (Nw w W t g c d len ps q) := N
    clear N
    have t0 := HN.out.box.c0
    have t1 := HN.out.box.c1
    have t2 := HN.out.box.c2
    have t3 := HN.out.box.c3
    go_wp2_with fail
    refine (specManyX _ len c ps _ len len (List.replicate len 0) q 0 _ (by have := HN.out.sh.shs; rwa [hl] at this) (by have := HN.out.cn.ints; rwa [List.length_replicate] at this) hsz).mono ?_
    clear t0 t1 t2 t3
    rintro e w2 ⟨rfl, B2⟩
    have H2 : Hid (Nw w w2 t g c d len ps q) := HN.out.keep B2
    clear B2
    have hok : manyOk ps (List.replicate len 0) q 0 = fitsOn ps q := new_ok q hl
    rw [hok]
    clear hok
    have t0 := H2.out.box.c0
    have t1 := H2.out.box.c1
    have t2 := H2.out.box.c2
    have t3 := H2.out.box.c3
    have r0 := H2.out.res.c0
    have r1 := H2.out.res.c1
    have r2 := H2.out.res.c2
    have r3 := H2.out.res.c3
    have s0 := H2.out.res.fr 0
    have s1 := H2.out.res.fr 1
    have s2 := H2.out.res.fr 2
    have s3 := H2.out.res.fr 3
    cases hf : fitsOn ps q
    · have HF : Hid (fitsOn ps q = false) := hf
      have n0 := nm_no HF.out
      have HN0 := hid n0
      clear hf n0
      go_wp2_with fail
      refine bodyPost_ret (ret_mny2 rfl rfl rfl ((((H2.out.res.set0 _).set1 _).set2 0).set3 0)) rfl ?_
      rw [HN0.out.1, HN0.out.2.1, HN0.out.2.2, HF.out]
      refine ⟨_, _, _, _, _, _, rfl, sfit_nil _ _, fit_nil _ _, apart_none _, ?_⟩
      exact below_set (below_set (below_set (below_set H2.out.bel (Nat.le_refl _) _) (Nat.le_refl _) _) (Nat.le_refl _) _) (Nat.le_refl _) _
    · have HF : Hid (fitsOn ps q = true) := hf
      have n0 := nm_yes HF.out
      have HN0 := hid n0
      clear hf n0
      go_wp2_with fail
      refine bodyPost_ret (ret_mny2 rfl rfl rfl ((((H2.out.res.set0 _).set1 _).set2 q).set3 0)) rfl ?_
      rw [HN0.out.1, HN0.out.2.1, HN0.out.2.2, HF.out]
      refine ⟨_, _, _, _, _, _, rfl, ?_, ?_, ?_, ?_⟩
      · exact SRow.fit (((((H2.out.sh.past (Nat.ne_of_gt H2.out.g0) _).past (Nat.ne_of_gt H2.out.g0) _).past (Nat.ne_of_gt H2.out.g0) _).past (Nat.ne_of_gt H2.out.g0) _)) (Nat.le_of_lt H2.out.g0) hl
      · rw [hl]
        exact ((((H2.out.cn.past (Nat.ne_of_gt H2.out.d0) _).past (Nat.ne_of_gt H2.out.d0) _).past (Nat.ne_of_gt H2.out.d0) _).past (Nat.ne_of_gt H2.out.d0) _).fit (Nat.le_of_lt H2.out.d0) (by simp)
      · exact fun x y hx hy => by cases hx; cases hy; exact H2.out.gd
      · exact below_set (below_set (below_set (below_set H2.out.bel (Nat.le_refl _) _) (Nat.le_refl _) _) (Nat.le_refl _) _) (Nat.le_refl _) _
  clear hK
  have P0 := mny_new w (.slice none 0 0) (.slice none 0 0) 0 0
  go_region_held3 (fun _ => True) (trivial)
    ((refine step_append_shs (by rfl) (.tmp 7) (.tmp 8) 32 (by rfl) i0 Tryz.underlying32 hi hz0 hz1 hz2 _ _ _ [] (by rfl) (by rfl) (by (repeat (first | exact srow_nil_at (by simp) | apply SRow.drew | apply SRow.alloc))) a len cap ps (by rfl) (by (repeat (first | exact HI.out | apply Shs.drew | apply Shs.alloc))) (by simp <;> omega) _ rfl ?_; intro g1 c1 w1 R1 G1 D1; have Q2 : Mny w1 w.heap.size (.slice none 0 0) (.slice none 0 0) 0 0 := Mny.other (by (repeat (first | with_reducible exact P0 | with_reducible apply Mny.drew | with_reducible apply Mny.alloc))) G1 (by simp <;> omega); have q1 := Q2.lt; have q2 := Nat.ne_of_lt q1; have q3 := Nat.ne_of_gt q1; (first | (have P2 : Mny w1 (w.heap.size + 1) (.slice none 0 0) (.slice none 0 0) 0 0 := Mny.other (by first | ((repeat (first | with_reducible exact mny_new_at (by first | (simp; done) | (simp; omega) | fail "no") _ _ _ _ | with_reducible apply Mny.drew | with_reducible apply Mny.alloc)); done) | fail "no") G1 (by first | (simp; done) | (simp; omega) | fail "no"); have p0 := P2.c0; have p1 := P2.c1; have p2 := P2.c2; have p3 := P2.c3; have f0 := P2.fr 0; have f1 := P2.fr 1; have f2 := P2.fr 2; have f3 := P2.fr 3; have n1 := P2.lt; have n2 := Nat.ne_of_lt n1; have n3 := Nat.ne_of_gt n1) | (have P2 : Mny w1 (w.heap.size + 1 + 1) (.slice none 0 0) (.slice none 0 0) 0 0 := Mny.other (by first | ((repeat (first | with_reducible exact mny_new_at (by first | (simp; done) | (simp; omega) | fail "no") _ _ _ _ | with_reducible apply Mny.drew | with_reducible apply Mny.alloc)); done) | fail "no") G1 (by first | (simp; done) | (simp; omega) | fail "no"); have p0 := P2.c0; have p1 := P2.c1; have p2 := P2.c2; have p3 := P2.c3; have f0 := P2.fr 0; have f1 := P2.fr 1; have f2 := P2.fr 2; have f3 := P2.fr 3; have n1 := P2.lt; have n2 := Nat.ne_of_lt n1; have n3 := Nat.ne_of_gt n1) | (have P2 : Mny w1 (w.heap.size + 1 + 1 + 1) (.slice none 0 0) (.slice none 0 0) 0 0 := Mny.other (by first | ((repeat (first | with_reducible exact mny_new_at (by first | (simp; done) | (simp; omega) | fail "no") _ _ _ _ | with_reducible apply Mny.drew | with_reducible apply Mny.alloc)); done) | fail "no") G1 (by first | (simp; done) | (simp; omega) | fail "no"); have p0 := P2.c0; have p1 := P2.c1; have p2 := P2.c2; have p3 := P2.c3; have f0 := P2.fr 0; have f1 := P2.fr 1; have f2 := P2.fr 2; have f3 := P2.fr 3; have n1 := P2.lt; have n2 := Nat.ne_of_lt n1; have n3 := Nat.ne_of_gt n1) | skip)))
  all_goals clear hm P0 hi hz0 hz1 hz2
  all_goals (have D2 := D1; simp at D2)
  all_goals (have B1 : Below w.heap.size w w1 := by first | with_reducible exact nb2 G1 (by omega) | with_reducible exact nb3 G1 (by omega) | with_reducible exact nb4 G1 (by omega))
  all_goals (have R1' : SRow w1 g1 c1 ps := R1)
  all_goals (have gl := R1'.lt)
  all_goals (first | (have Z2 : Row w1 (w.heap.size + 1) len (List.replicate len 0) := Row.other (by first | ((repeat (first | with_reducible exact row_zeros_at (by first | (simp; done) | (simp; omega) | fail "no") len hsz | with_reducible apply Row.drew | with_reducible apply Row.alloc)); done) | fail "no") G1 (by first | (simp; done) | (simp; omega) | fail "no"); have z1 : g1 ≠ w.heap.size + 1 := (by omega); have z2 := Z2.lt) | (have Z2 : Row w1 (w.heap.size + 1 + 1) len (List.replicate len 0) := Row.other (by first | ((repeat (first | with_reducible exact row_zeros_at (by first | (simp; done) | (simp; omega) | fail "no") len hsz | with_reducible apply Row.drew | with_reducible apply Row.alloc)); done) | fail "no") G1 (by first | (simp; done) | (simp; omega) | fail "no"); have z1 : g1 ≠ w.heap.size + 1 + 1 := (by omega); have z2 := Z2.lt) | (have Z2 : Row w1 (w.heap.size + 1 + 1 + 1) len (List.replicate len 0) := Row.other (by first | ((repeat (first | with_reducible exact row_zeros_at (by first | (simp; done) | (simp; omega) | fail "no") len hsz | with_reducible apply Row.drew | with_reducible apply Row.alloc)); done) | fail "no") G1 (by first | (simp; done) | (simp; omega) | fail "no"); have z1 : g1 ≠ w.heap.size + 1 + 1 + 1 := (by omega); have z2 := Z2.lt) | skip)
  all_goals clear D1 G1
  all_goals (refine TAIL _ _ _ _ _ _ ⟨(by first | ((with_reducible refine ((((P2.set0 _).set1 _).set2 _).set3 _)) <;> first | omega | rfl | (simp; done) | (simp; omega)) | ((with_reducible refine (((((P2.set0 _).set1 _).set2 _).set3 _).alloc _)) <;> first | omega | rfl | (simp; done) | (simp; omega)) | ((with_reducible refine mny_new_at ?_ _ _ _ _) <;> first | omega | rfl | (simp; done) | (simp; omega)) | ((with_reducible refine ((mny_new_at ?_ _ _ _ _).alloc _)) <;> first | omega | rfl | (simp; done) | (simp; omega))), (by first | ((with_reducible refine Q2.alloc _) <;> first | omega | rfl | (simp; done) | (simp; omega)) | ((with_reducible refine (Q2.alloc _).alloc _) <;> first | omega | rfl | (simp; done) | (simp; omega)) | ((with_reducible refine ((((Q2.past ?_ _).past ?_ _).past ?_ _).past ?_ _)) <;> first | omega | rfl | (simp; done) | (simp; omega)) | ((with_reducible refine ((((Q2.past ?_ _).past ?_ _).past ?_ _).past ?_ _).alloc _) <;> first | omega | rfl | (simp; done) | (simp; omega))), (by first | ((with_reducible refine R1'.alloc _) <;> first | omega | rfl | (simp; done) | (simp; omega)) | ((with_reducible refine (R1'.alloc _).alloc _) <;> first | omega | rfl | (simp; done) | (simp; omega)) | ((with_reducible refine ((((R1'.past ?_ _).past ?_ _).past ?_ _).past ?_ _)) <;> first | omega | rfl | (simp; done) | (simp; omega)) | ((with_reducible refine ((((R1'.past ?_ _).past ?_ _).past ?_ _).past ?_ _).alloc _) <;> first | omega | rfl | (simp; done) | (simp; omega))), (by first | ((with_reducible refine Z2.alloc _) <;> first | omega | rfl | (simp; done) | (simp; omega)) | ((with_reducible refine ((((Z2.past ?_ _).past ?_ _).past ?_ _).past ?_ _)) <;> first | omega | rfl | (simp; done) | (simp; omega)) | ((with_reducible refine row_zeros_at ?_ len hsz) <;> first | omega | rfl | (simp; done) | (simp; omega)) | ((with_reducible refine (row_zeros_at ?_ len hsz).alloc _) <;> first | omega | rfl | (simp; done) | (simp; omega))), (by first | ((with_reducible refine B1.alloc ?_ _) <;> first | omega | rfl | (simp; done) | (simp; omega)) | ((with_reducible refine (B1.alloc ?_ _).alloc ?_ _) <;> first | omega | rfl | (simp; done) | (simp; omega)) | ((with_reducible refine below_set (below_set (below_set (below_set B1 ?_ _) ?_ _) ?_ _) ?_ _) <;> first | omega | rfl | (simp; done) | (simp; omega)) | ((with_reducible refine (below_set (below_set (below_set (below_set B1 ?_ _) ?_ _) ?_ _) ?_ _).alloc ?_ _) <;> first | omega | rfl | (simp; done) | (simp; omega))), (by omega), (by omega), (by omega), (by omega)⟩)

end Go.Proofs.YtcmeimfjedakeaaGreat.Crew

/-
  spec.l12Copy at every Many that is right.
-/
namespace Go.Proofs.YtcmeimfjedakeaaGreat.Crew
open Go.ChangeShapes Go.WideShapes Go.ChangeAt Go.RowKit

/-- While a Many is copied: what came, what is to be answered. -/
structure Cm (w0 W : World) (x y : Value) (t p : Int) : Prop where
  arg : Mny W w0.heap.size x y t p
  res : Mny W (w0.heap.size + 1) (.slice none 0 0) (.slice none 0 0) 0 0
  bel : Below w0.heap.size w0 W
  more : w0.heap.size + 1 < W.heap.size

theorem Cm.all {w0 W W' : World} {x y : Value} {t p : Int} (h : Cm w0 W x y t p) (k : Below W.heap.size W W') : Cm w0 W' x y t p :=
  ⟨h.arg.all k, h.res.all k, below_call h.bel h.bel.size k, Nat.lt_of_lt_of_le h.more k.size⟩

theorem Cm.alloc {w0 W : World} {x y : Value} {t p : Int} (h : Cm w0 W x y t p) (o : Obj) : Cm w0 (W.alloc o) x y t p := h.all (below_new _ _)

theorem Cm.drew {w0 W : World} {x y : Value} {t p : Int} (h : Cm w0 W x y t p) : Cm w0 W.drew x y t p := h.all (Below.refl _ _).drew

theorem Cm.other {w0 W W' : World} {x y : Value} {t p : Int} {e : Nat} (h : Cm w0 W x y t p) (g : W.grownBy W' (some e)) (he : w0.heap.size + 1 < e) : Cm w0 W' x y t p :=
  ⟨h.arg.other g (by simp; omega), h.res.other g (by simp; omega), h.bel.grown g h.bel.size (fun j hj => by cases hj; omega), Nat.lt_of_lt_of_le h.more g.size⟩

theorem cm_new (w : World) (x y : Value) (t p : Int) : Cm w ((w.alloc (.cells #[x, y, .int .i64 t, .int .i64 p] 34)).alloc (.cells #[.slice none 0 0, .slice none 0 0, .int .i64 0, .int .i64 0] 34)) x y t p :=
  ⟨(mny_new _ _ _ _ _).alloc _, mny_new_at (by simp) _ _ _ _, (below_new _ _).alloc (by simp) _, by simp⟩

theorem row_below {w w' : World} {g cap e : Nat} {xs : List Int} (h : Row w g cap xs) (k : w.grownBy w' (some e)) (he : g ≠ e) : Row w' g cap xs := h.other k (by simpa using he)

set_option maxRecDepth 100000 in
set_option maxHeartbeats 8000000 in
theorem specCopyM (a : Option Addr) (len cap : Nat) (ps : List Shr) (a' : Option Addr) (len' cap' : Nat) (ns : List Int) (t p : Int) (w : World) (I : Shs w a len ps) (J : Ints w a' len' ns) (hs : (len : Int) ≤ 1048576) (hs' : (len' : Int) ≤ 1048576) :
    Calls Tryz.prog 137 #[mv (.slice a len cap) (.slice a' len' cap') t p] w fun e w' => ∃ g c h d : Nat, e = .returned (mv (.slice (some ⟨g, 0, none⟩) len c) (.slice (some ⟨h, 0, none⟩) len' d) t p) ∧ SRow w' g c ps ∧ Row w' h d ns ∧ w.heap.size ≤ g ∧ w.heap.size ≤ h ∧ g ≠ h ∧ Below w.heap.size w w' := by
  have hsh := info_shr
  obtain ⟨i0, hi, hzz⟩ : ∃ i, Tryz.prog.info? 122 = some i ∧ (i.zero, i.size, i.bytes) = (some (.agg #[.int .i64 0, .int .i64 0]), 2, 16) := by
    cases h : Tryz.prog.info? 122 with
    | none => rw [h] at hsh; cases hsh
    | some i => rw [h] at hsh; exact ⟨i, rfl, by simpa using hsh⟩
  have hz0 : i0.zero = some (.agg #[.int .i64 0, .int .i64 0]) := congrArg (·.1) hzz
  have hz1 : i0.size = 2 := congrArg (·.2.1) hzz
  have hz2 : i0.bytes = 16 := congrArg (·.2.2) hzz
  clear hsh hzz
  have hl := I.1
  have HI : Hid (Shs w a len ps ∧ Ints w a' len' ns ∧ ps.length = len ∧ ns.length = len') := ⟨I, J, I.1, J.1⟩
  clear I J
  obtain ⟨W0, hW0⟩ : ∃ W0, W0 = (w.alloc (.cells #[.slice a len cap, .slice a' len' cap', .int .i64 t, .int .i64 p] 34)).alloc (.cells #[.slice none 0 0, .slice none 0 0, .int .i64 0, .int .i64 0] 34) := ⟨_, rfl⟩
  have T : Cm w W0 (.slice a len cap) (.slice a' len' cap') t p := by rw [hW0]; exact cm_new _ _ _ _ _
  go_enter Tryz.func137, Tryz.ntmps137
  go_wp2_with fail
  rw [← hW0]
  clear hW0
  have t0 := T.arg.c0
  have t1 := T.arg.c1
  have t2 := T.arg.c2
  have t3 := T.arg.c3
  have m0 := T.more
  have m3 : ¬ w.heap.size = w.heap.size + 1 := Nat.ne_of_lt (Nat.lt_succ_self _)
  go_region_held3 (fun w' => w'.cell? ⟨w.heap.size, 0, none⟩ = some (.slice a len cap) ∧ w'.cell? ⟨w.heap.size, 1, none⟩ = some (.slice a' len' cap') ∧ w'.cell? ⟨w.heap.size, 2, none⟩ = some (.int .i64 t) ∧ w'.cell? ⟨w.heap.size, 3, none⟩ = some (.int .i64 p)) (go_keep)
    (first | (refine step_append_shs (by rfl) (.tmp 3) (.tmp 5) 32 (by rfl) i0 Tryz.underlying32 hi hz0 hz1 hz2 _ _ _ [] (by rfl) (by rfl) (by first | with_reducible exact E | with_reducible exact E.drew | (repeat (first | with_reducible exact srow_nil_at rfl | with_reducible apply SRow.drew | with_reducible apply SRow.alloc))) a len cap ps (by rfl) (HI.out.1.kept (by first | with_reducible exact Cm.bel T | with_reducible exact Cm.bel T.drew | with_reducible exact Cm.bel (T.alloc _) | with_reducible exact Cm.bel (T.alloc _).drew)) (by simp <;> omega) _ rfl ?_; intro g1 c1 v1 R1 G1 D1; have l1 := R1.lt; have l2 : w.heap.size + 1 < g1 := (by first | omega | (simp at D1; omega)); have T : Cm w v1 (.slice a len cap) (.slice a' len' cap') t p := (by first | with_reducible exact Cm.other T G1 (by first | omega | (simp; omega)) | with_reducible exact Cm.other T.drew G1 (by first | omega | (simp; omega)) | with_reducible exact Cm.other (T.alloc _) G1 (by first | omega | (simp; omega)) | with_reducible exact Cm.other (T.alloc _).drew G1 (by first | omega | (simp; omega))); (first | (have N : Row v1 g2 c2 ns := (by first | with_reducible exact row_below N G1 (by first | omega | (simp; omega)) | with_reducible exact row_below N.drew G1 (by first | omega | (simp; omega)) | with_reducible exact row_below (N.alloc _) G1 (by first | omega | (simp; omega)) | with_reducible exact row_below (N.alloc _).drew G1 (by first | omega | (simp; omega)))) | skip); have t0 := T.arg.c0; have t1 := T.arg.c1; have t2 := T.arg.c2; have t3 := T.arg.c3; have p0 := T.res.c0; have p1 := T.res.c1; have p2 := T.res.c2; have p3 := T.res.c3; have f0 := T.res.fr 0; have f1 := T.res.fr 1; have f2 := T.res.fr 2; have f3 := T.res.fr 3; have m0 := T.more; have m1 := T.arg.lt) | (go_at_call 112; refine (copy_any a' len' cap' ns _ (HI.out.2.1.kept (by first | with_reducible exact Cm.bel T | with_reducible exact Cm.bel T.drew | with_reducible exact Cm.bel (T.alloc _) | with_reducible exact Cm.bel (T.alloc _).drew)) hs').mono ?_; rintro e u1 ⟨g2, c2, rfl, N, n2, K2⟩; (first | (have E : SRow u1 W0.heap.size 0 [] := (by first | with_reducible exact SRow.all (srow_nil_at rfl).drew K2 | with_reducible exact SRow.all (srow_nil_at rfl) K2)) | skip); (first | (have R1 : SRow u1 g1 c1 ([] ++ ps) := (by first | with_reducible exact R1.all K2 | with_reducible exact R1.drew.all K2)) | skip); have T : Cm w u1 (.slice a len cap) (.slice a' len' cap') t p := (by first | with_reducible exact Cm.all T K2 | with_reducible exact Cm.all T.drew K2 | with_reducible exact Cm.all (T.alloc _) K2 | with_reducible exact Cm.all (T.alloc _).drew K2); have t0 := T.arg.c0; have t1 := T.arg.c1; have t2 := T.arg.c2; have t3 := T.arg.c3; have p0 := T.res.c0; have p1 := T.res.c1; have p2 := T.res.c2; have p3 := T.res.c3; have f0 := T.res.fr 0; have f1 := T.res.fr 1; have f2 := T.res.fr 2; have f3 := T.res.fr 3; have m0 := T.more; have m1 := T.arg.lt))
  have H : Hid (SRow u1 g1 c1 ps ∧ Row u1 g2 c2 ns ∧ Mny u1 (w.heap.size + 1) (.slice none 0 0) (.slice none 0 0) 0 0 ∧ Below w.heap.size w u1 ∧ w.heap.size + 1 < g1 ∧ g1 < g2) := ⟨R1, N, T.res, T.bel, l2, by omega⟩
  clear R1 N T t0 t1 t2 t3 p0 p1 p2 p3 f0 f1 f2 f3 m0 m1 m3
  go_wp2_with fail
  refine bodyPost_ret (ret_mny rfl rfl ((((H.out.2.2.1.set0 _).set1 _).set2 _).set3 _)) rfl ⟨_, _, _, _, rfl, ?_, ?_, ?_, ?_, ?_, ?_⟩
  · have n := Nat.ne_of_gt H.out.2.2.2.2.1
    exact (((H.out.1.past n _).past n _).past n _).past n _
  · have n := Nat.ne_of_gt (Nat.lt_trans H.out.2.2.2.2.1 H.out.2.2.2.2.2)
    exact (((H.out.2.1.past n _).past n _).past n _).past n _
  · have := H.out.2.2.2.2.1; omega
  · have := H.out.2.2.2.2; omega
  · have := H.out.2.2.2.2; omega
  · exact below_set (below_set (below_set (below_set H.out.2.2.2.1 (by omega) _) (by omega) _) (by omega) _) (by omega) _

end Go.Proofs.YtcmeimfjedakeaaGreat.Crew
