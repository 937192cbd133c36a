/-
  Several processors: of two that are taken, who is behind; and of all, who is hindmost: a map of ranks by numbers.
-/
import Derived.Test.YtjhenfdmbagaiaaGreatManyMath
import Derived.Test.YtjhenfdmbagaiaaGreatRankImpl
import Derived.Maps.OwnSet
import Derived.Maps.RangeWalk
import Derived.Deep.RegionHeld3
import Derived.Deep.CutRange
import Derived.Deep.DrawnRows
namespace Go.Proofs.YtjhenfdmbagaiaaGreat.Crew
open Go.ChangeShapes Go.WideShapes Go.ChangeAt Go.RowKit Go.Maps Go.Proofs.YtjhenfdmbagaiaaGreat.Win

attribute [local go_sem ↓] Go.wp_at_zero Go.wp_at_succ

/-- A rank's datum. -/
def rkD (a : Int) (o : Bool) (c : Int) : DataW Unit := .agg [.lit (.int .i64 a), .lit (.bool o), .lit (.int .i64 c)]

open Classical in
/-- How a rank in a map reads. -/
noncomputable def rkR (v : Value) : Option (DataW Unit × List MemPlace) :=
  if h : ∃ z : Int × Bool × Int, v = rk z.1 z.2.1 z.2.2 then some (rkD (Classical.choose h).1 (Classical.choose h).2.1 (Classical.choose h).2.2, []) else none

theorem rkR_mk (a : Int) (o : Bool) (c : Int) : rkR (rk a o c) = some (rkD a o c, []) := by
  have h : ∃ z : Int × Bool × Int, rk a o c = rk z.1 z.2.1 z.2.2 := ⟨(a, o, c), rfl⟩
  unfold rkR
  rw [dif_pos h]
  have := Classical.choose_spec h
  generalize Classical.choose h = z at this ⊢
  simp only [Value.agg.injEq, Array.mk.injEq, List.cons.injEq, Value.int.injEq, Value.bool.injEq, true_and, and_true] at this
  obtain ⟨h1, h2, h3⟩ := this
  rw [← h1, ← h2, ← h3]

theorem rkR_inv {v : Value} {z : DataW Unit × List MemPlace} (h : rkR v = some z) : ∃ a o c, v = rk a o c ∧ z = (rkD a o c, []) := by
  unfold rkR at h
  split at h
  · rename_i hx
    cases h
    exact ⟨_, _, _, Classical.choose_spec hx, rfl⟩
  · cases h

theorem rkD_inj {a a' : Int} {o o' : Bool} {c c' : Int} (h : rkD a o c = rkD a' o' c') : a = a' ∧ o = o' ∧ c = c' := by
  unfold rkD at h
  simp only [DataW.agg.injEq, List.cons.injEq, DataW.lit.injEq, Lit.int.injEq, Lit.bool.injEq, true_and, and_true] at h
  exact h

/-- The keys of such a map. -/
theorem key_law : Keyed Tryz.prog 2 := int_keyed Tryz.underlying2

theorem key_at {x : Int} (h : -9223372036854775808 ≤ x ∧ x ≤ 9223372036854775807) : keyOf Tryz.prog 2 (.int .i64 x) = some (.int .i64 x) :=
  keyOf_int_mk Tryz.underlying2 (by simp [Lit.wf, IntKind.min, IntKind.max, IntKind.signed, IntKind.bits]; omega)

/-- What the map's rank at a number comes to. -/
theorem look_rank {b n : Nat} {D : DataW Unit} {w : World} (h : w.ownsMap Tryz.prog 2 rkR b n D) {x : Int} (hx : -9223372036854775808 ≤ x ∧ x ≤ 9223372036854775807) {a : Int} {o : Bool} {c : Int} (hd : D.atKey (.int .i64 x) (rkD 0 false 0) = rkD a o c) :
    (Instr.lookup 98 (.map (some b)) (.int .i64 x) false).run Tryz.prog w = .ok (rk a o c) w := by
  obtain ⟨v, ps, hrun, hv⟩ := h.lookup key_law Tryz.underlying98 (z := rk 0 false 0) (Tryz.zeroValue106 w) (rkR_mk 0 false 0) (key_at hx)
  obtain ⟨a', o', c', rfl, e⟩ := rkR_inv hv
  have e1 := congrArg Prod.fst e
  simp only [hd] at e1
  obtain ⟨rfl, rfl, rfl⟩ := rkD_inj e1
  exact hrun

theorem own_below {b n : Nat} {D : DataW Unit} {w w' : World} (h : w.ownsMap Tryz.prog 2 rkR b n D) (g : Below w.heap.size w w') : w'.ownsMap Tryz.prog 2 rkR b n D := by
  have hl := h.lt
  obtain ⟨es, clock, hb, F, hs, hD⟩ := h
  exact ⟨es, clock, by rw [g.block b hl]; exact hb, F, hs, hD⟩

/-- Of two numbers whose turns go by these ranks: is the first behind. -/
def bhB (a : Int) (o : Bool) (c : Int) (a' : Int) (o' : Bool) (c' : Int) (x y : Int) : Bool :=
  if cmpR a o c a' o' c' = 1 ∨ cmpR a' o' c' a o c = 1 then decide (cmpR a' o' c' a o c = 1) else decide (y < x)

theorem two_rnk (w : World) (a : Int) (o : Bool) (c a' : Int) (o' : Bool) (c' : Int) : Rnk (((w.alloc (.cells #[.int .i64 a, .bool o, .int .i64 c] 106)).alloc (.cells #[.int .i64 a', .bool o', .int .i64 c'] 106)).drew) w.heap.size a o c ∧ Rnk (((w.alloc (.cells #[.int .i64 a, .bool o, .int .i64 c] 106)).alloc (.cells #[.int .i64 a', .bool o', .int .i64 c'] 106)).drew) (w.heap.size + 1) a' o' c' ∧ Below w.heap.size w (((w.alloc (.cells #[.int .i64 a, .bool o, .int .i64 c] 106)).alloc (.cells #[.int .i64 a', .bool o', .int .i64 c'] 106)).drew) := by
  have k1 : Below w.heap.size w (w.alloc (.cells #[.int .i64 a, .bool o, .int .i64 c] 106)) := (Below.refl _ w).alloc (Nat.le_refl _) _
  have e : (w.alloc (.cells #[.int .i64 a, .bool o, .int .i64 c] 106)).heap.size = w.heap.size + 1 := by simp
  have k2 := (Below.refl (w.heap.size + 1) (w.alloc (.cells #[.int .i64 a, .bool o, .int .i64 c] 106))).alloc (by omega) (.cells #[.int .i64 a', .bool o', .int .i64 c'] 106)
  refine ⟨?_, ?_, ?_⟩
  · exact ((rnk_new w a o c).kept k2 (by omega)).kept ((Below.refl (w.heap.size + 1) _).drew) (by omega)
  · have h := rnk_new (w.alloc (.cells #[.int .i64 a, .bool o, .int .i64 c] 106)) a' o' c'
    rw [e] at h
    exact h.kept ((Below.refl (w.heap.size + 2) _).drew) (by omega)
  · exact (k1.trans (k2.mono (by omega))).drew

theorem two_rnk2 (w : World) (a : Int) (o : Bool) (c a' : Int) (o' : Bool) (c' : Int) : Rnk (((w.alloc (.cells #[.int .i64 a, .bool o, .int .i64 c] 106)).alloc (.cells #[.int .i64 a', .bool o', .int .i64 c'] 106)).drew) (w.heap.size + 1) a' o' c' ∧ Rnk (((w.alloc (.cells #[.int .i64 a, .bool o, .int .i64 c] 106)).alloc (.cells #[.int .i64 a', .bool o', .int .i64 c'] 106)).drew) w.heap.size a o c ∧ Below w.heap.size w (((w.alloc (.cells #[.int .i64 a, .bool o, .int .i64 c] 106)).alloc (.cells #[.int .i64 a', .bool o', .int .i64 c'] 106)).drew) :=
  have h := two_rnk w a o c a' o' c'
  ⟨h.2.1, h.1, h.2.2⟩

set_option maxHeartbeats 4000000 in
theorem behind_at (b n : Nat) (D : DataW Unit) (x y a : Int) (o : Bool) (c a' : Int) (o' : Bool) (c' : Int) (w : World) (hown : w.ownsMap Tryz.prog 2 rkR b n D) (hx : -9223372036854775808 ≤ x ∧ x ≤ 9223372036854775807) (hy : -9223372036854775808 ≤ y ∧ y ≤ 9223372036854775807)
    (dx : D.atKey (.int .i64 x) (rkD 0 false 0) = rkD a o c) (dy : D.atKey (.int .i64 y) (rkD 0 false 0) = rkD a' o' c') :
    Calls Tryz.prog 97 #[.map (some b), .int .i64 x, .int .i64 y] w fun e w' => e = .returned (.bool (bhB a o c a' o' c' x y)) ∧ Below w.heap.size w w' := by
  have LX : Hid (∀ W : World, W.ownsMap Tryz.prog 2 rkR b n D → (Instr.lookup 98 (.map (some b)) (.int .i64 x) false).run Tryz.prog W = .ok (rk a o c) W ∧ (Instr.lookup 98 (.map (some b)) (.int .i64 y) false).run Tryz.prog W = .ok (rk a' o' c') W) := fun W h => ⟨look_rank h hx dx, look_rank h hy dy⟩
  have HO : Hid (w.ownsMap Tryz.prog 2 rkR b n D) := hown
  clear dx dy hx hy
  go_enter Tryz.func97, Tryz.ntmps97
  go_wp2_with fail
  have hb := HO.out.lt
  go_cut [7, 8] from 9 to 14 (fun s t wx => ∃ pA pB : Nat, s = .pointer (some ⟨pA, 0, none⟩) ∧ t = .pointer (some ⟨pB, 0, none⟩) ∧ Hid (Rnk wx pA a o c ∧ Rnk wx pB a' o' c' ∧ Below w.heap.size w wx))
  case first =>
    go_region_held3 (fun w' => (Instr.lookup 98 (.map (some b)) (.int .i64 x) false).run Tryz.prog w' = .ok (rk a o c) w' ∧ (Instr.lookup 98 (.map (some b)) (.int .i64 y) false).run Tryz.prog w' = .ok (rk a' o' c') w')
      ((refine LX.out _ ?_; (repeat' (first | exact HO.out | apply World.ownsMap.drew | apply World.ownsMap.alloc | apply World.ownsMap.setCell | (simp; omega)))))
      (fail)
    all_goals go_wp2_with fail
    all_goals go_meet
    all_goals first | (with_reducible exact ⟨_, _, rfl, rfl, hide (two_rnk w a o c a' o' c')⟩) | (with_reducible exact ⟨_, _, rfl, rfl, hide (two_rnk2 w a' o' c' a o c)⟩)
  case rest =>
    obtain ⟨pA, pB, rfl, rfl, H⟩ := hcut
    clear LX HO hown hb
    have r0 := H.out.1.c0
    have r1 := H.out.1.c1
    have r2 := H.out.1.c2
    have s0 := H.out.2.1.c0
    have s1 := H.out.2.1.c1
    have s2 := H.out.2.1.c2
    have n1 := cmp_neg a o c a' o' c'
    cases h1 : decide (cmpR a o c a' o' c' = 1)
    · go_wp2_with fail
      refine (isAhead a o c a' o' c' _).mono ?_
      rintro e w1 ⟨rfl, B1⟩
      rw [h1]
      have H1 : Hid (Rnk w1 pA a o c ∧ Rnk w1 pB a' o' c' ∧ Below w.heap.size w w1) := ⟨H.out.1.kept B1 H.out.1.lt, H.out.2.1.kept B1 H.out.2.1.lt, below_call H.out.2.2 H.out.2.2.size B1⟩
      clear B1 H r0 r1 r2 s0 s1 s2
      have r0 := H1.out.1.c0
      have r1 := H1.out.1.c1
      have r2 := H1.out.1.c2
      have s0 := H1.out.2.1.c0
      have s1 := H1.out.2.1.c1
      have s2 := H1.out.2.1.c2
      cases h2 : decide (cmpR a' o' c' a o c = 1)
      · go_wp2_with fail
        refine (isAhead a' o' c' a o c _).mono ?_
        rintro e w2 ⟨rfl, B2⟩
        rw [h2]
        have H2 : Hid (Below w.heap.size w w2) := below_call H1.out.2.2 H1.out.2.2.size B2
        clear B2 H1 r0 r1 r2 s0 s1 s2
        go_wp2_with fail
        go_ret
        refine ⟨?_, H2.out⟩
        rw [bhB, if_neg (by simp at h1 h2; omega)]
        rfl
      · go_wp2_with fail
        refine (isAhead a' o' c' a o c _).mono ?_
        rintro e w2 ⟨rfl, B2⟩
        rw [h2]
        have H2 : Hid (Rnk w2 pA a o c ∧ Rnk w2 pB a' o' c' ∧ Below w.heap.size w w2) := ⟨H1.out.1.kept B2 H1.out.1.lt, H1.out.2.1.kept B2 H1.out.2.1.lt, below_call H1.out.2.2 H1.out.2.2.size B2⟩
        clear B2 H1 r0 r1 r2 s0 s1 s2
        have r0 := H2.out.1.c0
        have r1 := H2.out.1.c1
        have r2 := H2.out.1.c2
        have s0 := H2.out.2.1.c0
        have s1 := H2.out.2.1.c1
        have s2 := H2.out.2.1.c2
        go_wp2_with fail
        refine (isAhead a' o' c' a o c _).mono ?_
        rintro e w3 ⟨rfl, B3⟩
        rw [h2]
        have H3 : Hid (Below w.heap.size w w3) := below_call H2.out.2.2 H2.out.2.2.size B3
        go_wp2_with fail
        go_ret
        refine ⟨?_, H3.out⟩
        rw [bhB, if_pos (by simp at h1 h2; omega), h2]
        rfl
    · go_wp2_with fail
      refine (isAhead a o c a' o' c' _).mono ?_
      rintro e w1 ⟨rfl, B1⟩
      rw [h1]
      have H1 : Hid (Rnk w1 pA a o c ∧ Rnk w1 pB a' o' c' ∧ Below w.heap.size w w1) := ⟨H.out.1.kept B1 H.out.1.lt, H.out.2.1.kept B1 H.out.2.1.lt, below_call H.out.2.2 H.out.2.2.size B1⟩
      clear B1 H r0 r1 r2 s0 s1 s2
      have r0 := H1.out.1.c0
      have r1 := H1.out.1.c1
      have r2 := H1.out.1.c2
      have s0 := H1.out.2.1.c0
      have s1 := H1.out.2.1.c1
      have s2 := H1.out.2.1.c2
      go_wp2_with fail
      refine (isAhead a' o' c' a o c _).mono ?_
      rintro e w2 ⟨rfl, B2⟩
      have H2 : Hid (Below w.heap.size w w2) := below_call H1.out.2.2 H1.out.2.2.size B2
      clear B2 H1 r0 r1 r2 s0 s1 s2
      go_wp2_with fail
      go_ret
      refine ⟨?_, H2.out⟩
      rw [bhB, if_pos (by simp at h1; omega), n1]
      rfl

end Go.Proofs.YtjhenfdmbagaiaaGreat.Crew

namespace Go.Proofs.YtjhenfdmbagaiaaGreat.Crew
open Go.ChangeShapes Go.WideShapes Go.ChangeAt Go.RowKit Go.Maps Go.Proofs.YtjhenfdmbagaiaaGreat.Win

/-- The map holds just those of the first k for whom K, each with what its turn goes by. -/
structure Tkn (ps : List Shr) (ns : List Int) (k : Nat) (K : Nat → Bool) (D : DataW Unit) : Prop where
  lt : ∀ i, K i = true → i < k
  yes : ∀ i, K i = true → Maps.has D (.int .i64 (i : Int)) = true
  key : ∀ kl, Maps.has D kl = true → ∃ i : Nat, kl = .int .i64 (i : Int) ∧ K i = true
  val : ∀ i, K i = true → D.atKey (.int .i64 (i : Int)) (rkD 0 false 0) = rkD (rkA ps ns i) (rkO ps ns i) (rkC ps ns i)
  size : Maps.size D = Top.cntB K k

/-- bhB of two numbers is who goes first. -/
theorem bhB_go (ps : List Shr) (ns : List Int) (i j : Nat) : bhB (rkA ps ns i) (rkO ps ns i) (rkC ps ns i) (rkA ps ns j) (rkO ps ns j) (rkC ps ns j) (i : Int) (j : Int) = goM ps ns j i := by
  have e1 : cmpR (rkA ps ns i) (rkO ps ns i) (rkC ps ns i) (rkA ps ns j) (rkO ps ns j) (rkC ps ns j) = ahM ps ns i j := rfl
  have e2 : cmpR (rkA ps ns j) (rkO ps ns j) (rkC ps ns j) (rkA ps ns i) (rkO ps ns i) (rkC ps ns i) = ahM ps ns j i := rfl
  unfold bhB
  rw [e1, e2]
  have n := ahM_neg ps ns i j
  have b := ahM_bd ps ns i j
  unfold goM
  by_cases h1 : ahM ps ns i j = 1
  · rw [if_pos (.inl h1)]
    have : ¬ ahM ps ns j i = 0 := by omega
    simp [this]
  · by_cases h2 : ahM ps ns j i = 1
    · rw [if_pos (.inr h2)]
      simp [h2]
    · rw [if_neg (by omega)]
      have : ahM ps ns j i = 0 := by omega
      simp [this]

/-- What has come so far: the hindmost of those that are not left. -/
def Seen (ps : List Shr) (ns : List Int) (K : Nat → Bool) (left : Lit → Bool) (q : Int) : Prop :=
  (q = -1 ∧ ∀ i, K i = true → left (.int .i64 (i : Int)) = true) ∨
  (∃ z : Nat, q = (z : Int) ∧ K z = true ∧ left (.int .i64 (z : Int)) = false ∧ ∀ i, K i = true → left (.int .i64 (i : Int)) = false → i ≠ z → goM ps ns i z = true)

theorem int_key (i j : Nat) : (Lit.int .i64 (i : Int)).sameKey (.int .i64 (j : Int)) = decide (i = j) := by
  by_cases h : i = j
  · subst h; simp [Lit.sameKey]
  · have : ¬ (i : Int) = (j : Int) := by omega
    simp [Lit.sameKey, h, this]

theorem seen_first {ps : List Shr} {ns : List Int} {K : Nat → Bool} {left : Lit → Bool} {q : Int} (h : Seen ps ns K left q) (hq : q < 0) {x : Nat} (hx : K x = true) : Seen ps ns K (fun z => left z && !z.sameKey (.int .i64 (x : Int))) (x : Int) := by
  rcases h with ⟨_, h⟩ | ⟨z, rfl, _⟩
  · right
    refine ⟨x, rfl, hx, by simp [int_key], fun i hi hl hix => ?_⟩
    have h1 := h i hi
    simp [h1, int_key, hix] at hl
  · omega

theorem seen_new {ps : List Shr} {ns : List Int} {K : Nat → Bool} {left : Lit → Bool} {y x : Nat} (h : Seen ps ns K left (y : Int)) (hx : K x = true) (hg : goM ps ns y x = true) : Seen ps ns K (fun z => left z && !z.sameKey (.int .i64 (x : Int))) (x : Int) := by
  rcases h with ⟨h, _⟩ | ⟨z, e, h1, h2, h3⟩
  · omega
  · obtain rfl : y = z := by omega
    right
    refine ⟨x, rfl, hx, by simp [int_key], fun i hi hl hix => ?_⟩
    simp only [int_key, hix, decide_false, Bool.not_false, Bool.and_true] at hl
    by_cases e2 : i = y
    · subst e2; exact hg
    · exact (goM_strict ps ns).tr _ _ _ (h3 i hi hl e2) hg

theorem seen_old {ps : List Shr} {ns : List Int} {K : Nat → Bool} {left : Lit → Bool} {y x : Nat} (h : Seen ps ns K left (y : Int)) (hg : goM ps ns x y = true) : Seen ps ns K (fun z => left z && !z.sameKey (.int .i64 (x : Int))) (y : Int) := by
  rcases h with ⟨h, _⟩ | ⟨z, e, h1, h2, h3⟩
  · omega
  · obtain rfl : y = z := by omega
    right
    refine ⟨y, rfl, h1, by simp [h2], fun i hi hl hiy => ?_⟩
    simp only [int_key] at hl
    by_cases e2 : i = x
    · subst e2; exact hg
    · simp only [e2, decide_false, Bool.not_false, Bool.and_true] at hl
      exact h3 i hi hl hiy

theorem ranges_below {w w' : World} {b r n : Nat} {D : DataW Unit} {left : Lit → Bool} {cnt : Nat} (h : w.ranges Tryz.prog 2 rkR b r n D left cnt) (g : Below w.heap.size w w') : w'.ranges Tryz.prog 2 rkR b r n D left cnt := by
  have h1 := h.owns.lt
  have h2 := h.lt
  obtain ⟨es, clock, since, seen, c0, hb, F, hs, hD, hr, rest⟩ := h
  exact ⟨es, clock, since, seen, c0, by rw [g.block b h1]; exact hb, F, hs, hD, by rw [g.block r h2]; exact hr, rest⟩

theorem below_row {w w1 w2 : World} {r : Nat} (h : Below w.heap.size w w1) (g : w1.grownBy w2 (some r)) (hr : w.heap.size ≤ r) : Below w.heap.size w w2 := h.grown g h.size (fun j hj => by cases hj; exact hr)

set_option maxHeartbeats 4000000 in
theorem hindmost_at (ps : List Shr) (ns : List Int) (k : Nat) (hk : k ≤ 1048576) (K : Nat → Bool) (b n : Nat) (D : DataW Unit) (T : Tkn ps ns k K D) (hne : ∃ i, K i = true) (w : World) (hown : w.ownsMap Tryz.prog 2 rkR b n D) :
    Calls Tryz.prog 82 #[.map (some b)] w fun e w' => (∃ z : Nat, e = .returned (.int .i64 (z : Int)) ∧ K z = true ∧ ∀ i, K i = true → i ≠ z → goM ps ns i z = true) ∧ Below w.heap.size w w' := by
  have HT : Hid (Tkn ps ns k K D) := T
  have HN : Hid (∃ i, K i = true) := hne
  have HO : Hid (w.ownsMap Tryz.prog 2 rkR b n D) := hown
  clear T hne
  go_enter Tryz.func82, Tryz.ntmps82
  go_wp2_with (first
    | (at_range; refine wpList_range_own _ rfl _ 98 rfl 2 106 key_law Tryz.underlying98 _ b n _ rfl hown ?_; intro w0 hrg0 hg0 hs0)
    | go_in)
  go_frame
  go_loopw [3] (fun v wr => ∃ (q : Int) (left : Lit → Bool) (cnt : Nat), v = .int .i64 q ∧ wr.ranges Tryz.prog 2 rkR b w.heap.size n D left cnt ∧ Hid ((∀ kl, left kl = true → Maps.has D kl = true) ∧ Seen ps ns K left q ∧ Below w.heap.size w wr))
    (fun _ wr => wr.rangeLeft b w.heap.size)
  case atStart =>
    exact ⟨-1, _, _, rfl, hrg0, fun kl h => h, .inl ⟨rfl, HT.out.yes⟩, (Below.refl _ _).grown hg0 (Nat.le_refl _) (fun j hj => by cases hj)⟩
  case round =>
    obtain ⟨q, left, cnt, rfl, hrg, H⟩ := hrel
    go_wp2_with (first
      | (at_next; refine wpList_next_ranges _ rfl _ rfl 2 key_law rkR (fun x : Int => .int .i64 x) id (fun key kl hk => by obtain ⟨x, hx, _⟩ := Maps.keyOf_int_inv Tryz.underlying2 hk; exact ⟨x, hx⟩) (fun v _ _ => ⟨v, rfl⟩) b w.heap.size n _ _ _ rfl hrg ?_ ?_)
      | go_in)
    · intro _ hl0
      have HE : Hid (∃ z : Nat, q = (z : Int) ∧ K z = true ∧ ∀ i, K i = true → i ≠ z → goM ps ns i z = true) := by
        rcases H.out.2.1 with ⟨_, h⟩ | ⟨z, h1, h2, _, h3⟩
        · obtain ⟨i, hi⟩ := HN.out
          have := h i hi
          rw [hl0] at this
          cases this
        · exact ⟨z, h1, h2, fun i hi hiz => h3 i hi (hl0 _) hiz⟩
      go_wp2_with fail
      go_ret
      obtain ⟨z, rfl, hz⟩ := HE.out
      exact ⟨⟨z, rfl, hz⟩, H.out.2.2⟩
    · intro x c kl yd yp w1 cnt1 hkey hlk hv hat hrg1 hlt hg1 hs1 hen
      obtain ⟨x', ex, rfl, _⟩ := Maps.keyOf_int_inv Tryz.underlying2 hkey
      cases ex
      obtain ⟨i, ei, hi⟩ := HT.out.key _ (H.out.1 _ hlk)
      obtain rfl : x = (i : Int) := by simpa using ei
      have H1 : Hid (K i = true ∧ w1.ranges Tryz.prog 2 rkR b w.heap.size n D (fun z => left z && !z.sameKey (.int .i64 (i : Int))) cnt1 ∧ Below w.heap.size w w1 ∧ ∀ kl, (left kl && !kl.sameKey (.int .i64 (i : Int))) = true → Maps.has D kl = true) :=
        ⟨hi, hrg1, below_row H.out.2.2 hg1 (Nat.le_refl _), fun kl h => H.out.1 kl (by rw [Bool.and_eq_true] at h; exact h.1)⟩
      have HL : Hid (left (.int .i64 (i : Int)) = true) := hlk
      have HM : Hid (cnt1 < cnt ∧ wr.rangeLeft b w.heap.size = cnt) := ⟨hlt, hrg.left_eq⟩
      have hik : (i : Int) < 1048576 := by have := HT.out.lt i hi; omega
      clear hkey hlk hv hat hg1 hs1 hrg1 hlt ei hi hrg
      by_cases hq : q < 0
      · have hqd : decide (q < 0) = true := by simp; omega
        have HS : Hid (Seen ps ns K (fun z => left z && !z.sameKey (.int .i64 (i : Int))) (i : Int)) := seen_first H.out.2.1 hq H1.out.1
        go_wp2_with fail
        go_roundw
        case rel => exact ⟨_, _, cnt1, rfl, H1.out.2.1, H1.out.2.2.2, HS.out, H1.out.2.2.1⟩
        case measure => have e1 := H1.out.2.1.left_eq; have e2 := HM.out; omega
      · have hqd : decide (q < 0) = false := by simp; omega
        obtain ⟨j, rfl⟩ := Int.eq_ofNat_of_zero_le (show 0 ≤ q by omega)
        have hj : Hid (K j = true) := by
          rcases H.out.2.1 with ⟨h, _⟩ | ⟨z, e, h1, _⟩
          · omega
          · obtain rfl : j = z := by omega
            exact h1
        have hjk : (j : Int) < 1048576 := by have := HT.out.lt j hj.out; omega
        go_wp2_with fail
        refine (behind_at b n D (i : Int) (j : Int) _ _ _ _ _ _ _ H1.out.2.1.owns (by omega) (by omega) (HT.out.val i H1.out.1) (HT.out.val j hj.out)).mono ?_
        rw [bhB_go]
        rintro e w2 ⟨rfl, B2⟩
        have H2 : Hid (w2.ranges Tryz.prog 2 rkR b w.heap.size n D (fun z => left z && !z.sameKey (.int .i64 (i : Int))) cnt1 ∧ Below w.heap.size w w2) := ⟨ranges_below H1.out.2.1 B2, below_call H1.out.2.2.1 H1.out.2.2.1.size B2⟩
        clear B2 hen
        cases hg : goM ps ns j i
        · have HS : Hid (Seen ps ns K (fun z => left z && !z.sameKey (.int .i64 (i : Int))) (j : Int)) := by
            by_cases e : j = i
            · exfalso
              subst e
              have h1 := HL.out
              rcases H.out.2.1 with ⟨h, _⟩ | ⟨z, e, _, h2, _⟩
              · omega
              · obtain rfl : j = z := by omega
                rw [h1] at h2
                cases h2
            · exact seen_old H.out.2.1 ((goM_strict ps ns).not e hg)
          go_wp2_with fail
          go_roundw
          case rel => exact ⟨_, _, cnt1, rfl, H2.out.1, H1.out.2.2.2, HS.out, H2.out.2⟩
          case measure => have e1 := H2.out.1.left_eq; have e2 := HM.out; omega
        · have HS : Hid (Seen ps ns K (fun z => left z && !z.sameKey (.int .i64 (i : Int))) (i : Int)) := seen_new H.out.2.1 H1.out.1 hg
          go_wp2_with fail
          go_roundw
          case rel => exact ⟨_, _, cnt1, rfl, H2.out.1, H1.out.2.2.2, HS.out, H2.out.2⟩
          case measure => have e1 := H2.out.1.left_eq; have e2 := HM.out; omega

end Go.Proofs.YtjhenfdmbagaiaaGreat.Crew
