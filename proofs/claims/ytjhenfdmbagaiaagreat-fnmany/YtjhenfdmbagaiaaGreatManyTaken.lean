/-
  slices.Sorted(maps.Keys(m)) at the program's own map of ranks by numbers.
-/
import Derived.Test.YtjhenfdmbagaiaaGreatManyHind
import Derived.Shelf.SlIterI.Nil
import Derived.Shelf.SortM.Plain
import Derived.Shelf.SortM.SortNone
import Derived.Ground.GgzProg
import Derived.Ground.SlgmProg
import Derived.Test.YtjhenfdmbagaiaaGreatSmoothLaws
namespace Go.Proofs
open Go.RowKit Go.Maps Go.Sort Go.Shelf

shelf_lay_g SlLaysZI.n7 Ggz 7 at Tryz 84 as Tryz.keysA

shelf_lay_g SlLaysZI.n6 Ggz 6 at Tryz 83 as Tryz.sortedA

shelf_lay_g SlLaysM.n5 Slgm 5 at Tryz 99 as Tryz.sortA

end Go.Proofs

namespace Go.Proofs.YtjhenfdmbagaiaaGreat.Crew
open Go.RowKit Go.Maps Go.Sort Go.Shelf Go.Proofs

theorem sortsA (m : Nat) : AnyZI.SortsIn Tryz.prog Tryz.sortedA_ren Fence.wide m :=
  ⟨fun blk off cap ss W hH hblk hsz => callsIn_wide.2 (AnyM.slices_Sort_int Tryz.sortA blk off cap ss W hH hblk hsz),
   fun p cap W => callsIn_wide.2 (AnyM.slices_Sort_int_none Tryz.sortA p cap W)⟩

theorem keys_call (mb : Option Nat) (W : World) : Calls Tryz.prog 84 #[.map mb] W fun e w' => e = .returned (.func (.func 100) #[] #[.pointer (some ⟨W.heap.size, 0, none⟩)]) ∧ w' = W.alloc (.cells #[.map mb] 98) :=
  (callsIn_wide (n := 5)).1 (AnyZI.keys_in Tryz.keysA Fence.wide 5 trivial rfl mb W)

theorem sorted_call (b nn : Nat) (D0 : DataW Unit) (w : World) (hown : w.ownsMap Tryz.prog 2 rkR b nn D0) (hmax : Maps.size D0 ≤ 1048576) :
    Calls Tryz.prog 83 #[.func (.func 100) #[] #[.pointer (some ⟨w.heap.size, 0, none⟩)]] (w.alloc (.cells #[.map (some b)] 98)) fun e w' => ∃ (v : Value) (ss : List Int), e = .returned v ∧ ss.Perm (intKeys D0) ∧
      w'.ownsRow (w.alloc (.cells #[.map (some b)] 98)).heap.size 2 1 v ss.length ((ss.mergeSort (fun x y => decide (x ≤ y))).map encZ) ∧ (v = .slice none 0 0 ↔ ss = []) ∧ Below (w.alloc (.cells #[.map (some b)] 98)).heap.size (w.alloc (.cells #[.map (some b)] 98)) w' := by
  refine (callsIn_wide (n := 6)).1 ?_
  have hbl := hown.lt
  have hseq : SeqGives Fence.wide 3 Tryz.prog 100 #[.pointer (some ⟨w.heap.size, 0, none⟩)] encZ (fun ss => ss.Perm (intKeys D0)) (Maps.size D0) (w.alloc (.cells #[.map (some b)] 98)) :=
    AnyZI.keys_gives (ρ := Tryz.keysA_ren) { Tryz.keysA with } Fence.wide _ trivial rfl (by omega) w.heap.size b nn D0 _ (by simp) (by simp) (by
      obtain ⟨es, clock, hb, Ft, hs, hD⟩ := hown
      exact ⟨es, clock, (Below.heap_alloc _ _ b hbl).trans hb, Ft, hs, hD⟩)
  have cS := AnyZI.sorted_in Tryz.sortedA Fence.wide 6 trivial trivial trivial trivial rfl (by omega) (sortsA _) (enters_of Tryz.func99 (by kernel_rfl) rfl) 100 #[.pointer (some ⟨w.heap.size, 0, none⟩)] trivial (enters_of Tryz.func100 (by kernel_rfl) rfl) _ _ (by unfold maxLen; omega) (by omega) _ hseq
  exact cS

end Go.Proofs.YtjhenfdmbagaiaaGreat.Crew

/-
  Several processors: who is taken at a time (impl.takenAt), one time behind a pointer (takeTurns), and the lists of a run.
-/
namespace Go.Proofs.YtjhenfdmbagaiaaGreat.Crew
open Go.ChangeShapes Go.WideShapes Go.ChangeAt Go.RowKit Go.Maps Go.Proofs.YtjhenfdmbagaiaaGreat.Win

theorem nat_key (i j : Nat) : (Lit.int .i64 (i : Int)) = .int .i64 (j : Int) ↔ i = j := by
  simp only [Lit.int.injEq, true_and]
  omega

theorem tkn_start (ps : List Shr) (ns : List Int) (q now : Int) : Tkn ps ns 0 (mTop ps ns q now 0) (.map []) := by
  have h : ∀ i, mTop ps ns q now 0 i = false := fun i => Top.top_out (Nat.zero_le _)
  refine ⟨fun i hi => ?_, fun i hi => ?_, fun kl hk => ?_, fun i hi => ?_, rfl⟩
  · rw [h] at hi; cases hi
  · rw [h] at hi; cases hi
  · simp [Maps.has] at hk
  · rw [h] at hi; cases hi

theorem tkn_ext {ps : List Shr} {ns : List Int} {k : Nat} {K K' : Nat → Bool} {D : DataW Unit} (T : Tkn ps ns k K D) (h : ∀ i, K' i = K i) : Tkn ps ns k K' D := by
  have : K' = K := funext h
  rw [this]
  exact T

theorem tkn_more {ps : List Shr} {ns : List Int} {k : Nat} {K : Nat → Bool} {D : DataW Unit} (T : Tkn ps ns k K D) : Tkn ps ns (k + 1) K D := by
  refine ⟨fun i hi => Nat.lt_succ_of_lt (T.lt i hi), T.yes, T.key, T.val, ?_⟩
  have : K k = false := by
    cases h : K k
    · rfl
    · have := T.lt k h; omega
  rw [T.size, Top.cntB, this]
  simp

theorem tkn_put {ps : List Shr} {ns : List Int} {k : Nat} {K : Nat → Bool} {D : DataW Unit} (T : Tkn ps ns k K D) (hD : Tidy D) : Tkn ps ns (k + 1) (fun i => K i || decide (i = k)) (D.put (.int .i64 (k : Int)) (rkD (rkA ps ns k) (rkO ps ns k) (rkC ps ns k))) ∧ Maps.size (D.put (.int .i64 (k : Int)) (rkD (rkA ps ns k) (rkO ps ns k) (rkC ps ns k))) = Top.cntB K k + 1 := by
  have hk : K k = false := by
    cases h : K k
    · rfl
    · have := T.lt k h; omega
  have hno : Maps.has D (.int .i64 (k : Int)) = false := by
    cases h : Maps.has D (.int .i64 (k : Int))
    · rfl
    · obtain ⟨i, e, hi⟩ := T.key _ h
      have := (nat_key k i).1 e
      subst this
      rw [hk] at hi; cases hi
  have hs : Maps.size (D.put (.int .i64 (k : Int)) (rkD (rkA ps ns k) (rkO ps ns k) (rkC ps ns k))) = Top.cntB K k + 1 := by
    rw [size_put hD, hno, T.size]
    rfl
  refine ⟨⟨fun i hi => ?_, fun i hi => ?_, fun kl h => ?_, fun i hi => ?_, ?_⟩, hs⟩
  · rw [Bool.or_eq_true, decide_eq_true_eq] at hi
    rcases hi with hi | hi
    · have := T.lt i hi; omega
    · omega
  · by_cases e : i = k
    · subst e; exact has_put_same hD.isMap (by simp [WideAt.IsKeyLit]) _
    · have : K i = true := by simpa [e] using hi
      rw [has_put_other (fun h => e ((nat_key i k).1 h))]
      exact T.yes i this
  · by_cases e : kl = .int .i64 (k : Int)
    · exact ⟨k, e, by simp⟩
    · rw [has_put_other e] at h
      obtain ⟨i, e1, e2⟩ := T.key _ h
      exact ⟨i, e1, by simp [e2]⟩
  · by_cases e : i = k
    · subst e; exact atKey_put_same hD.isMap (by simp [WideAt.IsKeyLit]) _ _
    · have : K i = true := by simpa [e] using hi
      rw [atKey_put_other (fun h => e ((nat_key i k).1 h))]
      exact T.val i this
  · rw [hs, Top.cntB]
    have e1 : Top.cntB (fun i => K i || decide (i = k)) k = Top.cntB K k := Top.cnt_ext fun i hi => by simp [show i ≠ k by omega]
    rw [e1]
    simp

theorem tkn_del {ps : List Shr} {ns : List Int} {k : Nat} {K : Nat → Bool} {D : DataW Unit} (T : Tkn ps ns k K D) (hD : Tidy D) {z : Nat} (hz : K z = true) : Tkn ps ns k (fun i => K i && !decide (i = z)) (D.del (.int .i64 (z : Int))) := by
  have hs : Maps.size (D.del (.int .i64 (z : Int))) + 1 = Top.cntB K k := by
    have := size_del (k := .int .i64 (z : Int)) hD
    rw [T.yes z hz, T.size] at this
    simpa using this
  refine ⟨fun i hi => ?_, fun i hi => ?_, fun kl h => ?_, fun i hi => ?_, ?_⟩
  · rw [Bool.and_eq_true] at hi
    exact T.lt i hi.1
  · simp only [Bool.and_eq_true, Bool.not_eq_true', decide_eq_false_iff_not] at hi
    rw [has_del_other (fun h => hi.2 ((nat_key i z).1 h))]
    exact T.yes i hi.1
  · by_cases e : kl = .int .i64 (z : Int)
    · subst e
      rw [has_del_same] at h
      cases h
    · rw [has_del_other e] at h
      obtain ⟨i, e1, e2⟩ := T.key _ h
      refine ⟨i, e1, ?_⟩
      have : i ≠ z := fun h => e (by rw [e1, h])
      simp [e2, this]
  · simp only [Bool.and_eq_true, Bool.not_eq_true', decide_eq_false_iff_not] at hi
    rw [atKey_del_other (fun h => hi.2 ((nat_key i z).1 h))]
    exact T.val i hi.1
  · have h1 : Top.cntB (fun i => K i && !decide (i = z)) k + 1 ≤ Top.cntB K k := by
      refine Top.cnt_less (j := z) ?_ (T.lt z hz) (by simp) hz
      intro i _ h
      rw [Bool.and_eq_true] at h
      exact h.1
    have h2 : Top.cntB K k ≤ Top.cntB (fun i => K i && !decide (i = z)) k + 1 := by
      apply Top.cnt_one (y := z)
      intro i _ hiz h
      simp [h, hiz]
    omega

/-- The keys, rising. -/
theorem tkn_keys {ps : List Shr} {ns : List Int} {k : Nat} {K : Nat → Bool} {D : DataW Unit} (T : Tkn ps ns k K D) (hE : ∃ es, D = .map es ∧ es.Pairwise (fun p q => p.1 ≠ q.1) ∧ ∀ p ∈ es, WideAt.IsKeyLit p.1) {ss : List Int} (h : ss.Perm (intKeys D)) : ss.mergeSort (fun x y => decide (x ≤ y)) = (Top.listB K k).map (fun i : Nat => (i : Int)) := by
  obtain ⟨es, rfl, hp, hl⟩ := hE
  have hL : ((Top.listB K k).map (fun i : Nat => (i : Int))).Pairwise (· < ·) := by
    rw [List.pairwise_map]
    exact (Top.listB_asc K k).imp fun h => by omega
  have hk : ∀ p ∈ es, ∃ x, p.1 = .int .i64 x := by
    intro p hp
    have : Maps.has (.map es : DataW Unit) p.1 = true := by
      rw [has_eq, List.any_eq_true]
      refine ⟨p, hp, ?_⟩
      have h1 := hl p hp
      revert h1
      cases p.1 <;> simp [WideAt.IsKeyLit, Lit.sameKey]
    obtain ⟨i, e, _⟩ := T.key _ this
    exact ⟨_, e⟩
  have hp2 := perm_intKeys hp hk (ss := (Top.listB K k).map (fun i : Nat => (i : Int))) (hL.imp fun h => by omega) (fun x => by
    rw [List.mem_map]
    constructor
    · rintro ⟨i, hi, rfl⟩
      exact T.yes i (Top.mem_listB.1 hi).2
    · intro h
      obtain ⟨i, e, hi⟩ := T.key _ h
      have : x = (i : Int) := by simpa using e
      exact ⟨i, Top.mem_listB.2 ⟨T.lt i hi, hi⟩, this.symm⟩)
  have e := mergeSort_of_perm_i (h.trans hp2.symm)
  rw [show ss.mergeSort (fun x y => decide (x ≤ y)) = ss.mergeSort leI from rfl, e]
  exact List.mergeSort_of_pairwise (hL.imp fun h => by simp [leI]; omega)

theorem owned_fit {w : World} {base n : Nat} {v : Value} {xs : List Int} (h : w.ownsRow base 2 1 v n (xs.map encZ)) : ∃ a cap, v = .slice a n cap ∧ Fit w base a n cap xs := by
  obtain ⟨h1, h2⟩ := h
  have hn : xs.length = n := by simpa using h1
  rcases h2 with ⟨rfl, rfl⟩ | ⟨g, cap, cur, rfl, hb, hg, hl, hm, hs, ht⟩
  · exact ⟨none, 0, rfl, hn, .inl ⟨rfl, rfl⟩⟩
  · refine ⟨some ⟨g, 0, none⟩, cap, rfl, hn, .inr ⟨g, rfl, hb, cur, hg, by omega, hm, by simpa using hs, ?_⟩⟩
    rw [hn]
    simpa using ht

end Go.Proofs.YtjhenfdmbagaiaaGreat.Crew

namespace Go.Proofs.YtjhenfdmbagaiaaGreat.Crew
open Go.ChangeShapes Go.WideShapes Go.ChangeAt Go.RowKit Go.Maps Go.Proofs.YtjhenfdmbagaiaaGreat.Win

attribute [local go_sem ↓] Go.wp_at_zero Go.wp_at_succ

/-- While those that are taken are found: the map in block mb, the Many in block B. -/
structure Tk0 (w0 wr : World) (B mb : Nat) (ps : List Shr) (ns : List Int) (x y : Value) (t p : Int) (n k : Nat) (K : Nat → Bool) (D : DataW Unit) : Prop where
  own : wr.ownsMap Tryz.prog 2 rkR mb n D
  tkn : Tkn ps ns k K D
  box : Mny wr B x y t p
  bel : Below w0.heap.size w0 wr
  hB : w0.heap.size ≤ B
  hm : w0.heap.size ≤ mb
  ne : B ≠ mb

theorem Tk0.all {w0 wr wr' : World} {B mb : Nat} {ps : List Shr} {ns : List Int} {x y : Value} {t p : Int} {n k : Nat} {K : Nat → Bool} {D : DataW Unit} (h : Tk0 w0 wr B mb ps ns x y t p n k K D) (b : Below wr.heap.size wr wr') : Tk0 w0 wr' B mb ps ns x y t p n k K D :=
  ⟨own_below h.own b, h.tkn, h.box.all b, below_call h.bel h.bel.size b, h.hB, h.hm, h.ne⟩

/-- The map is written. -/
theorem Tk0.turn {w0 wr wr' : World} {B mb : Nat} {ps : List Shr} {ns : List Int} {x y : Value} {t p : Int} {n k n' k' : Nat} {K K' : Nat → Bool} {D D' : DataW Unit} (h : Tk0 w0 wr B mb ps ns x y t p n k K D) (g : wr.grownBy wr' (some mb)) (ho : wr'.ownsMap Tryz.prog 2 rkR mb n' D') (T : Tkn ps ns k' K' D') : Tk0 w0 wr' B mb ps ns x y t p n' k' K' D' :=
  ⟨ho, T, h.box.other g (by simpa using h.ne), below_row h.bel g h.hm, h.hB, h.hm, h.ne⟩

theorem tk0_start (w : World) (ps : List Shr) (ns : List Int) (x y : Value) (t p : Int) : Tk0 w ((w.alloc (.cells #[x, y, .int .i64 t, .int .i64 p] 27)).alloc (.map #[] 0)) w.heap.size (w.heap.size + 1) ps ns x y t p 0 0 (mTop ps ns t p 0) (.map []) := by
  have h := World.ownsMap_made (w.alloc (.cells #[x, y, .int .i64 t, .int .i64 p] 27)) Tryz.prog 2 rkR
  have e : (w.alloc (.cells #[x, y, .int .i64 t, .int .i64 p] 27)).heap.size = w.heap.size + 1 := by simp
  rw [e] at h
  exact ⟨h, tkn_start _ _ _ _, (mny_new w x y t p).alloc _, ((below_new w _).alloc (by simp) _), Nat.le_refl _, by omega, by omega⟩

/-- A window in block b. -/
def Wdw (w : World) (b : Nat) (x y : Value) : Prop := w.heap[b]? = some (.cells #[x, y] 101 (0, 0))

theorem Wdw.c0 {w : World} {b : Nat} {x y : Value} (h : Wdw w b x y) : w.cell? ⟨b, 0, none⟩ = some x := cell_pair h 0

theorem Wdw.c1 {w : World} {b : Nat} {x y : Value} (h : Wdw w b x y) : w.cell? ⟨b, 1, none⟩ = some y := cell_pair h 1

theorem Wdw.fr {w : World} {b : Nat} {x y : Value} (h : Wdw w b x y) (j : Nat) : w.frozen? ⟨b, j, none⟩ = false := frozen_of_row w b j _ _ h

theorem Wdw.lt {w : World} {b : Nat} {x y : Value} (h : Wdw w b x y) : b < w.heap.size := (Array.getElem?_eq_some_iff.1 h).1

theorem wdw_new (w : World) (x y : Value) : Wdw (w.alloc (.cells #[x, y] 101)) w.heap.size x y := heap_alloc_new w _

theorem Wdw.all {w w' : World} {b : Nat} {x y : Value} (h : Wdw w b x y) (g : Below w.heap.size w w') : Wdw w' b x y := by
  unfold Wdw
  rw [g.block b h.lt]
  exact h

theorem Wdw.set0 {w : World} {b : Nat} {x y : Value} (h : Wdw w b x y) (v : Value) : Wdw (w.setCell ⟨b, 0, none⟩ v) b v y := heap_setCell_same w b 0 _ _ _ h

theorem Wdw.set1 {w : World} {b : Nat} {x y : Value} (h : Wdw w b x y) (v : Value) : Wdw (w.setCell ⟨b, 1, none⟩ v) b x v := heap_setCell_same w b 1 _ _ _ h

theorem w_one {W v : World} (B : Below (W.alloc (.cells #[.pointer none, .int .i64 0] 101)).heap.size (W.alloc (.cells #[.pointer none, .int .i64 0] 101)) v) : Wdw v W.heap.size (.pointer none) (.int .i64 0) := (wdw_new W _ _).all B

theorem w_oneD {W v : World} (B : Below (W.alloc (.cells #[.pointer none, .int .i64 0] 101)).drew.heap.size (W.alloc (.cells #[.pointer none, .int .i64 0] 101)).drew v) : Wdw v W.heap.size (.pointer none) (.int .i64 0) := w_one ((Below.refl _ _).drew.trans B)

theorem Tk0.set {w0 wr : World} {B mb : Nat} {ps : List Shr} {ns : List Int} {x y : Value} {t p : Int} {n k : Nat} {K : Nat → Bool} {D : DataW Unit} (h : Tk0 w0 wr B mb ps ns x y t p n k K D) {s : Nat} (h1 : w0.heap.size ≤ s) (h2 : B ≠ s) (h3 : mb ≠ s) (j : Nat) (v : Value) : Tk0 w0 (wr.setCell ⟨s, j, none⟩ v) B mb ps ns x y t p n k K D :=
  ⟨h.own.setCell (by simpa using h3) v, h.tkn, h.box.past h2 v, below_set h.bel h1 v, h.hB, h.hm, h.ne⟩

/-- What a round's first region leaves as it was. -/
structure Rg (w0 W : World) (B mb s0 b2 j2 : Nat) (ps : List Shr) (ns : List Int) (X Y : Value) (t p : Int) (n k : Nat) (K : Nat → Bool) (D : DataW Unit) (x y c : Int) : Prop where
  tk : Tk0 w0 W B mb ps ns X Y t p n k K D
  bx : Box W s0 x y
  ct : W.cell? ⟨b2, j2, none⟩ = some (.int .i64 c)
  lt : b2 < W.heap.size

theorem Rg.all {w0 W W' : World} {B mb s0 b2 j2 : Nat} {ps : List Shr} {ns : List Int} {X Y : Value} {t p : Int} {n k : Nat} {K : Nat → Bool} {D : DataW Unit} {x y c : Int} (h : Rg w0 W B mb s0 b2 j2 ps ns X Y t p n k K D x y c) (b : Below W.heap.size W W') : Rg w0 W' B mb s0 b2 j2 ps ns X Y t p n k K D x y c :=
  ⟨h.tk.all b, h.bx.kept b h.bx.1, (b.cell (p := ⟨b2, j2, none⟩) h.lt).trans h.ct, Nat.lt_of_lt_of_le h.lt b.size⟩

theorem Rg.drew {w0 W : World} {B mb s0 b2 j2 : Nat} {ps : List Shr} {ns : List Int} {X Y : Value} {t p : Int} {n k : Nat} {K : Nat → Bool} {D : DataW Unit} {x y c : Int} (h : Rg w0 W B mb s0 b2 j2 ps ns X Y t p n k K D x y c) : Rg w0 W.drew B mb s0 b2 j2 ps ns X Y t p n k K D x y c := h.all (Below.refl _ _).drew

theorem Rg.alloc {w0 W : World} {B mb s0 b2 j2 : Nat} {ps : List Shr} {ns : List Int} {X Y : Value} {t p : Int} {n k : Nat} {K : Nat → Bool} {D : DataW Unit} {x y c : Int} (h : Rg w0 W B mb s0 b2 j2 ps ns X Y t p n k K D x y c) (o : Obj) : Rg w0 (W.alloc o) B mb s0 b2 j2 ps ns X Y t p n k K D x y c := h.all (below_new _ _)

/-- What is known behind it, where a turn has a window. -/
def Wn (w0 W : World) (pw g B mb : Nat) (ps : List Shr) (ns : List Int) (X Y : Value) (t p : Int) (n k : Nat) (K : Nat → Bool) (D : DataW Unit) (x y c : Int) : Prop :=
  Wdw W pw (.pointer (some ⟨g, 0, none⟩)) (.int .i64 (c + 1)) ∧ Box W g x y ∧ Tk0 w0 W B mb ps ns X Y t p n k K D

theorem Wn.all {w0 W W' : World} {pw g B mb : Nat} {ps : List Shr} {ns : List Int} {X Y : Value} {t p : Int} {n k : Nat} {K : Nat → Bool} {D : DataW Unit} {x y c : Int} (h : Wn w0 W pw g B mb ps ns X Y t p n k K D x y c) (b : Below W.heap.size W W') : Wn w0 W' pw g B mb ps ns X Y t p n k K D x y c :=
  ⟨h.1.all b, h.2.1.kept b h.2.1.1, h.2.2.all b⟩

theorem Wn.drew {w0 W : World} {pw g B mb : Nat} {ps : List Shr} {ns : List Int} {X Y : Value} {t p : Int} {n k : Nat} {K : Nat → Bool} {D : DataW Unit} {x y c : Int} (h : Wn w0 W pw g B mb ps ns X Y t p n k K D x y c) : Wn w0 W.drew pw g B mb ps ns X Y t p n k K D x y c := h.all (Below.refl _ _).drew

theorem wn_after {w0 W : World} {g B mb s0 b2 j2 : Nat} {ps : List Shr} {ns : List Int} {X Y : Value} {t p : Int} {n k : Nat} {K : Nat → Bool} {D : DataW Unit} {x y c : Int} (h : Rg w0 W B mb s0 b2 j2 ps ns X Y t p n k K D x y c) (BX : Box W g x y) : Wn w0 (W.alloc (.cells #[.pointer (some ⟨g, 0, none⟩), .int .i64 (c + 1)] 101)) W.heap.size g B mb ps ns X Y t p n k K D x y c :=
  ⟨wdw_new _ _ _, BX.alloc _, h.tk.all (below_new _ _)⟩

theorem wn_before {w0 W : World} {g B mb s0 b2 j2 pw : Nat} {ps : List Shr} {ns : List Int} {X Y : Value} {t p : Int} {n k : Nat} {K : Nat → Bool} {D : DataW Unit} {x y c : Int} {u v : Value} (h : Rg w0 W B mb s0 b2 j2 ps ns X Y t p n k K D x y c) (BX : Box W g x y) (Z : Wdw W pw u v) (h1 : w0.heap.size ≤ pw) (h2 : B ≠ pw) (h3 : mb ≠ pw) (h4 : g ≠ pw) : Wn w0 ((W.setCell ⟨pw, 0, none⟩ (.pointer (some ⟨g, 0, none⟩))).setCell ⟨pw, 1, none⟩ (.int .i64 (c + 1))) pw g B mb ps ns X Y t p n k K D x y c := by
  refine ⟨(Z.set0 _).set1 _, ⟨by simpa using BX.1, ?_, ?_⟩, (h.tk.set h1 h2 h3 _ _).set h1 h2 h3 _ _⟩
  · rw [World.cell?_setCell_far _ _ _ _ (Ne.symm h4), World.cell?_setCell_far _ _ _ _ (Ne.symm h4)]; exact BX.2.1
  · rw [World.cell?_setCell_far _ _ _ _ (Ne.symm h4), World.cell?_setCell_far _ _ _ _ (Ne.symm h4)]; exact BX.2.2

set_option maxHeartbeats 8000000 in
set_option maxRecDepth 100000 in
theorem takenAt_any (a : Option Addr) (len cap : Nat) (ps : List Shr) (a' : Option Addr) (len' cap' : Nat) (ns : List Int) (t p : Int) (w : World) (I : Shs w a len ps) (J : Ints w a' len' ns) (hok : manyOk ps ns t p = true) :
    Calls Tryz.prog 62 #[mv (.slice a len cap) (.slice a' len' cap') t p] w fun e w' => ∃ (v : Option Addr) (c : Nat), e = .returned (.slice v (mList ps ns t p).length c) ∧ Fit w' w.heap.size v (mList ps ns t p).length c ((mList ps ns t p).map (fun i : Nat => (i : Int))) ∧ Below w.heap.size w w' := by
  have hp := many_parts hok
  have h24 := fits_len hp.1
  have hq8 := fits_proc hp.1
  have hnow := within_yes hp.2.2.1
  have HK : Hid (manyOk ps ns t p = true ∧ fitsOn ps t = true ∧ cnts ns = true ∧ ns.length = len' ∧ ps.length = len ∧ len' = len ∧ len ≤ 24) := ⟨hok, hp.1, hp.2.2.2, J.1, I.1, by have := I.1; have := J.1; omega, by have := I.1; omega⟩
  have HI : Hid (Shs w a len ps ∧ Ints w a' len' ns) := ⟨I, J⟩
  have l24 : (len : Int) ≤ 24 := by have := HK.out; omega
  have l24' : (len' : Int) ≤ 24 := by have := HK.out; omega
  have T0 : Hid (Tk0 w ((w.alloc (.cells #[.slice a len cap, .slice a' len' cap', .int .i64 t, .int .i64 p] 27)).alloc (.map #[] 0)) w.heap.size (w.heap.size + 1) ps ns (.slice a len cap) (.slice a' len' cap') t p 0 0 (mTop ps ns t p 0) (.map [])) := tk0_start _ _ _ _ _ _ _
  clear hp h24 hok I J
  have hmm := @run_makeMap Tryz.prog
  go_enter Tryz.func62, Tryz.ntmps62
  go_wp2_with fail
  go_loopw [12] (fun i wr => ∃ (k : Nat) (D : DataW Unit), i = .int .i64 k ∧ k ≤ len ∧ Hid (Tk0 w wr w.heap.size (w.heap.size + 1) ps ns (.slice a len cap) (.slice a' len' cap') t p k k (mTop ps ns t p k) D)) (fun i _ => len - (intOf i).toNat)
  case atStart => exact ⟨0, _, rfl, Nat.zero_le _, T0⟩
  case round =>
    obtain ⟨k, D, rfl, hk, H⟩ := hrel
    by_cases hlt : k < len
    · have hlt' : (k : Int) < (len : Int) := by omega
      have hlt2 : (k : Int) < (len' : Int) := by have := HK.out.2.2.2.2.2.1; omega
      obtain ⟨hl1, h0 | ⟨b1, o1, rfl, hb1, hc1⟩⟩ := HI.out.1.kept H.out.bel
      · omega
      obtain ⟨hl2, h0 | ⟨b2, o2, rfl, hb2, hc2⟩⟩ := HI.out.2.kept H.out.bel
      · omega
      have nk := hc2 k (by omega)
      obtain ⟨p0, p1⟩ := hc1 k hlt
      have hsh := fits_share HK.out.2.1 (i := k) (by have := HK.out; omega)
      have bn := cnts_get HK.out.2.2.1 k
      obtain ⟨x, hx⟩ : ∃ x, x = (ps.getD k (0, 0)).1 := ⟨_, rfl⟩
      obtain ⟨y, hy⟩ : ∃ y, y = (ps.getD k (0, 0)).2 := ⟨_, rfl⟩
      obtain ⟨c, hc⟩ : ∃ c, c = ns.getD k 0 := ⟨_, rfl⟩
      rw [← hx] at p0 hsh
      rw [← hy] at p1 hsh
      rw [← hc] at nk bn
      have bs := share_yes hsh
      have X : Hid (x = (ps.getD k (0, 0)).1 ∧ y = (ps.getD k (0, 0)).2 ∧ c = ns.getD k 0 ∧ shareOk x y = true) := ⟨hx, hy, hc, hsh⟩
      clear hc1 hc2 hx hy hc hsh
      have r0 := H.out.box.c0
      have r1 := H.out.box.c1
      have R0 : Hid (Rg w (wr.alloc (.cells #[.int .i64 x, .int .i64 y] 63)) w.heap.size (w.heap.size + 1) wr.heap.size b2 (o2 + k) ps ns (.slice (some ⟨b1, o1, none⟩) len cap) (.slice (some ⟨b2, o2, none⟩) len' cap') t p k k (mTop ps ns t p k) D x y c) := ⟨H.out.all (below_new _ _), box_new _ _ _ _, by rw [(below_new wr _).cell (p := ⟨b2, o2 + k, none⟩) hb2]; exact nk, by simp; omega⟩
      go_upto_region 5 with fail
      clear r0 r1 p0 p1 nk
      generalize hW : wr.alloc (.cells #[.int .i64 x, .int .i64 y] 63) = W0 at *
      generalize wr.heap.size = s0 at *
      clear hW
      have c0 := R0.out.bx.2.1
      have c1 := R0.out.bx.2.2
      have c2 := R0.out.tk.box.c1
      have c3 := R0.out.ct
      have l0 := R0.out.bx.1
      have l1 := R0.out.tk.box.lt
      have l2 := R0.out.lt
      have q0 := Nat.ne_of_lt l0
      have q1 := Nat.ne_of_lt l1
      have q2 := Nat.ne_of_lt l2
      have q3 := Nat.ne_of_gt l0
      have q4 := Nat.ne_of_gt l1
      have q5 := Nat.ne_of_gt l2
      by_cases hn : c < 1000000
      · have HT : Hid (turnOk x y (c + 1) = true) := turn_mk X.out.2.2.2 (by omega) (by omega)
        have KU : Hid (∀ W, Calls Tryz.prog 79 #[.agg #[.int .i64 x, .int .i64 y], .int .i64 (c + 1)] W fun e w' => ∃ g, e = .returned (.tuple #[.agg #[.pointer (some ⟨g, 0, none⟩), .int .i64 (c + 1)], .bool true]) ∧ W.heap.size ≤ g ∧ Box w' g x y ∧ Below W.heap.size W w') := fun W => windowOf_yes x y (c + 1) HT.out W
        have KW : Hid (∀ W, Calls Tryz.prog 79 #[.agg #[.int .i64 x, .int .i64 y], .int .i64 (IntKind.i64.wrap (c + 1))] W fun e w' => ∃ g, e = .returned (.tuple #[.agg #[.pointer (some ⟨g, 0, none⟩), .int .i64 (c + 1)], .bool true]) ∧ W.heap.size ≤ g ∧ Box w' g x y ∧ Below W.heap.size W w') := by
          have e : IntKind.i64.wrap (c + 1) = c + 1 := by rw [IntKind.wrap_i64]; omega
          rw [e]
          exact KU.out
        go_cut [6, 7] from 17 to 27 (fun s u wx => ∃ pw g : Nat, s = .pointer (some ⟨pw, 0, none⟩) ∧ u = .bool true ∧ Hid (Wn w wx pw g w.heap.size (w.heap.size + 1) ps ns (.slice (some ⟨b1, o1, none⟩) len cap) (.slice (some ⟨b2, o2, none⟩) len' cap') t p k k (mTop ps ns t p k) D x y c))
        case first =>
          go_region_held3 (fun w' => w'.cell? ⟨s0, 0, none⟩ = some (.int .i64 x) ∧ w'.cell? ⟨s0, 1, none⟩ = some (.int .i64 y) ∧ w'.cell? ⟨w.heap.size, 1, none⟩ = some (.slice (some ⟨b2, o2, none⟩) len' cap') ∧ w'.cell? ⟨b2, o2 + k, none⟩ = some (.int .i64 c)) (go_keep)
            ((go_at_call 79; (first | (with_reducible refine Calls.mono (KW.out _) ?_) | (with_reducible refine Calls.mono (KU.out _) ?_)); rintro r u1 ⟨g, rfl, hg, BX, B1⟩; have R1 : Hid (Rg w u1 w.heap.size (w.heap.size + 1) s0 b2 (o2 + k) ps ns (.slice (some ⟨b1, o1, none⟩) len cap) (.slice (some ⟨b2, o2, none⟩) len' cap') t p k k (mTop ps ns t p k) D x y c) := (by refine Rg.all ?_ B1; (repeat (first | (with_reducible exact R0.out) | (with_reducible apply Rg.drew) | (with_reducible apply Rg.alloc)))); have e0 := R1.out.bx.2.1; have e1 := R1.out.bx.2.2; have e2 := R1.out.tk.box.c1; have e3 := R1.out.ct; have m0 := R1.out.bx.1; have m1 := R1.out.tk.box.lt; have m2 := R1.out.lt; (first | (with_reducible have ZP := w_one B1; have a0 := ZP.c0; have a1 := ZP.c1; have f0 := ZP.fr 0; have f1 := ZP.fr 1; have n1 := ZP.lt) | (with_reducible have ZP := w_oneD B1; have a0 := ZP.c0; have a1 := ZP.c1; have f0 := ZP.fr 0; have f1 := ZP.fr 1; have n1 := ZP.lt) | skip)))
          all_goals go_wp2_with fail
          all_goals go_meet
          · exact ⟨_, _, rfl, rfl, hide (wn_after R1.out BX)⟩
          · refine ⟨_, _, rfl, rfl, hide (wn_before R1.out BX ZP ?_ ?_ ?_ ?_)⟩
            · exact R0.out.tk.bel.size
            · exact q1
            · have := R0.out.tk.own.lt; omega
            · have := hg; simp at this; omega
        case rest =>
          obtain ⟨pw, g, rfl, rfl, HW⟩ := hcut
          clear KU KW R0 c0 c1 c2 c3 l0 l1 l2 q0 q1 q2 q3 q4 q5
          obtain ⟨Rv, hRv⟩ : ∃ Rv, Rv = readyV x y (c + 1) := ⟨_, rfl⟩
          have RR : Hid (∀ W, Wn w W pw g w.heap.size (w.heap.size + 1) ps ns (.slice (some ⟨b1, o1, none⟩) len cap) (.slice (some ⟨b2, o2, none⟩) len' cap') t p k k (mTop ps ns t p k) D x y c → Calls Tryz.prog 80 #[.agg #[.pointer (some ⟨g, 0, none⟩), .int .i64 (c + 1)]] W fun e w' => e = .returned (.int .i64 Rv) ∧ Below W.heap.size W w') := by
            intro W BW
            rw [hRv, readyV_yes HT.out]
            exact ready_at x y (c + 1) g bs.1 bs.2.1 bs.2.2 (by omega) (by omega) W BW.2.1
          have RB : Hid (Rv = readyV (ps.getD k (0, 0)).1 (ps.getD k (0, 0)).2 (ns.getD k 0 + 1)) := by rw [hRv, X.out.1, X.out.2.1, X.out.2.2.1]; exact hide rfl
          have z0 := HW.out.1.c0
          have z1 := HW.out.1.c1
          have z3 := HW.out.2.2.box.c3
          clear hRv
          go_upto_region 6 with fail
          go_cut [36] from 28 to 35 (fun s wx => s = .bool (decide (p < Rv)) ∧ Hid (Wn w wx pw g w.heap.size (w.heap.size + 1) ps ns (.slice (some ⟨b1, o1, none⟩) len cap) (.slice (some ⟨b2, o2, none⟩) len' cap') t p k k (mTop ps ns t p k) D x y c))
          case first =>
            go_region_held3 (fun w' => w'.cell? ⟨pw, 0, none⟩ = some (.pointer (some ⟨g, 0, none⟩)) ∧ w'.cell? ⟨pw, 1, none⟩ = some (.int .i64 (c + 1)) ∧ w'.cell? ⟨w.heap.size, 3, none⟩ = some (.int .i64 p)) (go_keep)
              ((go_at_call 80; refine (RR.out _ ?_).mono ?_; (repeat (first | (with_reducible exact HW.out) | (with_reducible apply Wn.drew))); rintro r u1 ⟨rfl, B1⟩; have W1 : Hid (Wn w u1 pw g w.heap.size (w.heap.size + 1) ps ns (.slice (some ⟨b1, o1, none⟩) len cap) (.slice (some ⟨b2, o2, none⟩) len' cap') t p k k (mTop ps ns t p k) D x y c) := (by refine Wn.all ?_ B1; (repeat (first | (with_reducible exact HW.out) | (with_reducible apply Wn.drew)))); have e0 := W1.out.1.c0; have e1 := W1.out.1.c1; have e2 := W1.out.2.2.box.c3))
            all_goals go_wp2_with fail
            all_goals go_meet
            all_goals exact ⟨rfl, W1⟩
          case rest =>
            obtain ⟨rfl, H6⟩ := hcut
            clear RR HW z0 z1 z3
            have z0 := H6.out.1.c0
            have z1 := H6.out.1.c1
            by_cases hr : Rv ≤ p
            · have hrd : decide (p < Rv) = false := by simp; omega
              have HY : Hid (tnR ps ns p k = true) := by
                show tnR ps ns p k = true
                rw [tnR, ← RB.out, ← X.out.2.2.1, decide_eq_true hn, decide_eq_true hr]
                rfl
              have hk24 : (k : Int) < 24 := by have := HK.out; omega
              go_wp2_with fail
              refine (rank_at x y (c + 1) g HT.out _ H6.out.2.1).mono ?_
              rintro e w7 ⟨rfl, B7⟩
              have H7 : Hid (Tk0 w w7 w.heap.size (w.heap.size + 1) ps ns (.slice (some ⟨b1, o1, none⟩) len cap) (.slice (some ⟨b2, o2, none⟩) len' cap') t p k k (mTop ps ns t p k) D) := H6.out.2.2.all B7
              have HR : Hid (dueV x y (c + 1) = rkA ps ns k ∧ overB x y (c + 1) = rkO ps ns k ∧ rankC x y (c + 1) = rkC ps ns k) := by
                rw [X.out.1, X.out.2.1, X.out.2.2.1]
                exact ⟨rfl, rfl, rfl⟩
              obtain ⟨va, hva⟩ : ∃ va, va = dueV x y (c + 1) := ⟨_, rfl⟩
              obtain ⟨vo, hvo⟩ : ∃ vo, vo = overB x y (c + 1) := ⟨_, rfl⟩
              obtain ⟨vc, hvc⟩ : ∃ vc, vc = rankC x y (c + 1) := ⟨_, rfl⟩
              rw [← hva, ← hvo, ← hvc] at HR ⊢
              clear B7 H6 z0 z1 hva hvo hvc
              go_upto_region 8 with (first
                | (at_mapUpdate; refine wpList_mapUpdate_own _ rfl _ _ _ 98 rfl 2 106 key_law Tryz.underlying98 rkR (w.heap.size + 1) k D rfl H7.out.own (by unfold maxLen; omega) _ _ (.int .i64 (k : Int)) rfl rfl (key_at (by omega)) (rkD va vo vc) [] (rkR_mk _ _ _) ?_; intro w8 hown8 hg8; go_frame)
                | go_in)
              obtain ⟨D', hD'⟩ : ∃ D' : DataW Unit, D' = D.put (.int .i64 (k : Int)) (rkD va vo vc) := ⟨_, rfl⟩
              rw [← hD'] at hown8
              have TP := tkn_put H7.out.tkn (H7.out.own.tidy key_law)
              rw [← HR.out.1, ← HR.out.2.1, ← HR.out.2.2, ← hD'] at TP
              have H8 : Hid (Tk0 w w8 w.heap.size (w.heap.size + 1) ps ns (.slice (some ⟨b1, o1, none⟩) len cap) (.slice (some ⟨b2, o2, none⟩) len' cap') t p (k + 1) (k + 1) (fun i => mTop ps ns t p k i || decide (i = k)) D') := H7.out.turn hg8 hown8 TP.1
              have hlen := fun ty => hown8.len Tryz.underlying98 ty
              have hsz := TP.2
              generalize Maps.size D' = m at *
              have HZ : Hid (m = Top.cntB (mTop ps ns t p k) k + 1) := hsz
              have y2 := H8.out.box.c2
              clear hown8 hg8 TP hsz hD' H7
              by_cases hfull : (m : Int) ≤ t
              · have hfd : decide (t < (m : Int)) = false := by simp; omega
                have HE : Hid (Tkn ps ns (k + 1) (mTop ps ns t p (k + 1)) D') := tkn_ext H8.out.tkn (Top.top_room (goM_strict ps ns) HY.out (show Top.cntB (mTop ps ns t p k) k < t.toNat by have := HZ.out; omega))
                go_wp2_with fail
                go_roundw
                case rel => exact ⟨k + 1, D', by go_num, by omega, hide ⟨H8.out.own, HE.out, H8.out.box, H8.out.bel, H8.out.hB, H8.out.hm, H8.out.ne⟩⟩
                case measure => simp [intOf]; omega
              · have hfd : decide (t < (m : Int)) = true := by simp; omega
                have HC : Hid (Top.cntB (mTop ps ns t p k) k = t.toNat) := by
                  have h1 : Top.cntB (mTop ps ns t p k) k ≤ t.toNat := Top.top_le (goM_strict ps ns)
                  have h2 := HZ.out
                  show _ = _
                  omega
                have hk2 : k + 1 ≤ 1048576 := by omega
                go_wp2_with fail
                refine (hindmost_at ps ns (k + 1) hk2 (fun i => mTop ps ns t p k i || decide (i = k)) (w.heap.size + 1) (k + 1) D' H8.out.tkn ⟨k, by simp⟩ _ H8.out.own).mono ?_
                rintro e w9 ⟨⟨z, rfl, hz, hzl⟩, B9⟩
                have H9 : Hid (Tk0 w w9 w.heap.size (w.heap.size + 1) ps ns (.slice (some ⟨b1, o1, none⟩) len cap) (.slice (some ⟨b2, o2, none⟩) len' cap') t p (k + 1) (k + 1) (fun i => mTop ps ns t p k i || decide (i = k)) D') := H8.out.all B9
                have hzk := H8.out.tkn.lt z hz
                have hz24 : (z : Int) < 25 := by omega
                have HE : Hid (Tkn ps ns (k + 1) (mTop ps ns t p (k + 1)) (D'.del (.int .i64 (z : Int)))) :=
                  tkn_ext (tkn_del H9.out.tkn (H9.out.own.tidy key_law) hz) (Top.top_full (goM_strict ps ns) HY.out HC.out (by have h := hz; simp only [Bool.or_eq_true, decide_eq_true_eq] at h; exact h) (fun j hj => hzl j (by simp only [Bool.or_eq_true, decide_eq_true_eq]; exact hj)))
                clear B9 H8 hlen y2 hz hzl HC HZ
                go_wp2_with (first
                  | (at_delete; refine wpList_delete_own _ rfl _ _ 98 2 rfl 106 key_law Tryz.underlying98 rkR (w.heap.size + 1) (k + 1) D' rfl H9.out.own _ (.int .i64 (z : Int)) rfl (key_at (by omega)) ?_; intro w10 hown10 hturn10; go_frame)
                  | go_in)
                have H10 : Hid (Tk0 w w10 w.heap.size (w.heap.size + 1) ps ns (.slice (some ⟨b1, o1, none⟩) len cap) (.slice (some ⟨b2, o2, none⟩) len' cap') t p (k + 1) (k + 1) (mTop ps ns t p (k + 1)) (D'.del (.int .i64 (z : Int)))) := H9.out.turn hturn10.grown hown10 HE.out
                go_roundw
                case rel => exact ⟨k + 1, _, by go_num, by omega, H10⟩
                case measure => simp [intOf]; omega
            · have hrd : decide (p < Rv) = true := by simp; omega
              have HY : Hid (tnR ps ns p k = false) := by
                show tnR ps ns p k = false
                rw [tnR, ← RB.out, decide_eq_false hr, Bool.and_false]
              have HE : Hid (Tkn ps ns (k + 1) (mTop ps ns t p (k + 1)) D) := tkn_ext (tkn_more H6.out.2.2.tkn) (Top.top_not HY.out)
              go_wp2_with fail
              go_roundw
              case rel => exact ⟨k + 1, D, by go_num, by omega, hide ⟨H6.out.2.2.own.mono (by omega), HE.out, H6.out.2.2.box, H6.out.2.2.bel, H6.out.2.2.hB, H6.out.2.2.hm, H6.out.2.2.ne⟩⟩
              case measure => simp [intOf]; omega
      · have HT : Hid (turnOk x y (c + 1) = false) := turn_over (by omega)
        have HY : Hid (tnR ps ns p k = false) := by
          show tnR ps ns p k = false
          rw [tnR, ← X.out.2.2.1, decide_eq_false hn]
          rfl
        have KU : Hid (∀ W, Calls Tryz.prog 79 #[.agg #[.int .i64 x, .int .i64 y], .int .i64 (c + 1)] W fun e w' => e = .returned (.tuple #[.agg #[.pointer none, .int .i64 0], .bool false]) ∧ Below W.heap.size W w') := fun W => windowOf_no x y (c + 1) HT.out W
        have KW : Hid (∀ W, Calls Tryz.prog 79 #[.agg #[.int .i64 x, .int .i64 y], .int .i64 (IntKind.i64.wrap (c + 1))] W fun e w' => e = .returned (.tuple #[.agg #[.pointer none, .int .i64 0], .bool false]) ∧ Below W.heap.size W w') := by
          have e : IntKind.i64.wrap (c + 1) = c + 1 := by rw [IntKind.wrap_i64]; omega
          rw [e]
          exact KU.out
        go_cut [6, 7] from 17 to 27 (fun s u wx => ∃ pw : Nat, s = .pointer (some ⟨pw, 0, none⟩) ∧ u = .bool false ∧ Hid (Tk0 w wx w.heap.size (w.heap.size + 1) ps ns (.slice (some ⟨b1, o1, none⟩) len cap) (.slice (some ⟨b2, o2, none⟩) len' cap') t p k k (mTop ps ns t p k) D))
        case first =>
          go_region_held3 (fun w' => w'.cell? ⟨s0, 0, none⟩ = some (.int .i64 x) ∧ w'.cell? ⟨s0, 1, none⟩ = some (.int .i64 y) ∧ w'.cell? ⟨w.heap.size, 1, none⟩ = some (.slice (some ⟨b2, o2, none⟩) len' cap') ∧ w'.cell? ⟨b2, o2 + k, none⟩ = some (.int .i64 c)) (go_keep)
            ((go_at_call 79; (first | (with_reducible refine Calls.mono (KW.out _) ?_) | (with_reducible refine Calls.mono (KU.out _) ?_)); rintro r u1 ⟨rfl, B1⟩; have R1 : Hid (Rg w u1 w.heap.size (w.heap.size + 1) s0 b2 (o2 + k) ps ns (.slice (some ⟨b1, o1, none⟩) len cap) (.slice (some ⟨b2, o2, none⟩) len' cap') t p k k (mTop ps ns t p k) D x y c) := (by refine Rg.all ?_ B1; (repeat (first | (with_reducible exact R0.out) | (with_reducible apply Rg.drew) | (with_reducible apply Rg.alloc)))); have e0 := R1.out.bx.2.1; have e1 := R1.out.bx.2.2; have e2 := R1.out.tk.box.c1; have e3 := R1.out.ct; have m0 := R1.out.bx.1; have m1 := R1.out.tk.box.lt; have m2 := R1.out.lt; (first | (with_reducible have ZP := w_one B1; have a0 := ZP.c0; have a1 := ZP.c1; have f0 := ZP.fr 0; have f1 := ZP.fr 1; have n1 := ZP.lt) | (with_reducible have ZP := w_oneD B1; have a0 := ZP.c0; have a1 := ZP.c1; have f0 := ZP.fr 0; have f1 := ZP.fr 1; have n1 := ZP.lt) | skip)))
          all_goals go_wp2_with fail
          all_goals go_meet
          · exact ⟨_, rfl, rfl, hide (R1.out.tk.all (below_new _ _))⟩
          · have h1 := R0.out.tk.bel.size
            have h3 : w.heap.size + 1 ≠ W0.heap.size := by have := R0.out.tk.own.lt; omega
            exact ⟨_, rfl, rfl, hide ((R1.out.tk.set h1 q1 h3 _ _).set h1 q1 h3 _ _)⟩
        case rest =>
          obtain ⟨pw, rfl, rfl, H6⟩ := hcut
          clear KU KW R0 c0 c1 c2 c3 l0 l1 l2 q0 q1 q2 q3 q4 q5
          have HE : Hid (Tkn ps ns (k + 1) (mTop ps ns t p (k + 1)) D) := tkn_ext (tkn_more H6.out.tkn) (Top.top_not HY.out)
          go_upto_region 6 with fail
          go_quiet (fail)
          go_wp2_with fail
          go_roundw
          case rel => exact ⟨k + 1, D, by go_num, by omega, hide ((⟨H6.out.own.mono (by omega), HE.out, H6.out.box, H6.out.bel, H6.out.hB, H6.out.hm, H6.out.ne⟩ : Tk0 _ _ _ _ _ _ _ _ _ _ _ _ _ _).all (below_drewN (Below.refl _ _) _))⟩
          case measure => simp [intOf]; omega
    · have hlt' : ¬ (k : Int) < (len : Int) := by omega
      have e : k = ps.length := by have := HK.out; omega
      subst e
      have hsz : Maps.size D ≤ 1048576 := Nat.le_trans H.out.own.size_le (by have := HK.out; omega)
      go_wp2_with fail
      refine (keys_call _ _).mono ?_
      rintro e w2 ⟨rfl, rfl⟩
      go_wp2_with fail
      refine (sorted_call _ _ _ _ H.out.own hsz).mono ?_
      rintro e w3 ⟨v, ss, rfl, hperm, hown, hnil, B3⟩
      have HF : Hid (∃ (v' : Option Addr) (c : Nat), v = .slice v' (mList ps ns t p).length c ∧ Fit w3 w.heap.size v' (mList ps ns t p).length c ((mList ps ns t p).map (fun i : Nat => (i : Int)))) := by
        have hk := tkn_keys H.out.tkn (H.out.own.entries key_law) hperm
        have hl : ss.length = (mList ps ns t p).length := by
          have := congrArg List.length hk
          rw [List.length_mergeSort, List.length_map] at this
          exact this
        rw [hk, hl] at hown
        obtain ⟨a1, c1, rfl, F⟩ := owned_fit hown
        exact ⟨a1, c1, rfl, F.mono (by have := H.out.bel.size; simp; omega)⟩
      have HB : Hid (Below w.heap.size w w3) := below_call (below_call H.out.bel H.out.bel.size (below_new _ _)) (by have := H.out.bel.size; simp; omega) B3
      clear hperm hown hnil B3
      go_wp2_with fail
      go_ret
      obtain ⟨v', c, rfl, F⟩ := HF.out
      exact ⟨v', c, rfl, F, HB.out⟩

end Go.Proofs.YtjhenfdmbagaiaaGreat.Crew

namespace Go.Proofs.YtjhenfdmbagaiaaGreat.Crew
open Go.ChangeShapes Go.WideShapes Go.ChangeAt Go.RowKit Go.Maps Go.Proofs.YtjhenfdmbagaiaaGreat.Win

/-- All but two blocks are as they were. -/
structure But (b g : Nat) (w w' : World) : Prop where
  os : w'.os = w.os
  tape : w'.tape = w.tape
  output : w'.output = w.output
  size : w.heap.size ≤ w'.heap.size
  block : ∀ j, j < w.heap.size → j ≠ b → j ≠ g → w'.heap[j]? = w.heap[j]?

theorem But.refl (b g : Nat) (w : World) : But b g w w := ⟨rfl, rfl, rfl, Nat.le_refl _, fun _ _ _ _ => rfl⟩

theorem But.below {b g lo : Nat} {w w' : World} (h : But b g w w') (hl : lo ≤ w.heap.size) (h1 : lo ≤ b) (h2 : lo ≤ g) : Below lo w w' :=
  ⟨h.os, h.tape, h.output, h.size, fun k hk => h.block k (by omega) (by omega) (by omega)⟩

theorem But.call {b g : Nat} {w w1 w2 : World} (h : But b g w w1) (k : Below w1.heap.size w1 w2) : But b g w w2 :=
  ⟨k.os.trans h.os, k.tape.trans h.tape, k.output.trans h.output, Nat.le_trans h.size k.size, fun j hj h1 h2 => (k.block j (Nat.lt_of_lt_of_le hj h.size)).trans (h.block j hj h1 h2)⟩

theorem But.set {b g s : Nat} {w w1 : World} (h : But b g w w1) (hs : s = b ∨ s = g) (j : Nat) (v : Value) : But b g w (w1.setCell ⟨s, j, none⟩ v) := by
  have k := grown_at w1 s j v
  refine ⟨k.os.trans h.os, k.tape.trans h.tape, k.output.trans h.output, Nat.le_trans h.size k.size, fun i hi h1 h2 => ?_⟩
  rw [k.block i (Nat.lt_of_lt_of_le hi h.size) (by rcases hs with rfl | rfl <;> simp <;> omega)]
  exact h.block i hi h1 h2

theorem But.trans {b g : Nat} {w w1 w2 : World} (h : But b g w w1) (k : But b g w1 w2) : But b g w w2 :=
  ⟨k.os.trans h.os, k.tape.trans h.tape, k.output.trans h.output, Nat.le_trans h.size k.size, fun j hj h1 h2 => (k.block j (Nat.lt_of_lt_of_le hj h.size) h1 h2).trans (h.block j hj h1 h2)⟩

theorem But.shs {b g : Nat} {w w' : World} {a : Option Addr} {len : Nat} {ps : List Shr} (h : Shs w a len ps) (k : But b g w w') (hne : ∀ x, a = some x → x.block ≠ b ∧ x.block ≠ g) : Shs w' a len ps := by
  refine ⟨h.1, ?_⟩
  rcases h.2 with h | ⟨c, off, rfl, hlt, hc⟩
  · exact .inl h
  · have hb := k.block c hlt (hne _ rfl).1 (hne _ rfl).2
    exact .inr ⟨c, off, rfl, Nat.lt_of_lt_of_le hlt k.size, fun i hi => ⟨(World.cell?_of_block (a := ⟨c, off + i * 2, none⟩) hb).trans (hc i hi).1, (World.cell?_of_block (a := ⟨c, off + i * 2 + 1, none⟩) hb).trans (hc i hi).2⟩⟩

/-- Within a time: the Many in block b, its counts in block g. -/
structure Tn (w0 wr : World) (b g cg : Nat) (x y : Value) (t p : Int) (xs : List Int) (v : Option Addr) (n c : Nat) (L : List Int) : Prop where
  box : Mny wr b x y t p
  row : Row wr g cg xs
  out : Fit wr w0.heap.size v n c L
  but : But b g w0 wr
  hb : b < w0.heap.size
  hg : g < w0.heap.size
  ne : b ≠ g

theorem Tn.set {w0 wr : World} {b g cg : Nat} {x y : Value} {t p : Int} {xs : List Int} {v : Option Addr} {n c : Nat} {L : List Int} (h : Tn w0 wr b g cg x y t p xs v n c L) (j : Nat) (z : Int) : Tn w0 (wr.setCell ⟨g, j, none⟩ (.int .i64 z)) b g cg x y t p (xs.set j z) v n c L :=
  ⟨h.box.past h.ne _, h.row.set j z, h.out.other (grown_at wr g j _) (fun a ha => by have := (h.out.ge ha).1; have := h.hg; simp; omega), h.but.set (.inr rfl) _ _, h.hb, h.hg, h.ne⟩

theorem Tn.now {w0 wr : World} {b g cg : Nat} {x y : Value} {t p : Int} {xs : List Int} {v : Option Addr} {n c : Nat} {L : List Int} (h : Tn w0 wr b g cg x y t p xs v n c L) (z : Int) : Tn w0 (wr.setCell ⟨b, 3, none⟩ (.int .i64 z)) b g cg x y t z xs v n c L :=
  ⟨h.box.set3 z, h.row.past (Ne.symm h.ne) _, h.out.other (grown_at wr b 3 _) (fun a ha => by have := (h.out.ge ha).1; have := h.hb; simp; omega), h.but.set (.inl rfl) _ _, h.hb, h.hg, h.ne⟩

theorem bump_step {L : List Nat} {ns : List Int} {k : Nat} (h : k < L.length) : bump (L.take (k + 1)) ns = (bump (L.take k) ns).set (L.getD k 0) ((bump (L.take k) ns).getD (L.getD k 0) 0 + 1) := by
  rw [List.take_succ_eq_append_getElem h, bump_snoc]
  have e : L.getD k 0 = L[k] := by simp [List.getD, h]
  rw [e]

theorem turns_at (a : Option Addr) (len cap : Nat) (ps : List Shr) (b g cg : Nat) (ns : List Int) (t p : Int) (w : World) (M : Mny w b (.slice a len cap) (.slice (some ⟨g, 0, none⟩) len cg) t p) (I : Shs w a len ps) (R : Row w g cg ns) (hne : b ≠ g) (hok : manyOk ps ns t p = true) :
    Calls Tryz.prog 41 #[.pointer (some ⟨b, 0, none⟩)] w fun e w' => ∃ (v : Option Addr) (c : Nat), e = .returned (.slice v (mList ps ns t p).length c) ∧ Tn w w' b g cg (.slice a len cap) (.slice (some ⟨g, 0, none⟩) len cg) t (p + 1) (mNext ps ns t p) v (mList ps ns t p).length c ((mList ps ns t p).map (fun i : Nat => (i : Int))) := by
  have hp := many_parts hok
  have h24 := fits_len hp.1
  have hnow := within_yes hp.2.2.1
  have hlen : ns.length = len := by have := I.1; omega
  have hll := mList_len (ps := ps) (ns := ns) (q := t) (now := p)
  have J : Ints w (some ⟨g, 0, none⟩) len ns := by have := R.ints; rwa [hlen] at this
  have HI : Hid (Shs w a len ps ∧ Ints w (some ⟨g, 0, none⟩) len ns ∧ manyOk ps ns t p = true ∧ cnts ns = true ∧ ns.length = len ∧ ps.length = len) := ⟨I, J, hok, hp.2.2.2, hlen, I.1⟩
  have HM : Hid (Mny w b (.slice a len cap) (.slice (some ⟨g, 0, none⟩) len cg) t p ∧ Row w g cg ns ∧ b ≠ g) := ⟨M, R, hne⟩
  have r0 := M.c0
  have r1 := M.c1
  have r2 := M.c2
  have r3 := M.c3
  have l24 : (len : Int) ≤ 24 := by have := I.1; omega
  obtain ⟨n, hn⟩ : ∃ n, n = (mList ps ns t p).length := ⟨_, rfl⟩
  rw [← hn]
  have hn24 : (n : Int) ≤ 24 := by omega
  have HN : Hid (n = (mList ps ns t p).length) := hn
  clear I J M R hne hok hp h24 hlen hll hn
  go_enter Tryz.func41, Tryz.ntmps41
  go_wp2_with fail
  refine (takenAt_any a len cap ps (some ⟨g, 0, none⟩) len cg ns t p _ HI.out.1 HI.out.2.1 HI.out.2.2.1).mono ?_
  rw [← HN.out]
  rintro e w1 ⟨v, c, rfl, F1, B1⟩
  have H1 : Hid (Tn w w1 b g cg (.slice a len cap) (.slice (some ⟨g, 0, none⟩) len cg) t p ns v n c ((mList ps ns t p).map (fun i : Nat => (i : Int)))) :=
    ⟨HM.out.1.all B1, HM.out.2.1.all B1, F1, (But.refl b g w).call B1, HM.out.1.lt, HM.out.2.1.lt, HM.out.2.2⟩
  clear F1 B1 r0 r1 r2 r3
  go_wp2_with fail
  go_loopw [12] (fun i wr => ∃ k : Nat, i = .int .i64 k ∧ k ≤ n ∧ Hid (Tn w wr b g cg (.slice a len cap) (.slice (some ⟨g, 0, none⟩) len cg) t p (bump ((mList ps ns t p).take k) ns) v n c ((mList ps ns t p).map (fun i : Nat => (i : Int))))) (fun i _ => n - (intOf i).toNat)
  case atStart => exact ⟨0, rfl, Nat.zero_le _, H1⟩
  case round =>
    obtain ⟨k, rfl, hk, H⟩ := hrel
    by_cases hlt : k < n
    · have hlt' : (k : Int) < (n : Int) := by omega
      obtain ⟨hl1, h0 | ⟨b1, o1, rfl, hb1, hc1⟩⟩ := H.out.out.ints
      · omega
      have z0 := hc1 k hlt
      obtain ⟨i, hi⟩ : ∃ i, i = (mList ps ns t p).getD k 0 := ⟨_, rfl⟩
      have hkL : k < (mList ps ns t p).length := by have := HN.out; omega
      have e1 : ((mList ps ns t p).map (fun i : Nat => (i : Int))).getD k 0 = (i : Int) := by rw [hi]; simp [List.getD, hkL]
      rw [e1] at z0
      have him : i ∈ mList ps ns t p := by rw [hi]; simp [List.getD, hkL]
      have hil : (i : Int) < (len : Int) := by have := mList_lt him; have := HI.out; omega
      obtain ⟨u, hu⟩ : ∃ u, u = (bump ((mList ps ns t p).take k) ns).getD i 0 := ⟨_, rfl⟩
      have z1 : wr.cell? ⟨g, i, none⟩ = some (.int .i64 u) := by
        rw [hu]
        exact H.out.row.cell (by rw [bump_len]; have := HI.out; omega)
      have z2 := H.out.row.frozen i
      have r1 := H.out.box.c1
      have hub : 0 ≤ u ∧ u < 1000000 := by
        have hb := bump_get (l := (mList ps ns t p).take k) ((mList_nodup ps ns t p).sublist (List.take_sublist _ _)) (ns := ns) (i := i) (by have := HI.out; omega)
        have hnot : i ∉ (mList ps ns t p).take k := by
          intro hm
          have hnd := mList_nodup ps ns t p
          rw [← List.take_append_drop k (mList ps ns t p)] at hnd
          have hd : i ∈ (mList ps ns t p).drop k := by
            rw [hi, List.mem_iff_getElem]
            exact ⟨0, by simp; omega, by simp [List.getD, hkL]⟩
          exact (List.nodup_append.1 hnd).2.2 i hm i hd rfl
        simp only [hnot, if_false, Int.add_zero] at hb
        have h0 := cnts_get HI.out.2.2.2.1 i
        have hr := mList_rdy him
        simp only [tnR, Bool.and_eq_true, decide_eq_true_eq] at hr
        omega
      have HS : Hid (Tn w (wr.setCell ⟨g, i, none⟩ (.int .i64 (u + 1))) b g cg (.slice a len cap) (.slice (some ⟨g, 0, none⟩) len cg) t p (bump ((mList ps ns t p).take (k + 1)) ns) (some ⟨b1, o1, none⟩) n c ((mList ps ns t p).map (fun i : Nat => (i : Int)))) := by
        rw [bump_step hkL, ← hi, ← hu]
        exact H.out.set i (u + 1)
      clear hc1 e1 him hu hi hkL
      go_wp2_with fail
      go_roundw
      case rel => exact ⟨k + 1, by go_num, by omega, HS⟩
      case measure => simp [intOf]; omega
    · have hlt' : ¬ (k : Int) < (n : Int) := by omega
      have r3 := H.out.box.c3
      have f3 := H.out.box.fr 3
      have e : bump ((mList ps ns t p).take k) ns = mNext ps ns t p := by
        rw [List.take_of_length_le (by have := HN.out; omega)]
        rfl
      have HF : Hid (Tn w (wr.setCell ⟨b, 3, none⟩ (.int .i64 (p + 1))) b g cg (.slice a len cap) (.slice (some ⟨g, 0, none⟩) len cg) t (p + 1) (mNext ps ns t p) v n c ((mList ps ns t p).map (fun i : Nat => (i : Int)))) := by
        rw [← e]
        exact H.out.now (p + 1)
      clear e
      go_wp2_with fail
      go_ret
      exact ⟨v, c, rfl, HF.out⟩

end Go.Proofs.YtjhenfdmbagaiaaGreat.Crew

namespace Go.Proofs.YtjhenfdmbagaiaaGreat.Crew
open Go.ChangeShapes Go.WideShapes Go.ChangeAt Go.RowKit

/-- Some lists, one after the other between two bounds, none in a block that is spoken for. -/
def Lst (w : World) (ex : Nat → Prop) : Nat → Nat → List Value → List (List Int) → Prop
  | lo, hi, [], [] => lo ≤ hi ∧ hi ≤ w.heap.size
  | lo, hi, v :: vs, xs :: xss => ∃ (a : Option Addr) (n c m : Nat), v = .slice a n c ∧ Sl w lo m a n c xs ∧ lo ≤ m ∧ (∀ x, a = some x → ¬ ex x.block) ∧ Lst w ex m hi vs xss
  | _, _, _, _ => False

theorem Lst.len {w : World} {ex : Nat → Prop} {lo hi : Nat} {vs : List Value} {xss : List (List Int)} (h : Lst w ex lo hi vs xss) : vs.length = xss.length := by
  induction vs generalizing lo xss with
  | nil => cases xss with
    | nil => rfl
    | cons _ _ => exact h.elim
  | cons v vs ih => cases xss with
    | nil => exact h.elim
    | cons xs xss =>
      obtain ⟨a, n, c, m, _, _, _, _, h2⟩ := h
      simp [ih h2]

theorem Lst.bounds {w : World} {ex : Nat → Prop} {lo hi : Nat} {vs : List Value} {xss : List (List Int)} (h : Lst w ex lo hi vs xss) : lo ≤ hi ∧ hi ≤ w.heap.size := by
  induction vs generalizing lo xss with
  | nil => cases xss with
    | nil => exact h
    | cons _ _ => exact h.elim
  | cons v vs ih => cases xss with
    | nil => exact h.elim
    | cons xs xss =>
      obtain ⟨a, n, c, m, _, _, h1, _, h2⟩ := h
      have := ih h2
      omega

/-- What leaves all blocks from lo to hi. -/
theorem Lst.still {w w' : World} {ex : Nat → Prop} {lo hi : Nat} {vs : List Value} {xss : List (List Int)} (h : Lst w ex lo hi vs xss) (hs : w.heap.size ≤ w'.heap.size) (hk : ∀ j, lo ≤ j → j < hi → ¬ ex j → w'.heap[j]? = w.heap[j]?) : Lst w' ex lo hi vs xss := by
  induction vs generalizing lo xss with
  | nil => cases xss with
    | nil => exact ⟨h.1, Nat.le_trans h.2 hs⟩
    | cons _ _ => exact h.elim
  | cons v vs ih => cases xss with
    | nil => exact h.elim
    | cons xs xss =>
      obtain ⟨a, n, c, m, h1, h2, h3, h4, h5⟩ := h
      have hb := h5.bounds
      refine ⟨a, n, c, m, h1, ⟨h2.fit.still (fun x hx => hk _ (h2.range x hx).1 (by have := (h2.range x hx).2; omega) (h4 x hx)), h2.under, Nat.le_trans h2.top hs⟩, h3, h4, ih h5 (fun j j1 j2 j3 => hk j (by omega) j2 j3)⟩

theorem Lst.all {w w' : World} {ex : Nat → Prop} {lo hi : Nat} {vs : List Value} {xss : List (List Int)} (h : Lst w ex lo hi vs xss) (k : Below w.heap.size w w') : Lst w' ex lo hi vs xss :=
  h.still k.size (fun j _ hj _ => k.block j (by have := h.bounds; omega))

theorem Lst.snoc {w : World} {ex : Nat → Prop} {lo hi hi' : Nat} {vs : List Value} {xss : List (List Int)} (h : Lst w ex lo hi vs xss) {a : Option Addr} {n c : Nat} {xs : List Int} (S : Sl w hi hi' a n c xs) (h1 : hi ≤ hi') (h2 : ∀ x, a = some x → ¬ ex x.block) : Lst w ex lo hi' (vs ++ [.slice a n c]) (xss ++ [xs]) := by
  induction vs generalizing lo xss with
  | nil => cases xss with
    | nil =>
      obtain ⟨h3, h4⟩ := h
      refine ⟨a, n, c, hi', rfl, ⟨S.fit.mono h3, S.under, S.top⟩, by omega, h2, ⟨Nat.le_refl _, S.top⟩⟩
    | cons _ _ => exact h.elim
  | cons v vs ih => cases xss with
    | nil => exact h.elim
    | cons ys xss =>
      obtain ⟨b, m, d, q, g1, g2, g3, g4, g5⟩ := h
      exact ⟨b, m, d, q, g1, g2, g3, g4, ih g5⟩

/-- From further down on, and with blocks spoken for that lie below. -/
theorem Lst.above {w : World} {ex ex' : Nat → Prop} {lo lo' hi : Nat} {vs : List Value} {xss : List (List Int)} (h : Lst w ex lo hi vs xss) (hl : lo' ≤ lo) (he : ∀ j, lo ≤ j → ¬ ex' j) : Lst w ex' lo' hi vs xss := by
  induction vs generalizing lo lo' xss with
  | nil => cases xss with
    | nil => exact ⟨Nat.le_trans hl h.1, h.2⟩
    | cons _ _ => exact h.elim
  | cons v vs ih => cases xss with
    | nil => exact h.elim
    | cons xs xss =>
      obtain ⟨a, n, c, m, h1, h2, h3, h4, h5⟩ := h
      exact ⟨a, n, c, m, h1, ⟨h2.fit.mono hl, h2.under, h2.top⟩, by omega, fun x hx => he _ (h2.range x hx).1, ih h5 (Nat.le_refl _) (fun j hj => he j (by omega))⟩

theorem Lst.get {w : World} {ex : Nat → Prop} {lo hi : Nat} {vs : List Value} {xss : List (List Int)} (h : Lst w ex lo hi vs xss) {i : Nat} (hi' : i < xss.length) : ∃ (a : Option Addr) (n c l m : Nat), vs[i]? = some (.slice a n c) ∧ Sl w l m a n c (xss.getD i []) ∧ lo ≤ l ∧ l ≤ m ∧ m ≤ hi ∧ (∀ x, a = some x → ¬ ex x.block) := by
  induction vs generalizing lo xss i with
  | nil => cases xss with
    | nil => simp at hi'
    | cons _ _ => exact h.elim
  | cons v vs ih => cases xss with
    | nil => exact h.elim
    | cons xs xss =>
      obtain ⟨a, n, c, m, h1, h2, h3, h4, h5⟩ := h
      cases i with
      | zero => exact ⟨a, n, c, lo, m, by simp [h1], by simpa using h2, Nat.le_refl _, h3, (h5.bounds).1, h4⟩
      | succ i =>
        obtain ⟨a', n', c', l, m', g1, g2, g3, g4, g5, g6⟩ := ih h5 (by simpa using hi')
        exact ⟨a', n', c', l, m', by simpa using g1, by simpa using g2, by omega, g4, g5, g6⟩

/-- A slice of slices in block h, the call's own. -/
def Tms (w : World) (h cap : Nat) (vs : List Value) : Prop :=
  ∃ cur : Array Value, w.heap[h]? = some (.cells cur 25 (0, 0)) ∧ vs.length ≤ cap ∧ cap ≤ maxLen ∧ cur.size = cap ∧ cur.toList.take vs.length = vs

theorem Tms.lt {w : World} {h cap : Nat} {vs : List Value} (T : Tms w h cap vs) : h < w.heap.size := by
  obtain ⟨cur, hb, _⟩ := T
  exact (Array.getElem?_eq_some_iff.1 hb).1

theorem Tms.frozen {w : World} {h cap : Nat} {vs : List Value} (T : Tms w h cap vs) (j : Nat) : w.frozen? ⟨h, j, none⟩ = false := by
  obtain ⟨cur, hb, _⟩ := T
  exact frozen_of_row w h j cur _ hb

theorem Tms.cell {w : World} {h cap : Nat} {vs : List Value} (T : Tms w h cap vs) {j : Nat} {v : Value} (hj : vs[j]? = some v) : w.cell? ⟨h, j, none⟩ = some v := by
  obtain ⟨cur, hb, h1, h2, h3, h4⟩ := T
  have hl : j < vs.length := (List.getElem?_eq_some_iff.1 hj).1
  rw [cell_of_row w h j cur _ (0, 0) hb]
  rw [← h4, List.getElem?_take, if_pos hl] at hj
  simpa using hj

theorem Tms.still {w w' : World} {h cap : Nat} {vs : List Value} (T : Tms w h cap vs) (e : w'.heap[h]? = w.heap[h]?) : Tms w' h cap vs := by
  obtain ⟨cur, hb, r⟩ := T
  exact ⟨cur, by rw [e]; exact hb, r⟩

theorem Tms.all {w w' : World} {h cap : Nat} {vs : List Value} (T : Tms w h cap vs) (k : Below w.heap.size w w') : Tms w' h cap vs := T.still (k.block h T.lt)

theorem Tms.set {w : World} {h cap : Nat} {vs : List Value} (T : Tms w h cap vs) (j : Nat) (v : Value) : Tms (w.setCell ⟨h, j, none⟩ v) h cap (vs.set j v) := by
  obtain ⟨cur, hb, h1, h2, h3, h4⟩ := T
  refine ⟨cur.setIfInBounds j v, heap_setCell_same w h j cur _ _ hb, by simpa using h1, h2, by simpa using h3, ?_⟩
  rw [Array.toList_setIfInBounds, List.length_set, List.take_set, h4]

/-- So many nil slices. -/
def nilSs (n : Nat) : Array Value := (List.replicate n (Value.slice none 0 0)).toArray

theorem info_ints : (Tryz.prog.info? 25).map (fun i => (i.zero, i.size, i.bytes)) = some (some (.slice none 0 0), 1, 24) := by kernel_rfl

theorem made_lists (n : Nat) (hn : (n : Int) ≤ 1048576) (w : World) : (Instr.makeSlice 30 (.int .i64 n) (.int .i64 n)).run Tryz.prog w = .ok (.slice (some ⟨w.heap.size, 0, none⟩) n n) (w.alloc (.cells (nilSs n) 25)) := by
  obtain ⟨i0, hi, hz0, hz1, hz2⟩ := info_parts info_ints
  have h := run_make (P := Tryz.prog) w 30 25 i0 (.slice none 0 0) Tryz.underlying30 hi hz0 .i64 .i64 n n (by omega) (by omega) (by rw [hz2]; omega) (by omega)
  rw [h, hz1]
  have e : madeCells (Value.slice none 0 0).cells n = nilSs n := by
    apply Array.ext'
    rw [nilSs, List.toList_toArray, List.eq_replicate_iff]
    refine ⟨by simp [madeCells], fun b hb => ?_⟩
    simp only [madeCells, Array.toList_map, List.mem_map] at hb
    obtain ⟨a, _, rfl⟩ := hb
    have e0 : a % 1 = 0 := Nat.mod_one a
    simp [Value.cells, e0]
  simp only [Int.toNat_natCast, Nat.mul_one]
  rw [e]

theorem tms_new (w : World) (n : Nat) (hn : (n : Int) ≤ 1048576) : Tms (w.alloc (.cells (nilSs n) 25)) w.heap.size n (List.replicate n (.slice none 0 0)) :=
  ⟨_, heap_alloc_new w _, by simp, by simp [maxLen]; omega, by simp [nilSs], by simp [nilSs, List.take_of_length_le]⟩

/-- The lists of numbers. -/
def icast (L : List Nat) : List Int := L.map (fun i : Nat => (i : Int))

def mLists (ps : List Shr) (ns : List Int) (q now : Int) (k : Nat) : List (List Int) := (mWho ps ns q now k).map icast

theorem mLists_len (ps : List Shr) (ns : List Int) (q now : Int) (k : Nat) : (mLists ps ns q now k).length = k := by simp [mLists, mWho_len]

theorem mLists_succ (ps : List Shr) (ns : List Int) (q now : Int) (k : Nat) : mLists ps ns q now (k + 1) = mLists ps ns q now k ++ [icast (mList ps (mAt ps ns q now k) q (now + k))] := by
  rw [mLists, mWho_succ, List.map_append]
  rfl

end Go.Proofs.YtjhenfdmbagaiaaGreat.Crew
