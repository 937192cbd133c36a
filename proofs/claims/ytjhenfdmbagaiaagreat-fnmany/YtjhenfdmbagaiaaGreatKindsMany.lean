/-
  Kinds of value for several processors: slices of Shares, a Many, lists of lists.
-/
import Derived.Test.YtjhenfdmbagaiaaGreatSmoothAns
import Derived.Test.YtjhenfdmbagaiaaGreatManyBase
import Derived.Test.YtjhenfdmbagaiaaGreatManyTaken
import Derived.Test.YtjhenfdmbagaiaaGreatKin
namespace Go.Proofs.YtjhenfdmbagaiaaGreat.Crew
open Go.ChangeShapes Go.WideShapes Go.ChangeAt Go.RowKit

/-- Slices of Shares. -/
def shsK : Knd (List Shr) where
  rep w S v ps := ∃ a len cap, v = .slice a len cap ∧ SFit w 0 a len cap ps ∧ ∀ j, S j ↔ blk a = some j
  hld w S v ps k := ∃ a len cap, v = .slice a len cap ∧ SFit w 0 a len cap (smarks k len) ∧ ps.length = len ∧ ∀ j, S j ↔ blk a = some j
  slots ps := 2 * ps.length
  lt := by
    rintro w S v d ⟨a, len, cap, rfl, F, hS⟩ j hj
    have := (hS j).1 hj
    cases a with
    | none => cases this
    | some x => rw [blk_some] at this; rw [← Option.some.inj this]; exact (F.ge rfl).2
  still := by
    rintro w w' S v d ⟨a, len, cap, rfl, F, hS⟩ hs he
    exact ⟨a, len, cap, rfl, F.still (fun x hx => he _ ((hS _).2 (by rw [hx]; rfl))), hS⟩
  hlt := by
    rintro w S v d k ⟨a, len, cap, rfl, F, _, hS⟩ j hj
    have := (hS j).1 hj
    cases a with
    | none => cases this
    | some x => rw [blk_some] at this; rw [← Option.some.inj this]; exact (F.ge rfl).2
  hstill := by
    rintro w w' S v d k ⟨a, len, cap, rfl, F, hl, hS⟩ hs he
    exact ⟨a, len, cap, rfl, F.still (fun x hx => he _ ((hS _).2 (by rw [hx]; rfl))), hl, hS⟩

theorem sfit_fresh {w : World} {base : Nat} {a : Option Addr} {len cap : Nat} {xs : List Shr} (F : SFit w base a len cap xs) : ∀ j, blk a = some j → base ≤ j := by
  intro j hj
  cases a with
  | none => cases hj
  | some x => rw [blk_some] at hj; rw [← Option.some.inj hj]; exact (F.ge rfl).1

theorem dj_apart {a b : Option Addr} {S T : Bs} (hS : ∀ j, S j ↔ blk a = some j) (hT : ∀ j, T j ↔ blk b = some j) (h : Dj S T) : Apart a b := by
  intro x y hx hy e
  subst hx hy
  exact h x.block ((hS _).2 rfl) ((hT _).2 (by rw [blk_some, e]))

/-- What a Many reads as. -/
structure MnD where
  s : List Shr
  c : List Int
  q : Int
  t : Int

def manyK : Knd MnD where
  rep w S v d := ∃ x y S1 S2, v = mv x y d.q d.t ∧ shsK.rep w S1 x d.s ∧ intsK.rep w S2 y d.c ∧ Dj S1 S2 ∧ ∀ j, S j ↔ S1 j ∨ S2 j
  hld w S v d k := ∃ x y S1 S2, v = mv x y d.q d.t ∧ shsK.hld w S1 x d.s k ∧ intsK.hld w S2 y d.c (k + 2 * d.s.length) ∧ Dj S1 S2 ∧ ∀ j, S j ↔ S1 j ∨ S2 j
  slots d := 2 * d.s.length + d.c.length
  lt := by
    rintro w S v d ⟨x, y, S1, S2, rfl, h1, h2, _, hS⟩ j hj
    rcases (hS j).1 hj with h | h
    · exact shsK.lt h1 j h
    · exact intsK.lt h2 j h
  still := by
    rintro w w' S v d ⟨x, y, S1, S2, rfl, h1, h2, hd, hS⟩ hs he
    exact ⟨x, y, S1, S2, rfl, shsK.still h1 hs (fun j hj => he j ((hS j).2 (.inl hj))), intsK.still h2 hs (fun j hj => he j ((hS j).2 (.inr hj))), hd, hS⟩
  hlt := by
    rintro w S v d k ⟨x, y, S1, S2, rfl, h1, h2, _, hS⟩ j hj
    rcases (hS j).1 hj with h | h
    · exact shsK.hlt h1 j h
    · exact intsK.hlt h2 j h
  hstill := by
    rintro w w' S v d k ⟨x, y, S1, S2, rfl, h1, h2, hd, hS⟩ hs he
    exact ⟨x, y, S1, S2, rfl, shsK.hstill h1 hs (fun j hj => he j ((hS j).2 (.inl hj))), intsK.hstill h2 hs (fun j hj => he j ((hS j).2 (.inr hj))), hd, hS⟩

theorem many_shape {w : World} {S : Bs} {v : Value} {d : MnD} (h : manyK.rep w S v d) : ∃ x y, v = mv x y d.q d.t := by
  obtain ⟨x, y, _, _, rfl, _⟩ := h
  exact ⟨x, y, rfl⟩

theorem many_mk {w : World} {b1 b2 : Nat} {a : Option Addr} {la ca : Nat} {ps : List Shr} {d : Option Addr} {ld cd : Nat} {ns : List Int} {q t : Int} (F : SFit w b1 a la ca ps) (G : Fit w b2 d ld cd ns) (A : Apart a d) :
    manyK.rep w (fun j => blk a = some j ∨ blk d = some j) (mv (.slice a la ca) (.slice d ld cd) q t) ⟨ps, ns, q, t⟩ :=
  ⟨_, _, fun j => blk a = some j, fun j => blk d = some j, rfl, ⟨a, la, ca, rfl, F.mono (Nat.zero_le _), fun _ => Iff.rfl⟩, ⟨d, ld, cd, rfl, G.mono (Nat.zero_le _), fun _ => Iff.rfl⟩, apart_dj A, fun _ => Iff.rfl⟩

theorem many_at {w : World} {S : Bs} {v : Value} {d : MnD} (h : manyK.rep w S v d) : ∃ a la ca b lb cb, v = mv (.slice a la ca) (.slice b lb cb) d.q d.t ∧ SFit w 0 a la ca d.s ∧ Fit w 0 b lb cb d.c ∧ Apart a b ∧ ∀ j, S j ↔ blk a = some j ∨ blk b = some j := by
  obtain ⟨x, y, S1, S2, rfl, ⟨a, la, ca, rfl, F, h1⟩, ⟨b, lb, cb, rfl, G, h2⟩, hd, hS⟩ := h
  exact ⟨a, la, ca, b, lb, cb, rfl, F, G, dj_apart h1 h2 hd, fun j => by rw [hS, h1, h2]⟩

theorem many_eq {w : World} {S T : Bs} {u v : Value} {d : MnD} (h : manyK.rep w S u d) (k : manyK.rep w T v d) (hs : (d.s.length : Int) ≤ 1048576) (hs' : (d.c.length : Int) ≤ 1048576) :
    Calls Tryz.prog 25 #[u, v] w fun e w' => e = .returned (.bool true) ∧ Below w.heap.size w w' := by
  obtain ⟨a, la, ca, b, lb, cb, rfl, F, G, _, _⟩ := many_at h
  obtain ⟨a', la', ca', b', lb', cb', rfl, F', G', _, _⟩ := many_at k
  exact eqMany_same a la ca b lb cb a' la' ca' b' lb' cb' d.s d.c d.q d.t w F.shs G.ints F'.shs G'.ints (by have := F.1; omega) (by have := G.1; omega)

theorem many_mark {w : World} {S : Bs} {v : Value} {d : MnD} (h : manyK.rep w S v d) (k : Int) (hs : (d.s.length : Int) ≤ 1048576) (hs' : (d.c.length : Int) ≤ 1048576) (hk0 : 0 ≤ k) (hk1 : k ≤ 1000000000) :
    Calls Tryz.prog 27 #[v, .int .i64 k] w fun e w' => e = .returned (.int .i64 (k + (manyK.slots d : Nat))) ∧ manyK.hld w' S v d k ∧ Chg S w w' := by
  obtain ⟨a, la, ca, b, lb, cb, rfl, F, G, A, hS⟩ := many_at h
  have hl := F.1
  have hl' := G.1
  refine (markMany_any 0 a la ca d.s b lb cb d.c d.q d.t k w F G A (by omega) (by omega) hk0 hk1).mono ?_
  rintro e w' ⟨rfl, F', G', wm, g1, g2⟩
  refine ⟨?_, ⟨_, _, fun j => blk a = some j, fun j => blk b = some j, rfl, ⟨a, la, ca, rfl, F', hl, fun _ => Iff.rfl⟩, ⟨b, lb, cb, rfl, by rw [hl]; exact G', hl', fun _ => Iff.rfl⟩, apart_dj A, hS⟩, ?_⟩
  · show _ = Ending.returned (.int .i64 (k + ((2 * d.s.length + d.c.length : Nat) : Int)))
    rw [hl, hl']
    congr 2
    push_cast
    omega
  · exact (chg_of_blk g1 (fun x hx => (hS _).2 (.inl (by rw [hx]; rfl)))).trans (chg_of_blk g2 (fun x hx => (hS _).2 (.inr (by rw [hx]; rfl))))

theorem many_held {w : World} {S : Bs} {v : Value} {d : MnD} {k : Int} (h : manyK.hld w S v d k) (hs : (d.s.length : Int) ≤ 1048576) (hs' : (d.c.length : Int) ≤ 1048576) (hk0 : 0 ≤ k) (hk1 : k ≤ 1000000000) :
    Calls Tryz.prog 29 #[v, .int .i64 k] w fun e w' => e = .returned (.int .i64 (k + (manyK.slots d : Nat))) ∧ Below w.heap.size w w' := by
  obtain ⟨x, y, S1, S2, rfl, ⟨a, la, ca, rfl, F, hl, _⟩, ⟨b, lb, cb, rfl, G, hl', _⟩, _, _⟩ := h
  rw [hl] at G
  refine (heldMany_any a la ca b lb cb d.q d.t k w F.shs G.ints (by omega) (by omega) hk0 hk1).mono ?_
  rintro e w' ⟨rfl, B⟩
  refine ⟨?_, B⟩
  show _ = Ending.returned (.int .i64 (k + ((2 * d.s.length + d.c.length : Nat) : Int)))
  rw [hl, hl']
  congr 2
  push_cast
  omega

theorem many_to (a : Option Addr) (len cap : Nat) (xs : List Shr) (a' : Option Addr) (len' cap' : Nat) (ys : List Int) (t p : Int) (w : World) (I : Shs w a len xs) (J : Ints w a' len' ys) (hs : (len : Int) ≤ 1048576) (hs' : (len' : Int) ≤ 1048576) :
    Calls Tryz.prog 24 #[mv (.slice a len cap) (.slice a' len' cap') t p] w fun e w' => ∃ xa xl xc ya yl yc S, e = .returned (mv (.slice xa xl xc) (.slice ya yl yc) t p) ∧ manyK.rep w' S (mv (.slice xa xl xc) (.slice ya yl yc) t p) ⟨xs, ys, t, p⟩ ∧ (∀ j, S j → w.heap.size ≤ j) ∧ Below w.heap.size w w' := by
  refine (toMany_any a len cap xs a' len' cap' ys t p w I J hs hs').mono ?_
  rintro e w' ⟨g, h, rfl, R, Q, hg, hh, hne, B⟩
  refine ⟨_, _, _, _, _, _, _, rfl, many_mk (R.fit hg I.1) (Q.fit hh J.1) (fun x y hx hy => by cases hx; cases hy; exact hne), ?_, B⟩
  rintro j (hj | hj)
  · rw [blk_some] at hj; rw [← Option.some.inj hj]; exact hg
  · rw [blk_some] at hj; rw [← Option.some.inj hj]; exact hh

/-- The marks of some lists, one after the other. -/
def markL : Int → List (List Int) → List (List Int)
  | _, [] => []
  | k, xs :: xss => marks k xs.length :: markL (k + xs.length) xss

def sumL : List (List Int) → Nat
  | [] => 0
  | xs :: xss => xs.length + sumL xss

theorem markL_len (k : Int) (L : List (List Int)) : (markL k L).length = L.length := by
  induction L generalizing k with
  | nil => rfl
  | cons xs L ih => rw [markL, List.length_cons, ih, List.length_cons]

theorem markL_snoc (k : Int) (L : List (List Int)) (xs : List Int) : markL k (L ++ [xs]) = markL k L ++ [marks (k + (sumL L : Nat)) xs.length] := by
  induction L generalizing k with
  | nil => simp [markL, sumL]
  | cons ys L ih =>
    rw [List.cons_append, markL, ih, markL, List.cons_append, sumL]
    congr 3
    push_cast
    congr 1
    omega

theorem sumL_snoc (L : List (List Int)) (xs : List Int) : sumL (L ++ [xs]) = sumL L + xs.length := by
  induction L with
  | nil => simp [sumL]
  | cons ys L ih => rw [List.cons_append, sumL, ih, sumL]; omega

theorem take_snoc {L : List (List Int)} {n : Nat} (h : n < L.length) : L.take (n + 1) = L.take n ++ [L.getD n []] := by
  rw [List.take_succ_eq_append_getElem h, List.getD_eq_getElem?_getD, List.getElem?_eq_getElem h]
  rfl

theorem sumL_take {L : List (List Int)} (n : Nat) : sumL (L.take n) ≤ sumL L := by
  induction L generalizing n with
  | nil => simp [sumL]
  | cons xs L ih =>
    cases n with
    | zero => simp [sumL]
    | succ n => rw [List.take_succ_cons, sumL, sumL]; have := ih n; omega

theorem sumL_get {L : List (List Int)} {n : Nat} (h : n < L.length) : sumL (L.take n) + (L.getD n []).length ≤ sumL L := by
  have h1 := sumL_take (L := L) (n + 1)
  rw [take_snoc h, sumL_snoc] at h1
  exact h1

theorem markL_get {k : Int} {L : List (List Int)} {n : Nat} (h : n < L.length) : (markL k L).getD n [] = marks (k + (sumL (L.take n) : Nat)) (L.getD n []).length := by
  induction L generalizing k n with
  | nil => simp at h
  | cons xs L ih =>
    cases n with
    | zero => simp [markL, sumL]
    | succ n =>
      rw [markL, List.getD_cons_succ, ih (by simpa using h), List.take_succ_cons, sumL, List.getD_cons_succ]
      congr 1
      push_cast
      omega

theorem mark_step {k : Int} {L : List (List Int)} {n : Nat} (h : n < L.length) : (markL k (L.take n) ++ L.drop n).set n (marks (k + (sumL (L.take n) : Nat)) (L.getD n []).length) = markL k (L.take (n + 1)) ++ L.drop (n + 1) := by
  rw [List.set_append_right _ _ (by rw [markL_len, List.length_take]; omega), markL_len, List.length_take, show n - min n L.length = 0 by omega, List.drop_eq_getElem_cons h, List.set_cons_zero, take_snoc h, markL_snoc, List.append_assoc]
  rfl

/-- One of the lists, and what is left of all where that one alone is written. -/
theorem Lst.put {w : World} {ex : Nat → Prop} {lo hi : Nat} {vs : List Value} {xss : List (List Int)} (h : Lst w ex lo hi vs xss) {i : Nat} (hi' : i < xss.length) : ∃ (a : Option Addr) (n c l m : Nat), vs[i]? = some (.slice a n c) ∧ Sl w l m a n c (xss.getD i []) ∧ lo ≤ l ∧ l ≤ m ∧ m ≤ hi ∧ (∀ x, a = some x → ¬ ex x.block) ∧
    (∀ (w' : World) (ys : List Int), w.heap.size ≤ w'.heap.size → (∀ j, j < w.heap.size → some j ≠ blk a → w'.heap[j]? = w.heap[j]?) → Fit w' l a n c ys → Lst w' ex lo hi vs (xss.set i ys)) := by
  induction vs generalizing lo xss i with
  | nil => cases xss with
    | nil => simp at hi'
    | cons _ _ => exact h.elim
  | cons v vs ih => cases xss with
    | nil => exact h.elim
    | cons xs xss =>
      obtain ⟨a, n, c, m, h1, h2, h3, h4, h5⟩ := h
      cases i with
      | zero =>
        refine ⟨a, n, c, lo, m, by simp [h1], by simpa using h2, Nat.le_refl _, h3, (h5.bounds).1, h4, fun w' ys hs hk F => ?_⟩
        have hb := h5.bounds
        refine ⟨a, n, c, m, h1, ⟨F, h2.under, Nat.le_trans h2.top hs⟩, h3, h4, h5.still hs (fun j j1 j2 _ => hk j (by omega) (fun e => ?_))⟩
        cases a with
        | none => cases e
        | some x =>
          rw [blk_some] at e
          have := (h2.range x rfl).2
          have := Option.some.inj e
          omega
      | succ i =>
        obtain ⟨a', n', c', l, m', g1, g2, g3, g4, g5, g6, g7⟩ := ih h5 (by simpa using hi')
        refine ⟨a', n', c', l, m', by simpa using g1, by simpa using g2, by omega, g4, g5, g6, fun w' ys hs hk F => ?_⟩
        rw [List.set_cons_succ]
        refine ⟨a, n, c, m, h1, ⟨h2.fit.still (fun x hx => hk _ (h2.fit.ge hx).2 (fun e => ?_)), h2.under, Nat.le_trans h2.top hs⟩, h3, h4, g7 w' ys hs hk F⟩
        cases a' with
        | none => cases e
        | some y =>
          rw [blk_some] at e
          have := (h2.range x hx).2
          have := (g2.range y rfl).1
          have := Option.some.inj e
          omega

/-- Lists of lists. -/
def listsK : Knd (List (List Int)) where
  rep w S v L := ∃ h c vs lo hi ex, v = .slice (some ⟨h, 0, none⟩) L.length c ∧ Tms w h c vs ∧ Lst w ex lo hi vs L ∧ ex h ∧ ∀ j, S j ↔ j = h ∨ (lo ≤ j ∧ j < hi ∧ ¬ ex j)
  hld w S v L k := ∃ h c vs lo hi ex, v = .slice (some ⟨h, 0, none⟩) L.length c ∧ Tms w h c vs ∧ Lst w ex lo hi vs (markL k L) ∧ ex h ∧ ∀ j, S j ↔ j = h ∨ (lo ≤ j ∧ j < hi ∧ ¬ ex j)
  slots := sumL
  lt := by
    rintro w S v L ⟨h, c, vs, lo, hi, ex, rfl, T, l, _, hS⟩ j hj
    rcases (hS j).1 hj with rfl | h1
    · exact T.lt
    · have := l.bounds; omega
  still := by
    rintro w w' S v L ⟨h, c, vs, lo, hi, ex, rfl, T, l, hx, hS⟩ hs he
    exact ⟨h, c, vs, lo, hi, ex, rfl, T.still (he h ((hS h).2 (.inl rfl))), l.still hs (fun j j1 j2 j3 => he j ((hS j).2 (.inr ⟨j1, j2, j3⟩))), hx, hS⟩
  hlt := by
    rintro w S v L k ⟨h, c, vs, lo, hi, ex, rfl, T, l, _, hS⟩ j hj
    rcases (hS j).1 hj with rfl | h1
    · exact T.lt
    · have := l.bounds; omega
  hstill := by
    rintro w w' S v L k ⟨h, c, vs, lo, hi, ex, rfl, T, l, hx, hS⟩ hs he
    exact ⟨h, c, vs, lo, hi, ex, rfl, T.still (he h ((hS h).2 (.inl rfl))), l.still hs (fun j j1 j2 j3 => he j ((hS j).2 (.inr ⟨j1, j2, j3⟩))), hx, hS⟩

set_option maxRecDepth 100000 in
theorem lists_eq {w : World} {S T : Bs} {u v : Value} {L : List (List Int)} (h : listsK.rep w S u L) (k : listsK.rep w T v L) (hs : (L.length : Int) ≤ 1048576) (ht : (sumL L : Int) ≤ 1000000) :
    Calls Tryz.prog 31 #[u, v] w fun e w' => e = .returned (.bool true) ∧ Below w.heap.size w w' := by
  have HH : Hid (listsK.rep w S u L) := h
  have HK : Hid (listsK.rep w T v L) := k
  obtain ⟨g, c, vs, _, _, _, rfl, _, _⟩ := h
  obtain ⟨g', c', vs', _, _, _, rfl, _, _⟩ := k
  obtain ⟨len, hlen⟩ : ∃ len, len = L.length := ⟨_, rfl⟩
  have HL : Hid (len = L.length) := hlen
  rw [← hlen] at hs ⊢
  clear hlen
  have hne : ((len : Int) != (len : Int)) = false := by simp
  go_enter Tryz.func31, Tryz.ntmps31
  go_wp2_with fail
  go_loopw [5] (fun i wr => ∃ n : Nat, n ≤ len ∧ i = .int .i64 n ∧ Hid (Below w.heap.size w wr)) (fun i _ => len - (intOf i).toNat)
  case atStart => exact ⟨0, Nat.zero_le _, rfl, Below.refl _ _⟩
  case round =>
    obtain ⟨n, hn, rfl, B⟩ := hrel
    by_cases hlt : n < len
    · have hlt' : (n : Int) < (len : Int) := by omega
      obtain ⟨h1, c1, vs1, lo1, hi1, ex1, e1, T1, l1, _, _⟩ := Knd.all HH.out B.out
      obtain ⟨h2, c2, vs2, lo2, hi2, ex2, e2, T2, l2, _, _⟩ := Knd.all HK.out B.out
      cases e1
      cases e2
      obtain ⟨a1, n1, k1, p1, q1, i1, S1, _⟩ := l1.get (i := n) (by rw [← HL.out]; exact hlt)
      obtain ⟨a2, n2, k2, p2, q2, i2, S2, _⟩ := l2.get (i := n) (by rw [← HL.out]; exact hlt)
      have z1 := T1.lt
      have z2 := T2.lt
      have d1 : ∀ x : Kin wr, x.u.cell? ⟨g, n, none⟩ = some (.slice a1 n1 k1) := fun x => x.cell z1 (T1.cell i1)
      have d2 : ∀ x : Kin wr, x.u.cell? ⟨g', n, none⟩ = some (.slice a2 n2 k2) := fun x => x.cell z2 (T2.cell i2)
      have hb := sumL_get (L := L) (n := n) (by rw [← HL.out]; exact hlt)
      have hn1 : (n1 : Int) ≤ 1048576 := by have := S1.fit.1; omega
      have HE : Hid (∀ x : Kin wr, Calls Tryz.prog 26 #[.slice a1 n1 k1, .slice a2 n2 k2] x.u fun e w' => e = .returned (.bool true) ∧ Below x.u.heap.size x.u w') := fun x => eqInts_same a1 n1 k1 (L.getD n []) a2 n2 k2 x.u (S1.fit.all x.b).ints (S2.fit.all x.b).ints hn1
      clear T1 T2 l1 l2 i1 i2 S1 S2 z1 z2 hb
      go_wp2_with fail
      refine wp_region_kin (by kernel_rfl) (by kernel_rfl) (fun hne => ?_)
      repeat (go_big_quiet_step ((first | (go_at_call 26; exact kin_calls (HE.out _)))))
      refine wpQuiet_nil ?_
      rintro _ ⟨x, rfl⟩
      have BX : Hid (Below w.heap.size w x.u) := below_call B.out B.out.size x.b
      clear d1 d2 HE hne
      generalize x.u = wx at BX ⊢
      go_wp2_with fail
      go_roundw
      case rel => exact ⟨n + 1, by omega, by go_num, BX⟩
      case measure => simp [intOf]; omega
    · have hlt' : ¬ (n : Int) < (len : Int) := by omega
      go_wp2_with fail
      go_ret
      exact ⟨rfl, B.out⟩

set_option maxRecDepth 100000 in
theorem lists_mark {w : World} {S : Bs} {v : Value} {L : List (List Int)} (h : listsK.rep w S v L) (k : Int) (hs : (L.length : Int) ≤ 1048576) (ht : (sumL L : Int) ≤ 1000000) (hk0 : 0 ≤ k) (hk1 : k ≤ 1000000000) :
    Calls Tryz.prog 32 #[v, .int .i64 k] w fun e w' => e = .returned (.int .i64 (k + (listsK.slots L : Nat))) ∧ listsK.hld w' S v L k ∧ Chg S w w' := by
  obtain ⟨g, c, vs, lo, hi, ex, rfl, T, l, hx, hS⟩ := h
  obtain ⟨len, hlen⟩ : ∃ len, len = L.length := ⟨_, rfl⟩
  have HL : Hid (len = L.length) := hlen
  have H0 : Hid (Tms w g c vs ∧ Lst w ex lo hi vs L ∧ ex g ∧ ∀ j, S j ↔ j = g ∨ (lo ≤ j ∧ j < hi ∧ ¬ ex j)) := ⟨T, l, hx, hS⟩
  rw [← hlen] at hs
  rw [show (Value.slice (some ⟨g, 0, none⟩) L.length c) = .slice (some ⟨g, 0, none⟩) len c by rw [hlen]]
  show Calls _ _ _ _ fun e w' => e = .returned (.int .i64 (k + (sumL L : Nat))) ∧ _
  clear T l hx hS hlen
  go_enter Tryz.func32, Tryz.ntmps32
  go_wp2_with fail
  go_loopw [1, 5] (fun q i wr => ∃ n : Nat, n ≤ len ∧ i = .int .i64 n ∧ q = .int .i64 (k + (sumL (L.take n) : Nat)) ∧ Hid (Tms wr g c vs ∧ Lst wr ex lo hi vs (markL k (L.take n) ++ L.drop n) ∧ Chg S w wr)) (fun _ i _ => len - (intOf i).toNat)
  case atStart => exact ⟨0, Nat.zero_le _, rfl, by simp [sumL], H0.out.1, by simpa [markL] using H0.out.2.1, Chg.refl _ _⟩
  case round =>
    obtain ⟨n, hn, rfl, rfl, R⟩ := hrel
    by_cases hlt : n < len
    · have hlt' : (n : Int) < (len : Int) := by omega
      have hnL : n < L.length := by rw [← HL.out]; exact hlt
      obtain ⟨a1, n1, k1, l1, m1, i1, S1, b1, b2, b3, x1, P⟩ := R.out.2.1.put (i := n) (by rw [List.length_append, markL_len, List.length_take, List.length_drop]; omega)
      have d1 := R.out.1.cell i1
      have e1 : (markL k (L.take n) ++ L.drop n).getD n [] = L.getD n [] := by
        rw [List.getD_eq_getElem?_getD, List.getElem?_append_right (by rw [markL_len, List.length_take]; omega), markL_len, List.length_take, show n - min n L.length = 0 by omega, List.getElem?_drop, List.getD_eq_getElem?_getD, Nat.add_zero]
      rw [e1] at S1
      have hb := sumL_get (L := L) (n := n) hnL
      have hn1 : n1 = (L.getD n []).length := S1.fit.1.symm
      rw [← hn1] at hb
      have HN1 := hid hn1
      have HP : Hid (∀ (w' : World) (ys : List Int), wr.heap.size ≤ w'.heap.size → (∀ j, j < wr.heap.size → some j ≠ blk a1 → w'.heap[j]? = wr.heap[j]?) → Fit w' l1 a1 n1 k1 ys → Lst w' ex lo hi vs ((markL k (L.take n) ++ L.drop n).set n ys)) := P
      have HX : Hid ((∀ x, a1 = some x → ¬ ex x.block) ∧ Sl wr l1 m1 a1 n1 k1 (L.getD n []) ∧ lo ≤ l1 ∧ m1 ≤ hi) := ⟨x1, S1, b1, b3⟩
      clear P x1 S1 i1 e1 hn1
      go_wp2_with fail
      refine (markFit l1 a1 n1 k1 (L.getD n []) (k + (sumL (L.take n) : Nat)) _ HX.out.2.1.fit (by omega) (by omega) (by omega)).mono ?_
      rintro e w2 ⟨rfl, F, G⟩
      have R2 : Hid (Tms w2 g c vs ∧ Lst w2 ex lo hi vs (markL k (L.take (n + 1)) ++ L.drop (n + 1)) ∧ Chg S w w2) := by
        refine ⟨R.out.1.still (G.block g R.out.1.lt (fun e => ?_)), ?_, R.out.2.2.trans (chg_of_blk G (fun x hx => (H0.out.2.2.2 _).2 (.inr ?_)))⟩
        · cases a1 with
          | none => cases e
          | some x => rw [blk_some] at e; exact HX.out.1 x rfl (by rw [← Option.some.inj e]; exact H0.out.2.2.1)
        · rw [← mark_step hnL, ← HN1.out]
          exact HP.out w2 _ G.size (fun j hj hb => G.block j hj hb) F
        · have := HX.out.2.1.range x hx
          exact ⟨by omega, by omega, HX.out.1 x hx⟩
      have e2 : k + (sumL (L.take n) : Nat) + (n1 : Int) = k + (sumL (L.take (n + 1)) : Nat) := by
        rw [take_snoc hnL, sumL_snoc, ← HN1.out]
        push_cast
        omega
      have E2 := hid e2
      clear R F G HP HX d1 e2
      go_wp2_with fail
      go_roundw
      case rel => exact ⟨n + 1, by omega, by go_num, by rw [E2.out], R2⟩
      case measure => simp [intOf]; omega
    · have hlt' : ¬ (n : Int) < (len : Int) := by omega
      go_wp2_with fail
      go_ret
      have e : n = L.length := by rw [← HL.out]; omega
      subst e
      have h1 := R.out
      rw [List.take_length, List.drop_length, List.append_nil] at h1
      refine ⟨by rw [List.take_length]; rfl, ⟨g, c, vs, lo, hi, ex, by rw [HL.out], h1.1, h1.2.1, H0.out.2.2.1, H0.out.2.2.2⟩, h1.2.2⟩

set_option maxRecDepth 100000 in
theorem lists_held {w : World} {S : Bs} {v : Value} {L : List (List Int)} {k : Int} (h : listsK.hld w S v L k) (hs : (L.length : Int) ≤ 1048576) (ht : (sumL L : Int) ≤ 1000000) (hk0 : 0 ≤ k) (hk1 : k ≤ 1000000000) :
    Calls Tryz.prog 33 #[v, .int .i64 k] w fun e w' => e = .returned (.int .i64 (k + (listsK.slots L : Nat))) ∧ Below w.heap.size w w' := by
  have HH : Hid (listsK.hld w S v L k) := h
  obtain ⟨g, c, vs, _, _, _, rfl, _, _⟩ := h
  obtain ⟨len, hlen⟩ : ∃ len, len = L.length := ⟨_, rfl⟩
  have HL : Hid (len = L.length) := hlen
  rw [← hlen] at hs ⊢
  show Calls _ _ _ _ fun e w' => e = .returned (.int .i64 (k + (sumL L : Nat))) ∧ _
  clear hlen
  go_enter Tryz.func33, Tryz.ntmps33
  go_wp2_with fail
  go_loopw [1, 5] (fun q i wr => ∃ n : Nat, n ≤ len ∧ i = .int .i64 n ∧ q = .int .i64 (k + (sumL (L.take n) : Nat)) ∧ Hid (Below w.heap.size w wr)) (fun _ i _ => len - (intOf i).toNat)
  case atStart => exact ⟨0, Nat.zero_le _, rfl, by simp [sumL], Below.refl _ _⟩
  case round =>
    obtain ⟨n, hn, rfl, rfl, B⟩ := hrel
    by_cases hlt : n < len
    · have hlt' : (n : Int) < (len : Int) := by omega
      have hnL : n < L.length := by rw [← HL.out]; exact hlt
      obtain ⟨h1, c1, vs1, lo1, hi1, ex1, e1, T1, l1, _, _⟩ := Knd.hall HH.out B.out
      cases e1
      obtain ⟨a1, n1, k1, p1, q1, i1, S1, _⟩ := l1.get (i := n) (by rw [markL_len]; exact hnL)
      rw [markL_get hnL] at S1
      have d1 := T1.cell i1
      have hb := sumL_get (L := L) (n := n) hnL
      have hn1 : n1 = (L.getD n []).length := by have := S1.fit.1; rw [marks_length] at this; exact this.symm
      rw [← hn1] at S1 hb
      have HX : Hid (Sl wr p1 q1 a1 n1 k1 (marks (k + (sumL (L.take n) : Nat)) n1)) := S1
      have hb2 : ¬ (k + (sumL (L.take n) : Nat) + (n1 : Int)) < 0 := by omega
      have e2 : k + (sumL (L.take n) : Nat) + (n1 : Int) = k + (sumL (L.take (n + 1)) : Nat) := by
        rw [take_snoc hnL, sumL_snoc, ← hn1]
        push_cast
        omega
      have E2 := hid e2
      clear S1 i1 l1 T1 e2 hn1
      go_wp2_with fail
      refine (heldInts_any a1 n1 k1 (k + (sumL (L.take n) : Nat)) _ HX.out.fit.ints (by omega) (by omega) (by omega)).mono ?_
      rintro e w2 ⟨rfl, B2⟩
      have BX : Hid (Below w.heap.size w w2) := below_call B.out B.out.size B2
      clear B2 d1 HX
      go_wp2_with fail
      go_roundw
      case rel => exact ⟨n + 1, by omega, by go_num, by rw [E2.out], BX⟩
      case measure => simp [intOf]; omega
    · have hlt' : ¬ (n : Int) < (len : Int) := by omega
      go_wp2_with fail
      go_ret
      have e : n = L.length := by rw [← HL.out]; omega
      subst e
      exact ⟨by rw [List.take_length]; rfl, B.out⟩

end Go.Proofs.YtjhenfdmbagaiaaGreat.Crew
