/-
  The next one, by impl: impl.SmoothNext.
-/
import Derived.Test.YtkfepehldjkedaaSmoothRich
import Derived.Test.YtkfepehldjkedaaSmoothNextS
import Derived.Deep.RegionWith
import Derived.Deep.DrawnRows
import Derived.Deep.CutRange
namespace Go.Proofs.Ytkfepehldjkedaa.Crew
open Go.ChangeShapes Go.WideShapes Go.ChangeAt Go.RowKit Go.Shelf

attribute [local go_sem] Oper.semAt_some
attribute [local go_sem ↓] Go.wp_at_zero Go.wp_at_succ

/-- What is filled in once some have come. -/
def fillR {n : Nat} (v : Nat → Int) (pre : List (Fin n)) : List Int := pre.foldl (fun l i => l.set i.1 (v i.1)) (List.replicate n 0)

theorem fillR_snoc {n : Nat} (v : Nat → Int) (pre : List (Fin n)) (x : Fin n) : fillR v (pre ++ [x]) = (fillR v pre).set x.1 (v x.1) := by simp [fillR]

theorem fillR_length {n : Nat} (v : Nat → Int) (pre : List (Fin n)) : (fillR v pre).length = n := by
  rw [fillR]
  suffices ∀ (l : List Int), (pre.foldl (fun l i => l.set i.1 (v i.1)) l).length = l.length by rw [this]; simp
  induction pre with
  | nil => intro l; rfl
  | cons x r ih => intro l; rw [List.foldl_cons, ih]; simp

theorem fillR_firsts {n : Nat} (p : List Int) (v : Nat → Int) (hp : ∀ k, k < n → p.getD k 0 = v k) (hl : p.length = n) (k : Nat) (hk : k ≤ n) : fillR v (firsts n k) = p.take k ++ List.replicate (n - k) 0 := by
  induction k with
  | zero => rw [firsts_zero]; simp [fillR]
  | succ k ih =>
    rw [firsts_succ (by omega), fillR_snoc, ih (by omega)]
    have h := take_step (xs := p) (k := k) (by omega)
    rw [hl] at h
    rw [← hp k (by omega)]
    exact h

theorem fillR_all {n : Nat} (p : List Int) (v : Nat → Int) (hp : ∀ k, k < n → p.getD k 0 = v k) (hl : p.length = n) : fillR v (firsts n n) = p := by
  rw [fillR_firsts p v hp hl n (Nat.le_refl _), List.take_of_length_le (by omega)]
  simp

theorem Lp.other {w : World} {s bo gC cC gR cR len : Nat} {cs row : List Int} {wr wr' : World} {r : Option Nat} (h : Lp w s bo gC cC gR cR len cs row wr) (g : wr.grownBy wr' r) (hr : ∀ i, r = some i → bo ≠ i ∧ gC ≠ i ∧ gR ≠ i ∧ s + 1 < i) : Lp w s bo gC cC gR cR len cs row wr' :=
  ⟨h.out.other g (fun e => (hr _ e.symm).1 rfl), h.crew.other g (fun e => (hr _ e.symm).2.1 rfl), h.rich.other g (fun e => (hr _ e.symm).2.2.1 rfl), h.res.other g (fun e => Nat.lt_irrefl _ (hr _ e.symm).2.2.2), h.bel.grown g (Nat.le_of_lt (Nat.lt_of_succ_lt h.res.lt)) (fun i e => Nat.le_of_lt (Nat.lt_of_succ_lt (hr i e).2.2.2))⟩

theorem pair_new_at {X : World} {n : Nat} (h : X.heap.size = n) (x y : Value) : Pair (X.alloc (.cells #[x, y] 31)) n x y := by
  subst h
  exact pair_new X x y

theorem Two.past {w : World} {b b' j : Nat} {x y : Value} (h : Two w b x y) (hb : b ≠ b') (v : Value) : Two (w.setCell ⟨b', j, none⟩ v) b x y := h.other (grown_at w b' j v) (by simpa using hb)

set_option maxRecDepth 100000 in
set_option maxHeartbeats 4000000 in
theorem implNext_on (b off b' off' len cap cap' : Nat) (cs rs : List Int) (w : World) (I : Ints w (some ⟨b, off, none⟩) len cs) (J : Ints w (some ⟨b', off', none⟩) len rs) (hk : smoothOk cs rs = true) :
    Calls Try.prog 22 #[sm (.slice (some ⟨b, off, none⟩) len cap) (.slice (some ⟨b', off', none⟩) len cap')] w fun e w' => ∃ b lb cb d ld cd, e = .returned (.tuple #[sm (.slice b lb cb) (.slice d ld cd), .int .i64 (nextK cs rs)]) ∧ Fit w' w.heap.size b lb cb (nextC cs rs) ∧ Fit w' w.heap.size d ld cd (nextR cs rs) ∧ Apart b d ∧ Below w.heap.size w w' := by
  obtain ⟨k1, k2, k3, k4⟩ := smooth_parts hk
  have hl := I.1
  have hl' := J.1
  have h24 : (len : Int) ≤ 24 := by have := crew_len k1; omega
  have h1n : 1 ≤ len := by have := crew_len k1; omega
  have hs : (len : Int) ≤ 1048576 := by omega
  have hm := made_ints len hs
  have HI : Hid (Ints w (some ⟨b, off, none⟩) len cs ∧ Ints w (some ⟨b', off', none⟩) len rs ∧ smoothOk cs rs = true) := ⟨I, J, hk⟩
  have HK : Hid (crewOk cs = true ∧ rs.length = cs.length ∧ richs rs = true ∧ cs.length = len ∧ rs.length = len) := ⟨k1, k2, k3, hl, hl'⟩
  clear I J hk k1 k2 k3 k4 hl hl'
  obtain ⟨X, hX⟩ : ∃ X : Value, X = .slice (some ⟨b, off, none⟩) len cap := ⟨_, rfl⟩
  obtain ⟨Y, hY⟩ : ∃ Y : Value, Y = .slice (some ⟨b', off', none⟩) len cap' := ⟨_, rfl⟩
  have hC : Hid (Below w.heap.size w ((w.alloc (.cells #[.slice (some ⟨b, off, none⟩) len cap, .slice (some ⟨b', off', none⟩) len cap'] 31)).alloc (.cells #[.slice none 0 0, .slice none 0 0] 31)) ∧ Pair ((w.alloc (.cells #[.slice (some ⟨b, off, none⟩) len cap, .slice (some ⟨b', off', none⟩) len cap'] 31)).alloc (.cells #[.slice none 0 0, .slice none 0 0] 31)) (w.heap.size + 1) (.slice none 0 0) (.slice none 0 0) ∧ Two ((w.alloc (.cells #[.slice (some ⟨b, off, none⟩) len cap, .slice (some ⟨b', off', none⟩) len cap'] 31)).alloc (.cells #[.slice none 0 0, .slice none 0 0] 31)) w.heap.size (.slice (some ⟨b, off, none⟩) len cap) (.slice (some ⟨b', off', none⟩) len cap')) := ⟨(below_new _ _).alloc (by simp) _, by have := pair_new (w.alloc (.cells #[.slice (some ⟨b, off, none⟩) len cap, .slice (some ⟨b', off', none⟩) len cap'] 31)) (.slice none 0 0) (.slice none 0 0); simpa using this, (two_new _ _ _ _).alloc _⟩
  clear X hX Y hY
  refine callsIn_wide.1 (callsIn_of_wp_marks (F := Fence.wide) (n := 5) Try.func22 rfl trivial (wpIn_wide.2 ?_) rfl)
  simp only [Try.ntmps22, List.size_toArray, List.length_cons, List.length_nil, Nat.reduceAdd, Nat.reduceSub, Array.replicate_succ, Array.replicate_zero, List.push_toArray, List.append_toArray, List.nil_append, List.cons_append]
  go_wp2_with fail
  refine (implSmooth _ len cap cs _ len cap' rs _ (HI.out.1.kept hC.out.1) (HI.out.2.1.kept hC.out.1)).mono ?_
  rw [HI.out.2.2]
  rintro e w1 ⟨rfl, B1⟩
  have T : Two w1 w.heap.size (.slice (some ⟨b, off, none⟩) len cap) (.slice (some ⟨b', off', none⟩) len cap') := hC.out.2.2.all B1
  have P : Pair w1 (w.heap.size + 1) (.slice none 0 0) (.slice none 0 0) := hC.out.2.1.all B1
  have C : Below w.heap.size w w1 := below_call hC.out.1 hC.out.1.size B1
  have lP := P.lt
  clear B1 hC
  have t0 := T.2.1
  have t1 := T.2.2
  have n1 : ¬ w.heap.size = w1.heap.size := by omega
  have n2 : ¬ w1.heap.size = w.heap.size := by omega
  have n3 : ¬ w.heap.size = w1.heap.size + 1 := by omega
  have n4 : ¬ w1.heap.size + 1 = w.heap.size := by omega
  have PN0 : Pair (w1.alloc (.cells #[.slice none 0 0, .slice none 0 0] 31)) w1.heap.size (.slice none 0 0) (.slice none 0 0) := pair_new _ _ _
  have PNM : Pair ((w1.alloc (.cells (zeros len) 2)).alloc (.cells #[.slice none 0 0, .slice none 0 0] 31)) (w1.heap.size + 1) (.slice none 0 0) (.slice none 0 0) := by
    have := pair_new (w1.alloc (.cells (zeros len) 2)) (.slice none 0 0) (.slice none 0 0)
    simpa using this
  go_upto_region 3 with fail
  go_cut [4] from 12 to 19 (fun q wx => ∃ bo gC gR : Nat, q = .pointer (some ⟨bo, 0, none⟩) ∧ Hid (Lp w w.heap.size bo gC len gR len len cs (List.replicate len 0) wx ∧ Two wx w.heap.size (.slice (some ⟨b, off, none⟩) len cap) (.slice (some ⟨b', off', none⟩) len cap') ∧ w.heap.size + 1 < bo ∧ w.heap.size + 1 < gC ∧ w.heap.size + 1 < gR ∧ gC ≠ gR ∧ bo ≠ gR ∧ bo ≠ gC))
  case first =>
    go_region_held3 (fun w' => w'.cell? ⟨w.heap.size, 0, none⟩ = some (.slice (some ⟨b, off, none⟩) len cap) ∧ w'.cell? ⟨w.heap.size, 1, none⟩ = some (.slice (some ⟨b', off', none⟩) len cap')) (go_keep)
      ((go_at_call 40; refine (copied_any _ len cap cs _ ?_ hs).mono ?_; (repeat (first | (with_reducible exact HI.out.1.kept C) | (with_reducible apply Ints.drew) | (with_reducible apply Ints.alloc))); rintro e u1 ⟨rfl, R1, B1⟩; have T : Two u1 w.heap.size (.slice (some ⟨b, off, none⟩) len cap) (.slice (some ⟨b', off', none⟩) len cap') := Two.all (by (repeat (first | (with_reducible exact T) | (with_reducible apply Two.drew) | (with_reducible apply Two.alloc)))) B1; have P : Pair u1 (w.heap.size + 1) (.slice none 0 0) (.slice none 0 0) := Pair.all (by (repeat (first | (with_reducible exact P) | (with_reducible apply Pair.drew) | (with_reducible apply Pair.alloc)))) B1; have t0 := T.2.1; have t1 := T.2.2; have n1 : ¬ w.heap.size = u1.heap.size := Nat.ne_of_lt T.1; have n2 : ¬ u1.heap.size = w.heap.size := Nat.ne_of_gt T.1; (first | ((with_reducible have q := Pair.all PNM.drew B1); have q0 := q.c0; have q1 := q.c1; have q2 := q.fr 0; have q3 := q.fr 1; have q4 := q.lt; have q5 := Nat.ne_of_lt q4; have q6 := Nat.ne_of_gt q4) | ((with_reducible have q := Pair.all PN0.drew B1); have q0 := q.c0; have q1 := q.c1; have q2 := q.fr 0; have q3 := q.fr 1; have q4 := q.lt; have q5 := Nat.ne_of_lt q4; have q6 := Nat.ne_of_gt q4) | ((with_reducible have q := Pair.all (Pair.alloc PN0 (.cells (zeros len) 2)).drew B1); have q0 := q.c0; have q1 := q.c1; have q2 := q.fr 0; have q3 := q.fr 1; have q4 := q.lt; have q5 := Nat.ne_of_lt q4; have q6 := Nat.ne_of_gt q4) | skip)))
    · have C1 : Below w.heap.size w u1 := below_call C.drew C.drew.size B1
      have R2 : Row u1 w1.heap.size len cs := R1
      have l2 := R2.lt
      have HX : Hid (Two u1 w.heap.size (.slice (some ⟨b, off, none⟩) len cap) (.slice (some ⟨b', off', none⟩) len cap') ∧ Pair u1 (w.heap.size + 1) (.slice none 0 0) (.slice none 0 0) ∧ Below w.heap.size w u1 ∧ Row u1 w1.heap.size len cs) := ⟨T, P, C1, R2⟩
      clear R1 B1 C1 R2 T P t0 t1 PN0 PNM
      go_wp2_with fail
      go_meet
      exact ⟨_, _, _, rfl, ⟨pair_new_at (by simp) _ _, (HX.out.2.2.2.alloc _).alloc _, (row_zeros_at rfl len hs).alloc _, (HX.out.2.1.alloc _).alloc _, (HX.out.2.2.1.alloc (by omega) _).alloc (by simp; omega) _⟩, (HX.out.1.alloc _).alloc _, by omega, by omega, by omega, by omega, by omega, by omega⟩
    · have C1 : Below w.heap.size w u1 := below_call C.drew C.drew.size B1
      have R2 : Row u1 w1.heap.size len cs := R1
      have l2 := R2.lt
      have HX : Hid (Two u1 w.heap.size (.slice (some ⟨b, off, none⟩) len cap) (.slice (some ⟨b', off', none⟩) len cap') ∧ Pair u1 (w.heap.size + 1) (.slice none 0 0) (.slice none 0 0) ∧ Below w.heap.size w u1 ∧ Row u1 w1.heap.size len cs) := ⟨T, P, C1, R2⟩
      clear R1 B1 C1 R2 T P t0 t1 PN0 PNM
      go_wp2_with fail
      go_meet
      exact ⟨_, _, _, rfl, ⟨(pair_new_at rfl _ _).alloc _, (HX.out.2.2.2.alloc _).alloc _, row_zeros_at (by simp) len hs, (HX.out.2.1.alloc _).alloc _, (HX.out.2.2.1.alloc (by omega) _).alloc (by simp; omega) _⟩, (HX.out.1.alloc _).alloc _, by omega, by omega, by omega, by omega, by omega, by omega⟩
    · have hz : (w1.alloc (.cells (zeros len) 2)).drew.heap.size = w1.heap.size + 1 := by simp
      have C1 : Below w.heap.size w u1 := below_call (C.alloc (by omega) (.cells (zeros len) 2)).drew (by rw [hz]; omega) B1
      have Z1 : Row u1 w1.heap.size len (List.replicate len 0) := Row.all (row_zeros_at rfl len hs).drew B1
      rw [hz] at R1
      have l2 := R1.lt
      have HX : Hid (Two u1 w.heap.size (.slice (some ⟨b, off, none⟩) len cap) (.slice (some ⟨b', off', none⟩) len cap') ∧ Pair u1 (w.heap.size + 1) (.slice none 0 0) (.slice none 0 0) ∧ Below w.heap.size w u1 ∧ Row u1 (w1.heap.size + 1) len cs ∧ Row u1 w1.heap.size len (List.replicate len 0)) := ⟨T, P, C1, R1, Z1⟩
      clear hz R1 B1 C1 Z1 T P t0 t1 PN0 PNM
      go_wp2_with fail
      go_meet
      exact ⟨_, _, _, rfl, ⟨pair_new_at rfl _ _, HX.out.2.2.2.1.alloc _, HX.out.2.2.2.2.alloc _, HX.out.2.1.alloc _, HX.out.2.2.1.alloc (by omega) _⟩, HX.out.1.alloc _, by omega, by omega, by omega, by omega, by omega, by omega⟩
    · have hz : ((w1.alloc (.cells (zeros len) 2)).alloc (.cells #[.slice none 0 0, .slice none 0 0] 31)).drew.heap.size = w1.heap.size + 1 + 1 := by simp
      have C1 : Below w.heap.size w u1 := below_call ((C.alloc (by omega) (.cells (zeros len) 2)).alloc (by simp; omega) (.cells #[.slice none 0 0, .slice none 0 0] 31)).drew (by rw [hz]; omega) B1
      have Z1 : Row u1 w1.heap.size len (List.replicate len 0) := Row.all ((row_zeros_at rfl len hs).alloc (.cells #[.slice none 0 0, .slice none 0 0] 31)).drew B1
      rw [hz] at R1
      have l2 := R1.lt
      have HX : Hid (Two u1 w.heap.size (.slice (some ⟨b, off, none⟩) len cap) (.slice (some ⟨b', off', none⟩) len cap') ∧ Pair u1 (w.heap.size + 1) (.slice none 0 0) (.slice none 0 0) ∧ Below w.heap.size w u1 ∧ Row u1 (w1.heap.size + 1 + 1) len cs ∧ Row u1 w1.heap.size len (List.replicate len 0) ∧ Pair u1 (w1.heap.size + 1) (.slice none 0 0) (.slice none 0 0)) := ⟨T, P, C1, R1, Z1, q⟩
      clear hz R1 B1 C1 Z1 T P t0 t1 PN0 PNM q q0 q1 q2 q3
      go_wp2_with fail
      go_meet
      exact ⟨_, _, _, rfl, ⟨(HX.out.2.2.2.2.2.set0 _).set1 _, (HX.out.2.2.2.1.past (by omega) _).past (by omega) _, (HX.out.2.2.2.2.1.past (by omega) _).past (by omega) _, (HX.out.2.1.past (by omega) _).past (by omega) _, below_set (below_set HX.out.2.2.1 (by omega) _) (by omega) _⟩, (HX.out.1.past (by omega) _).past (by omega) _, by omega, by omega, by omega, by omega, by omega, by omega⟩
    · have hz : (w1.alloc (.cells #[.slice none 0 0, .slice none 0 0] 31)).drew.heap.size = w1.heap.size + 1 := by simp
      have C1 : Below w.heap.size w u1 := below_call (C.alloc (by omega) (.cells #[.slice none 0 0, .slice none 0 0] 31)).drew (by rw [hz]; omega) B1
      rw [hz] at R1
      have l2 := R1.lt
      have HX : Hid (Two u1 w.heap.size (.slice (some ⟨b, off, none⟩) len cap) (.slice (some ⟨b', off', none⟩) len cap') ∧ Pair u1 (w.heap.size + 1) (.slice none 0 0) (.slice none 0 0) ∧ Below w.heap.size w u1 ∧ Row u1 (w1.heap.size + 1) len cs ∧ Pair u1 w1.heap.size (.slice none 0 0) (.slice none 0 0)) := ⟨T, P, C1, R1, q⟩
      clear hz R1 B1 C1 T P t0 t1 PN0 PNM q q0 q1 q2 q3
      go_wp2_with fail
      go_meet
      exact ⟨_, _, _, rfl, ⟨((HX.out.2.2.2.2.set0 _).set1 _).alloc _, ((HX.out.2.2.2.1.past (by omega) _).past (by omega) _).alloc _, row_zeros_at (by simp) len hs, ((HX.out.2.1.past (by omega) _).past (by omega) _).alloc _, (below_set (below_set HX.out.2.2.1 (by omega) _) (by omega) _).alloc (by simp; omega) _⟩, ((HX.out.1.past (by omega) _).past (by omega) _).alloc _, by omega, by omega, by omega, by omega, by omega, by omega⟩
    · have hz : ((w1.alloc (.cells #[.slice none 0 0, .slice none 0 0] 31)).alloc (.cells (zeros len) 2)).drew.heap.size = w1.heap.size + 1 + 1 := by simp
      have C1 : Below w.heap.size w u1 := below_call ((C.alloc (by omega) (.cells #[.slice none 0 0, .slice none 0 0] 31)).alloc (by simp; omega) (.cells (zeros len) 2)).drew (by rw [hz]; omega) B1
      have Z1 : Row u1 (w1.heap.size + 1) len (List.replicate len 0) := Row.all (row_zeros_at (by simp) len hs).drew B1
      rw [hz] at R1
      have l2 := R1.lt
      have HX : Hid (Two u1 w.heap.size (.slice (some ⟨b, off, none⟩) len cap) (.slice (some ⟨b', off', none⟩) len cap') ∧ Pair u1 (w.heap.size + 1) (.slice none 0 0) (.slice none 0 0) ∧ Below w.heap.size w u1 ∧ Row u1 (w1.heap.size + 1 + 1) len cs ∧ Row u1 (w1.heap.size + 1) len (List.replicate len 0) ∧ Pair u1 w1.heap.size (.slice none 0 0) (.slice none 0 0)) := ⟨T, P, C1, R1, Z1, q⟩
      clear hz R1 B1 C1 Z1 T P t0 t1 PN0 PNM q q0 q1 q2 q3
      go_wp2_with fail
      go_meet
      exact ⟨_, _, _, rfl, ⟨(HX.out.2.2.2.2.2.set0 _).set1 _, (HX.out.2.2.2.1.past (by omega) _).past (by omega) _, (HX.out.2.2.2.2.1.past (by omega) _).past (by omega) _, (HX.out.2.1.past (by omega) _).past (by omega) _, below_set (below_set HX.out.2.2.1 (by omega) _) (by omega) _⟩, (HX.out.1.past (by omega) _).past (by omega) _, by omega, by omega, by omega, by omega, by omega, by omega⟩
  case rest =>
    obtain ⟨bo, gC, gR, rfl, L⟩ := hcut
    clear t0 t1 n1 n2 n3 n4 T P C PN0 PNM lP hm
    obtain ⟨LL, TT, g1, g2, g3, d1, d2, d3⟩ := L.out
    have l1 := LL.out.lt
    have l2 := LL.crew.lt
    have l3 := LL.rich.lt
    have t0 := TT.2.1
    have t1 := TT.2.2
    have lb : b < w.heap.size := by
      rcases HI.out.1.2 with h | ⟨x, y, h, h', _⟩
      · omega
      · cases h; exact h'
    have lb' : b' < w.heap.size := by
      rcases HI.out.2.1.2 with h | ⟨x, y, h, h', _⟩
      · omega
      · cases h; exact h'
    obtain ⟨p, hp⟩ : ∃ p, p = paidL cs rs := ⟨_, rfl⟩
    have hpl : p.length = len := by rw [hp, paid_length HK.out.2.1, HK.out.2.2.2.2]
    obtain ⟨v, hv⟩ : ∃ v : Nat → Int, ∀ k, k < len → p.getD k 0 = v k := ⟨_, fun _ _ => rfl⟩
    have hv' : ∀ k, k < len → rs.getD k 0 + cs.getD k 0 = v k := fun k hk => by rw [← hv k hk, hp]; exact (paid_get HK.out.2.1 (by rw [HK.out.2.2.2.2]; exact hk)).symm
    have HP : Hid (p = paidL cs rs ∧ p.length = len ∧ (∀ k, k < len → p.getD k 0 = v k) ∧ ∀ k, k < len → rs.getD k 0 + cs.getD k 0 = v k) := ⟨hp, hpl, hv, hv'⟩
    clear hp hpl hv hv' LL TT
    go_wp2_with fail
    clear t0 t1
    refine (paid_any _ _ _).mono ?_
    rintro e w3 ⟨rfl, rfl⟩
    have M : Hid (Lp w w.heap.size bo gC len gR len len cs (List.replicate len 0) (wc.alloc (.cells #[(.slice (some ⟨b, off, none⟩) len cap), (.slice (some ⟨b', off', none⟩) len cap')] 31)) ∧ Two (wc.alloc (.cells #[(.slice (some ⟨b, off, none⟩) len cap), (.slice (some ⟨b', off', none⟩) len cap')] 31)) w.heap.size (.slice (some ⟨b, off, none⟩) len cap) (.slice (some ⟨b', off', none⟩) len cap') ∧ Pair (wc.alloc (.cells #[(.slice (some ⟨b, off, none⟩) len cap), (.slice (some ⟨b', off', none⟩) len cap')] 31)) wc.heap.size (.slice (some ⟨b, off, none⟩) len cap) (.slice (some ⟨b', off', none⟩) len cap')) := ⟨L.out.1.all (below_new _ _), L.out.2.1.alloc _, pair_new _ _ _⟩
    have hz : (wc.alloc (.cells #[(.slice (some ⟨b, off, none⟩) len cap), (.slice (some ⟨b', off', none⟩) len cap')] 31)).heap.size = wc.heap.size + 1 := by simp
    go_wp2_with fail
    generalize wc.alloc (.cells #[(.slice (some ⟨b, off, none⟩) len cap), (.slice (some ⟨b', off', none⟩) len cap')] 31) = W0 at *
    generalize wc.heap.size = B at *
    clear L
    have C0 := M.out.1.bel
    have cI : ∀ j, j < len → W0.cell? ⟨b, off + j, none⟩ = some (.int .i64 (cs.getD j 0)) := by
      rcases (HI.out.1.kept C0).2 with h | ⟨x, y, h, h', h2⟩
      · omega
      · cases h; exact h2
    have cJ : ∀ j, j < len → W0.cell? ⟨b', off' + j, none⟩ = some (.int .i64 (rs.getD j 0)) := by
      rcases (HI.out.2.1.kept C0).2 with h | ⟨x, y, h, h', h2⟩
      · omega
      · cases h; exact h2
    refine wpIn_wide.1 (wpIn_rangeFunc_ownF (F := Fence.wide) (n := 5) rfl (by omega) (gf := 64) (lb := #[.pointer (some ⟨B, 0, none⟩)]) rfl trivial (enters_of Try.func64 (by kernel_rfl) rfl)
      (paid_stops Fence.wide 4 trivial rfl (by omega) B b off b' off' len cap cap' cs rs v HP.out.2.2.2 (crew_get HK.out.1) (richs_get HK.out.2.2.1) h24 W0 (by omega) (by omega) (by omega) M.out.2.2.c0 M.out.2.2.c1 cI cJ)
      (fun h k => Keep.trans h k) (fun W l o o' hl _ _ _ => Keep.put (s := W0.heap.size) (by omega) (by omega) (by omega) W l o' hl) (Below.refl _ _) (fun _ => rfl)
      (fun pre W => Lp w w.heap.size bo gC len gR len len cs (fillR v pre) W ∧ Two W w.heap.size (.slice (some ⟨b, off, none⟩) len cap) (.slice (some ⟨b', off', none⟩) len cap'))
      (fun _ _ _ => False)
      (fun s A B' row hs hg hr => ⟨hs.1.other hg (fun i e => by have := (hr _ e).1; omega), hs.2.other hg (fun e => by have := (hr _ e.symm).1; omega)⟩)
      (fun _ _ _ _ _ hs _ _ => hs)
      ⟨by have := M.out.1; rwa [show fillR v ([] : List (Fin len)) = List.replicate len 0 from rfl], M.out.2.1⟩
      (fun x => { tmps := #[sm (.slice (some ⟨b, off, none⟩) len cap) (.slice (some ⟨b', off', none⟩) len cap'), .pointer (some ⟨w.heap.size, 0, none⟩), .pointer (some ⟨w.heap.size + 1, 0, none⟩), .int .i64 0, .pointer (some ⟨bo, 0, none⟩), .int .i64 ((x.1 : Nat) : Int), .int .i64 (v x.1), undef, .agg #[(.slice (some ⟨b, off, none⟩) len cap), (.slice (some ⟨b', off', none⟩) len cap')], .bool true, .bool false, undef, u12, u13, u14, u15, u16, u17, u18, u19, .agg #[(.slice (some ⟨b, off, none⟩) len cap), (.slice (some ⟨b', off', none⟩) len cap')], .func (.func 64) #[] #[.pointer (some ⟨B, 0, none⟩)], .int .i64 ((x.1 : Nat) : Int), .int .i64 (v x.1), undef, undef, undef, undef, undef, undef, undef, undef, undef, undef, undef, undef, undef, undef, undef, undef, undef, undef, undef, undef, undef, undef, undef], defers := [] }) ?assign ?body ?done ?stop)
    case assign =>
      intro l x W K hK
      gi_wp2
      exact hK
    case body =>
      rintro l pre x W ⟨hL, hT⟩ _
      obtain ⟨i, hi⟩ := x
      have o1 := hL.out.c1
      have f1 := hL.rich.frozen i
      obtain ⟨y, c1⟩ : ∃ y, W.cell? ⟨gR, i, none⟩ = some (.int .i64 y) := ⟨_, hL.rich.cell (j := i) (by rw [fillR_length]; exact hi)⟩
      have hi' : (i : Int) < (len : Int) := by omega
      have hi0 : (0 : Int) ≤ (i : Int) := by omega
      have HH : Hid (Lp w w.heap.size bo gC len gR len len cs (fillR v pre) W ∧ Two W w.heap.size (.slice (some ⟨b, off, none⟩) len cap) (.slice (some ⟨b', off', none⟩) len cap')) := ⟨hL, hT⟩
      clear hL hT
      gi_wp2
      refine ⟨KeepsOthers.setCell _ _ _, Keep.set (by omega) (by omega) (by omega) _ _ _, ?_⟩
      dsimp only
      rw [fillR_snoc]
      exact ⟨HH.out.1.set i _ (by omega) d1 d2, HH.out.2.past (by omega) _⟩
    case done =>
      rintro D ys W hD rfl ⟨hL, hT⟩ hK
      rw [fillR_all p v HP.out.2.2.1 HP.out.2.1] at hL
      have t0 := hT.2.1
      have t1 := hT.2.2
      have HH : Hid (Lp w w.heap.size bo gC len gR len len cs p W ∧ Two W w.heap.size (.slice (some ⟨b, off, none⟩) len cap) (.slice (some ⟨b', off', none⟩) len cap') ∧ W.heap[D]? = some (.deferred (some []))) := ⟨hL, hT, hK⟩
      clear hL hT hK
      go_wp2_with fail
      clear t0 t1
      refine (richest_any b off b' off' len cap cap' cs rs _ (HI.out.1.kept HH.out.1.bel) (HI.out.2.1.kept HH.out.1.bel) HI.out.2.2).mono ?_
      rintro e w5 ⟨rfl, B5⟩
      have H5 : Hid (Lp w w.heap.size bo gC len gR len len cs p w5 ∧ Two w5 w.heap.size (.slice (some ⟨b, off, none⟩) len cap) (.slice (some ⟨b', off', none⟩) len cap') ∧ w5.heap[D]? = some (.deferred (some []))) := ⟨HH.out.1.all B5, HH.out.2.1.all B5, (B5.block D (Array.getElem?_eq_some_iff.1 HH.out.2.2).1).trans HH.out.2.2⟩
      clear HH B5 M cI cJ C0
      obtain ⟨k, hk⟩ : ∃ k, k = best cs rs := ⟨_, rfl⟩
      have hkl : k < len := by rw [hk, best, HK.out.2.2.2.2]; exact best_lt _ (by omega)
      rw [← hk]
      obtain ⟨m, hm⟩ : ∃ m, m = p.getD k 0 := ⟨_, rfl⟩
      obtain ⟨t, ht⟩ : ∃ t, t = sumI cs := ⟨_, rfl⟩
      have c1 := H5.out.1.rich.cell (j := k) (by rw [HP.out.2.1]; exact hkl)
      rw [← hm] at c1
      have f1 := H5.out.1.rich.frozen k
      have o1 := H5.out.1.out.c1
      have t0 := H5.out.2.1.2.1
      have hk0 : (0 : Int) ≤ (k : Int) := by omega
      have hk1 : (k : Int) < (len : Int) := by omega
      have bt := crew_sum HK.out.1
      rw [← ht] at bt
      have bm : -100000000 ≤ m ∧ m ≤ 101000000 := by
        rw [hm, HP.out.1, paid_get HK.out.2.1 (by rw [HK.out.2.2.2.2]; exact hkl)]
        have h1 := richs_get HK.out.2.2.1 k
        have h2 := crew_get HK.out.1 k
        omega
      have HW : Hid (IntKind.i64.wrap (m - t) = m - t) := by
        show _ = _
        rw [IntKind.wrap_i64]
        omega
      have HS : Hid (∀ x : World, Below w.heap.size w x → Calls Try.prog 51 #[(.slice (some ⟨b, off, none⟩) len cap)] x fun e w' => e = .returned (.int .i64 t) ∧ w' = x) := by
        intro x hx
        have h := implTotal _ len cap cs x (HI.out.1.kept hx)
        rw [totalOf, if_pos HK.out.1, ← ht] at h
        exact h
      have HM : Hid (k = best cs rs ∧ m = p.getD k 0 ∧ t = sumI cs) := ⟨hk, hm, ht⟩
      clear hk hm ht
      go_upto_region 9 with fail
      go_cut [7] from 31 to 40 (fun q wx => q = .int .i64 k ∧ Hid (Lp w w.heap.size bo gC len gR len len cs (p.set k (m - t)) wx ∧ wx.heap[D]? = some (.deferred (some []))))
      case first =>
        refine wp_region_noPanic ?_
        go_region_with (go_at_call 51; refine (HS.out _ (by first | (exact H5.out.1.bel) | (exact H5.out.1.bel.drew))).mono ?_; rintro e w6 ⟨rfl, rfl⟩)
        all_goals
          refine NoPanic.normal ?_
          go_wp2_with fail
          go_meet
          refine ⟨rfl, ?_⟩
          rw [HW.out]
          refine ⟨(H5.out.1.set k (m - t) (by omega) d1 d2).drew, ?_⟩
          exact (heap_setCell_other w5 ⟨gR, k, none⟩ D _ (by simp; omega)).trans H5.out.2.2
      case rest =>
        obtain ⟨rfl, L5⟩ := hcut
        have E : Hid (p.set k (m - t) = stepR cs rs) := by
          show _ = _
          rw [stepR, HM.out.2.1, HM.out.2.2, HM.out.1, HP.out.1]
        have Q5 : Hid (Ints wc (some ⟨gC, 0, none⟩) len cs ∧ Ints wc (some ⟨gR, 0, none⟩) len (stepR cs rs) ∧ Lp w w.heap.size bo gC len gR len len cs (stepR cs rs) wc ∧ wc.heap[D]? = some (.deferred (some []))) := by
          have h := L5.out.1
          rw [E.out] at h
          have h1 := h.crew.ints
          have h2 := h.rich.ints
          rw [HK.out.2.2.2.1] at h1
          rw [step_length HK.out.2.1, HK.out.2.2.2.2] at h2
          exact ⟨h1, h2, h, L5.out.2⟩
        clear o1 c1 f1 t0 L5 H5 HS hk0 hk1 bt bm
        have o0 := Q5.out.2.2.1.out.c0
        have o1 := Q5.out.2.2.1.out.c1
        have sD : D < wc.heap.size := (Array.getElem?_eq_some_iff.1 Q5.out.2.2.2).1
        cases hn : smoothOk cs (stepR cs rs)
        · have HN : Hid (smoothOk cs (stepR cs rs) = false) := hn
          have NN : Hid (nextOk cs rs = false) := (next_at HI.out.2.2).trans hn
          clear hn
          go_wp2_with fail
          refine (implSmooth _ len len cs _ len len (stepR cs rs) _ Q5.out.1 Q5.out.2.1).mono ?_
          rw [HN.out]
          rintro e w6 ⟨rfl, B6⟩
          have L6 : Hid (Lp w w.heap.size bo gC len gR len len cs (stepR cs rs) w6 ∧ w6.heap[D]? = some (.deferred (some []))) := ⟨Q5.out.2.2.1.all B6, (B6.block D sD).trans Q5.out.2.2.2⟩
          clear B6 o0 o1
          have p0 := L6.out.1.res.c0
          have p1 := L6.out.1.res.c1
          have f0 := L6.out.1.res.fr 0
          have f1 := L6.out.1.res.fr 1
          go_wp2_with fail
          have hK' : ((w6.setCell ⟨w.heap.size + 1, 0, none⟩ (.slice none 0 0)).setCell ⟨w.heap.size + 1, 1, none⟩ (.slice none 0 0)).heap[D]? = some (.deferred (some [])) := ((heap_setCell_other _ _ _ _ (by simp; omega)).trans (heap_setCell_other _ _ _ _ (by simp; omega))).trans L6.out.2
          refine ⟨by simp, .inl ⟨_, _, rfl, run_takeDeferred hK', ?_⟩⟩
          refine ⟨_, ret_pair2 rfl rfl rfl (((L6.out.1.res.set0 _).set1 _).other (grownBy_putObj' _ D _) (by simp; omega)), ?_⟩
          rw [(next_no NN.out).1, (next_no NN.out).2.1, (next_no NN.out).2.2]
          exact ⟨_, _, _, _, _, _, rfl, fit_nil _ _, fit_nil _ _, apart_none _, (below_set (below_set L6.out.1.bel (by omega) _) (by omega) _).grown (grownBy_putObj' _ D _) (by simp; have := L6.out.1.bel.size; omega) (fun i e => by cases e; omega)⟩
        · have HN : Hid (smoothOk cs (stepR cs rs) = true) := hn
          have NN : Hid (nextOk cs rs = true) := (next_at HI.out.2.2).trans hn
          clear hn
          go_wp2_with fail
          refine (implSmooth _ len len cs _ len len (stepR cs rs) _ Q5.out.1 Q5.out.2.1).mono ?_
          rw [HN.out]
          rintro e w6 ⟨rfl, B6⟩
          have L6 : Hid (Lp w w.heap.size bo gC len gR len len cs (stepR cs rs) w6 ∧ w6.heap[D]? = some (.deferred (some []))) := ⟨Q5.out.2.2.1.all B6, (B6.block D sD).trans Q5.out.2.2.2⟩
          clear B6 o0 o1
          have o0 := L6.out.1.out.c0
          have o1 := L6.out.1.out.c1
          have p0 := L6.out.1.res.c0
          have p1 := L6.out.1.res.c1
          have f0 := L6.out.1.res.fr 0
          have f1 := L6.out.1.res.fr 1
          go_wp2_with fail
          have hK' : ((w6.setCell ⟨w.heap.size + 1, 0, none⟩ (.slice (some ⟨gC, 0, none⟩) len len)).setCell ⟨w.heap.size + 1, 1, none⟩ (.slice (some ⟨gR, 0, none⟩) len len)).heap[D]? = some (.deferred (some [])) := ((heap_setCell_other _ _ _ _ (by simp; omega)).trans (heap_setCell_other _ _ _ _ (by simp; omega))).trans L6.out.2
          refine ⟨by simp, .inl ⟨_, _, rfl, run_takeDeferred hK', ?_⟩⟩
          refine ⟨_, ret_pair2 rfl rfl rfl (((L6.out.1.res.set0 _).set1 _).other (grownBy_putObj' _ D _) (by simp; omega)), ?_⟩
          rw [(next_yes NN.out).1, (next_yes NN.out).2.1, (next_yes NN.out).2.2, ← HM.out.1]
          refine ⟨_, _, _, _, _, _, rfl, ?_, ?_, ?_, ?_⟩
          · exact (((L6.out.1.crew.past (by omega) _).past (by omega) _).other (grownBy_putObj' _ D _) (by simp; omega)).fit (by omega) HK.out.2.2.2.1
          · exact (((L6.out.1.rich.past (by omega) _).past (by omega) _).other (grownBy_putObj' _ D _) (by simp; omega)).fit (by omega) (by rw [step_length HK.out.2.1, HK.out.2.2.2.2])
          · exact fun x y hx hy => by cases hx; cases hy; exact d1
          · exact (below_set (below_set L6.out.1.bel (by omega) _) (by omega) _).grown (grownBy_putObj' _ D _) (by simp; have := L6.out.1.bel.size; omega) (fun i e => by cases e; omega)
    case stop =>
      rintro D c pre W _ _ h _
      exact h.elim

theorem implNext_off (a : Option Addr) (len cap : Nat) (cs : List Int) (a' : Option Addr) (len' cap' : Nat) (rs : List Int) (w : World) (I : Ints w a len cs) (J : Ints w a' len' rs) (hk : smoothOk cs rs = false) :
    Calls Try.prog 22 #[sm (.slice a len cap) (.slice a' len' cap')] w fun e w' => e = .returned (.tuple #[sm (.slice none 0 0) (.slice none 0 0), .int .i64 (-1)]) ∧ Below w.heap.size w w' := by
  have HI : Hid (Ints w a len cs ∧ Ints w a' len' rs ∧ smoothOk cs rs = false) := ⟨I, J, hk⟩
  clear I J hk
  have C := below_new w (.cells #[.slice a len cap, .slice a' len' cap'] 31)
  have hC : Hid (Below w.heap.size w ((w.alloc (.cells #[.slice a len cap, .slice a' len' cap'] 31)).alloc (.cells #[.slice none 0 0, .slice none 0 0] 31)) ∧ Pair ((w.alloc (.cells #[.slice a len cap, .slice a' len' cap'] 31)).alloc (.cells #[.slice none 0 0, .slice none 0 0] 31)) (w.heap.size + 1) (.slice none 0 0) (.slice none 0 0)) := ⟨C.alloc (by simp) _, pair_new_at (by simp) _ _⟩
  clear C
  refine callsIn_wide.1 (callsIn_of_wp_marks (F := Fence.wide) (n := 5) Try.func22 rfl trivial (wpIn_wide.2 ?_) rfl)
  simp only [Try.ntmps22, List.size_toArray, List.length_cons, List.length_nil, Nat.reduceAdd, Nat.reduceSub, Array.replicate_succ, Array.replicate_zero, List.push_toArray, List.append_toArray, List.nil_append, List.cons_append]
  go_wp2_with fail
  refine (implSmooth a len cap cs a' len' cap' rs _ (HI.out.1.kept hC.out.1) (HI.out.2.1.kept hC.out.1)).mono ?_
  rw [HI.out.2.2]
  rintro e w1 ⟨rfl, B1⟩
  have H1 : Hid (Below w.heap.size w w1 ∧ Pair w1 (w.heap.size + 1) (.slice none 0 0) (.slice none 0 0)) := ⟨below_call hC.out.1 hC.out.1.size B1, hC.out.2.all B1⟩
  clear B1 hC
  have p0 := H1.out.2.c0
  have p1 := H1.out.2.c1
  have f0 := H1.out.2.fr 0
  have f1 := H1.out.2.fr 1
  go_wp2_with fail
  exact ⟨_, ret_pair2 rfl rfl rfl ((H1.out.2.set0 _).set1 _), rfl, below_set (below_set H1.out.1 (by omega) _) (by omega) _⟩

/-- impl.SmoothNext at every two slices. -/
theorem implNext (a : Option Addr) (len cap : Nat) (cs : List Int) (a' : Option Addr) (len' cap' : Nat) (rs : List Int) (w : World) (I : Ints w a len cs) (J : Ints w a' len' rs) :
    Calls Try.prog 22 #[sm (.slice a len cap) (.slice a' len' cap')] w fun e w' => ∃ b lb cb d ld cd, e = .returned (.tuple #[sm (.slice b lb cb) (.slice d ld cd), .int .i64 (nextK cs rs)]) ∧ Fit w' w.heap.size b lb cb (nextC cs rs) ∧ Fit w' w.heap.size d ld cd (nextR cs rs) ∧ Apart b d ∧ Below w.heap.size w w' := by
  cases hk : smoothOk cs rs
  · have hn := next_off hk
    rw [(next_no hn).1, (next_no hn).2.1, (next_no hn).2.2]
    refine (implNext_off a len cap cs a' len' cap' rs w I J hk).mono ?_
    rintro e w' ⟨rfl, B⟩
    exact ⟨_, _, _, _, _, _, rfl, fit_nil _ _, fit_nil _ _, apart_none _, B⟩
  · obtain ⟨k1, k2, k3, k4⟩ := smooth_parts hk
    have h1 := I.1
    have h2 := J.1
    have h3 := crew_len k1
    have e : len' = len := by omega
    subst e
    rcases I.2 with h | ⟨b, off, rfl, _, _⟩
    · omega
    rcases J.2 with h | ⟨b', off', rfl, _, _⟩
    · omega
    exact implNext_on b off b' off' len' cap cap' cs rs w I J hk

theorem nextC_len (cs rs : List Int) : (nextC cs rs).length ≤ 24 := by
  cases h : nextOk cs rs
  · rw [(next_no h).1]; simp
  · rw [(next_yes h).1]
    simp only [nextOk, Bool.and_eq_true] at h
    exact (crew_len (smooth_parts h.1).1).2

theorem nextR_len (cs rs : List Int) : (nextR cs rs).length ≤ 24 := by
  cases h : nextOk cs rs
  · rw [(next_no h).2.1]; simp
  · rw [(next_yes h).2.1]
    simp only [nextOk, Bool.and_eq_true] at h
    have h1 := smooth_parts h.1
    rw [step_length h1.2.1, h1.2.1]
    exact (crew_len h1.1).2

end Go.Proofs.Ytkfepehldjkedaa.Crew
