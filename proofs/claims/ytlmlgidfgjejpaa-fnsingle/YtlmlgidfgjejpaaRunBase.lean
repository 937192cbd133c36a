/-
  What runs have in common whose answer is two new slices: the counts then, and who was taken.
-/
import Derived.Test.YtlmlgidfgjejpaaSmoothAns
namespace Go.Proofs.Ytlmlgidfgjejpaa.Crew
open Go.ChangeShapes Go.WideShapes Go.ChangeAt Go.RowKit

/-- What the loop of a run knows: the counts in block g, who it was in block h. -/
structure Sr (w : World) (g cg h ch : Nat) (xs ys : List Int) (wr : World) : Prop where
  bel : Below w.heap.size w wr
  cnt : Row wr g cg xs
  out : Row wr h ch ys
  lg : w.heap.size ≤ g
  lh : w.heap.size ≤ h
  ne : g ≠ h

theorem Sr.all {w : World} {g cg h ch : Nat} {xs ys : List Int} {wr w' : World} (H : Sr w g cg h ch xs ys wr) (B : Below wr.heap.size wr w') : Sr w g cg h ch xs ys w' :=
  ⟨below_call H.bel H.bel.size B, H.cnt.all B, H.out.all B, H.lg, H.lh, H.ne⟩

theorem Sr.set {w : World} {g cg h ch : Nat} {xs ys : List Int} {wr : World} (H : Sr w g cg h ch xs ys wr) (j : Nat) (v : Int) : Sr w g cg h ch (xs.set j v) ys (wr.setCell ⟨g, j, none⟩ (.int .i64 v)) :=
  ⟨below_set H.bel H.lg _, H.cnt.set j v, H.out.past (Ne.symm H.ne) _, H.lg, H.lh, H.ne⟩

theorem Sr.append {w : World} {g cg h ch : Nat} {xs ys zs : List Int} {wr w' : World} (H : Sr w g cg h ch xs ys wr) {h' ch' : Nat} (R : Row w' h' ch' zs) (G : wr.grownBy w' (some h)) (D : h' = h ∨ h' = wr.heap.size) : Sr w g cg h' ch' xs zs w' := by
  have hs := H.bel.size
  have hg := H.cnt.lt
  refine ⟨H.bel.grown G hs (fun i e => by cases e; exact H.lh), H.cnt.other G (by simpa using H.ne), R, H.lg, ?_, ?_⟩
  · rcases D with rfl | rfl
    · exact H.lh
    · exact hs
  · rcases D with rfl | rfl
    · exact H.ne
    · omega

theorem sr_start {w w1 : World} {g cg : Nat} {xs : List Int} (B : Below w.heap.size w w1) (R : Row w1 g cg xs) (hg : w.heap.size ≤ g) : Sr w g cg w1.heap.size 0 xs [] (w1.alloc (.cells #[] 2)) :=
  ⟨below_call B B.size (below_new _ _), R.alloc _, row_nil w1, hg, B.size, Nat.ne_of_lt R.lt⟩

theorem ints_put {X : World} {n : Nat} (h : X.heap.size = n) (x : Int) (t : TypeId) : Ints (X.alloc (.cells #[.int .i64 x] t)) (some ⟨n, 0, none⟩) 1 [x] := by
  subst h
  exact ints_one X x t

theorem fill_step {l : List Int} {k N : Nat} (x : Int) (hl : l.length = k) (hk : k < N) : (l ++ List.replicate (N - k) 0).set k x = (l ++ [x]) ++ List.replicate (N - (k + 1)) 0 := by
  rw [show N - k = (N - (k + 1)) + 1 by omega, List.replicate_succ, List.set_append_right _ _ (by omega), hl, Nat.sub_self, List.set_cons_zero, List.append_assoc]
  rfl

/-- Two new slices that read so. -/
def TwoPost (C D : List Int) (w : World) (e : Ending) (w' : World) : Prop :=
  ∃ b lb cb d ld cd, e = .returned (.tuple #[.slice b lb cb, .slice d ld cd]) ∧ Fit w' w.heap.size b lb cb C ∧ Fit w' w.heap.size d ld cd D ∧ Apart b d ∧ Below w.heap.size w w'

/-- Nothing and nothing. -/
theorem two_end {C D : List Int} (hC : C = []) (hD : D = []) {w X : World} {g : Nat} (hX : X.heap.size = g) (B : Below w.heap.size w X) :
    TwoPost C D w (.returned (.tuple #[.slice (some ⟨g, 0, none⟩) 0 0, .slice (some ⟨g + 1, 0, none⟩) 0 0])) ((X.alloc (.cells #[] 2)).alloc (.cells #[] 2)) := by
  subst hX
  have hs := B.size
  have r2 : Row ((X.alloc (.cells #[] 2)).alloc (.cells #[] 2)) (X.heap.size + 1) 0 [] := by
    have := row_nil (X.alloc (.cells #[] 2))
    simpa using this
  refine ⟨_, _, _, _, _, _, rfl, ?_, ?_, fun x y hx hy => (by cases hx; cases hy; simp), (B.alloc hs _).alloc (by simp; omega) _⟩
  · rw [hC]; exact ((row_nil X).alloc _).fit hs rfl
  · rw [hD]; exact r2.fit (by omega) rfl

theorem Sr.two {w : World} {g cg h ch : Nat} {xs ys : List Int} {wr : World} {lg lh : Nat} {C D : List Int} (H : Sr w g cg h ch xs ys wr) (hC : C = xs) (hD : D = ys) (hl : xs.length = lg) (hh : ys.length = lh) :
    TwoPost C D w (.returned (.tuple #[.slice (some ⟨g, 0, none⟩) lg cg, .slice (some ⟨h, 0, none⟩) lh ch])) wr := by
  refine ⟨_, _, _, _, _, _, rfl, ?_, ?_, fun x y hx hy => (by cases hx; cases hy; exact H.ne), H.bel⟩
  · rw [hC]; exact H.cnt.fit H.lg hl
  · rw [hD]; exact H.out.fit H.lh hh

end Go.Proofs.Ytlmlgidfgjejpaa.Crew
