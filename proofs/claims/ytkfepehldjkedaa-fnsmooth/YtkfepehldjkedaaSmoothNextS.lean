/-
  The next one, by spec: spec.l6Copy and spec.SmoothNext.
-/
import Derived.Test.YtkfepehldjkedaaSmoothAns
import Derived.Test.YtkfepehldjkedaaSmoothMath
import Derived.Deep.QuietTactic
namespace Go.Proofs.Ytkfepehldjkedaa.Crew
open Go.ChangeShapes Go.WideShapes Go.ChangeAt Go.RowKit

/-- spec.l6Copy: a copy in two blocks of its own. -/
theorem copy6_any (a : Option Addr) (len cap : Nat) (xs : List Int) (a' : Option Addr) (len' cap' : Nat) (ys : List Int) (w : World) (I : Ints w a len xs) (J : Ints w a' len' ys) (hs : (len : Int) ≤ 1048576) (hs' : (len' : Int) ≤ 1048576) :
    Calls Try.prog 52 #[sm (.slice a len cap) (.slice a' len' cap')] w fun e w' => ∃ g c h d : Nat, e = .returned (sm (.slice (some ⟨g, 0, none⟩) len c) (.slice (some ⟨h, 0, none⟩) len' d)) ∧ Row w' g c xs ∧ Row w' h d ys ∧ w.heap.size ≤ g ∧ w.heap.size ≤ h ∧ g ≠ h ∧ Below w.heap.size w w' := by
  obtain ⟨W0, hW0⟩ : ∃ W0, W0 = (w.alloc (.cells #[.slice a len cap, .slice a' len' cap'] 31)).alloc (.cells #[.slice none 0 0, .slice none 0 0] 31) := ⟨_, rfl⟩
  have hz : W0.heap.size = w.heap.size + 2 := by rw [hW0]; simp
  have T : Two W0 w.heap.size (.slice a len cap) (.slice a' len' cap') := by rw [hW0]; exact (two_new _ _ _ _).alloc _
  have P : Pair W0 (w.heap.size + 1) (.slice none 0 0) (.slice none 0 0) := by
    rw [hW0]
    have := pair_new (w.alloc (.cells #[.slice a len cap, .slice a' len' cap'] 31)) (.slice none 0 0) (.slice none 0 0)
    simpa using this
  have C : Below w.heap.size w W0 := by rw [hW0]; exact (below_new _ _).alloc (by simp) _
  have HI : Hid (Ints w a len xs ∧ Ints w a' len' ys) := ⟨I, J⟩
  clear I J
  go_enter Try.func52, Try.ntmps52
  go_wp2_with fail
  rw [← hW0]
  clear hW0
  have t0 := T.2.1
  have t1 := T.2.2
  go_region_held3 (fun w' => w'.cell? ⟨w.heap.size, 0, none⟩ = some (.slice a len cap) ∧ w'.cell? ⟨w.heap.size, 1, none⟩ = some (.slice a' len' cap')) (go_keep)
    (first | (go_at_call_of 56 (Value.slice a len cap); refine (copy_any a len cap xs _ ?_ hs).mono ?_; (first | (exact HI.out.1.kept C) | (exact HI.out.1.kept C.drew)); rintro e u1 ⟨g1, c1, rfl, R1, hg1, B1⟩; have T : Two u1 w.heap.size (.slice a len cap) (.slice a' len' cap') := (by first | (exact Two.all T B1) | (exact Two.all (w := W0.drew) T B1)); have P : Pair u1 (w.heap.size + 1) (.slice none 0 0) (.slice none 0 0) := (by first | (exact Pair.all P B1) | (exact Pair.all (w := W0.drew) P B1)); have C : Below w.heap.size w u1 := (by first | (exact below_call C C.size B1) | (exact below_call C.drew C.drew.size B1)); have t0 := T.2.1; have t1 := T.2.2; have p0 := P.c0; have p1 := P.c1; have f0 := P.fr 0; have f1 := P.fr 1) | (go_at_call_of 56 (Value.slice a' len' cap'); refine (copy_any a' len' cap' ys _ ?_ hs').mono ?_; (first | (exact HI.out.2.kept C) | (exact HI.out.2.kept C.drew)); rintro e u2 ⟨g2, c2, rfl, R2, hg2, B2⟩; have T : Two u2 w.heap.size (.slice a len cap) (.slice a' len' cap') := (by first | (exact Two.all T B2) | (exact Two.all (w := W0.drew) T B2)); have P : Pair u2 (w.heap.size + 1) (.slice none 0 0) (.slice none 0 0) := (by first | (exact Pair.all P B2) | (exact Pair.all (w := W0.drew) P B2)); have C : Below w.heap.size w u2 := (by first | (exact below_call C C.size B2) | (exact below_call C.drew C.drew.size B2)); have t0 := T.2.1; have t1 := T.2.2; have p0 := P.c0; have p1 := P.c1; have f0 := P.fr 0; have f1 := P.fr 1))
  have l1 := R1.lt
  have l0 := B1.size
  have h1 : W0.heap.size ≤ g1 := hg1
  have H : Hid (Row u2 g1 c1 xs ∧ Row u2 g2 c2 ys ∧ Pair u2 (w.heap.size + 1) (.slice none 0 0) (.slice none 0 0) ∧ Below w.heap.size w u2) := ⟨R1.all B2, R2, P, C⟩
  clear hg1 l0 R1 R2 B1 B2 t0 t1 T P C
  go_wp2_with fail
  refine bodyPost_ret (ret_pair rfl rfl ((H.out.2.2.1.set0 _).set1 _)) rfl ⟨_, _, _, _, rfl, ?_, ?_, ?_, ?_, ?_, ?_⟩
  · exact (H.out.1.past (by omega) _).past (by omega) _
  · exact (H.out.2.1.past (by omega) _).past (by omega) _
  · omega
  · omega
  · omega
  · exact below_set (below_set H.out.2.2.2 (by omega) _) (by omega) _

/-- spec.SmoothNext where it cannot be. -/
theorem specNext_off (a : Option Addr) (len cap : Nat) (cs : List Int) (a' : Option Addr) (len' cap' : Nat) (rs : List Int) (w : World) (I : Ints w a len cs) (J : Ints w a' len' rs) (hs : (len : Int) ≤ 1048576) (hk : smoothOk cs rs = false) :
    Calls Try.prog 23 #[sm (.slice a len cap) (.slice a' len' cap')] w fun e w' => e = .returned (.tuple #[sm (.slice none 0 0) (.slice none 0 0), .int .i64 (-1)]) ∧ Below w.heap.size w w' := by
  have HI : Hid (Ints w a len cs ∧ Ints w a' len' rs ∧ smoothOk cs rs = false) := ⟨I, J, hk⟩
  clear I J hk
  have C := below_new w (.cells #[.slice a len cap, .slice a' len' cap'] 31)
  have hC : Hid (Below w.heap.size w ((w.alloc (.cells #[.slice a len cap, .slice a' len' cap'] 31)).alloc (.cells #[.slice none 0 0, .slice none 0 0] 31)) ∧ Pair ((w.alloc (.cells #[.slice a len cap, .slice a' len' cap'] 31)).alloc (.cells #[.slice none 0 0, .slice none 0 0] 31)) (w.heap.size + 1) (.slice none 0 0) (.slice none 0 0)) := ⟨C.alloc (by simp) _, by have := pair_new (w.alloc (.cells #[.slice a len cap, .slice a' len' cap'] 31)) (.slice none 0 0) (.slice none 0 0); simpa using this⟩
  clear C
  go_enter Try.func23, Try.ntmps23
  go_wp2_with fail
  refine (specSmooth a len cap cs a' len' cap' rs _ (HI.out.1.kept hC.out.1) (HI.out.2.1.kept hC.out.1) hs).mono ?_
  rw [HI.out.2.2]
  rintro e w1 ⟨rfl, B1⟩
  have H1 : Hid (Below w.heap.size w w1 ∧ Pair w1 (w.heap.size + 1) (.slice none 0 0) (.slice none 0 0)) := ⟨below_call hC.out.1 hC.out.1.size B1, hC.out.2.all B1⟩
  clear B1 hC
  have p0 := H1.out.2.c0
  have p1 := H1.out.2.c1
  have f0 := H1.out.2.fr 0
  have f1 := H1.out.2.fr 1
  go_wp2_with fail
  exact bodyPost_ret (ret_pair2 rfl rfl rfl ((H1.out.2.set0 _).set1 _)) rfl ⟨rfl, below_set (below_set H1.out.1 (by omega) _) (by omega) _⟩

/-- What the loop of spec.SmoothNext knows. -/
structure Lp (w : World) (s bo gC cC gR cR : Nat) (len : Nat) (cs row : List Int) (wr : World) : Prop where
  out : Pair wr bo (.slice (some ⟨gC, 0, none⟩) len cC) (.slice (some ⟨gR, 0, none⟩) len cR)
  crew : Row wr gC cC cs
  rich : Row wr gR cR row
  res : Pair wr (s + 1) (.slice none 0 0) (.slice none 0 0)
  bel : Below s w wr

theorem Lp.drewN {w : World} {s bo gC cC gR cR len : Nat} {cs row : List Int} {wr : World} (h : Lp w s bo gC cC gR cR len cs row wr) (n : Nat) : Lp w s bo gC cC gR cR len cs row (wr.drewN n) :=
  ⟨h.out.all (below_drewN (Below.refl _ _) n), row_drewN h.crew n, row_drewN h.rich n, h.res.all (below_drewN (Below.refl _ _) n), below_drewN h.bel n⟩

theorem Lp.drew {w : World} {s bo gC cC gR cR len : Nat} {cs row : List Int} {wr : World} (h : Lp w s bo gC cC gR cR len cs row wr) : Lp w s bo gC cC gR cR len cs row wr.drew := h.drewN 1

theorem Lp.set {w : World} {s bo gC cC gR cR len : Nat} {cs row : List Int} {wr : World} (h : Lp w s bo gC cC gR cR len cs row wr) (j : Nat) (v : Int) (h1 : s + 1 < gR) (h2 : gC ≠ gR) (h3 : bo ≠ gR) : Lp w s bo gC cC gR cR len cs (row.set j v) (wr.setCell ⟨gR, j, none⟩ (.int .i64 v)) :=
  ⟨h.out.past h3 _, h.crew.past h2 _, h.rich.set j v, h.res.past (by omega) _, below_set h.bel (by omega) _⟩

theorem Lp.all {w : World} {s bo gC cC gR cR len : Nat} {cs row : List Int} {wr wr' : World} (h : Lp w s bo gC cC gR cR len cs row wr) (k : Below wr.heap.size wr wr') : Lp w s bo gC cC gR cR len cs row wr' :=
  ⟨h.out.all k, h.crew.all k, h.rich.all k, h.res.all k, h.bel.trans (k.mono (Nat.le_of_lt (Nat.lt_of_succ_lt h.res.lt)))⟩

end Go.Proofs.Ytkfepehldjkedaa.Crew
