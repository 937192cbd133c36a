/-
  A run down the list, by spec.
-/
import Derived.Test.YtlicjbnagapdeaaListNextO
import Derived.Test.YtlicjbnagapdeaaListRunI
import Derived.Test.YtlicjbnagapdeaaListMore
namespace Go.Proofs.Ytlicjbnagapdeaa.Crew
open Go.ChangeShapes Go.WideShapes Go.ChangeAt Go.RowKit

/-- spec.ListNext at a right List, where it can be done. -/
theorem specNext_yes (a : Option Addr) (len cap : Nat) (cs : List Int) (a' : Option Addr) (len' cap' : Nat) (s : Ls) (w : World) (I : Ints w a len cs) (J : Ints w a' len' s.had) (R : Right cs s) (hc : lsCan cs s = true) :
    Calls Try.prog 23 #[lv (.slice a len cap) (.slice a' len' cap') s.turns s.pos] w fun e w' => ∃ b lb cb d ld cd, e = .returned (.tuple #[lv (.slice b lb cb) (.slice d ld cd) (lsStep cs s).turns (lsStep cs s).pos, .int .i64 ((lsWho cs (lsFresh cs s) : Nat) : Int)]) ∧ Fit w' w.heap.size b lb cb cs ∧ Fit w' w.heap.size d ld cd (lsStep cs s).had ∧ Apart b d ∧ Below w.heap.size w w' := by
  have hl := I.1
  have h24 := crew_len R.crew
  refine (specListNext a len cap cs a' len' cap' s.had s.turns s.pos w I J (by omega)).mono ?_
  have hk : lnOk cs s.had s.turns s.pos = true := by rw [ln_right R, hc]
  obtain ⟨e1, e2, e3, e4, e5⟩ := ln_yes hk
  rw [Int.toNat_natCast] at e2 e3 e4 e5
  unfold NextPost
  rw [e1, e2, e3, e4, e5]
  exact fun _ _ h => h

/-- spec.ListNext at a right List, where it cannot be done. -/
theorem specNext_no (a : Option Addr) (len cap : Nat) (cs : List Int) (a' : Option Addr) (len' cap' : Nat) (s : Ls) (w : World) (I : Ints w a len cs) (J : Ints w a' len' s.had) (R : Right cs s) (hc : lsCan cs s = false) :
    Calls Try.prog 23 #[lv (.slice a len cap) (.slice a' len' cap') s.turns s.pos] w fun e w' => ∃ b lb cb d ld cd, e = .returned (.tuple #[lv (.slice b lb cb) (.slice d ld cd) 0 0, .int .i64 (-1)]) ∧ Fit w' w.heap.size b lb cb [] ∧ Fit w' w.heap.size d ld cd [] ∧ Apart b d ∧ Below w.heap.size w w' := by
  have hl := I.1
  have h24 := crew_len R.crew
  refine (specListNext a len cap cs a' len' cap' s.had s.turns s.pos w I J (by omega)).mono ?_
  have hk : lnOk cs s.had s.turns s.pos = false := by rw [ln_right R, hc]
  obtain ⟨e1, e2, e3, e4, e5⟩ := ln_no hk
  unfold NextPost
  rw [e1, e2, e3, e4, e5]
  exact fun _ _ h => h

/-- What the loop of a run knows: the List in the variable at bx, those taken in block g, the result's variable. -/
structure LrL (w : World) (s bx : Nat) (b : Option Addr) (lb cb : Nat) (d : Option Addr) (ld cd g c : Nat) (cs : List Int) (st : Ls) (tk : List Int) (wr : World) : Prop where
  var : Quad wr bx (.slice b lb cb) (.slice d ld cd) st.turns st.pos
  crew : Fit wr (s + 2) b lb cb cs
  had : Fit wr (s + 2) d ld cd st.had
  apart : Apart b d
  row : Row wr g c tk
  a1 : Apart b (some ⟨g, 0, none⟩)
  a2 : Apart d (some ⟨g, 0, none⟩)
  gs : s + 2 ≤ g
  res : Quad wr (s + 1) (.slice none 0 0) (.slice none 0 0) 0 0
  bel : Below s w wr

theorem ints_one_in {X : World} {n : Nat} (h : X.heap.size = n) (x : Int) (t : TypeId) : Ints (X.alloc (.cells #[.int .i64 x] t)) (some ⟨n, 0, none⟩) 1 [x] := by
  subst h
  exact ints_one X x t

/-- Where it cannot be run. -/
theorem runL_end {cs hs : List Int} {t p n : Int} (h : lrOk cs hs t p n = false) {w X : World} {g : Nat} (hX : X.heap.size = g) (B : Below w.heap.size w X) :
    RunPostL w cs hs t p n (.returned (.tuple #[lv (.slice none 0 0) (.slice none 0 0) 0 0, .slice (some ⟨g, 0, none⟩) 0 0])) (X.alloc (.cells #[] 2)) := by
  subst hX
  have hs' := B.size
  obtain ⟨e1, e2, e3, e4, e5⟩ := lr_no h
  unfold RunPostL
  rw [e1, e2, e3, e4, e5]
  exact ⟨_, _, _, _, _, _, _, _, _, rfl, fit_nil _ _, fit_nil _ _, (row_nil X).fit hs' rfl, apart_none _, apart_none _, apart_none _, B.alloc hs' _⟩

/-- Behind a store into the variable. -/
theorem LrL.next {w : World} {s bx : Nat} {b d : Option Addr} {lb cb ld cd g c : Nat} {cs : List Int} {st : Ls} {tk : List Int} {wr : World} (h : LrL w s bx b lb cb d ld cd g c cs st tk wr)
    {w2 : World} (B : Below wr.heap.size wr w2) {b2 d2 : Option Addr} {lb2 cb2 ld2 cd2 : Nat} {cs2 : List Int} {st2 : Ls} (F : Fit w2 wr.heap.size b2 lb2 cb2 cs2) (G : Fit w2 wr.heap.size d2 ld2 cd2 st2.had) (D : Apart b2 d2) (hx : s ≤ bx) (hx1 : bx ≠ s + 1) (hxg : bx ≠ g) :
    LrL w s bx b2 lb2 cb2 d2 ld2 cd2 g c cs2 st2 tk ((((w2.setCell ⟨bx, 0, none⟩ (.slice b2 lb2 cb2)).setCell ⟨bx, 1, none⟩ (.slice d2 ld2 cd2)).setCell ⟨bx, 2, none⟩ (.int .i64 st2.turns)).setCell ⟨bx, 3, none⟩ (.int .i64 (st2.pos : Int))) := by
  have hv := h.var.lt
  have hr := h.row.lt
  have hp := h.res.lt
  have gs := h.gs
  refine ⟨(h.var.all B).sets _ _ _ _, (F.before4 hv _ _ _ _).mono (by omega), (G.before4 hv _ _ _ _).mono (by omega), D, (h.row.all B).sets4 (Ne.symm hxg) _ _ _ _, ?_, ?_, gs, (h.res.all B).past4 (Ne.symm hx1) _ _ _ _, below_sets4 (below_call h.bel (by omega) B) hx _ _ _ _⟩
  · exact fun x y hx' hy e => by cases hy; have := (F.ge hx').1; simp at e; omega
  · exact fun x y hx' hy e => by cases hy; have := (G.ge hx').1; simp at e; omega

theorem LrL.alloc {w : World} {s bx : Nat} {b d : Option Addr} {lb cb ld cd g c : Nat} {cs : List Int} {st : Ls} {tk : List Int} {wr : World} (h : LrL w s bx b lb cb d ld cd g c cs st tk wr) (o : Obj) : LrL w s bx b lb cb d ld cd g c cs st tk (wr.alloc o) :=
  ⟨h.var.alloc _, h.crew.all (below_new _ _), h.had.all (below_new _ _), h.apart, h.row.alloc _, h.a1, h.a2, h.gs, h.res.alloc _, below_call h.bel (Nat.le_of_lt (Nat.lt_of_succ_lt h.res.lt)) (below_new _ _)⟩

/-- Behind an append to those taken. -/
theorem LrL.append {w : World} {s bx : Nat} {b d : Option Addr} {lb cb ld cd g c : Nat} {cs : List Int} {st : Ls} {tk tk' : List Int} {wr : World} (h : LrL w s bx b lb cb d ld cd g c cs st tk wr) {g' c' : Nat} {w' : World} (R : Row w' g' c' tk') (G : wr.grownBy w' (some g)) (D : g' = g ∨ g' = wr.heap.size) (hxg : bx ≠ g) :
    LrL w s bx b lb cb d ld cd g' c' cs st tk' w' := by
  have hp := h.res.lt
  have gs := h.gs
  have key : ∀ {a : Option Addr} {l k : Nat} {xs : List Int}, Fit wr (s + 2) a l k xs → Apart a (some ⟨g, 0, none⟩) → Fit w' (s + 2) a l k xs ∧ Apart a (some ⟨g', 0, none⟩) := by
    intro a l k xs hf ha
    refine ⟨hf.other G (fun x hx => by have := ha x ⟨g, 0, none⟩ hx rfl; simpa using this), fun x y hx hy e => ?_⟩
    cases hy
    rcases D with rfl | rfl
    · exact ha x _ hx rfl e
    · have := (hf.ge hx).2; simp at e; omega
  exact ⟨h.var.other G (by simpa using hxg), (key h.crew h.a1).1, (key h.had h.a2).1, h.apart, R, (key h.crew h.a1).2, (key h.had h.a2).2, by rcases D with rfl | rfl <;> omega, h.res.other G (by simp; omega), h.bel.grown G (Nat.le_of_lt (Nat.lt_of_succ_lt hp)) (fun i e => by cases e; omega)⟩

/-- What is answered once it was run. -/
theorem LrL.answer {w : World} {bx : Nat} {b d : Option Addr} {lb cb ld cd g c N q : Nat} {cs hs : List Int} {t : Int} {wr : World} (h : LrL w w.heap.size bx b lb cb d ld cd g c cs (lsAt cs ⟨hs, t, q⟩ N) (lsTaken cs ⟨hs, t, q⟩ N) wr) (hk : lrOk cs hs t (q : Int) (N : Int) = true) :
    RunPostL w cs hs t q N (.returned (.tuple #[lv (.slice b lb cb) (.slice d ld cd) (lsAt cs ⟨hs, t, q⟩ N).turns (lsAt cs ⟨hs, t, q⟩ N).pos, .slice (some ⟨g, 0, none⟩) N c])) ((((wr.setCell ⟨w.heap.size + 1, 0, none⟩ (.slice b lb cb)).setCell ⟨w.heap.size + 1, 1, none⟩ (.slice d ld cd)).setCell ⟨w.heap.size + 1, 2, none⟩ (.int .i64 (lsAt cs ⟨hs, t, q⟩ N).turns)).setCell ⟨w.heap.size + 1, 3, none⟩ (.int .i64 ((lsAt cs ⟨hs, t, q⟩ N).pos : Int))) := by
  have gs := h.gs
  obtain ⟨e1, e2, e3, e4, e5⟩ := lr_yes hk
  rw [Int.toNat_natCast, Int.toNat_natCast] at e2 e3 e4 e5
  unfold RunPostL
  rw [e1, e2, e3, e4, e5]
  exact ⟨_, _, _, _, _, _, _, _, _, rfl, (h.crew.before4 (by omega) _ _ _ _).mono (by omega), (h.had.before4 (by omega) _ _ _ _).mono (by omega), (h.row.sets4 (by omega) _ _ _ _).fit (by omega) (lsTaken_length _ _ _), h.apart, h.a1, h.a2, below_sets4 h.bel (by omega) _ _ _ _⟩

set_option maxHeartbeats 2000000 in
/-- spec.ListRun. -/
theorem specListRun (a : Option Addr) (len cap : Nat) (cs : List Int) (a' : Option Addr) (len' cap' : Nat) (hl : List Int) (t p n : Int) (w : World) (I : Ints w a len cs) (J : Ints w a' len' hl) (hs : (len : Int) ≤ 1048576) (hs' : (len' : Int) ≤ 1048576) :
    Calls Try.prog 21 #[lv (.slice a len cap) (.slice a' len' cap') t p, .int .i64 n] w (RunPostL w cs hl t p n) := by
  obtain ⟨i0, hi, hz0, hz1, hz2⟩ := info_parts info_int
  have HI : Hid (Ints w a len cs ∧ Ints w a' len' hl) := ⟨I, J⟩
  clear I J
  obtain ⟨W0, hW0⟩ : ∃ W0, W0 = (w.alloc (.cells #[.slice a len cap, .slice a' len' cap', .int .i64 t, .int .i64 p] 31)).alloc (.cells #[.slice none 0 0, .slice none 0 0, .int .i64 0, .int .i64 0] 31) := ⟨_, rfl⟩
  have hz : W0.heap.size = w.heap.size + 2 := by rw [hW0]; simp
  have H0 : Hid (Quad W0 w.heap.size (.slice a len cap) (.slice a' len' cap') t p ∧ Quad W0 (w.heap.size + 1) (.slice none 0 0) (.slice none 0 0) 0 0 ∧ Below w.heap.size w W0) := by
    rw [hW0]
    exact ⟨(quad_new _ _ _ _ _).alloc _, (begun_new w _ _ t p).res, (below_new _ _).alloc (by simp) _⟩
  cases hk : listOk cs hl t p
  · have HK : Hid (listOk cs hl t p = false) := hk
    have HN : Hid (lrOk cs hl t p n = false) := by
      show _ = _
      rw [lrOk, hk]; rfl
    clear hk
    go_enter Try.func21, Try.ntmps21
    go_wp2_with fail
    rw [← hW0]
    clear hW0
    refine (specListX a len cap cs a' len' cap' hl t p _ (HI.out.1.kept H0.out.2.2) (HI.out.2.kept H0.out.2.2) hs).mono ?_
    rw [HK.out]
    rintro e w1 ⟨rfl, B1⟩
    have H1 : Hid (Below w.heap.size w w1 ∧ Quad w1 (w.heap.size + 1) (.slice none 0 0) (.slice none 0 0) 0 0) := ⟨below_call H0.out.2.2 H0.out.2.2.size B1, H0.out.2.1.all B1⟩
    have l1 := H1.out.2.lt
    have n1 : ¬ w.heap.size + 1 = w1.heap.size := by omega
    have n2 : ¬ w1.heap.size = w.heap.size + 1 := by omega
    clear B1
    have p0 := H1.out.2.c0
    have p1 := H1.out.2.c1
    have p2 := H1.out.2.c2
    have p3 := H1.out.2.c3
    have f0 := H1.out.2.fr 0
    have f1 := H1.out.2.fr 1
    have f2 := H1.out.2.fr 2
    have f3 := H1.out.2.fr 3
    go_wp2_with fail
    refine bodyPost_ret (ret_quad2 rfl rfl rfl ((H1.out.2.sets _ _ _ _).alloc _)) rfl ?_
    exact runL_end HN.out (by simp) (below_sets4 H1.out.1 (by omega) _ _ _ _)
  · cases hn : within n 0 3000
    · have HK : Hid (listOk cs hl t p = true) := hk
      have HN : Hid (lrOk cs hl t p n = false ∧ within n 0 3000 = false) := ⟨by rw [lrOk, hk, hn]; rfl, hn⟩
      clear hk hn
      go_enter Try.func21, Try.ntmps21
      go_wp2_with fail
      rw [← hW0]
      clear hW0
      refine (specListX a len cap cs a' len' cap' hl t p _ (HI.out.1.kept H0.out.2.2) (HI.out.2.kept H0.out.2.2) hs).mono ?_
      rw [HK.out]
      rintro e w1 ⟨rfl, B1⟩
      have H1 : Hid (Below w.heap.size w w1 ∧ Quad w1 (w.heap.size + 1) (.slice none 0 0) (.slice none 0 0) 0 0) := ⟨below_call H0.out.2.2 H0.out.2.2.size B1, H0.out.2.1.all B1⟩
      have l1 := H1.out.2.lt
      have n1 : ¬ w.heap.size + 1 = w1.heap.size := by omega
      have n2 : ¬ w1.heap.size = w.heap.size + 1 := by omega
      clear B1
      go_wp2_with fail
      refine (specSteps_any n _).mono ?_
      rw [HN.out.2]
      rintro e w2 ⟨rfl, rfl⟩
      have p0 := H1.out.2.c0
      have p1 := H1.out.2.c1
      have p2 := H1.out.2.c2
      have p3 := H1.out.2.c3
      have f0 := H1.out.2.fr 0
      have f1 := H1.out.2.fr 1
      have f2 := H1.out.2.fr 2
      have f3 := H1.out.2.fr 3
      go_wp2_with fail
      refine bodyPost_ret (ret_quad2 rfl rfl rfl ((H1.out.2.sets _ _ _ _).alloc _)) rfl ?_
      exact runL_end HN.out.1 (by simp) (below_sets4 H1.out.1 (by omega) _ _ _ _)
    · have bn := within_yes hn
      obtain ⟨N, hN⟩ : ∃ N : Nat, n = (N : Int) := ⟨n.toNat, by omega⟩
      subst hN
      obtain ⟨q, rfl, RR0⟩ := right_of hk
      have HK : Hid (listOk cs hl t q = true ∧ within (N : Int) 0 3000 = true ∧ Right cs ⟨hl, t, q⟩ ∧ lrOk cs hl t q N = lsOkTo cs ⟨hl, t, q⟩ N) := ⟨hk, hn, RR0, by rw [lrOk, hk, hn, Int.toNat_natCast, Int.toNat_natCast]; rfl⟩
      clear RR0
      clear hk hn
      go_enter Try.func21, Try.ntmps21
      go_wp2_with fail
      rw [← hW0]
      clear hW0
      refine (specListX a len cap cs a' len' cap' hl t q _ (HI.out.1.kept H0.out.2.2) (HI.out.2.kept H0.out.2.2) hs).mono ?_
      rw [HK.out.1]
      rintro e w1 ⟨rfl, B1⟩
      have H1 : Hid (Below w.heap.size w w1 ∧ Quad w1 (w.heap.size + 1) (.slice none 0 0) (.slice none 0 0) 0 0 ∧ Quad w1 w.heap.size (.slice a len cap) (.slice a' len' cap') t q) := ⟨below_call H0.out.2.2 H0.out.2.2.size B1, H0.out.2.1.all B1, H0.out.1.all B1⟩
      have l1 := H1.out.2.1.lt
      clear B1 H0
      go_wp2_with fail
      refine (specSteps_any (N : Int) _).mono ?_
      rw [HK.out.2.1]
      rintro e w2 ⟨rfl, rfl⟩
      have p0 := H1.out.2.2.c0
      have p1 := H1.out.2.2.c1
      have p2 := H1.out.2.2.c2
      have p3 := H1.out.2.2.c3
      go_wp2_with fail
      clear p0 p1 p2 p3
      refine (copy8_any a len cap cs a' len' cap' hl t q _ (HI.out.1.kept H1.out.1) (HI.out.2.kept H1.out.1) hs hs').mono ?_
      rintro e w3 ⟨gC, cC, gR, cR, rfl, RC, RR, hgC, hgR, hne, B3⟩
      have hlC : cs.length = len := HI.out.1.1
      have hlR : hl.length = len' := HI.out.2.1
      have H3 : Hid (Below w.heap.size w w3 ∧ Quad w3 (w.heap.size + 1) (.slice none 0 0) (.slice none 0 0) 0 0 ∧ Quad w3 w.heap.size (.slice a len cap) (.slice a' len' cap') t q ∧ Fit w3 (w.heap.size + 2) (some ⟨gC, 0, none⟩) len cC cs ∧ Fit w3 (w.heap.size + 2) (some ⟨gR, 0, none⟩) len' cR hl) := ⟨below_call H1.out.1 H1.out.1.size B3, H1.out.2.1.all B3, H1.out.2.2.all B3, RC.fit (by omega) hlC, RR.fit (by omega) hlR⟩
      have lC := RC.lt
      have lR := RR.lt
      have l3 := B3.size
      clear RC RR H1 B3
      have p0 := H3.out.2.2.1.c0
      have p1 := H3.out.2.2.1.c1
      have p2 := H3.out.2.2.1.c2
      have p3 := H3.out.2.2.1.c3
      have f0 := H3.out.2.2.1.fr 0
      have f1 := H3.out.2.2.1.fr 1
      have f2 := H3.out.2.2.1.fr 2
      have f3 := H3.out.2.2.1.fr 3
      go_wp2_with fail
      clear p0 p1 p2 p3 f0 f1 f2 f3
      have LS : Hid (LrL w w.heap.size w.heap.size (some ⟨gC, 0, none⟩) len cC (some ⟨gR, 0, none⟩) len' cR w3.heap.size 0 cs ⟨hl, t, q⟩ [] (((((w3.setCell ⟨w.heap.size, 0, none⟩ (.slice (some ⟨gC, 0, none⟩) len cC)).setCell ⟨w.heap.size, 1, none⟩ (.slice (some ⟨gR, 0, none⟩) len' cR)).setCell ⟨w.heap.size, 2, none⟩ (.int .i64 t)).setCell ⟨w.heap.size, 3, none⟩ (.int .i64 (q : Int))).alloc (.cells #[] 2))) := by
        refine ⟨(H3.out.2.2.1.sets _ _ _ _).alloc _, (H3.out.2.2.2.1.before4 (by omega) _ _ _ _).all (below_new _ _), (H3.out.2.2.2.2.before4 (by omega) _ _ _ _).all (below_new _ _), ?_, ?_, ?_, ?_, by omega, (H3.out.2.1.past4 (by omega) _ _ _ _).alloc _, (below_sets4 H3.out.1 (by omega) _ _ _ _).alloc (by simp; omega) _⟩
        · exact fun x y hx hy => by cases hx; cases hy; exact hne
        · have := row_nil ((((w3.setCell ⟨w.heap.size, 0, none⟩ (.slice (some ⟨gC, 0, none⟩) len cC)).setCell ⟨w.heap.size, 1, none⟩ (.slice (some ⟨gR, 0, none⟩) len' cR)).setCell ⟨w.heap.size, 2, none⟩ (.int .i64 t)).setCell ⟨w.heap.size, 3, none⟩ (.int .i64 (q : Int)))
          simpa using this
        · exact fun x y hx hy => by cases hx; cases hy; exact (by simp; omega)
        · exact fun x y hx hy => by cases hx; cases hy; exact (by simp; omega)
      generalize ((((w3.setCell ⟨w.heap.size, 0, none⟩ (.slice (some ⟨gC, 0, none⟩) len cC)).setCell ⟨w.heap.size, 1, none⟩ (.slice (some ⟨gR, 0, none⟩) len' cR)).setCell ⟨w.heap.size, 2, none⟩ (.int .i64 t)).setCell ⟨w.heap.size, 3, none⟩ (.int .i64 (q : Int))).alloc (.cells #[] 2) = W3 at *
      generalize w3.heap.size = g0 at *
      clear H3
      go_loopw [1, 6, 7, 8] (fun nn oo _ _ wr => ∃ (j g c : Nat) (b : Option Addr) (lb cb : Nat) (d : Option Addr) (ld cd : Nat), j ≤ N ∧ nn = .int .i64 ((N : Int) - (j : Int)) ∧ oo = .slice (some ⟨g, 0, none⟩) j c ∧ Hid (LrL w w.heap.size w.heap.size b lb cb d ld cd g c cs (lsAt cs ⟨hl, t, q⟩ j) (lsTaken cs ⟨hl, t, q⟩ j) wr ∧ lsOkTo cs ⟨hl, t, q⟩ j = true)) (fun nn _ _ _ _ => (intOf nn).toNat)
      case atStart => exact ⟨0, g0, 0, _, _, _, _, _, _, Nat.zero_le _, by simp, rfl, LS.out, rfl⟩
      case round =>
        obtain ⟨j, g, c, b, lb, cb, d, ld, cd, hj, rfl, rfl, L⟩ := hrel
        have lv := L.out.1.res.lt
        have gs := L.out.1.gs
        have hb24 : (lb : Int) ≤ 24 := by have := L.out.1.crew.1; have := crew_len HK.out.2.2.1.crew; omega
        by_cases hlt : j < N
        · have hpos : (0 : Int) < (N : Int) - (j : Int) := by omega
          have v0 := L.out.1.var.c0
          have v1 := L.out.1.var.c1
          have v2 := L.out.1.var.c2
          have v3 := L.out.1.var.c3
          go_wp2_with fail
          clear v0 v1 v2 v3
          have RJ := hid (HK.out.2.2.1.at L.out.2)
          cases hn : lsCan cs (lsAt cs ⟨hl, t, q⟩ j)
          · refine (specNext_no b lb cb cs d ld cd (lsAt cs ⟨hl, t, q⟩ j) _ L.out.1.crew.ints L.out.1.had.ints RJ.out hn).mono ?_
            have HN : Hid (lrOk cs hl t q (N : Int) = false) := by
              show _ = _
              rw [HK.out.2.2.2]
              exact lsOkTo_false (k := j + 1) (by rw [lsOkTo, L.out.2, hn]; rfl) (by omega)
            clear hn
            rintro e w4 ⟨b4, lb4, cb4, d4, ld4, cd4, rfl, F4, G4, D4, B4⟩
            have H4 : Hid (Below w.heap.size w w4 ∧ Quad w4 (w.heap.size + 1) (.slice none 0 0) (.slice none 0 0) 0 0) := ⟨below_call L.out.1.bel (by omega) B4, L.out.1.res.all B4⟩
            have l4 := B4.size
            have n0 : w.heap.size + 1 < w4.heap.size := by omega
            have n5 : w.heap.size < w4.heap.size := by omega
            have n6 : ¬ w.heap.size = w4.heap.size := by omega
            have n7 : ¬ w4.heap.size = w.heap.size := by omega
            have n1 : ¬ w.heap.size + 1 = w4.heap.size := by omega
            have n2 : ¬ w4.heap.size = w.heap.size + 1 := by omega
            have p0 := H4.out.2.c0
            have p1 := H4.out.2.c1
            have p2 := H4.out.2.c2
            have p3 := H4.out.2.c3
            have f0 := H4.out.2.fr 0
            have f1 := H4.out.2.fr 1
            have f2 := H4.out.2.fr 2
            have f3 := H4.out.2.fr 3
            clear F4 G4 D4 B4
            go_wp2_with fail
            refine bodyPost_ret (ret_quad2 rfl rfl rfl (((H4.out.2.sets _ _ _ _).alloc _).alloc _)) rfl ?_
            exact runL_end HN.out (by simp) ((below_sets4 H4.out.1 (by omega) _ _ _ _).alloc (by simp; omega) _)
          · refine (specNext_yes b lb cb cs d ld cd (lsAt cs ⟨hl, t, q⟩ j) _ L.out.1.crew.ints L.out.1.had.ints RJ.out hn).mono ?_
            have HN : Hid (lsOkTo cs ⟨hl, t, q⟩ (j + 1) = true) := by
              show _ = _
              rw [lsOkTo, L.out.2, hn]; rfl
            clear hn
            obtain ⟨k, hk⟩ : ∃ k, k = lsWho cs (lsFresh cs (lsAt cs ⟨hl, t, q⟩ j)) := ⟨_, rfl⟩
            obtain ⟨st, hst⟩ : ∃ st, st = lsStep cs (lsAt cs ⟨hl, t, q⟩ j) := ⟨_, rfl⟩
            rw [← hk, ← hst]
            have HB : Hid (k = lsWho cs (lsFresh cs (lsAt cs ⟨hl, t, q⟩ j)) ∧ st = lsStep cs (lsAt cs ⟨hl, t, q⟩ j)) := ⟨hk, hst⟩
            clear hk hst
            rintro e w4 ⟨b4, lb4, cb4, d4, ld4, cd4, rfl, F4, G4, D4, B4⟩
            have LN : Hid (LrL w w.heap.size w.heap.size b4 lb4 cb4 d4 ld4 cd4 g c cs st (lsTaken cs ⟨hl, t, q⟩ j) ((((w4.setCell ⟨w.heap.size, 0, none⟩ (.slice b4 lb4 cb4)).setCell ⟨w.heap.size, 1, none⟩ (.slice d4 ld4 cd4)).setCell ⟨w.heap.size, 2, none⟩ (.int .i64 st.turns)).setCell ⟨w.heap.size, 3, none⟩ (.int .i64 (st.pos : Int)))) := L.out.1.next B4 F4 G4 D4 (Nat.le_refl _) (by omega) (by omega)
            have V4 := L.out.1.var.all B4
            have l4 := B4.size
            have n0 : w.heap.size < w4.heap.size := by omega
            have n1 : ¬ w.heap.size = w4.heap.size := by omega
            have n2 : ¬ w4.heap.size = w.heap.size := by omega
            have v0 := V4.c0
            have v1 := V4.c1
            have v2 := V4.c2
            have v3 := V4.c3
            have f0 := V4.fr 0
            have f1 := V4.fr 1
            have f2 := V4.fr 2
            have f3 := V4.fr 3
            have hk0 : ¬ ((k : Nat) : Int) < 0 := by omega
            clear F4 G4 D4 B4 V4
            go_wp2_with (at_builtin; refine wpList_append_ints rfl (.tmp 36) (.tmp 38) 27 rfl i0 Try.underlying27 hi hz0 hz1 hz2 _ _ _ (lsTaken cs ⟨hl, t, q⟩ j) rfl (lsTaken_length _ _ _).symm ((LN.out.row.alloc _).alloc _) _ _ _ [(k : Int)] rfl (ints_one_in (by simp) _ _) (by rw [lsTaken_length]; omega) ?_)
            intro g5 c5 w5 R5 G5 D5
            have L5 : Hid (LrL w w.heap.size w.heap.size b4 lb4 cb4 d4 ld4 cd4 g5 c5 cs (lsAt cs ⟨hl, t, q⟩ (j + 1)) (lsTaken cs ⟨hl, t, q⟩ (j + 1)) w5 ∧ lsOkTo cs ⟨hl, t, q⟩ (j + 1) = true) := by
              rw [HB.out.1] at R5
              have h := ((LN.out.alloc _).alloc _).append R5 G5 (by simpa using D5) (by omega)
              rw [HB.out.2] at h
              exact ⟨h, HN.out⟩
            clear R5 G5 D5 LN v0 v1 v2 v3 f0 f1 f2 f3
            go_wp2_with fail
            go_roundw
            case rel => exact ⟨j + 1, g5, c5, b4, lb4, cb4, d4, ld4, cd4, by omega, by go_num, rfl, L5⟩
            case measure => simp [intOf]; omega
        · have hjN : j = N := by omega
          subst hjN
          have hd : decide ((0 : Int) < (j : Int) - (j : Int)) = false := by simp
          have hz' : ¬ (0 : Int) < (j : Int) - (j : Int) := by omega
          have v0 := L.out.1.var.c0
          have v1 := L.out.1.var.c1
          have v2 := L.out.1.var.c2
          have v3 := L.out.1.var.c3
          have p0 := L.out.1.res.c0
          have p1 := L.out.1.res.c1
          have p2 := L.out.1.res.c2
          have p3 := L.out.1.res.c3
          have f0 := L.out.1.res.fr 0
          have f1 := L.out.1.res.fr 1
          have f2 := L.out.1.res.fr 2
          have f3 := L.out.1.res.fr 3
          go_wp2_with fail
          refine bodyPost_ret (ret_quad2 rfl rfl rfl (L.out.1.res.sets _ _ _ _)) rfl ?_
          exact L.out.1.answer (by rw [HK.out.2.2.2]; exact L.out.2)

end Go.Proofs.Ytlicjbnagapdeaa.Crew
