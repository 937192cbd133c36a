/-
  The next one down the list, by spec.
-/
import Derived.Test.YtlicjbnagapdeaaListNextS
import Derived.Test.YtlicjbnagapdeaaListTurn
import Derived.BigQuiet
namespace Go.Proofs.Ytlicjbnagapdeaa.Crew
open Go.ChangeShapes Go.WideShapes Go.ChangeAt Go.RowKit

/-- Where the parts of a List lie that is worked on. -/
structure Sl8 where
  bo : Nat
  gC : Nat
  cC : Nat
  gH : Nat
  cH : Nat
  n : Nat

/-- A List of the call's own that is worked on. -/
structure So (w u : World) (x y : Value) (t p : Int) (l : Sl8) (cs : List Int) (s : Ls) : Prop where
  beg : Begun w u x y t p
  out : Quad u l.bo (.slice (some ⟨l.gC, 0, none⟩) l.n l.cC) (.slice (some ⟨l.gH, 0, none⟩) l.n l.cH) s.turns s.pos
  crew : Row u l.gC l.cC cs
  had : Row u l.gH l.cH s.had
  len : cs.length = l.n
  lob : w.heap.size + 1 < l.bo
  loC : w.heap.size + 1 < l.gC
  loH : w.heap.size + 1 < l.gH
  oC : l.bo ≠ l.gC
  oH : l.bo ≠ l.gH
  CH : l.gC ≠ l.gH

theorem So.all {w u u' : World} {x y : Value} {t p : Int} {l : Sl8} {cs : List Int} {s : Ls} (h : So w u x y t p l cs s) (k : Below u.heap.size u u') : So w u' x y t p l cs s :=
  ⟨h.beg.all k, h.out.all k, h.crew.all k, h.had.all k, h.len, h.lob, h.loC, h.loH, h.oC, h.oH, h.CH⟩

theorem So.drewN {w u : World} {x y : Value} {t p : Int} {l : Sl8} {cs : List Int} {s : Ls} (h : So w u x y t p l cs s) (n : Nat) : So w (u.drewN n) x y t p l cs s := h.all (below_drewN (Below.refl _ _) n)

theorem Begun.past {w u : World} {x y : Value} {t p : Int} (h : Begun w u x y t p) {b : Nat} (hb : w.heap.size + 1 < b) (j : Nat) (v : Value) : Begun w (u.setCell ⟨b, j, none⟩ v) x y t p :=
  ⟨h.arg.past (by omega) _, h.res.past (by omega) _, below_set h.bel (by omega) _⟩

/-- It stands elsewhere. -/
theorem So.go {w u : World} {x y : Value} {t p : Int} {l : Sl8} {cs : List Int} {s : Ls} (h : So w u x y t p l cs s) (n : Nat) : So w (u.setCell ⟨l.bo, 3, none⟩ (.int .i64 (n : Int))) x y t p l cs ⟨s.had, s.turns, n⟩ :=
  ⟨h.beg.past h.lob _ _, h.out.set3 _, h.crew.past (Ne.symm h.oC) _, h.had.past (Ne.symm h.oH) _, h.len, h.lob, h.loC, h.loH, h.oC, h.oH, h.CH⟩

/-- One had one more. -/
theorem So.had1 {w u : World} {x y : Value} {t p : Int} {l : Sl8} {cs : List Int} {s : Ls} (h : So w u x y t p l cs s) (j : Nat) (v : Int) : So w (u.setCell ⟨l.gH, j, none⟩ (.int .i64 v)) x y t p l cs ⟨s.had.set j v, s.turns, s.pos⟩ :=
  ⟨h.beg.past h.loH _ _, h.out.past h.oH _, h.crew.past h.CH _, h.had.set j v, h.len, h.lob, h.loC, h.loH, h.oC, h.oH, h.CH⟩

/-- All had one more. -/
theorem So.turn {w u : World} {x y : Value} {t p : Int} {l : Sl8} {cs : List Int} {s : Ls} (h : So w u x y t p l cs s) (v : Int) : So w (u.setCell ⟨l.bo, 2, none⟩ (.int .i64 v)) x y t p l cs ⟨s.had, v, s.pos⟩ :=
  ⟨h.beg.past h.lob _ _, h.out.set2 _, h.crew.past (Ne.symm h.oC) _, h.had.past (Ne.symm h.oH) _, h.len, h.lob, h.loC, h.loH, h.oC, h.oH, h.CH⟩

/-- A cycle begins. -/
theorem So.begun {w u : World} {x y : Value} {t p : Int} {l : Sl8} {cs : List Int} {s : Ls} (h : So w u x y t p l cs s) (hn : (l.n : Int) ≤ 1048576) :
    So w ((((u.setCell ⟨l.bo, 1, none⟩ (.slice (some ⟨u.heap.size, 0, none⟩) l.n l.n)).setCell ⟨l.bo, 2, none⟩ (.int .i64 0)).setCell ⟨l.bo, 3, none⟩ (.int .i64 0)).alloc (.cells (zeros l.n) 2)) x y t p ⟨l.bo, l.gC, l.cC, u.heap.size, l.n, l.n⟩ cs ⟨List.replicate cs.length 0, 0, 0⟩ := by
  have Z := row_zeros_at (X := ((u.setCell ⟨l.bo, 1, none⟩ (.slice (some ⟨u.heap.size, 0, none⟩) l.n l.n)).setCell ⟨l.bo, 2, none⟩ (.int .i64 0)).setCell ⟨l.bo, 3, none⟩ (.int .i64 0)) (s := u.heap.size) (by simp) l.n hn
  have lb := h.out.lt
  have lC := h.crew.lt
  have lo := h.lob
  refine ⟨(((h.beg.past h.lob _ _).past h.lob _ _).past h.lob _ _).all (below_new _ _), (((h.out.set1 _).set2 _).set3 _).alloc _, (((h.crew.past (Ne.symm h.oC) _).past (Ne.symm h.oC) _).past (Ne.symm h.oC) _).alloc _, ?_, h.len, h.lob, h.loC, ?_, h.oC, Nat.ne_of_lt lb, Nat.ne_of_lt lC⟩
  · show Row _ u.heap.size l.n (List.replicate cs.length 0)
    rw [h.len]
    exact Z
  · show w.heap.size + 1 < u.heap.size
    omega

/-- What is answered. -/
theorem So.answer {w u : World} {x y : Value} {t : Int} {p : Nat} {l : Sl8} {cs hs : List Int} {s : Ls} (h : So w u x y t p l cs s) (hk : lnOk cs hs t p = true) (hs' : s = lsStep cs ⟨hs, t, p⟩) (hl : s.had.length = cs.length) {k : Nat} (hkk : k = lsWho cs (lsFresh cs ⟨hs, t, p⟩)) :
    NextPost w cs hs t p (.returned (.tuple #[lv (.slice (some ⟨l.gC, 0, none⟩) l.n l.cC) (.slice (some ⟨l.gH, 0, none⟩) l.n l.cH) s.turns s.pos, .int .i64 (k : Int)])) ((((u.setCell ⟨w.heap.size + 1, 0, none⟩ (.slice (some ⟨l.gC, 0, none⟩) l.n l.cC)).setCell ⟨w.heap.size + 1, 1, none⟩ (.slice (some ⟨l.gH, 0, none⟩) l.n l.cH)).setCell ⟨w.heap.size + 1, 2, none⟩ (.int .i64 s.turns)).setCell ⟨w.heap.size + 1, 3, none⟩ (.int .i64 (s.pos : Int))) := by
  obtain ⟨e1, e2, e3, e4, e5⟩ := ln_yes hk
  rw [Int.toNat_natCast] at e2 e3 e4 e5
  unfold NextPost
  rw [e1, e2, e3, e4, e5, ← hs', ← hkk]
  have h1 := h.loC
  have h2 := h.loH
  refine ⟨_, _, _, _, _, _, rfl, (h.crew.sets4 (by omega) _ _ _ _).fit (by omega) h.len, (h.had.sets4 (by omega) _ _ _ _).fit (by omega) (by rw [hl]; exact h.len), fun x y hx hy => by cases hx; cases hy; exact h.CH, below_sets4 h.beg.bel (Nat.le_succ _) _ _ _ _⟩

theorem specListNext_off (a : Option Addr) (len cap : Nat) (cs : List Int) (a' : Option Addr) (len' cap' : Nat) (hs : List Int) (t p : Int) (w : World) (I : Ints w a len cs) (J : Ints w a' len' hs) (hsz : (len : Int) ≤ 1048576) (hk : listOk cs hs t p = false) :
    Calls Try.prog 23 #[lv (.slice a len cap) (.slice a' len' cap') t p] w (NextPost w cs hs t p) := by
  obtain ⟨W0, hW0⟩ : ∃ W0, W0 = (w.alloc (.cells #[.slice a len cap, .slice a' len' cap', .int .i64 t, .int .i64 p] 31)).alloc (.cells #[.slice none 0 0, .slice none 0 0, .int .i64 0, .int .i64 0] 31) := ⟨_, rfl⟩
  have H0 : Hid (Begun w W0 (.slice a len cap) (.slice a' len' cap') t p) := by rw [hW0]; exact begun_new w _ _ t p
  have HI : Hid (Ints w a len cs ∧ Ints w a' len' hs) := ⟨I, J⟩
  have HK : Hid (listOk cs hs t p = false) := hk
  clear I J hk
  go_enter Try.func23, Try.ntmps23
  go_wp2_with fail
  rw [← hW0]
  clear hW0
  refine (specListX a len cap cs a' len' cap' hs t p _ (HI.out.1.kept H0.out.bel) (HI.out.2.kept H0.out.bel) hsz).mono ?_
  rw [HK.out]
  rintro e w1 ⟨rfl, B1⟩
  have H1 : Hid (Begun w w1 (.slice a len cap) (.slice a' len' cap') t p) := H0.out.all B1
  clear H0 B1
  have q0 := H1.out.res.c0
  have q1 := H1.out.res.c1
  have q2 := H1.out.res.c2
  have q3 := H1.out.res.c3
  have f0 := H1.out.res.fr 0
  have f1 := H1.out.res.fr 1
  have f2 := H1.out.res.fr 2
  have f3 := H1.out.res.fr 3
  go_wp2_with fail
  refine bodyPost_ret (ret_quad2 rfl rfl rfl ((((H1.out.res.set0 _).set1 _).set2 _).set3 _)) rfl ?_
  exact next_none (by rw [lnOk, HK.out]; rfl) H1.out

set_option maxHeartbeats 2000000 in
theorem specListNext_in (a : Option Addr) (len cap : Nat) (cs : List Int) (a' : Option Addr) (len' cap' : Nat) (hs : List Int) (t : Int) (n : Nat) (w : World) (I : Ints w a len cs) (J : Ints w a' len' hs) (R : Right cs ⟨hs, t, n⟩) (hO : ¬ t = sumI cs) :
    Calls Try.prog 23 #[lv (.slice a len cap) (.slice a' len' cap') t n] w (NextPost w cs hs t n) := by
  obtain ⟨W0, hW0⟩ : ∃ W0, W0 = (w.alloc (.cells #[.slice a len cap, .slice a' len' cap', .int .i64 t, .int .i64 n] 31)).alloc (.cells #[.slice none 0 0, .slice none 0 0, .int .i64 0, .int .i64 0] 31) := ⟨_, rfl⟩
  have H0 : Hid (Begun w W0 (.slice a len cap) (.slice a' len' cap') t n) := by rw [hW0]; exact begun_new w _ _ t n
  have HI : Hid (Ints w a len cs ∧ Ints w a' len' hs ∧ listOk cs hs t n = true) := ⟨I, J, R.ok⟩
  have hl := I.1
  have hl' := J.1
  have h24 := crew_len R.crew
  have hll : len' = len := by have := R.len; simp only at this; omega
  subst hll
  have hs24 : (len' : Int) ≤ 24 := by omega
  have hs1 : (1 : Int) ≤ (len' : Int) := by omega
  have hsz : (len' : Int) ≤ 1048576 := by omega
  have hm := made_ints len' hsz
  have HR : Hid (Right cs ⟨hs, t, n⟩) := R
  have HL : Hid (cs.length = len') := hl
  obtain ⟨tt, htt⟩ : ∃ tt, tt = sumI cs := ⟨_, rfl⟩
  have HTT := hid htt
  have hbt := R.bounds
  rw [← htt] at hbt
  have ho := hO
  rw [← htt] at ho
  clear I J R hl hl' h24 htt hO
  go_enter Try.func23, Try.ntmps23
  go_wp2_with fail
  rw [← hW0]
  clear hW0
  refine (specListX a len' cap cs a' len' cap' hs t n _ (HI.out.1.kept H0.out.bel) (HI.out.2.1.kept H0.out.bel) hsz).mono ?_
  rw [HI.out.2.2]
  rintro e w1 ⟨rfl, B1⟩
  have H1 : Hid (Begun w w1 (.slice a len' cap) (.slice a' len' cap') t n) := H0.out.all B1
  clear H0 B1
  have t0 := H1.out.arg.c0
  have t1 := H1.out.arg.c1
  have t2 := H1.out.arg.c2
  have t3 := H1.out.arg.c3
  go_wp2_with fail
  clear t0 t1 t2 t3
  refine (copy8_any a len' cap cs a' len' cap' hs t n _ (HI.out.1.kept H1.out.bel) (HI.out.2.1.kept H1.out.bel) hsz hsz).mono ?_
  rintro e w2 ⟨gC, cC, gH, cH, rfl, RC, RH, hgC, hgH, hne, B2⟩
  have hz := H1.out.res.lt
  have lC := RC.lt
  have lH := RH.lt
  have H2 : Hid (So w (w2.alloc (.cells #[.slice (some ⟨gC, 0, none⟩) len' cC, .slice (some ⟨gH, 0, none⟩) len' cH, .int .i64 t, .int .i64 n] 31)) (.slice a len' cap) (.slice a' len' cap') t n ⟨w2.heap.size, gC, cC, gH, cH, len'⟩ cs ⟨hs, t, n⟩) :=
    ⟨(H1.out.all B2).all (below_new _ _), quad_new _ _ _ _ _, RC.alloc _, RH.alloc _, HL.out, by show _ < w2.heap.size; omega, by show _ < gC; omega, by show _ < gH; omega, by show w2.heap.size ≠ gC; omega, by show w2.heap.size ≠ gH; omega, hne⟩
  clear H1 RC RH hgC hgH hne B2 hz lC lH
  go_wp2_with fail
  generalize w2.alloc (.cells #[.slice (some ⟨gC, 0, none⟩) len' cC, .slice (some ⟨gH, 0, none⟩) len' cH, .int .i64 t, .int .i64 n] 31) = wv at *
  generalize w2.heap.size = bo at *
  refine (sum_any _ len' cC cs _ (by have h := H2.out.crew.ints; rw [HL.out] at h; exact h) hsz (crew_small HR.out.crew)).mono ?_
  rw [← HTT.out]
  rintro e w2' ⟨rfl, rfl⟩
  have hof : (t == tt) = false := by simpa using ho
  obtain ⟨s1, hs1'⟩ : ∃ s1 : Ls, s1 = ⟨hs, t, n⟩ := ⟨_, rfl⟩
  have HT : Hid (So w w2' (.slice a len' cap) (.slice a' len' cap') t n ⟨bo, gC, cC, gH, cH, len'⟩ cs s1 ∧ Right cs s1 ∧ lsFresh cs ⟨hs, t, n⟩ = s1) := by
    refine ⟨by rw [hs1']; exact H2.out, by rw [hs1']; exact HR.out, ?_⟩
    rw [hs1', lsFresh, if_neg (by show ¬ t = _; rw [← HTT.out]; exact ho)]
  have o2 : w2'.cell? ⟨bo, 2, none⟩ = some (.int .i64 t) := H2.out.out.c2
  clear ho H2 hs1'
  go_upto_region 9 with fail
  clear o2
  generalize w2' = wv at *
  have hp := HT.out.2.1.lt
  have hn24 := (crew_len HT.out.2.1.crew).2
  have hl : cs.length = len' := HT.out.1.len
  have hp' : (s1.pos : Int) < (len' : Int) := by omega
  have o0 : wv.cell? ⟨bo, 0, none⟩ = some (.slice (some ⟨gC, 0, none⟩) len' cC) := HT.out.1.out.c0
  go_wp2_with fail
  clear o0
  refine (specBy_order (some ⟨gC, 0, none⟩) len' cC cs _ (by have h := HT.out.1.crew.ints; rw [hl] at h; exact h) HT.out.2.1.crew).mono ?_
  rintro e w3 ⟨gO, cO, rfl, RO, hgO, B3⟩
  obtain ⟨k, hk⟩ : ∃ k, k = ordN cs s1.pos := ⟨_, rfl⟩
  have hkc : k < cs.length := by rw [hk]; exact ordN_lt hp
  have hgl := HT.out.1.had.lt
  have hbl := HT.out.1.out.lt
  have HU : Hid (So w w3 (.slice a len' cap) (.slice a' len' cap') t n ⟨bo, gC, cC, gH, cH, len'⟩ cs s1 ∧ Right cs s1 ∧ lsFresh cs ⟨hs, t, n⟩ = s1 ∧ Row w3 gO cO (byW cs cs.length) ∧ gO ≠ gH ∧ gO ≠ bo ∧ k = ordN cs s1.pos ∧ s1.pos < cs.length ∧ cs.length = len' ∧ k < cs.length) := ⟨HT.out.1.all B3, HT.out.2.1, HT.out.2.2, RO, Nat.ne_of_gt (Nat.lt_of_lt_of_le hgl hgO), Nat.ne_of_gt (Nat.lt_of_lt_of_le hbl hgO), hk, hp, hl, hkc⟩
  have d0 := RO.cell (j := s1.pos) (by rw [byW_length]; exact hp)
  rw [ordN_get hp, ← hk] at d0
  have o3 : w3.cell? ⟨bo, 3, none⟩ = some (.int .i64 (s1.pos : Int)) := HU.out.1.out.c3
  have o0 : w3.cell? ⟨bo, 0, none⟩ = some (.slice (some ⟨gC, 0, none⟩) len' cC) := HU.out.1.out.c0
  have o1 : w3.cell? ⟨bo, 1, none⟩ = some (.slice (some ⟨gH, 0, none⟩) len' cH) := HU.out.1.out.c1
  obtain ⟨x1, hx1⟩ : ∃ x1, x1 = cs.getD k 0 := ⟨_, rfl⟩
  obtain ⟨y1, hy1⟩ : ∃ y1, y1 = s1.had.getD k 0 := ⟨_, rfl⟩
  have e1 : w3.cell? ⟨gC, k, none⟩ = some (.int .i64 x1) := by rw [hx1]; exact HU.out.1.crew.cell hkc
  have e2 : w3.cell? ⟨gH, k, none⟩ = some (.int .i64 y1) := by rw [hy1]; exact HU.out.1.had.cell (by rw [HU.out.2.1.len]; exact hkc)
  have b1 := HU.out.2.1.had k hkc
  rw [← hx1, ← hy1] at b1
  have b2 := crew_get HU.out.2.1.crew k
  rw [← hx1] at b2
  have hk' : (k : Int) < (len' : Int) := by omega
  have hk0 : (0 : Int) ≤ (k : Int) := by omega
  have hp0 : (0 : Int) ≤ (s1.pos : Int) := by omega
  have HX1 : Hid (x1 = cs.getD k 0 ∧ y1 = s1.had.getD k 0) := ⟨hx1, hy1⟩
  clear HT B3 RO hgO hk hkc hp hl hn24 hx1 hy1 hgl hbl
  cases hst : lsStuck cs s1
  · have hne : (y1 == x1) = false := by
      have h : lef cs s1.had (lsWho cs s1) ≠ 0 := by simpa [lsStuck] using hst
      rw [lsWho, ← HU.out.2.2.2.2.2.2.1, lef, ← HX1.out.1, ← HX1.out.2] at h
      simp; omega
    have HS : Hid (lsStuck cs s1 = false) := hst
    clear hst
    go_wp2_with fail
    go_quiet (fail)
    have HV : Hid (So w (w3.drewN nq) (.slice a len' cap) (.slice a' len' cap') t n ⟨bo, gC, cC, gH, cH, len'⟩ cs s1 ∧ Row (w3.drewN nq) gO cO (byW cs cs.length)) := ⟨HU.out.1.drewN _, row_drewN HU.out.2.2.2.1 _⟩
    generalize w3.drewN nq = w4 at *
    clear d0 o0 o1 o3 e1 e2
    have o1 : w4.cell? ⟨bo, 1, none⟩ = some (.slice (some ⟨gH, 0, none⟩) len' cH) := HV.out.1.out.c1
    have e2 : w4.cell? ⟨gH, k, none⟩ = some (.int .i64 y1) := by rw [HX1.out.2]; exact HV.out.1.had.cell (by rw [HU.out.2.1.len]; exact HU.out.2.2.2.2.2.2.2.2.2)
    have f2 : w4.frozen? ⟨gH, k, none⟩ = false := HV.out.1.had.frozen k
    go_wp2_with fail
    go_region
    obtain ⟨s2, hs2⟩ : ∃ s2 : Ls, s2 = ⟨lsHad cs s1, s1.turns + 1, s1.pos⟩ := ⟨_, rfl⟩
    have R2 : Right cs s2 := by rw [hs2]; exact (HU.out.2.1.took HS.out).moved HU.out.2.1.lt
    have HW : Hid (So w (w4.setCell ⟨gH, k, none⟩ (.int .i64 (y1 + 1))).drew (.slice a len' cap) (.slice a' len' cap') t n ⟨bo, gC, cC, gH, cH, len'⟩ cs ⟨s2.had, s1.turns, s2.pos⟩ ∧ Row (w4.setCell ⟨gH, k, none⟩ (.int .i64 (y1 + 1))).drew gO cO (byW cs cs.length)) := by
      refine ⟨?_, (HV.out.2.past HU.out.2.2.2.2.1 _).drew⟩
      have h := (HV.out.1.had1 k (y1 + 1)).drewN 1
      rw [HX1.out.2] at h ⊢
      rw [hs2, lsHad, lsWho, ← HU.out.2.2.2.2.2.2.1]
      exact h
    generalize (w4.setCell ⟨gH, k, none⟩ (.int .i64 (y1 + 1))).drew = w5 at *
    clear o1 e2 f2 HV
    have bt := HU.out.2.1.bounds
    have o2 : w5.cell? ⟨bo, 2, none⟩ = some (.int .i64 s1.turns) := HW.out.1.out.c2
    have f2 : w5.frozen? ⟨bo, 2, none⟩ = false := HW.out.1.out.fr 2
    have o3 : (w5.setCell ⟨bo, 2, none⟩ (.int .i64 (s1.turns + 1))).cell? ⟨bo, 3, none⟩ = some (.int .i64 (s1.pos : Int)) := by
      have h := (HW.out.1.out.set2 (s1.turns + 1)).c3
      rw [hs2] at h
      exact h
    have HX6 : Hid (So w (w5.setCell ⟨bo, 2, none⟩ (.int .i64 (s1.turns + 1))) (.slice a len' cap) (.slice a' len' cap') t n ⟨bo, gC, cC, gH, cH, len'⟩ cs s2 ∧ Row (w5.setCell ⟨bo, 2, none⟩ (.int .i64 (s1.turns + 1))) gO cO (byW cs cs.length)) := by
      refine ⟨?_, HW.out.2.past HU.out.2.2.2.2.2.1 _⟩
      have h := HW.out.1.turn (s1.turns + 1)
      rw [hs2] at h ⊢
      exact h
    have o3w : w5.cell? ⟨bo, 3, none⟩ = some (.int .i64 (s1.pos : Int)) := by
      have h := HW.out.1.out.c3
      rw [hs2] at h
      exact h
    obtain ⟨s3, hs3⟩ : ∃ s3 : Ls, s3 = lsTook cs s1 := ⟨_, rfl⟩
    have HA : Hid (lnOk cs hs t n = true ∧ s3 = lsStep cs ⟨hs, t, n⟩ ∧ s3.had.length = cs.length ∧ k = lsWho cs (lsFresh cs ⟨hs, t, n⟩)) := by
      refine ⟨?_, by rw [hs3, lsStep, HU.out.2.2.1], by rw [hs3]; exact (HU.out.2.1.took HS.out).len, by rw [HU.out.2.2.1, lsWho]; exact HU.out.2.2.2.2.2.2.1⟩
      rw [ln_right (s := ⟨hs, t, n⟩) HR.out, lsCan, HU.out.2.2.1, HS.out]; rfl
    have HS2 : Hid (s2 = ⟨lsHad cs s1, s1.turns + 1, s1.pos⟩ ∧ s3 = ⟨s2.had, s2.turns, goPos cs s2⟩ ∧ Right cs s2) := ⟨hs2, by rw [hs3, hs2]; rfl, R2⟩
    clear hs2 hs3 R2
    by_cases hend : s1.pos + 1 = len'
    · have hend' : (s1.pos : Int) + 1 = (len' : Int) := by omega
      have HG : Hid (s3 = ⟨s2.had, s2.turns, 0⟩) := by
        show _ = _
        rw [HS2.out.2.1, goPos, if_pos (by rw [HS2.out.1, HU.out.2.2.2.2.2.2.2.2.1]; exact hend)]
      have f3 : w5.frozen? ⟨bo, 3, none⟩ = false := HW.out.1.out.fr 3
      have HZ : Hid (So w ((w5.setCell ⟨bo, 2, none⟩ (.int .i64 (s1.turns + 1))).setCell ⟨bo, 3, none⟩ (.int .i64 0)) (.slice a len' cap) (.slice a' len' cap') t n ⟨bo, gC, cC, gH, cH, len'⟩ cs s3) := by
        rw [HG.out]
        exact HX6.out.1.go 0
      have z0 : w5.cell? ⟨bo, 0, none⟩ = some (.slice (some ⟨gC, 0, none⟩) len' cC) := HW.out.1.out.c0
      have z1 : w5.cell? ⟨bo, 1, none⟩ = some (.slice (some ⟨gH, 0, none⟩) len' cH) := HW.out.1.out.c1
      have r0 := HW.out.1.beg.res.c0
      have r1 := HW.out.1.beg.res.c1
      have r2 := HW.out.1.beg.res.c2
      have r3 := HW.out.1.beg.res.c3
      have g0 := HW.out.1.beg.res.fr 0
      have g1 := HW.out.1.beg.res.fr 1
      have g2 := HW.out.1.beg.res.fr 2
      have g3 := HW.out.1.beg.res.fr 3
      have lob : w.heap.size + 1 < bo := HW.out.1.lob
      have nb1 : ¬ w.heap.size + 1 = bo := Nat.ne_of_lt lob
      have nb2 : ¬ bo = w.heap.size + 1 := Nat.ne_of_gt lob
      go_wp2_with fail
      refine bodyPost_ret (ret_quad2 rfl rfl rfl ((((HZ.out.beg.res.set0 _).set1 _).set2 _).set3 _)) rfl ?_
      have h := HZ.out.answer HA.out.1 HA.out.2.1 HA.out.2.2.1 HA.out.2.2.2
      rw [HG.out, HS2.out.1] at h
      exact h
    · have hend' : ((s1.pos : Int) + 1 == (len' : Int)) = false := by simp; omega
      have hp1 : s1.pos + 1 < cs.length := by have := HU.out.2.2.2.2.2.2.2; omega
      have f3 : w5.frozen? ⟨bo, 3, none⟩ = false := HW.out.1.out.fr 3
      obtain ⟨j, hj⟩ : ∃ j, j = ordN cs (s1.pos + 1) := ⟨_, rfl⟩
      have hjc : j < cs.length := by rw [hj]; exact ordN_lt hp1
      have d1 : (w5.setCell ⟨bo, 2, none⟩ (.int .i64 (s1.turns + 1))).cell? ⟨gO, s1.pos + 1, none⟩ = some (.int .i64 (j : Int)) := by
        have h := HX6.out.2.cell (j := s1.pos + 1) (by rw [byW_length]; exact hp1)
        rw [ordN_get hp1, ← hj] at h
        exact h
      have hp1' : (s1.pos : Int) + 1 < (len' : Int) := by omega
      have HJ : Hid (j = ordN cs (s1.pos + 1) ∧ j < cs.length) := ⟨hj, hjc⟩
      have hjn' : (j : Int) < (len' : Int) := by have := HU.out.2.2.2.2.2.2.2.2.1; omega
      have hj0 : (0 : Int) ≤ (j : Int) := by omega
      clear hj hjc hp1
      go_upto_region 15 with fail
      generalize w5.setCell ⟨bo, 2, none⟩ (.int .i64 (s1.turns + 1)) = w6 at *
      have HEN := hid hend
      have HPP : Hid (s2.pos = s1.pos) := by
        show _ = _
        rw [HS2.out.1]
      clear hend f2 o2 o3w f3
      obtain ⟨x2, hx2⟩ : ∃ x2, x2 = cs.getD j 0 := ⟨_, rfl⟩
      obtain ⟨y2, hy2⟩ : ∃ y2, y2 = s2.had.getD j 0 := ⟨_, rfl⟩
      obtain ⟨h1, hh1⟩ : ∃ h1, h1 = s2.had.getD k 0 := ⟨_, rfl⟩
      have o0 : w6.cell? ⟨bo, 0, none⟩ = some (.slice (some ⟨gC, 0, none⟩) len' cC) := HX6.out.1.out.c0
      have o1 : w6.cell? ⟨bo, 1, none⟩ = some (.slice (some ⟨gH, 0, none⟩) len' cH) := HX6.out.1.out.c1
      have o2 : w6.cell? ⟨bo, 2, none⟩ = some (.int .i64 s2.turns) := HX6.out.1.out.c2
      have e1 : w6.cell? ⟨gC, k, none⟩ = some (.int .i64 x1) := by rw [HX1.out.1]; exact HX6.out.1.crew.cell HU.out.2.2.2.2.2.2.2.2.2
      have e2 : w6.cell? ⟨gH, k, none⟩ = some (.int .i64 h1) := by rw [hh1]; exact HX6.out.1.had.cell (by rw [HS2.out.2.2.len]; exact HU.out.2.2.2.2.2.2.2.2.2)
      have e3 : w6.cell? ⟨gC, j, none⟩ = some (.int .i64 x2) := by rw [hx2]; exact HX6.out.1.crew.cell HJ.out.2
      have e4 : w6.cell? ⟨gH, j, none⟩ = some (.int .i64 y2) := by rw [hy2]; exact HX6.out.1.had.cell (by rw [HS2.out.2.2.len]; exact HJ.out.2)
      have b3 := HS2.out.2.2.had k HU.out.2.2.2.2.2.2.2.2.2
      rw [← hh1, ← HX1.out.1] at b3
      have b4 := HS2.out.2.2.had j HJ.out.2
      rw [← hx2, ← hy2] at b4
      have b5 := crew_get HU.out.2.1.crew j
      rw [← hx2] at b5
      have b6 := HS2.out.2.2.bounds
      rw [← HTT.out] at b6
      have m1 := mul_small (x := y2) (y := tt) b4.1 (by omega) (by omega) (by omega)
      have m2 := mul_small (x := x2) (y := s2.turns + 1) b5.1 b5.2 (by omega) (by omega)
      rw [Int.mul_comm x2] at m2
      have HGO0 : Hid (lsGoes cs s2.had s2.turns (ordN cs s2.pos) (ordN cs (s2.pos + 1)) = (decide (x1 - h1 < x2 - y2) || decide (y2 * tt < (s2.turns + 1) * x2))) := by
        show _ = _
        rw [lsGoes, lef, lef, HPP.out, ← HU.out.2.2.2.2.2.2.1, ← HJ.out.1, hx2, hy2, hh1, HX1.out.1, HTT.out]
      clear hx2 hy2 hh1 bt hbt b1 hof hne
      by_cases hA : x1 - h1 < x2 - y2
      · have HGO : Hid (lsGoes cs s2.had s2.turns (ordN cs s2.pos) (ordN cs (s2.pos + 1)) = true) := by
          show _ = _
          rw [HGO0.out]; simp [hA]
        go_wp2_with fail
        go_quiet (fail)
        have HY : Hid (So w (w6.drewN nq) (.slice a len' cap) (.slice a' len' cap') t n ⟨bo, gC, cC, gH, cH, len'⟩ cs s2) := HX6.out.1.drewN _
        generalize w6.drewN nq = w7 at *
        clear o0 o1 o2 o3 e1 e2 e3 e4 d1
        have g3 : w7.cell? ⟨bo, 3, none⟩ = some (.int .i64 (s1.pos : Int)) := by
          have h := HY.out.out.c3
          rw [HPP.out] at h
          exact h
        have h3 : w7.frozen? ⟨bo, 3, none⟩ = false := HY.out.out.fr 3
        have HG : Hid (s3 = ⟨s2.had, s2.turns, (s2.pos + 1)⟩) := by
          show _ = _
          rw [HS2.out.2.1, goPos, if_neg (by rw [HPP.out, HU.out.2.2.2.2.2.2.2.2.1]; exact HEN.out), HGO.out]; rfl
        have HZ : Hid (So w (w7.setCell ⟨bo, 3, none⟩ (.int .i64 ((s1.pos : Int) + 1))) (.slice a len' cap) (.slice a' len' cap') t n ⟨bo, gC, cC, gH, cH, len'⟩ cs s3) := by
          rw [HG.out]
          have h := HY.out.go (s2.pos + 1)
          rw [show (((s2.pos + 1 : Nat) : Int)) = (s1.pos : Int) + 1 by rw [HPP.out]; omega] at h
          exact h
        go_upto_region 22 with fail
        clear g3 h3 HY
        generalize w7.setCell ⟨bo, 3, none⟩ (.int .i64 ((s1.pos : Int) + 1)) = w8 at *
        have o0 : w8.cell? ⟨bo, 0, none⟩ = some (.slice (some ⟨gC, 0, none⟩) len' cC) := HZ.out.out.c0
        have o1 : w8.cell? ⟨bo, 1, none⟩ = some (.slice (some ⟨gH, 0, none⟩) len' cH) := HZ.out.out.c1
        have o2 : w8.cell? ⟨bo, 2, none⟩ = some (.int .i64 s3.turns) := HZ.out.out.c2
        have o3 : w8.cell? ⟨bo, 3, none⟩ = some (.int .i64 (s3.pos : Int)) := HZ.out.out.c3
        have q0 := HZ.out.beg.res.c0
        have q1 := HZ.out.beg.res.c1
        have q2 := HZ.out.beg.res.c2
        have q3 := HZ.out.beg.res.c3
        have f0 := HZ.out.beg.res.fr 0
        have f1 := HZ.out.beg.res.fr 1
        have f2 := HZ.out.beg.res.fr 2
        have f3 := HZ.out.beg.res.fr 3
        go_wp2_with fail
        refine bodyPost_ret (ret_quad2 rfl rfl rfl ((((HZ.out.beg.res.set0 _).set1 _).set2 _).set3 _)) rfl ?_
        exact HZ.out.answer HA.out.1 HA.out.2.1 HA.out.2.2.1 HA.out.2.2.2
      · have hdA : decide (x1 - h1 < x2 - y2) = false := by simp; omega
        by_cases hB : y2 * tt < (s2.turns + 1) * x2
        · have hdB : decide (y2 * tt < (s2.turns + 1) * x2) = true := by simpa using hB
          have HGO : Hid (lsGoes cs s2.had s2.turns (ordN cs s2.pos) (ordN cs (s2.pos + 1)) = true) := by
            show _ = _
            rw [HGO0.out, hdA, hdB]; rfl
          go_wp2_with fail
          go_quiet (fail)
          have HY : Hid (So w (w6.drewN nq) (.slice a len' cap) (.slice a' len' cap') t n ⟨bo, gC, cC, gH, cH, len'⟩ cs s2) := HX6.out.1.drewN _
          generalize w6.drewN nq = w7 at *
          clear o0 o1 o2 o3 e1 e2 e3 e4 d1
          have g3 : w7.cell? ⟨bo, 3, none⟩ = some (.int .i64 (s1.pos : Int)) := by
            have h := HY.out.out.c3
            rw [HPP.out] at h
            exact h
          have h3 : w7.frozen? ⟨bo, 3, none⟩ = false := HY.out.out.fr 3
          have HG : Hid (s3 = ⟨s2.had, s2.turns, (s2.pos + 1)⟩) := by
            show _ = _
            rw [HS2.out.2.1, goPos, if_neg (by rw [HPP.out, HU.out.2.2.2.2.2.2.2.2.1]; exact HEN.out), HGO.out]; rfl
          have HZ : Hid (So w (w7.setCell ⟨bo, 3, none⟩ (.int .i64 ((s1.pos : Int) + 1))) (.slice a len' cap) (.slice a' len' cap') t n ⟨bo, gC, cC, gH, cH, len'⟩ cs s3) := by
            rw [HG.out]
            have h := HY.out.go (s2.pos + 1)
            rw [show (((s2.pos + 1 : Nat) : Int)) = (s1.pos : Int) + 1 by rw [HPP.out]; omega] at h
            exact h
          go_upto_region 22 with fail
          clear g3 h3 HY
          generalize w7.setCell ⟨bo, 3, none⟩ (.int .i64 ((s1.pos : Int) + 1)) = w8 at *
          have o0 : w8.cell? ⟨bo, 0, none⟩ = some (.slice (some ⟨gC, 0, none⟩) len' cC) := HZ.out.out.c0
          have o1 : w8.cell? ⟨bo, 1, none⟩ = some (.slice (some ⟨gH, 0, none⟩) len' cH) := HZ.out.out.c1
          have o2 : w8.cell? ⟨bo, 2, none⟩ = some (.int .i64 s3.turns) := HZ.out.out.c2
          have o3 : w8.cell? ⟨bo, 3, none⟩ = some (.int .i64 (s3.pos : Int)) := HZ.out.out.c3
          have q0 := HZ.out.beg.res.c0
          have q1 := HZ.out.beg.res.c1
          have q2 := HZ.out.beg.res.c2
          have q3 := HZ.out.beg.res.c3
          have f0 := HZ.out.beg.res.fr 0
          have f1 := HZ.out.beg.res.fr 1
          have f2 := HZ.out.beg.res.fr 2
          have f3 := HZ.out.beg.res.fr 3
          go_wp2_with fail
          refine bodyPost_ret (ret_quad2 rfl rfl rfl ((((HZ.out.beg.res.set0 _).set1 _).set2 _).set3 _)) rfl ?_
          exact HZ.out.answer HA.out.1 HA.out.2.1 HA.out.2.2.1 HA.out.2.2.2
        · have hdB : decide (y2 * tt < (s2.turns + 1) * x2) = false := by simpa using hB
          have HGO : Hid (lsGoes cs s2.had s2.turns (ordN cs s2.pos) (ordN cs (s2.pos + 1)) = false) := by
            show _ = _
            rw [HGO0.out, hdA, hdB]; rfl
          go_wp2_with fail
          go_quiet (fail)
          have HY : Hid (So w (w6.drewN nq) (.slice a len' cap) (.slice a' len' cap') t n ⟨bo, gC, cC, gH, cH, len'⟩ cs s2) := HX6.out.1.drewN _
          generalize w6.drewN nq = w7 at *
          clear o0 o1 o2 o3 e1 e2 e3 e4 d1
          have g3 : w7.cell? ⟨bo, 3, none⟩ = some (.int .i64 (s1.pos : Int)) := by
            have h := HY.out.out.c3
            rw [HPP.out] at h
            exact h
          have h3 : w7.frozen? ⟨bo, 3, none⟩ = false := HY.out.out.fr 3
          have HG : Hid (s3 = ⟨s2.had, s2.turns, 0⟩) := by
            show _ = _
            rw [HS2.out.2.1, goPos, if_neg (by rw [HPP.out, HU.out.2.2.2.2.2.2.2.2.1]; exact HEN.out), HGO.out]; rfl
          have HZ : Hid (So w (w7.setCell ⟨bo, 3, none⟩ (.int .i64 0)) (.slice a len' cap) (.slice a' len' cap') t n ⟨bo, gC, cC, gH, cH, len'⟩ cs s3) := by
            rw [HG.out]
            have h := HY.out.go 0
            skip
            exact h
          go_upto_region 22 with fail
          clear g3 h3 HY
          generalize w7.setCell ⟨bo, 3, none⟩ (.int .i64 0) = w8 at *
          have o0 : w8.cell? ⟨bo, 0, none⟩ = some (.slice (some ⟨gC, 0, none⟩) len' cC) := HZ.out.out.c0
          have o1 : w8.cell? ⟨bo, 1, none⟩ = some (.slice (some ⟨gH, 0, none⟩) len' cH) := HZ.out.out.c1
          have o2 : w8.cell? ⟨bo, 2, none⟩ = some (.int .i64 s3.turns) := HZ.out.out.c2
          have o3 : w8.cell? ⟨bo, 3, none⟩ = some (.int .i64 (s3.pos : Int)) := HZ.out.out.c3
          have q0 := HZ.out.beg.res.c0
          have q1 := HZ.out.beg.res.c1
          have q2 := HZ.out.beg.res.c2
          have q3 := HZ.out.beg.res.c3
          have f0 := HZ.out.beg.res.fr 0
          have f1 := HZ.out.beg.res.fr 1
          have f2 := HZ.out.beg.res.fr 2
          have f3 := HZ.out.beg.res.fr 3
          go_wp2_with fail
          refine bodyPost_ret (ret_quad2 rfl rfl rfl ((((HZ.out.beg.res.set0 _).set1 _).set2 _).set3 _)) rfl ?_
          exact HZ.out.answer HA.out.1 HA.out.2.1 HA.out.2.2.1 HA.out.2.2.2
  · have heq : y1 = x1 := by
      have h : lef cs s1.had (lsWho cs s1) = 0 := by simpa [lsStuck] using hst
      rw [lsWho, ← HU.out.2.2.2.2.2.2.1, lef, ← HX1.out.1, ← HX1.out.2] at h
      omega
    have hne : (y1 == x1) = true := by simp [heq]
    have HS : Hid (lsStuck cs s1 = true) := hst
    have HQ := hid heq
    clear hst heq
    go_wp2_with fail
    go_quiet (fail)
    have HZ : Hid (So w (w3.drewN nq) (.slice a len' cap) (.slice a' len' cap') t n ⟨bo, gC, cC, gH, cH, len'⟩ cs s1) := HU.out.1.drewN _
    generalize w3.drewN nq = w4 at *
    have q0 := HZ.out.beg.res.c0
    have q1 := HZ.out.beg.res.c1
    have q2 := HZ.out.beg.res.c2
    have q3 := HZ.out.beg.res.c3
    have f0 := HZ.out.beg.res.fr 0
    have f1 := HZ.out.beg.res.fr 1
    have f2 := HZ.out.beg.res.fr 2
    have f3 := HZ.out.beg.res.fr 3
    go_wp2_with fail
    refine bodyPost_ret (ret_quad2 rfl rfl rfl ((((HZ.out.beg.res.set0 _).set1 _).set2 _).set3 _)) rfl ?_
    exact next_none (by rw [ln_right (s := ⟨hs, t, n⟩) HR.out, lsCan, HU.out.2.2.1, HS.out]; rfl) HZ.out.beg

end Go.Proofs.Ytlicjbnagapdeaa.Crew
