/-
  The law FnList: whatever the bytes, it answers true and nothing that was there is written.
-/
import Derived.Test.YtlicjbnagapdeaaListNextI
import Derived.Test.YtlicjbnagapdeaaListFair
import Derived.Test.YtlicjbnagapdeaaListMore
import Derived.Test.YtlicjbnagapdeaaHands
import Derived.Test.YtlicjbnagapdeaaLikeInts
import Derived.Test.YtlicjbnagapdeaaBig
namespace Go.Proofs.Ytlicjbnagapdeaa.Crew
open Go.ChangeShapes Go.WideShapes Go.ChangeAt Go.RowKit
open Go.Proofs.Ytlicjbnagapdeaa.Draw

/-- impl.ListNext at a right List, where it can be done. -/
theorem implNext_yes (a : Option Addr) (len cap : Nat) (cs : List Int) (a' : Option Addr) (len' cap' : Nat) (s : Ls) (w : World) (I : Ints w a len cs) (J : Ints w a' len' s.had) (R : Right cs s) (hc : lsCan cs s = true) :
    Calls Try.prog 15 #[lv (.slice a len cap) (.slice a' len' cap') s.turns s.pos] w fun e w' => ∃ b lb cb d ld cd, e = .returned (.tuple #[lv (.slice b lb cb) (.slice d ld cd) (lsStep cs s).turns (lsStep cs s).pos, .int .i64 ((lsWho cs (lsFresh cs s) : Nat) : Int)]) ∧ Fit w' w.heap.size b lb cb cs ∧ Fit w' w.heap.size d ld cd (lsStep cs s).had ∧ Apart b d ∧ Below w.heap.size w w' := by
  refine (implListNext a len cap cs a' len' cap' s.had s.turns s.pos w I J).mono ?_
  have hk : lnOk cs s.had s.turns s.pos = true := by rw [ln_right R, hc]
  obtain ⟨e1, e2, e3, e4, e5⟩ := ln_yes hk
  rw [Int.toNat_natCast] at e2 e3 e4 e5
  unfold NextPost
  rw [e1, e2, e3, e4, e5]
  exact fun _ _ h => h

/-- The slice lies in another block. -/
def Off (a : Option Addr) (q : Nat) : Prop := ∀ y, a = some y → y.block ≠ q

theorem Fit.off {w : World} {base : Nat} {a : Option Addr} {len cap : Nat} {xs : List Int} (h : Fit w base a len cap xs) {q : Nat} (hq : q < base) : Off a q := fun y hy => by have := (h.ge hy).1; omega

theorem Fit.offs {w : World} {base : Nat} {a : Option Addr} {len cap : Nat} {xs : List Int} (h : Fit w base a len cap xs) {q : Nat} (hq : w.heap.size ≤ q) : Off a q := fun y hy => by have := (h.ge hy).2; omega

theorem Fit.put {w : World} {base : Nat} {a : Option Addr} {len cap : Nat} {xs : List Int} (h : Fit w base a len cap xs) {q j : Nat} (ho : Off a q) (v : Value) : Fit (w.setCell ⟨q, j, none⟩ v) base a len cap xs :=
  h.other (grown_at w q j v) (fun x hx => by have := ho x hx; simpa using this)

/-- What the law knows ahead of a turn. -/
structure Fl (w1 W : World) (g cp bx n : Nat) (xs : List Int) (b : Option Addr) (lb cb : Nat) (d : Option Addr) (ld cd : Nat) (s : Ls) : Prop where
  bel : Below w1.heap.size w1 W
  crew : Row W g cp xs
  lx : xs.length = n
  var : Quad W bx (.slice b lb cb) (.slice d ld cd) s.turns s.pos
  c : Fit W w1.heap.size b lb cb xs
  h : Fit W w1.heap.size d ld cd s.had
  ng : w1.heap.size ≤ g
  nb : w1.heap.size ≤ bx
  gb : g ≠ bx
  fine : Fine xs s

theorem Fl.all {w1 W W' : World} {g cp bx n : Nat} {xs : List Int} {b : Option Addr} {lb cb : Nat} {d : Option Addr} {ld cd : Nat} {s : Ls} (h : Fl w1 W g cp bx n xs b lb cb d ld cd s) (B : Below W.heap.size W W') : Fl w1 W' g cp bx n xs b lb cb d ld cd s :=
  ⟨below_call h.bel h.bel.size B, h.crew.all B, h.lx, h.var.all B, h.c.all B, h.h.all B, h.ng, h.nb, h.gb, h.fine⟩

theorem Fl.ints {w1 W : World} {g cp bx n : Nat} {xs : List Int} {b : Option Addr} {lb cb : Nat} {d : Option Addr} {ld cd : Nat} {s : Ls} (h : Fl w1 W g cp bx n xs b lb cb d ld cd s) : Ints W (some ⟨g, 0, none⟩) n xs := by
  have := h.crew.ints
  rwa [h.lx] at this

/-- And what each one had in this cycle. -/
structure Ft (w1 W : World) (g cp bx n : Nat) (xs : List Int) (b : Option Addr) (lb cb : Nat) (d : Option Addr) (ld cd : Nat) (s : Ls) (gT : Nat) (ns : List Int) : Prop extends Fl w1 W g cp bx n xs b lb cb d ld cd s where
  row : Row W gT n ns
  ln : ns.length = n
  nt : w1.heap.size ≤ gT
  tb : gT ≠ bx
  tg : gT ≠ g
  oc : Off b gT
  oh : Off d gT

/-- In the midst of a turn: y, behind all that was there at base. -/
structure Fy (w1 W : World) (g cp bx n : Nat) (xs : List Int) (X Y : Value) (t p : Int) (gT : Nat) (ns : List Int) (base yv : Nat) (b : Option Addr) (lb cb : Nat) (d : Option Addr) (ld cd : Nat) (s : Ls) : Prop where
  bel : Below w1.heap.size w1 W
  crew : Row W g cp xs
  lx : xs.length = n
  var : Quad W bx X Y t p
  row : Row W gT n ns
  ln : ns.length = n
  y : Quad W yv (.slice b lb cb) (.slice d ld cd) s.turns s.pos
  c : Fit W base b lb cb xs
  h : Fit W base d ld cd s.had
  ng : w1.heap.size ≤ g
  nb : w1.heap.size ≤ bx
  gb : g ≠ bx
  nt : w1.heap.size ≤ gT
  tb : gT ≠ bx
  tg : gT ≠ g
  lT : gT < base
  lb' : bx < base
  ly : base ≤ yv
  lw : w1.heap.size ≤ base
  fine : Fine xs s

theorem Fy.all {w1 W W' : World} {g cp bx n : Nat} {xs : List Int} {X Y : Value} {t p : Int} {gT : Nat} {ns : List Int} {base yv : Nat} {b : Option Addr} {lb cb : Nat} {d : Option Addr} {ld cd : Nat} {s : Ls} (h : Fy w1 W g cp bx n xs X Y t p gT ns base yv b lb cb d ld cd s) (B : Below W.heap.size W W') : Fy w1 W' g cp bx n xs X Y t p gT ns base yv b lb cb d ld cd s :=
  ⟨below_call h.bel h.bel.size B, h.crew.all B, h.lx, h.var.all B, h.row.all B, h.ln, h.y.all B, h.c.all B, h.h.all B, h.ng, h.nb, h.gb, h.nt, h.tb, h.tg, h.lT, h.lb', h.ly, h.lw, h.fine⟩

/-- Who was taken had one more. -/
theorem Fy.one {w1 W : World} {g cp bx n : Nat} {xs : List Int} {X Y : Value} {t p : Int} {gT : Nat} {ns : List Int} {base yv : Nat} {b : Option Addr} {lb cb : Nat} {d : Option Addr} {ld cd : Nat} {s : Ls} (h : Fy w1 W g cp bx n xs X Y t p gT ns base yv b lb cb d ld cd s) (j : Nat) (v : Int) : Fy w1 (W.setCell ⟨gT, j, none⟩ (.int .i64 v)) g cp bx n xs X Y t p gT (ns.set j v) base yv b lb cb d ld cd s :=
  have h1 := h.lT
  have h2 := h.ly
  ⟨below_set h.bel h.nt _, h.crew.past (Ne.symm h.tg) _, h.lx, h.var.past (Ne.symm h.tb) _, h.row.set j v, by rw [List.length_set]; exact h.ln, h.y.past (by omega) _, h.c.before h1 _, h.h.before h1 _, h.ng, h.nb, h.gb, h.nt, h.tb, h.tg, h.lT, h.lb', h.ly, h.lw, h.fine⟩

/-- x is y. -/
theorem Fy.next {w1 W : World} {g cp bx n : Nat} {xs : List Int} {X Y : Value} {t p : Int} {gT : Nat} {ns : List Int} {base yv : Nat} {b : Option Addr} {lb cb : Nat} {d : Option Addr} {ld cd : Nat} {s : Ls} (h : Fy w1 W g cp bx n xs X Y t p gT ns base yv b lb cb d ld cd s) :
    Ft w1 ((((W.setCell ⟨bx, 0, none⟩ (.slice b lb cb)).setCell ⟨bx, 1, none⟩ (.slice d ld cd)).setCell ⟨bx, 2, none⟩ (.int .i64 s.turns)).setCell ⟨bx, 3, none⟩ (.int .i64 (s.pos : Int))) g cp bx n xs b lb cb d ld cd s gT ns :=
  ⟨⟨below_sets4 h.bel h.nb _ _ _ _, h.crew.sets4 h.gb _ _ _ _, h.lx, h.var.sets _ _ _ _, (h.c.before4 h.lb' _ _ _ _).mono h.lw, (h.h.before4 h.lb' _ _ _ _).mono h.lw, h.ng, h.nb, h.gb, h.fine⟩, h.row.sets4 h.tb _ _ _ _, h.ln, h.nt, h.tb, h.tg, h.c.off h.lT, h.h.off h.lT⟩

/-- A turn was taken, into a new variable. -/
theorem Ft.took {w1 W W2 : World} {g cp bx n : Nat} {xs : List Int} {b : Option Addr} {lb cb : Nat} {d : Option Addr} {ld cd : Nat} {s : Ls} {gT : Nat} {ns : List Int} (h : Ft w1 W g cp bx n xs b lb cb d ld cd s gT ns) (B : Below W.heap.size W W2) {b2 : Option Addr} {lb2 cb2 : Nat} {d2 : Option Addr} {ld2 cd2 : Nat} {s2 : Ls} (F : Fit W2 W.heap.size b2 lb2 cb2 xs) (G : Fit W2 W.heap.size d2 ld2 cd2 s2.had) (hf : Fine xs s2) :
    Fy w1 (W2.alloc (.cells #[.slice b2 lb2 cb2, .slice d2 ld2 cd2, .int .i64 s2.turns, .int .i64 (s2.pos : Int)] 31)) g cp bx n xs (.slice b lb cb) (.slice d ld cd) s.turns s.pos gT ns W.heap.size W2.heap.size b2 lb2 cb2 d2 ld2 cd2 s2 :=
  ⟨below_call (below_call h.bel h.bel.size B) (below_call h.bel h.bel.size B).size (below_new _ _), (h.crew.all B).alloc _, h.lx, (h.var.all B).alloc _, (h.row.all B).alloc _, h.ln, quad_new _ _ _ _ _, F.all (below_new _ _), G.all (below_new _ _), h.ng, h.nb, h.gb, h.nt, h.tb, h.tg, h.row.lt, h.var.lt, B.size, h.bel.size, hf⟩

/-- A cycle begins, with a list of noughts. -/
theorem Fl.cycle {w1 W : World} {g cp bx n : Nat} {xs : List Int} {b : Option Addr} {lb cb : Nat} {d : Option Addr} {ld cd : Nat} {s : Ls} (h : Fl w1 W g cp bx n xs b lb cb d ld cd s) (hn : (n : Int) ≤ 1048576) : Ft w1 (W.alloc (.cells (zeros n) 2)) g cp bx n xs b lb cb d ld cd s W.heap.size (List.replicate xs.length 0) :=
  ⟨h.all (below_new _ _), by rw [h.lx]; exact row_zeros W n hn, by rw [List.length_replicate]; exact h.lx, h.bel.size, Nat.ne_of_gt h.var.lt, Nat.ne_of_gt h.crew.lt, h.c.offs (Nat.le_refl _), h.h.offs (Nat.le_refl _)⟩

theorem Ft.all {w1 W W' : World} {g cp bx n : Nat} {xs : List Int} {b : Option Addr} {lb cb : Nat} {d : Option Addr} {ld cd : Nat} {s : Ls} {gT : Nat} {ns : List Int} (h : Ft w1 W g cp bx n xs b lb cb d ld cd s gT ns) (B : Below W.heap.size W W') : Ft w1 W' g cp bx n xs b lb cb d ld cd s gT ns :=
  ⟨h.toFl.all B, h.row.all B, h.ln, h.nt, h.tb, h.tg, h.oc, h.oh⟩

set_option maxHeartbeats 2000000 in
set_option maxRecDepth 100000 in
theorem lawFnList (a : Option Addr) (len cap : Nat) (w : World) (B : Bytes w a len) :
    Calls Try.prog 3 #[.slice a len cap] w fun e w' => e = .returned (.bool true) ∧ Below w.heap.size w w' := by
  have HB : Hid (Bytes w a len) := B
  clear B
  by_cases hbig : (4096 : Int) < (len : Int)
  · go_enter Try.func3, Try.ntmps3
    go_wp2_with fail
    refine (big_any a len cap _).mono ?_
    rw [decide_eq_true hbig]
    rintro e w1 ⟨rfl, rfl⟩
    go_wp2_with fail
    go_ret
    exact ⟨rfl, Below.refl _ _⟩
  · have ht : len ≤ 9223372036854775806 := by omega
    have HBG : Hid (decide ((4096 : Int) < (len : Int)) = false) := decide_eq_false hbig
    have HT : Hid (len ≤ 9223372036854775806) := ht
    clear hbig ht
    go_enter Try.func3, Try.ntmps3
    go_wp2_with fail
    refine (big_any a len cap _).mono ?_
    rw [HBG.out]
    rintro e w1 ⟨rfl, rfl⟩
    go_wp2_with fail
    refine (roll_any a len cap 7 _ HB.out HT.out).mono ?_
    rintro e w2 ⟨rfl, h, L2⟩
    have C2 := L2.cur (cur_new HB.out HT.out h)
    have B2 := new_below L2
    have p2 := C2.lt
    have H2 : Hid (Cur .u64 55 w1.heap.size a len cap w2 ∧ Below w1.heap.size w1 w2) := ⟨C2, B2⟩
    clear L2 C2 B2
    go_wp2_with fail
    refine (hands_any _ _ a len cap _ H2.out.1).mono ?_
    rintro e w3 ⟨g, cp, xs, rfl, O3, n1, n7, wt⟩
    obtain ⟨hcr, h420⟩ := hands_crew wt n1 n7
    have hT := crew_sum hcr
    obtain ⟨N, hN⟩ : ∃ N : Nat, sumI xs = (N : Int) := ⟨(sumI xs).toNat, by omega⟩
    obtain ⟨n, hn⟩ : ∃ n, n = xs.length := ⟨_, rfl⟩
    rw [← hn]
    have gb := O3.base
    have HX : Hid (crewOk xs = true ∧ xs.length = n ∧ totalOf xs = (N : Int) ∧ sumI xs = (N : Int)) := ⟨hcr, hn.symm, by rw [totalOf, if_pos hcr, hN], hN⟩
    have H3 : Hid (Below w1.heap.size w1 w3 ∧ Row w3 g cp xs ∧ Ints w3 (some ⟨g, 0, none⟩) n xs) := ⟨H2.out.2.trans (left_below O3.left (Nat.le_refl _) p2), O3.row, by rw [hn]; exact O3.row.ints⟩
    have hN1 : (1 : Int) ≤ (N : Int) := by omega
    have hN2 : (N : Int) ≤ 420 := by omega
    have hn7 : (n : Int) ≤ 7 := by omega
    have hn1 : 0 < n := by omega
    have hgp : w1.heap.size ≤ g := by omega
    clear O3 H2 hcr h420 hT hN hn wt n1 n7 gb
    have hmk := made_ints n (by omega)
    go_wp2_with fail
    refine (specTotal _ n cp xs _ H3.out.2.2 (by omega)).mono ?_
    rw [HX.out.2.2.1]
    rintro e w3' ⟨rfl, rfl⟩
    go_wp2_with fail
    refine (implNewL _ n cp xs _ H3.out.2.2).mono ?_
    rw [newC_yes HX.out.1, newR_yes HX.out.1, HX.out.1]
    rintro e w4 ⟨b, lb, cb, d, ld, cd, rfl, Fb, Fd, _, B4⟩
    have hs3 := H3.out.1.size
    have H4 : Hid (Fl w1 (w4.alloc (.cells #[.slice b lb cb, .slice d ld cd, .int .i64 0, .int .i64 0] 31)) g cp w4.heap.size n xs b lb cb d ld cd ⟨List.replicate xs.length 0, 0, 0⟩) := by
      have b4 := below_call H3.out.1 H3.out.1.size B4
      exact ⟨below_call b4 b4.size (below_new _ _), (H3.out.2.1.all B4).alloc _, HX.out.2.1, quad_new _ _ _ _ _, (Fb.all (below_new _ _)).mono hs3, (Fd.all (below_new _ _)).mono hs3, hgp, b4.size, Nat.ne_of_lt (H3.out.2.1.all B4).lt, fine_new HX.out.1⟩
    clear H3 Fb Fd B4 hs3
    go_wp2_with fail
    generalize w4.alloc (.cells #[.slice b lb cb, .slice d ld cd, .int .i64 0, .int .i64 0] 31) = W4 at *
    generalize w4.heap.size = bx at *
    go_loopw [8] (fun c wr => ∃ (k : Nat) (b : Option Addr) (lb cb : Nat) (d : Option Addr) (ld cd : Nat) (s : Ls), k ≤ 2 ∧ c = .int .i64 k ∧ Hid (Fl w1 wr g cp bx n xs b lb cb d ld cd s ∧ Cyl xs s (List.replicate xs.length 0) 0)) (fun c _ => 2 - (intOf c).toNat)
    case atStart => exact ⟨0, b, lb, cb, d, ld, cd, _, Nat.zero_le _, rfl, H4.out, cyl_new HX.out.1⟩
    case round =>
      obtain ⟨k, b, lb, cb, d, ld, cd, s, hk, rfl, H⟩ := hrel
      by_cases hlt : k < 2
      · have hlt' : (k : Int) < 2 := by omega
        have HW : Hid (Ft w1 (wr.alloc (.cells (zeros n) 2)) g cp bx n xs b lb cb d ld cd s wr.heap.size (List.replicate xs.length 0) ∧ Cyl xs s (List.replicate xs.length 0) 0) := ⟨H.out.1.cycle (by omega), H.out.2⟩
        clear H
        go_wp2_with fail
        generalize wr.alloc (.cells (zeros n) 2) = W5 at *
        generalize wr.heap.size = gT at *
        go_loopw [10] (fun i wr => ∃ (t : Nat) (b : Option Addr) (lb cb : Nat) (d : Option Addr) (ld cd : Nat) (s : Ls) (ns : List Int), t ≤ N ∧ i = .int .i64 t ∧ Hid (Ft w1 wr g cp bx n xs b lb cb d ld cd s gT ns ∧ Cyl xs s ns t)) (fun i _ => N - (intOf i).toNat)
        case atStart => exact ⟨0, b, lb, cb, d, ld, cd, s, _, Nat.zero_le _, rfl, HW.out⟩
        case round =>
          clear HW
          obtain ⟨t, b, lb, cb, d, ld, cd, s, ns, ht, rfl, H⟩ := hrel
          by_cases hlt2 : t < N
          · have hlt2' : (t : Int) < (N : Int) := by omega
            have hsum : (t : Int) < sumI xs := by rw [HX.out.2.2.2]; exact hlt2'
            obtain ⟨s2, hs2⟩ : ∃ s2, s2 = lsStep xs s := ⟨_, rfl⟩
            obtain ⟨q, hq⟩ : ∃ q, q = lsWho xs (lsFresh xs s) := ⟨_, rfl⟩
            have hqn : q < n := by rw [hq, ← HX.out.2.1]; exact ordN_lt H.out.2.fine.right.fresh.lt
            have hq0 : decide ((q : Int) < 0) = false := decide_eq_false (by omega)
            have hq1 : decide ((n : Int) ≤ (q : Int)) = false := decide_eq_false (by omega)
            have hq2 : ¬ (n : Int) ≤ (q : Int) := by omega
            have hq3 : (q : Int) < (n : Int) := by omega
            have HS : Hid (s2 = lsStep xs s ∧ q = lsWho xs (lsFresh xs s) ∧ Fine xs s2 ∧ Cyl xs s2 (ns.set q (ns.getD q 0 + 1)) (t + 1)) := by
              refine ⟨hs2, hq, by rw [hs2]; exact H.out.2.fine.step, ?_⟩
              rw [hs2, hq]
              exact H.out.2.step hsum
            have HBZ : Hid (0 ≤ ns.getD q 0 ∧ ns.getD q 0 ≤ 1000000) := by
              have h1 := (H.out.2.fresh hsum).2
              have h2 := H.out.2.fine.right.fresh.had q (by rw [HX.out.2.1]; exact hqn)
              rw [h1] at h2
              have h3 := crew_get HX.out.1 q
              exact ⟨by omega, by omega⟩
            clear hs2 hq hsum
            have v0 := H.out.1.var.c0
            have v1 := H.out.1.var.c1
            have v2 := H.out.1.var.c2
            have v3 := H.out.1.var.c3
            go_wp2_with fail
            clear v0 v1 v2 v3
            refine (implNext_yes b lb cb xs d ld cd s _ H.out.1.c.ints H.out.1.h.ints H.out.2.fine.right H.out.2.fine.can).mono ?_
            rw [← HS.out.1, ← HS.out.2.1]
            rintro e w6 ⟨b2, lb2, cb2, d2, ld2, cd2, rfl, F6, G6, _, B6⟩
            have H6 : Hid (Fy w1 (w6.alloc (.cells #[.slice b2 lb2 cb2, .slice d2 ld2 cd2, .int .i64 s2.turns, .int .i64 (s2.pos : Int)] 31)) g cp bx n xs (.slice b lb cb) (.slice d ld cd) s.turns s.pos gT ns wr.heap.size w6.heap.size b2 lb2 cb2 d2 ld2 cd2 s2) := H.out.1.took B6 F6 G6 HS.out.2.2.1
            clear F6 G6 B6 H
            go_wp2_with fail
            generalize w6.alloc (.cells #[.slice b2 lb2 cb2, .slice d2 ld2 cd2, .int .i64 s2.turns, .int .i64 (s2.pos : Int)] 31) = W6 at *
            generalize w6.heap.size = yv at *
            generalize wr.heap.size = bs at *
            refine (implListX b2 lb2 cb2 xs d2 ld2 cd2 s2.had s2.turns s2.pos _ H6.out.c.ints H6.out.h.ints).mono ?_
            rw [HS.out.2.2.1.right.ok]
            rintro e w7 ⟨rfl, B7⟩
            have H7 : Hid (Fy w1 w7 g cp bx n xs (.slice b lb cb) (.slice d ld cd) s.turns s.pos gT ns bs yv b2 lb2 cb2 d2 ld2 cd2 s2) := H6.out.all B7
            clear B7 H6
            obtain ⟨z, hz⟩ : ∃ z, z = ns.getD q 0 := ⟨_, rfl⟩
            have cT : w7.cell? ⟨gT, q, none⟩ = some (.int .i64 z) := by rw [hz]; exact H7.out.row.cell (by rw [H7.out.ln]; exact hqn)
            have fT := H7.out.row.frozen q
            have bz : 0 ≤ z ∧ z ≤ 1000000 := by rw [hz]; exact HBZ.out
            have H8 : Hid (Fy w1 (w7.setCell ⟨gT, q, none⟩ (.int .i64 (z + 1))) g cp bx n xs (.slice b lb cb) (.slice d ld cd) s.turns s.pos gT (ns.set q (z + 1)) bs yv b2 lb2 cb2 d2 ld2 cd2 s2 ∧ Cyl xs s2 (ns.set q (z + 1)) (t + 1)) := ⟨H7.out.one q (z + 1), by rw [hz]; exact HS.out.2.2.2⟩
            have y0 : w7.cell? ⟨yv, 0, none⟩ = some (.slice b2 lb2 cb2) := H7.out.y.c0
            have y1 : w7.cell? ⟨yv, 1, none⟩ = some (.slice d2 ld2 cd2) := H7.out.y.c1
            have y2 : w7.cell? ⟨yv, 2, none⟩ = some (.int .i64 s2.turns) := H7.out.y.c2
            have y3 : w7.cell? ⟨yv, 3, none⟩ = some (.int .i64 (s2.pos : Int)) := H7.out.y.c3
            have ny1 : ¬ gT = yv := by have := H7.out.lT; have := H7.out.ly; omega
            have ny2 : ¬ yv = gT := Ne.symm ny1
            clear hz H7
            go_wp2_with fail
            clear cT fT y0 y1 y2 y3 ny1 ny2 bz
            generalize w7.setCell ⟨gT, q, none⟩ (.int .i64 (z + 1)) = W8 at *
            refine (implLeft b2 lb2 cb2 xs d2 ld2 cd2 s2.had s2.turns s2.pos _ H8.out.1.c.ints H8.out.1.h.ints).mono ?_
            have eL : leftOf xs s2.had s2.turns s2.pos = leftL xs s2.had := by rw [leftOf, HS.out.2.2.1.right.ok, if_pos rfl]
            rw [eL, leftL_length, HX.out.2.1]
            clear eL
            rintro e w9 ⟨gl, cl, rfl, R9, _, B9⟩
            have H9 : Hid (Fy w1 w9 g cp bx n xs (.slice b lb cb) (.slice d ld cd) s.turns s.pos gT (ns.set q (z + 1)) bs yv b2 lb2 cb2 d2 ld2 cd2 s2 ∧ Cyl xs s2 (ns.set q (z + 1)) (t + 1) ∧ Row w9 gl cl (leftL xs s2.had)) := ⟨H8.out.1.all B9, H8.out.2, R9⟩
            clear R9 B9 H8
            go_wp2_with fail
            go_loopw [14] (fun i wr => ∃ j : Nat, j < n ∧ i = .int .i64 ((j : Int) + 1) ∧ Hid (Fy w1 wr g cp bx n xs (.slice b lb cb) (.slice d ld cd) s.turns s.pos gT (ns.set q (z + 1)) bs yv b2 lb2 cb2 d2 ld2 cd2 s2 ∧ Cyl xs s2 (ns.set q (z + 1)) (t + 1) ∧ Row wr gl cl (leftL xs s2.had))) (fun i _ => n + 1 - (intOf i).toNat)
            case atStart => exact ⟨0, hn1, rfl, H9.out⟩
            case round =>
              obtain ⟨j, hj, rfl, Q⟩ := hrel
              by_cases hlt3 : j + 1 < n
              · have hlt3' : (j : Int) + 1 < (n : Int) := by omega
                obtain ⟨x1, hx1⟩ : ∃ x1, x1 = (leftL xs s2.had).getD (j + 1) 0 := ⟨_, rfl⟩
                obtain ⟨x0, hx0⟩ : ∃ x0, x0 = (leftL xs s2.had).getD j 0 := ⟨_, rfl⟩
                have c1 : wr.cell? ⟨gl, j + 1, none⟩ = some (.int .i64 x1) := by rw [hx1]; exact Q.out.2.2.cell (by rw [leftL_length, HX.out.2.1]; exact hlt3)
                have c0 : wr.cell? ⟨gl, j, none⟩ = some (.int .i64 x0) := by rw [hx0]; exact Q.out.2.2.cell (by rw [leftL_length, HX.out.2.1]; omega)
                have y3 := Q.out.1.y.c3
                rw [leftL_get _ _ (by rw [HX.out.2.1]; exact hlt3)] at hx1
                rw [leftL_get _ _ (by rw [HX.out.2.1]; omega)] at hx0
                have hf := HS.out.2.2.1.down (j + 1) (by omega) (by rw [HX.out.2.1]; exact hlt3)
                simp only [Nat.add_sub_cancel, lft] at hf
                rw [← hx1, ← hx0] at hf
                have hr0 := HS.out.2.2.1.right.had (ordN xs j) (ordN_lt (by rw [HX.out.2.1]; omega))
                have hr1 := crew_get HX.out.1 (ordN xs j)
                have bx0 : 0 ≤ x0 ∧ x0 ≤ 1000000 := by rw [hx0, lef]; omega
                have hA : ¬ x0 + 1 < x1 := by omega
                have hdA : decide (x0 + 1 < x1) = false := by simpa using hA
                have hj0 : (0 : Int) ≤ (j : Int) := by omega
                by_cases hB : x0 < x1
                · have hpos : ((j : Int) + 1 != (s2.pos : Int)) = false := by
                    have := hf.2 hB
                    simp; omega
                  clear hx1 hx0 hf hr0 hr1
                  go_wp2_with fail
                  go_quiet (fail)
                  go_wp2_with fail
                  go_roundw
                  case rel => exact ⟨j + 1, by omega, by go_num, Q.out.1.all (below_drewN (Below.refl _ _) _), Q.out.2.1, row_drewN Q.out.2.2 _⟩
                  case measure => simp [intOf]; omega
                · have hdB : decide (x0 < x1) = false := by simpa using hB
                  clear hx1 hx0 hf hr0 hr1
                  go_wp2_with fail
                  go_quiet (fail)
                  go_wp2_with fail
                  go_roundw
                  case rel => exact ⟨j + 1, by omega, by go_num, Q.out.1.all (below_drewN (Below.refl _ _) _), Q.out.2.1, row_drewN Q.out.2.2 _⟩
                  case measure => simp [intOf]; omega
              · have hlt3' : ¬ (j : Int) + 1 < (n : Int) := by omega
                have y0 := Q.out.1.y.c0
                have y1 := Q.out.1.y.c1
                have y2 := Q.out.1.y.c2
                have y3 := Q.out.1.y.c3
                have v0 := Q.out.1.var.c0
                have v1 := Q.out.1.var.c1
                have v2 := Q.out.1.var.c2
                have v3 := Q.out.1.var.c3
                have f0 := Q.out.1.var.fr 0
                have f1 := Q.out.1.var.fr 1
                have f2 := Q.out.1.var.fr 2
                have f3 := Q.out.1.var.fr 3
                have HN := hid Q.out.1.next
                go_wp2_with fail
                go_roundw
                case rel => exact ⟨t + 1, b2, lb2, cb2, d2, ld2, cd2, s2, ns.set q (z + 1), by omega, by go_num, HN.out, Q.out.2.1⟩
                case measure => simp [intOf]; omega
          · have hlt2' : ¬ (t : Int) < (N : Int) := by omega
            have e : t = N := by omega
            subst e
            obtain ⟨hns, htt⟩ := H.out.2.done (by rw [HX.out.2.2.2])
            have HD : Hid (ns = xs ∧ s.turns = sumI xs) := ⟨hns, htt⟩
            clear hns htt
            go_wp2_with fail
            refine (likeInts_same _ n n xs _ n cp _ (by have h := H.out.1.row.ints; rw [H.out.1.ln, HD.out.1] at h; exact h) H.out.1.ints (by omega)).mono ?_
            rintro e w6 ⟨rfl, B6⟩
            have H6 : Hid (Ft w1 w6 g cp bx n xs b lb cb d ld cd s gT ns) := H.out.1.all B6
            have c2 := H6.out.var.c2
            rw [HD.out.2, HX.out.2.2.2] at c2
            have hne : (((t : Nat) : Int) != ((t : Nat) : Int)) = false := by simp
            have HF := hid H.out.2.fine
            clear B6 H
            go_wp2_with fail
            go_roundw
            case rel => exact ⟨k + 1, b, lb, cb, d, ld, cd, s, by omega, by go_num, H6.out.toFl, Cyl.again HF.out HD.out.2⟩
            case measure => simp [intOf]; omega
      · have hlt' : ¬ (k : Int) < 2 := by omega
        go_wp2_with fail
        go_ret
        exact ⟨rfl, H.out.1.bel⟩

end Go.Proofs.Ytlicjbnagapdeaa.Crew
