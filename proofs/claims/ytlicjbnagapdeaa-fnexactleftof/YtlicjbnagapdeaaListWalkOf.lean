/-
  A new walk down the list.
-/
import Derived.Test.YtlicjbnagapdeaaListTurn
import Derived.Deep.CutRange
import Derived.Deep.DrawnRows
namespace Go.Proofs.Ytlicjbnagapdeaa.Crew
open Go.ChangeShapes Go.WideShapes Go.ChangeAt Go.RowKit

theorem copied_own (a : Option Addr) (len cap : Nat) (xs : List Int) (w : World) (I : Ints w a len xs) (hs : (len : Int) ≤ 1048576) :
    Calls Try.prog 41 #[.slice a len cap] w fun e w' => ∃ g : Nat, e = .returned (.slice (some ⟨g, 0, none⟩) len len) ∧ Row w' g len xs ∧ w.heap.size ≤ g ∧ Below w.heap.size w w' :=
  (copied_any a len cap xs w I hs).mono fun _ _ ⟨h, h1, h2⟩ => ⟨_, h, h1, Nat.le_refl _, h2⟩

/-- A cycle in its block. -/
def Cyc (w : World) (b : Nat) (cr hd : Value) (tot tur : Int) : Prop := w.heap[b]? = some (.cells #[cr, hd, .int .i64 tot, .int .i64 tur] 63 (0, 0))

theorem Cyc.lt {w : World} {b : Nat} {cr hd : Value} {tot tur : Int} (h : Cyc w b cr hd tot tur) : b < w.heap.size := (Array.getElem?_eq_some_iff.1 h).1

theorem Cyc.c0 {w : World} {b : Nat} {cr hd : Value} {tot tur : Int} (h : Cyc w b cr hd tot tur) : w.cell? ⟨b, 0, none⟩ = some cr := cell_pair h 0

theorem Cyc.c1 {w : World} {b : Nat} {cr hd : Value} {tot tur : Int} (h : Cyc w b cr hd tot tur) : w.cell? ⟨b, 1, none⟩ = some hd := cell_pair h 1

theorem Cyc.c2 {w : World} {b : Nat} {cr hd : Value} {tot tur : Int} (h : Cyc w b cr hd tot tur) : w.cell? ⟨b, 2, none⟩ = some (.int .i64 tot) := cell_pair h 2

theorem Cyc.c3 {w : World} {b : Nat} {cr hd : Value} {tot tur : Int} (h : Cyc w b cr hd tot tur) : w.cell? ⟨b, 3, none⟩ = some (.int .i64 tur) := cell_pair h 3

theorem Cyc.fr {w : World} {b : Nat} {cr hd : Value} {tot tur : Int} (h : Cyc w b cr hd tot tur) (j : Nat) : w.frozen? ⟨b, j, none⟩ = false := frozen_of_row w b j _ _ h

theorem Cyc.all {w w' : World} {b : Nat} {cr hd : Value} {tot tur : Int} (h : Cyc w b cr hd tot tur) (k : Below w.heap.size w w') : Cyc w' b cr hd tot tur := by
  unfold Cyc
  rw [k.block b h.lt]
  exact h

theorem Cyc.drew {w : World} {b : Nat} {cr hd : Value} {tot tur : Int} (h : Cyc w b cr hd tot tur) : Cyc w.drew b cr hd tot tur := h

theorem Cyc.past {w : World} {b b' j : Nat} {cr hd : Value} {tot tur : Int} (h : Cyc w b cr hd tot tur) (hb : b ≠ b') (v : Value) : Cyc (w.setCell ⟨b', j, none⟩ v) b cr hd tot tur := by
  unfold Cyc
  rw [(grown_at w b' j v).block b h.lt (by simpa using hb)]
  exact h

theorem Cyc.sets {w : World} {b : Nat} {cr hd : Value} {tot tur : Int} (h : Cyc w b cr hd tot tur) (cr' hd' : Value) (tot' tur' : Int) : Cyc ((((w.setCell ⟨b, 0, none⟩ cr').setCell ⟨b, 1, none⟩ hd').setCell ⟨b, 2, none⟩ (.int .i64 tot')).setCell ⟨b, 3, none⟩ (.int .i64 tur')) b cr' hd' tot' tur' := by
  have h0 : Cyc (w.setCell ⟨b, 0, none⟩ cr') b cr' hd tot tur := heap_setCell_same w b 0 _ _ _ h
  have h1 : Cyc ((w.setCell ⟨b, 0, none⟩ cr').setCell ⟨b, 1, none⟩ hd') b cr' hd' tot tur := heap_setCell_same _ b 1 _ _ _ h0
  have h2 : Cyc (((w.setCell ⟨b, 0, none⟩ cr').setCell ⟨b, 1, none⟩ hd').setCell ⟨b, 2, none⟩ (.int .i64 tot')) b cr' hd' tot' tur := heap_setCell_same _ b 2 _ _ _ h1
  exact heap_setCell_same _ b 3 _ _ _ h2

theorem cyc_new (w : World) (cr hd : Value) (tot tur : Int) : Cyc (w.alloc (.cells #[cr, hd, .int .i64 tot, .int .i64 tur] 63)) w.heap.size cr hd tot tur := heap_alloc_new w _

/-- The cycle of a walk that is made, as it was laid. -/
abbrev cyc0 (w : World) : Cyc (w.alloc (.cells #[.slice none 0 0, .slice none 0 0, .int .i64 0, .int .i64 0] 63)) w.heap.size (.slice none 0 0) (.slice none 0 0) 0 0 := cyc_new w _ _ _ _

theorem Row.sets4 {w : World} {g cap b : Nat} {xs : List Int} (h : Row w g cap xs) (hb : g ≠ b) (x0 x1 x2 x3 : Value) : Row ((((w.setCell ⟨b, 0, none⟩ x0).setCell ⟨b, 1, none⟩ x1).setCell ⟨b, 2, none⟩ x2).setCell ⟨b, 3, none⟩ x3) g cap xs :=
  (((h.past hb _).past hb _).past hb _).past hb _

theorem Four.sets4 {w : World} {g b : Nat} {x y : Value} {t p : Int} (h : Four w g x y t p) (hb : g ≠ b) (x0 x1 x2 x3 : Value) : Four ((((w.setCell ⟨b, 0, none⟩ x0).setCell ⟨b, 1, none⟩ x1).setCell ⟨b, 2, none⟩ x2).setCell ⟨b, 3, none⟩ x3) g x y t p :=
  (((h.past hb _).past hb _).past hb _).past hb _

theorem below_sets4 {B b : Nat} {w w1 : World} (h : Below B w w1) (hb : B ≤ b) (x0 x1 x2 x3 : Value) : Below B w ((((w1.setCell ⟨b, 0, none⟩ x0).setCell ⟨b, 1, none⟩ x1).setCell ⟨b, 2, none⟩ x2).setCell ⟨b, 3, none⟩ x3) :=
  below_set (below_set (below_set (below_set h hb _) hb _) hb _) hb _

/-- A walk that is half made: its cycle lies in a block. -/
structure Half (w u : World) (x y : Value) (t p : Int) (bc gC gH n : Nat) (tt : Int) (cs hs : List Int) : Prop where
  arg : Four u w.heap.size x y t p
  cyc : Cyc u bc (.slice (some ⟨gC, 0, none⟩) n n) (.slice (some ⟨gH, 0, none⟩) n n) tt t
  crew : Row u gC n cs
  had : Row u gH n hs
  bel : Below w.heap.size w u
  loC : w.heap.size ≤ gC
  loH : w.heap.size ≤ gH
  CH : gC ≠ gH

theorem implBy_order (a : Option Addr) (len cap : Nat) (ws : List Int) (w : World) (I : Ints w a len ws) (hc : crewOk ws = true) :
    Calls Try.prog 60 #[.slice a len cap] w fun e w' => ∃ g cp, e = .returned (.slice (some ⟨g, 0, none⟩) len cp) ∧ Row w' g cp (byW ws ws.length) ∧ w.heap.size ≤ g ∧ Below w.heap.size w w' := by
  have hl := I.1
  refine (implBy a len cap ws w I).mono ?_
  have e : byWeight ws = byW ws ws.length := by simp [byWeight, hc]
  rw [e, byW_length, hl]
  exact fun _ _ h => h

/-- The last step of a new walk. -/
theorem Half.done {w u u2 : World} {x y : Value} {t : Int} {p : Nat} {bc gC gH n gO cO : Nat} {cs hs : List Int} (h : Half w u x y t p bc gC gH n (sumI cs) cs hs) (B : Below u.heap.size u u2) (hg : u.heap.size ≤ gO) (R : Row u2 gO cO (byW cs cs.length)) (hl : cs.length = n) :
    Wk w (u2.alloc (.cells #[.slice (some ⟨gC, 0, none⟩) n n, .slice (some ⟨gH, 0, none⟩) n n, .int .i64 (sumI cs), .int .i64 t, .slice (some ⟨gO, 0, none⟩) n cO, .int .i64 p] 65)) ⟨u2.heap.size, gC, gH, gO, cO, n⟩ cs ⟨hs, t, p⟩ := by
  have l1 := h.crew.lt
  have l2 := h.had.lt
  have l3 := R.lt
  have l4 := B.size
  have l5 := h.bel.size
  refine ⟨(below_call h.bel h.bel.size B).alloc (Nat.le_trans l5 l4) _, wlk_new _ _ _ _ _ _ _, (h.crew.all B).alloc _, (h.had.all B).alloc _, R.alloc _, hl, Nat.le_trans l5 l4, h.loC, h.loH, ?_, ?_, ?_, h.CH, ?_⟩
  · show u2.heap.size ≠ gC; omega
  · show u2.heap.size ≠ gH; omega
  · show u2.heap.size ≠ gO; omega
  · show gH ≠ gO; omega

set_option maxHeartbeats 8000000 in
theorem walkOf_any (a : Option Addr) (len cap : Nat) (cs : List Int) (a' : Option Addr) (len' cap' : Nat) (hs : List Int) (t : Int) (p : Nat) (w : World) (I : Ints w a len cs) (J : Ints w a' len' hs) (R : Right cs ⟨hs, t, p⟩) :
    Calls Try.prog 42 #[lv (.slice a len cap) (.slice a' len' cap') t p] w fun e w' => ∃ l : Wl, e = .returned (.pointer (some ⟨l.b, 0, none⟩)) ∧ Wk w w' l cs ⟨hs, t, p⟩ := by
  have hl := I.1
  have hl' := J.1
  have h24 := crew_len R.crew
  have hll : len' = len := by have := R.len; simp only at this; omega
  subst hll
  have s24 : (len' : Int) ≤ 1048576 := by omega
  have HR : Hid (Right cs ⟨hs, t, p⟩ ∧ cs.length = len' ∧ hs.length = len') := ⟨R, hl, hl'⟩
  obtain ⟨W0, hW0⟩ : ∃ W0, W0 = w.alloc (.cells #[.slice a len' cap, .slice a' len' cap', .int .i64 t, .int .i64 p] 31) := ⟨_, rfl⟩
  have HI : Hid (Ints W0 a len' cs ∧ Ints W0 a' len' hs) := by rw [hW0]; exact ⟨I.alloc _, J.alloc _⟩
  have F : Four W0 w.heap.size (.slice a len' cap) (.slice a' len' cap') t p := by rw [hW0]; exact four_new _ _ _ _ _ _
  have C : Below w.heap.size w W0 := by rw [hW0]; exact below_new _ _
  have tot : totalOf cs = sumI cs := by simp [totalOf, R.crew]
  obtain ⟨tt, htt⟩ : ∃ tt, tt = sumI cs := ⟨_, rfl⟩
  have HT : Hid (tt = sumI cs ∧ totalOf cs = sumI cs) := ⟨htt, tot⟩
  have HJ : Hid (Ints w a' len' hs) := J
  have HJ2 : Hid (Ints w a len' cs) := I
  clear I J R hl hl' tot htt
  go_enter Try.func42, Try.ntmps42
  go_wp2_with fail
  rw [← hW0]
  clear hW0
  have t0 := F.c0
  have t1 := F.c1
  have t2 := F.c2
  have t3 := F.c3
  have m1 := F.lt
  have m2 := Nat.ne_of_lt m1
  have m3 := Nat.ne_of_gt m1
  go_region_held3 (fun w' => w'.cell? ⟨w.heap.size, 0, none⟩ = some (.slice a len' cap) ∧ w'.cell? ⟨w.heap.size, 1, none⟩ = some (.slice a' len' cap') ∧ w'.cell? ⟨w.heap.size, 2, none⟩ = some (.int .i64 t)) (go_keep)
    (first
      | (go_at_call_of 41 (Value.slice a len' cap); refine (copied_own a len' cap cs _ ?_ s24).mono ?_; (repeat (first | exact HI.out.1 | apply Ints.drew | apply Ints.alloc)); rintro e u1 ⟨g1, rfl, R1, hg1, B1⟩; have lg1 := R1.lt; have hB1 := B1.size; (first | (with_reducible have F := Four.all F B1; with_reducible have C := below_call C C.size B1) | (with_reducible have F := Four.all F.drew B1; with_reducible have C := below_call C.drew C.drew.size B1) | (with_reducible have F := Four.all (F.alloc _) B1; with_reducible have C := below_call (C.alloc C.size _) (C.alloc C.size _).size B1) | (with_reducible have F := Four.all (F.alloc _).drew B1; with_reducible have C := below_call (C.alloc C.size _).drew (C.alloc C.size _).drew.size B1)); have t0 := F.c0; have t1 := F.c1; have t2 := F.c2; have m1 := F.lt; have m2 := Nat.ne_of_lt m1; have m3 := Nat.ne_of_gt m1; (first | (with_reducible have CY := Cyc.all (cyc0 W0) B1; have p0 := CY.c0; have p1 := CY.c1; have p2 := CY.c2; have p3 := CY.c3; have f0 := CY.fr 0; have f1 := CY.fr 1; have f2 := CY.fr 2; have f3 := CY.fr 3; have n1 := CY.lt; have n2 := Nat.ne_of_lt n1; have n3 := Nat.ne_of_gt n1) | (with_reducible have CY := Cyc.all (cyc0 W0).drew B1; have p0 := CY.c0; have p1 := CY.c1; have p2 := CY.c2; have p3 := CY.c3; have f0 := CY.fr 0; have f1 := CY.fr 1; have f2 := CY.fr 2; have f3 := CY.fr 3; have n1 := CY.lt; have n2 := Nat.ne_of_lt n1; have n3 := Nat.ne_of_gt n1) | skip))
      | (go_at_call_of 41 (Value.slice a' len' cap'); refine (copied_own a' len' cap' hs _ ?_ s24).mono ?_; (repeat (first | exact HJ.out.kept C | apply Ints.drew | apply Ints.alloc)); rintro e u2 ⟨g2, rfl, R2, hg2, B2⟩; (first | (with_reducible have F := Four.all F B2; with_reducible have C := below_call C C.size B2; with_reducible have R1 := Row.all R1 B2) | (with_reducible have F := Four.all (F.alloc _) B2; with_reducible have C := below_call (C.alloc C.size _) (C.alloc C.size _).size B2; with_reducible have R1 := Row.all (R1.alloc _) B2)); have t0 := F.c0; have t1 := F.c1; have t2 := F.c2; have m1 := F.lt; have m2 := Nat.ne_of_lt m1; have m3 := Nat.ne_of_gt m1; (first | (with_reducible have CY := Cyc.all CY B2; have p0 := CY.c0; have p1 := CY.c1; have p2 := CY.c2; have p3 := CY.c3; have f0 := CY.fr 0; have f1 := CY.fr 1; have f2 := CY.fr 2; have f3 := CY.fr 3; have n1 := CY.lt; have n2 := Nat.ne_of_lt n1; have n3 := Nat.ne_of_gt n1) | (with_reducible have CY := Cyc.all (cyc0 u1) B2; have p0 := CY.c0; have p1 := CY.c1; have p2 := CY.c2; have p3 := CY.c3; have f0 := CY.fr 0; have f1 := CY.fr 1; have f2 := CY.fr 2; have f3 := CY.fr 3; have n1 := CY.lt; have n2 := Nat.ne_of_lt n1; have n3 := Nat.ne_of_gt n1) | skip))
      | (go_at_call 59; refine (implTotal a len' cap cs _ ?_).mono ?_; (repeat (first | exact HJ2.out.kept C | apply Ints.drew | apply Ints.alloc)); rw [HT.out.2, ← HT.out.1]; rintro e u3 ⟨rfl, rfl⟩))
  · have H : Hid (Half w (u3.alloc (.cells #[.slice (some ⟨g1, 0, none⟩) len' len', .slice (some ⟨g2, 0, none⟩) len' len', .int .i64 tt, .int .i64 t] 63)) (.slice a len' cap) (.slice a' len' cap') t p u3.heap.size g1 g2 len' tt cs hs) :=
      ⟨F.alloc _, cyc_new _ _ _ _ _, R1.alloc _, R2.alloc _, C.alloc C.size _, by have := hg1; simp at this; omega, by omega, by omega⟩
    clear R1 R2 F C t0 t1 t2 m1 m2 m3 lg1 hg1 hg2 hB1 B1 B2
    generalize u3.alloc (.cells #[.slice (some ⟨g1, 0, none⟩) len' len', .slice (some ⟨g2, 0, none⟩) len' len', .int .i64 tt, .int .i64 t] 63) = u at *
    generalize u3.heap.size = bc at *
    have q0 := H.out.cyc.c0
    have q1 := H.out.cyc.c1
    have q2 := H.out.cyc.c2
    have q3 := H.out.cyc.c3
    have t0 := H.out.arg.c0
    have t3 := H.out.arg.c3
    go_wp2_with fail
    go_region_held3 (fun w' => w'.cell? ⟨bc, 0, none⟩ = some (.slice (some ⟨g1, 0, none⟩) len' len') ∧ w'.cell? ⟨bc, 1, none⟩ = some (.slice (some ⟨g2, 0, none⟩) len' len') ∧ w'.cell? ⟨bc, 2, none⟩ = some (.int .i64 tt) ∧ w'.cell? ⟨bc, 3, none⟩ = some (.int .i64 t) ∧ w'.cell? ⟨w.heap.size, 0, none⟩ = some (.slice a len' cap) ∧ w'.cell? ⟨w.heap.size, 3, none⟩ = some (.int .i64 (p : Int))) (go_keep)
      ((go_at_call 60; refine (implBy_order a len' cap cs _ (HJ2.out.kept H.out.bel.drew) HR.out.1.crew).mono ?_; rintro e u5 ⟨gO, cO, rfl, RO, hgO, B5⟩; have C5 := (H.out.cyc.drew).all B5; have F5 := (H.out.arg.drew).all B5; have q0 := C5.c0; have q1 := C5.c1; have q2 := C5.c2; have q3 := C5.c3; have t0 := F5.c0; have t3 := F5.c3))
    have B6 : Below u.heap.size u u5 := (Below.refl u.heap.size u).drew.trans B5
    have H6 : Hid (Wk w (u5.alloc (.cells #[.slice (some ⟨g1, 0, none⟩) len' len', .slice (some ⟨g2, 0, none⟩) len' len', .int .i64 tt, .int .i64 t, .slice (some ⟨gO, 0, none⟩) len' cO, .int .i64 (p : Int)] 65)) ⟨u5.heap.size, g1, g2, gO, cO, len'⟩ cs ⟨hs, t, p⟩) := by
      rw [HT.out.1]
      have h := H.out
      rw [HT.out.1] at h
      exact h.done B6 hgO RO HR.out.2.1
    clear C5 F5 q0 q1 q2 q3 t0 t3 B5 B6 RO hgO
    go_wp2_with fail
    go_ret
    exact ⟨_, rfl, H6.out⟩
  · have H : Hid (Half w (u2.alloc (.cells #[.slice (some ⟨g1, 0, none⟩) len' len', .slice (some ⟨g2, 0, none⟩) len' len', .int .i64 tt, .int .i64 t] 63)) (.slice a len' cap) (.slice a' len' cap') t p u2.heap.size g1 g2 len' tt cs hs) :=
      ⟨F.alloc _, cyc_new _ _ _ _ _, R1.alloc _, R2.alloc _, C.alloc C.size _, by have := hg1; simp at this; omega, by omega, by omega⟩
    clear R1 R2 F C t0 t1 t2 m1 m2 m3 lg1 hg1 hg2 hB1 B1 B2
    generalize u2.alloc (.cells #[.slice (some ⟨g1, 0, none⟩) len' len', .slice (some ⟨g2, 0, none⟩) len' len', .int .i64 tt, .int .i64 t] 63) = u at *
    generalize u2.heap.size = bc at *
    have q0 := H.out.cyc.c0
    have q1 := H.out.cyc.c1
    have q2 := H.out.cyc.c2
    have q3 := H.out.cyc.c3
    have t0 := H.out.arg.c0
    have t3 := H.out.arg.c3
    go_wp2_with fail
    go_region_held3 (fun w' => w'.cell? ⟨bc, 0, none⟩ = some (.slice (some ⟨g1, 0, none⟩) len' len') ∧ w'.cell? ⟨bc, 1, none⟩ = some (.slice (some ⟨g2, 0, none⟩) len' len') ∧ w'.cell? ⟨bc, 2, none⟩ = some (.int .i64 tt) ∧ w'.cell? ⟨bc, 3, none⟩ = some (.int .i64 t) ∧ w'.cell? ⟨w.heap.size, 0, none⟩ = some (.slice a len' cap) ∧ w'.cell? ⟨w.heap.size, 3, none⟩ = some (.int .i64 (p : Int))) (go_keep)
      ((go_at_call 60; refine (implBy_order a len' cap cs _ (HJ2.out.kept H.out.bel.drew) HR.out.1.crew).mono ?_; rintro e u5 ⟨gO, cO, rfl, RO, hgO, B5⟩; have C5 := (H.out.cyc.drew).all B5; have F5 := (H.out.arg.drew).all B5; have q0 := C5.c0; have q1 := C5.c1; have q2 := C5.c2; have q3 := C5.c3; have t0 := F5.c0; have t3 := F5.c3))
    have B6 : Below u.heap.size u u5 := (Below.refl u.heap.size u).drew.trans B5
    have H6 : Hid (Wk w (u5.alloc (.cells #[.slice (some ⟨g1, 0, none⟩) len' len', .slice (some ⟨g2, 0, none⟩) len' len', .int .i64 tt, .int .i64 t, .slice (some ⟨gO, 0, none⟩) len' cO, .int .i64 (p : Int)] 65)) ⟨u5.heap.size, g1, g2, gO, cO, len'⟩ cs ⟨hs, t, p⟩) := by
      rw [HT.out.1]
      have h := H.out
      rw [HT.out.1] at h
      exact h.done B6 hgO RO HR.out.2.1
    clear C5 F5 q0 q1 q2 q3 t0 t3 B5 B6 RO hgO
    go_wp2_with fail
    go_ret
    exact ⟨_, rfl, H6.out⟩
  · have hg1' := hg1
    have hg2' := hg2
    simp at hg1' hg2' hB1
    have H : Hid (Half w ((((u3.setCell ⟨u1.heap.size, 0, none⟩ (.slice (some ⟨g1, 0, none⟩) len' len')).setCell ⟨u1.heap.size, 1, none⟩ (.slice (some ⟨g2, 0, none⟩) len' len')).setCell ⟨u1.heap.size, 2, none⟩ (.int .i64 tt)).setCell ⟨u1.heap.size, 3, none⟩ (.int .i64 t)) (.slice a len' cap) (.slice a' len' cap') t p u1.heap.size g1 g2 len' tt cs hs) :=
      ⟨F.sets4 (by omega) _ _ _ _, CY.sets _ _ _ _, R1.sets4 (by omega) _ _ _ _, R2.sets4 (by omega) _ _ _ _, below_sets4 C (by omega) _ _ _ _, by omega, by omega, by omega⟩
    clear R1 R2 F C t0 t1 t2 m1 m2 m3 lg1 hg1 hg2 hB1 B1 B2 hg1' hg2' CY p0 p1 p2 p3 f0 f1 f2 f3 n1 n2 n3
    generalize (((u3.setCell ⟨u1.heap.size, 0, none⟩ (.slice (some ⟨g1, 0, none⟩) len' len')).setCell ⟨u1.heap.size, 1, none⟩ (.slice (some ⟨g2, 0, none⟩) len' len')).setCell ⟨u1.heap.size, 2, none⟩ (.int .i64 tt)).setCell ⟨u1.heap.size, 3, none⟩ (.int .i64 t) = u at *
    generalize u1.heap.size = bc at *
    have q0 := H.out.cyc.c0
    have q1 := H.out.cyc.c1
    have q2 := H.out.cyc.c2
    have q3 := H.out.cyc.c3
    have t0 := H.out.arg.c0
    have t3 := H.out.arg.c3
    go_wp2_with fail
    go_region_held3 (fun w' => w'.cell? ⟨bc, 0, none⟩ = some (.slice (some ⟨g1, 0, none⟩) len' len') ∧ w'.cell? ⟨bc, 1, none⟩ = some (.slice (some ⟨g2, 0, none⟩) len' len') ∧ w'.cell? ⟨bc, 2, none⟩ = some (.int .i64 tt) ∧ w'.cell? ⟨bc, 3, none⟩ = some (.int .i64 t) ∧ w'.cell? ⟨w.heap.size, 0, none⟩ = some (.slice a len' cap) ∧ w'.cell? ⟨w.heap.size, 3, none⟩ = some (.int .i64 (p : Int))) (go_keep)
      ((go_at_call 60; refine (implBy_order a len' cap cs _ (HJ2.out.kept H.out.bel.drew) HR.out.1.crew).mono ?_; rintro e u5 ⟨gO, cO, rfl, RO, hgO, B5⟩; have C5 := (H.out.cyc.drew).all B5; have F5 := (H.out.arg.drew).all B5; have q0 := C5.c0; have q1 := C5.c1; have q2 := C5.c2; have q3 := C5.c3; have t0 := F5.c0; have t3 := F5.c3))
    have B6 : Below u.heap.size u u5 := (Below.refl u.heap.size u).drew.trans B5
    have H6 : Hid (Wk w (u5.alloc (.cells #[.slice (some ⟨g1, 0, none⟩) len' len', .slice (some ⟨g2, 0, none⟩) len' len', .int .i64 tt, .int .i64 t, .slice (some ⟨gO, 0, none⟩) len' cO, .int .i64 (p : Int)] 65)) ⟨u5.heap.size, g1, g2, gO, cO, len'⟩ cs ⟨hs, t, p⟩) := by
      rw [HT.out.1]
      have h := H.out
      rw [HT.out.1] at h
      exact h.done B6 hgO RO HR.out.2.1
    clear C5 F5 q0 q1 q2 q3 t0 t3 B5 B6 RO hgO
    go_wp2_with fail
    go_ret
    exact ⟨_, rfl, H6.out⟩
  · have hg1' := hg1
    have hg2' := hg2
    simp at hg1' hg2' hB1
    have H : Hid (Half w ((((u3.setCell ⟨W0.heap.size, 0, none⟩ (.slice (some ⟨g1, 0, none⟩) len' len')).setCell ⟨W0.heap.size, 1, none⟩ (.slice (some ⟨g2, 0, none⟩) len' len')).setCell ⟨W0.heap.size, 2, none⟩ (.int .i64 tt)).setCell ⟨W0.heap.size, 3, none⟩ (.int .i64 t)) (.slice a len' cap) (.slice a' len' cap') t p W0.heap.size g1 g2 len' tt cs hs) :=
      ⟨F.sets4 (by omega) _ _ _ _, CY.sets _ _ _ _, R1.sets4 (by omega) _ _ _ _, R2.sets4 (by omega) _ _ _ _, below_sets4 C (by omega) _ _ _ _, by omega, by omega, by omega⟩
    clear R1 R2 F C t0 t1 t2 m1 m2 m3 lg1 hg1 hg2 hB1 B1 B2 hg1' hg2' CY p0 p1 p2 p3 f0 f1 f2 f3 n1 n2 n3
    generalize (((u3.setCell ⟨W0.heap.size, 0, none⟩ (.slice (some ⟨g1, 0, none⟩) len' len')).setCell ⟨W0.heap.size, 1, none⟩ (.slice (some ⟨g2, 0, none⟩) len' len')).setCell ⟨W0.heap.size, 2, none⟩ (.int .i64 tt)).setCell ⟨W0.heap.size, 3, none⟩ (.int .i64 t) = u at *
    generalize W0.heap.size = bc at *
    have q0 := H.out.cyc.c0
    have q1 := H.out.cyc.c1
    have q2 := H.out.cyc.c2
    have q3 := H.out.cyc.c3
    have t0 := H.out.arg.c0
    have t3 := H.out.arg.c3
    go_wp2_with fail
    go_region_held3 (fun w' => w'.cell? ⟨bc, 0, none⟩ = some (.slice (some ⟨g1, 0, none⟩) len' len') ∧ w'.cell? ⟨bc, 1, none⟩ = some (.slice (some ⟨g2, 0, none⟩) len' len') ∧ w'.cell? ⟨bc, 2, none⟩ = some (.int .i64 tt) ∧ w'.cell? ⟨bc, 3, none⟩ = some (.int .i64 t) ∧ w'.cell? ⟨w.heap.size, 0, none⟩ = some (.slice a len' cap) ∧ w'.cell? ⟨w.heap.size, 3, none⟩ = some (.int .i64 (p : Int))) (go_keep)
      ((go_at_call 60; refine (implBy_order a len' cap cs _ (HJ2.out.kept H.out.bel.drew) HR.out.1.crew).mono ?_; rintro e u5 ⟨gO, cO, rfl, RO, hgO, B5⟩; have C5 := (H.out.cyc.drew).all B5; have F5 := (H.out.arg.drew).all B5; have q0 := C5.c0; have q1 := C5.c1; have q2 := C5.c2; have q3 := C5.c3; have t0 := F5.c0; have t3 := F5.c3))
    have B6 : Below u.heap.size u u5 := (Below.refl u.heap.size u).drew.trans B5
    have H6 : Hid (Wk w (u5.alloc (.cells #[.slice (some ⟨g1, 0, none⟩) len' len', .slice (some ⟨g2, 0, none⟩) len' len', .int .i64 tt, .int .i64 t, .slice (some ⟨gO, 0, none⟩) len' cO, .int .i64 (p : Int)] 65)) ⟨u5.heap.size, g1, g2, gO, cO, len'⟩ cs ⟨hs, t, p⟩) := by
      rw [HT.out.1]
      have h := H.out
      rw [HT.out.1] at h
      exact h.done B6 hgO RO HR.out.2.1
    clear C5 F5 q0 q1 q2 q3 t0 t3 B5 B6 RO hgO
    go_wp2_with fail
    go_ret
    exact ⟨_, rfl, H6.out⟩

end Go.Proofs.Ytlicjbnagapdeaa.Crew
