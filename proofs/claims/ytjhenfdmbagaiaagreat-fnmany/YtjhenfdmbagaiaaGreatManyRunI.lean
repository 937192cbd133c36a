/-
  Several processors: impl.ManyRun and impl.ManyNext.
-/
import Derived.Test.YtjhenfdmbagaiaaGreatManyTaken
import Derived.Test.YtjhenfdmbagaiaaGreatShsCopy
import Derived.Test.YtjhenfdmbagaiaaGreatManyBase
import Derived.Deep.RegionHeld3
import Derived.Deep.CutRange
import Derived.Deep.DrawnRows
namespace Go.Proofs.YtjhenfdmbagaiaaGreat.Crew
open Go.ChangeShapes Go.WideShapes Go.ChangeAt Go.RowKit

attribute [local go_sem ↓] Go.wp_at_zero Go.wp_at_succ

/-- In which blocks an answered Many and its lists lie. -/
def Taken (a d : Option Addr) (h : Nat) (j : Nat) : Prop := j = h ∨ (∃ x, a = some x ∧ x.block = j) ∨ (∃ x, d = some x ∧ x.block = j)

/-- What a run answers. -/
def RunPostM (S : List Shr) (C : List Int) (q now : Int) (LL : List (List Int)) (w : World) (e : Ending) (w' : World) : Prop :=
  ∃ (a : Option Addr) (la ca : Nat) (d : Option Addr) (ld cd h c : Nat) (vs : List Value), e = .returned (.tuple #[mv (.slice a la ca) (.slice d ld cd) q now, .slice (some ⟨h, 0, none⟩) LL.length c]) ∧
    SFit w' w.heap.size a la ca S ∧ Fit w' w.heap.size d ld cd C ∧ Apart a d ∧ w.heap.size ≤ h ∧ (∀ x, a = some x → x.block ≠ h) ∧ (∀ x, d = some x → x.block ≠ h) ∧ Tms w' h c vs ∧ Lst w' (Taken a d h) w.heap.size w'.heap.size vs LL ∧ Below w.heap.size w w'

/-- What it answers, by whether it can be done. -/
def rmS (ps : List Shr) (ns : List Int) (q now n : Int) : List Shr := if runOkM ps ns q now n then ps else []
def rmC (ps : List Shr) (ns : List Int) (q now n : Int) : List Int := if runOkM ps ns q now n then mAt ps ns q now n.toNat else []
def rmQ (ps : List Shr) (ns : List Int) (q now n : Int) : Int := if runOkM ps ns q now n then q else 0
def rmT (ps : List Shr) (ns : List Int) (q now n : Int) : Int := if runOkM ps ns q now n then now + n else 0
def rmL (ps : List Shr) (ns : List Int) (q now n : Int) : List (List Int) := if runOkM ps ns q now n then mLists ps ns q now n.toNat else []

theorem rm_no {ps : List Shr} {ns : List Int} {q now n : Int} (h : runOkM ps ns q now n = false) : rmS ps ns q now n = [] ∧ rmC ps ns q now n = [] ∧ rmQ ps ns q now n = 0 ∧ rmT ps ns q now n = 0 ∧ rmL ps ns q now n = [] := by simp [rmS, rmC, rmQ, rmT, rmL, h]

theorem rm_yes {ps : List Shr} {ns : List Int} {q now n : Int} (h : runOkM ps ns q now n = true) : rmS ps ns q now n = ps ∧ rmC ps ns q now n = mAt ps ns q now n.toNat ∧ rmQ ps ns q now n = q ∧ rmT ps ns q now n = now + n ∧ rmL ps ns q now n = mLists ps ns q now n.toNat := by simp [rmS, rmC, rmQ, rmT, rmL, h]

theorem tms_nil (w : World) : Tms (w.alloc (.cells #[] 25)) w.heap.size 0 [] := ⟨_, heap_alloc_new w _, by simp, by simp [maxLen], by simp, by simp⟩

theorem tms_nil_at {X : World} {s : Nat} (h : X.heap.size = s) : Tms (X.alloc (.cells #[] 25)) s 0 [] := by
  subst h
  exact tms_nil X

/-- What is answered where a run cannot be done. -/
theorem run_none {w W : World} {ps : List Shr} {ns : List Int} {q now n : Int} (h : runOkM ps ns q now n = false) (B : Below w.heap.size w W) {g c : Nat} (T : Tms W g c []) (hg : w.heap.size ≤ g) {e : Ending} (he : e = .returned (.tuple #[mv (.slice none 0 0) (.slice none 0 0) 0 0, .slice (some ⟨g, 0, none⟩) 0 c])) :
    RunPostM (rmS ps ns q now n) (rmC ps ns q now n) (rmQ ps ns q now n) (rmT ps ns q now n) (rmL ps ns q now n) w e W := by
  subst he
  obtain ⟨h1, h2, h3, h4, h5⟩ := rm_no h
  rw [h1, h2, h3, h4, h5]
  exact ⟨none, 0, 0, none, 0, 0, g, c, [], rfl, sfit_nil _ _, fit_nil _ _, (fun x y hx => by cases hx), hg, fun x hx => (by cases hx), fun x hx => (by cases hx), T, ⟨B.size, Nat.le_refl _⟩, B⟩

/-- While a run begins. -/
structure Rb (w0 W : World) (a : Option Addr) (len cap : Nat) (ps : List Shr) (a' : Option Addr) (len' cap' : Nat) (ns : List Int) (t p : Int) : Prop where
  arg : Mny W w0.heap.size (.slice a len cap) (.slice a' len' cap') t p
  res : Mny W (w0.heap.size + 1) (.slice none 0 0) (.slice none 0 0) 0 0
  shs : Shs W a len ps
  ints : Ints W a' len' ns
  bel : Below w0.heap.size w0 W

theorem Rb.all {w0 W W' : World} {a : Option Addr} {len cap : Nat} {ps : List Shr} {a' : Option Addr} {len' cap' : Nat} {ns : List Int} {t p : Int} (h : Rb w0 W a len cap ps a' len' cap' ns t p) (k : Below W.heap.size W W') : Rb w0 W' a len cap ps a' len' cap' ns t p :=
  ⟨h.arg.all k, h.res.all k, h.shs.kept k, h.ints.kept k, below_call h.bel h.bel.size k⟩

theorem Rb.drew {w0 W : World} {a : Option Addr} {len cap : Nat} {ps : List Shr} {a' : Option Addr} {len' cap' : Nat} {ns : List Int} {t p : Int} (h : Rb w0 W a len cap ps a' len' cap' ns t p) : Rb w0 W.drew a len cap ps a' len' cap' ns t p := h.all (Below.refl _ _).drew

theorem Rb.alloc {w0 W : World} {a : Option Addr} {len cap : Nat} {ps : List Shr} {a' : Option Addr} {len' cap' : Nat} {ns : List Int} {t p : Int} (h : Rb w0 W a len cap ps a' len' cap' ns t p) (o : Obj) : Rb w0 (W.alloc o) a len cap ps a' len' cap' ns t p := h.all (below_new _ _)

theorem rb_new {w : World} {a : Option Addr} {len cap : Nat} {ps : List Shr} {a' : Option Addr} {len' cap' : Nat} {ns : List Int} (t p : Int) (I : Shs w a len ps) (J : Ints w a' len' ns) : Rb w ((w.alloc (.cells #[.slice a len cap, .slice a' len' cap', .int .i64 t, .int .i64 p] 27)).alloc (.cells #[.slice none 0 0, .slice none 0 0, .int .i64 0, .int .i64 0] 27)) a len cap ps a' len' cap' ns t p := by
  have h := mny_new (w.alloc (.cells #[.slice a len cap, .slice a' len' cap', .int .i64 t, .int .i64 p] 27)) (.slice none 0 0) (.slice none 0 0) 0 0
  have e : (w.alloc (.cells #[.slice a len cap, .slice a' len' cap', .int .i64 t, .int .i64 p] 27)).heap.size = w.heap.size + 1 := by simp
  rw [e] at h
  exact ⟨(mny_new w _ _ _ _).alloc _, h, (I.alloc _).alloc _, (J.alloc _).alloc _, (below_new w _).alloc (by simp) _⟩

/-- The run's own Many: in block b, its Shares in block gs, its counts in block g. -/
structure Thn (w0 W : World) (b gs g len : Nat) (ps : List Shr) (ns : List Int) (t p : Int) : Prop where
  box : Mny W b (.slice (some ⟨gs, 0, none⟩) len len) (.slice (some ⟨g, 0, none⟩) len len) t p
  shs : SRow W gs len ps
  cnt : Row W g len ns
  res : Mny W (w0.heap.size + 1) (.slice none 0 0) (.slice none 0 0) 0 0
  bel : Below w0.heap.size w0 W
  l1 : w0.heap.size + 1 < b
  l2 : w0.heap.size + 1 < gs
  l3 : w0.heap.size + 1 < g
  n1 : b ≠ gs
  n2 : b ≠ g
  n3 : gs ≠ g

theorem Thn.all {w0 W W' : World} {b gs g len : Nat} {ps : List Shr} {ns : List Int} {t p : Int} (h : Thn w0 W b gs g len ps ns t p) (k : Below W.heap.size W W') : Thn w0 W' b gs g len ps ns t p :=
  ⟨h.box.all k, h.shs.all k, h.cnt.all k, h.res.all k, below_call h.bel h.bel.size k, h.l1, h.l2, h.l3, h.n1, h.n2, h.n3⟩

/-- The variable made last. -/
theorem thn_last {w0 W : World} {a : Option Addr} {len cap : Nat} {ps : List Shr} {a' : Option Addr} {cap' : Nat} {ns : List Int} {t p : Int} {gs g : Nat} (h : Rb w0 W a len cap ps a' len cap' ns t p) (R : SRow W gs len ps) (Q : Row W g len ns) (l2 : w0.heap.size + 1 < gs) (n3 : gs ≠ g) (l3 : w0.heap.size + 1 < g) :
    Thn w0 (W.alloc (.cells #[.slice (some ⟨gs, 0, none⟩) len len, .slice (some ⟨g, 0, none⟩) len len, .int .i64 t, .int .i64 p] 27)) W.heap.size gs g len ps ns t p :=
  have h1 := R.lt
  have h2 := Q.lt
  ⟨mny_new _ _ _ _ _, R.alloc _, Q.alloc _, h.res.alloc _, below_call h.bel h.bel.size (below_new _ _), by omega, l2, l3, by omega, by omega, n3⟩

/-- The variable made ahead. -/
theorem thn_first {w0 W : World} {a : Option Addr} {len cap : Nat} {ps : List Shr} {a' : Option Addr} {cap' : Nat} {ns : List Int} {t p : Int} {gs g s : Nat} {x y : Value} {i j : Int} (h : Rb w0 W a len cap ps a' len cap' ns t p) (Z : Mny W s x y i j) (R : SRow W gs len ps) (Q : Row W g len ns) (l1 : w0.heap.size + 1 < s) (l2 : w0.heap.size + 1 < gs) (l3 : w0.heap.size + 1 < g) (n1 : s ≠ gs) (n2 : s ≠ g) (n3 : gs ≠ g) :
    Thn w0 ((((W.setCell ⟨s, 0, none⟩ (.slice (some ⟨gs, 0, none⟩) len len)).setCell ⟨s, 1, none⟩ (.slice (some ⟨g, 0, none⟩) len len)).setCell ⟨s, 2, none⟩ (.int .i64 t)).setCell ⟨s, 3, none⟩ (.int .i64 p)) s gs g len ps ns t p :=
  ⟨(((Z.set0 _).set1 _).set2 t).set3 p, (((R.past (by omega) _).past (by omega) _).past (by omega) _).past (by omega) _, (((Q.past (by omega) _).past (by omega) _).past (by omega) _).past (by omega) _, (((h.res.past (by omega) _).past (by omega) _).past (by omega) _).past (by omega) _,
    below_set (below_set (below_set (below_set h.bel (by omega) _) (by omega) _) (by omega) _) (by omega) _, l1, l2, l3, n1, n2, n3⟩

theorem m_one {W v : World} (B : Below (W.alloc (.cells #[.slice none 0 0, .slice none 0 0, .int .i64 0, .int .i64 0] 27)).heap.size (W.alloc (.cells #[.slice none 0 0, .slice none 0 0, .int .i64 0, .int .i64 0] 27)) v) : Mny v W.heap.size (.slice none 0 0) (.slice none 0 0) 0 0 := (mny_new W _ _ _ _).all B

theorem m_oneD {W v : World} (B : Below (W.alloc (.cells #[.slice none 0 0, .slice none 0 0, .int .i64 0, .int .i64 0] 27)).drew.heap.size (W.alloc (.cells #[.slice none 0 0, .slice none 0 0, .int .i64 0, .int .i64 0] 27)).drew v) : Mny v W.heap.size (.slice none 0 0) (.slice none 0 0) 0 0 := m_one ((Below.refl _ _).drew.trans B)

/-- While a run goes on. -/
structure Rm (w0 W : World) (b gs g h N k len : Nat) (ps : List Shr) (ns : List Int) (t p : Int) (vs : List Value) : Prop where
  thn : Thn w0 W b gs g len ps (mAt ps ns t p k) t (p + k)
  tms : Tms W h N (vs ++ List.replicate (N - k) (.slice none 0 0))
  lst : Lst W (fun _ => False) (h + 1) W.heap.size vs (mLists ps ns t p k)
  o1 : b < h
  o2 : gs < h
  o3 : g < h

theorem rm_start {w0 W : World} {b gs g N len : Nat} {ps : List Shr} {ns : List Int} {t p : Int} (T : Thn w0 W b gs g len ps ns t p) (hN : (N : Int) ≤ 3000) : Rm w0 (W.alloc (.cells (nilSs N) 25)) b gs g W.heap.size N 0 len ps ns t p [] := by
  refine ⟨?_, ?_, ?_, T.box.lt, T.shs.lt, T.cnt.lt⟩
  · have e : p + ((0 : Nat) : Int) = p := by simp
    rw [e]
    exact T.all (below_new W (.cells (nilSs N) 25))
  · have := tms_new W N (by omega)
    simpa using this
  · exact ⟨by simp, Nat.le_refl _⟩

/-- One time more. -/
theorem rm_step {w0 W W' : World} {b gs g h N k len : Nat} {ps : List Shr} {ns : List Int} {t p : Int} {vs : List Value} (H : Rm w0 W b gs g h N k len ps ns t p vs) {v : Option Addr} {n c : Nat}
    (T : Tn W W' b g len (.slice (some ⟨gs, 0, none⟩) len len) (.slice (some ⟨g, 0, none⟩) len len) t (p + k + 1) (mAt ps ns t p (k + 1)) v n c (icast (mList ps (mAt ps ns t p k) t (p + k)))) (hk : k < N) :
    Rm w0 (W'.setCell ⟨h, k, none⟩ (.slice v n c)) b gs g h N (k + 1) len ps ns t p (vs ++ [.slice v n c]) := by
  have h0 := H.thn
  have hl := H.lst.len
  rw [mLists_len] at hl
  have o1 := H.o1
  have o2 := H.o2
  have o3 := H.o3
  have hh := H.tms.lt
  have q1 := h0.n1
  have q2 := h0.n2
  have q3 := h0.n3
  have q4 := h0.l1
  have q5 := h0.l2
  have q6 := h0.l3
  have sz := h0.bel.size
  have g1 := W'.heap.size
  refine ⟨⟨?_, ?_, ?_, ?_, ?_, h0.l1, h0.l2, h0.l3, h0.n1, h0.n2, h0.n3⟩, ?_, ?_, H.o1, H.o2, H.o3⟩
  · have e : p + ((k + 1 : Nat) : Int) = p + k + 1 := by push_cast; omega
    rw [e]
    exact T.box.past (by omega) _
  · have hs : SRow W' gs len ps := by
      obtain ⟨cur, hc, r⟩ := h0.shs
      exact ⟨cur, by rw [T.but.block gs h0.shs.lt (by omega) (by omega)]; exact hc, r⟩
    exact hs.past (by omega) _
  · exact T.row.past (by omega) _
  · have hr : Mny W' (w0.heap.size + 1) (.slice none 0 0) (.slice none 0 0) 0 0 := by
      unfold Mny
      rw [T.but.block _ h0.res.lt (by omega) (by omega)]
      exact h0.res
    exact hr.past (by omega) _
  · exact below_set (h0.bel.trans (T.but.below (by omega) (by omega) (by omega))) (by omega) _
  · have ht : Tms W' h N (vs ++ List.replicate (N - k) (.slice none 0 0)) := H.tms.still (T.but.block h hh (by omega) (by omega))
    have := ht.set k (.slice v n c)
    have e : (vs ++ List.replicate (N - k) (Value.slice none 0 0)).set k (.slice v n c) = vs ++ [.slice v n c] ++ List.replicate (N - (k + 1)) (.slice none 0 0) := by
      rw [show N - k = (N - (k + 1)) + 1 by omega, List.replicate_succ, List.set_append_right _ _ (by omega), show k - vs.length = 0 by omega, List.set_cons_zero, List.append_assoc]
      rfl
    rw [e] at this
    exact this
  · rw [mLists_succ]
    have ls : Lst W' (fun _ => False) (h + 1) W.heap.size vs (mLists ps ns t p k) := H.lst.still T.but.size (fun j j1 j2 _ => T.but.block j j2 (by omega) (by omega))
    have l2 := ls.snoc T.out.sl T.but.size (fun _ _ => id)
    have e : (W'.setCell ⟨h, k, none⟩ (.slice v n c)).heap.size = W'.heap.size := by simp
    rw [e]
    exact l2.still (by simp) (fun j j1 j2 _ => (grown_at W' h k (.slice v n c)).block j j2 (by simp; omega))

set_option maxHeartbeats 8000000 in
set_option maxRecDepth 100000 in
theorem implRunM_yes (a : Option Addr) (len cap : Nat) (ps : List Shr) (a' : Option Addr) (cap' : Nat) (ns : List Int) (t p : Int) (N : Nat) (w : World) (I : Shs w a len ps) (J : Ints w a' len ns) (hk : manyOk ps ns t p = true) (hN : (N : Int) ≤ 3000) (hov : p + (N : Int) ≤ 1000000) :
    Calls Tryz.prog 8 #[mv (.slice a len cap) (.slice a' len cap') t p, .int .i64 N] w (RunPostM ps (mAt ps ns t p N) t (p + N) (mLists ps ns t p N) w) := by
  have H0 : Hid (Rb w ((w.alloc (.cells #[.slice a len cap, .slice a' len cap', .int .i64 t, .int .i64 p] 27)).alloc (.cells #[.slice none 0 0, .slice none 0 0, .int .i64 0, .int .i64 0] 27)) a len cap ps a' len cap' ns t p) := rb_new t p I J
  have hl := I.1
  have hl' := J.1
  have h24 := fits_len (many_parts hk).1
  have hsz : (len : Int) ≤ 1048576 := by omega
  have hw : within (N : Int) 0 3000 = true := by simp [within]; omega
  have b2 := within_yes (many_parts hk).2.2.1
  have HK : Hid (manyOk ps ns t p = true ∧ within (N : Int) 0 3000 = true ∧ within (p + (N : Int)) 0 1000000 = true ∧ ps.length = len ∧ ns.length = len) := ⟨hk, hw, by simp [within]; omega, hl, hl'⟩
  have hmk := made_lists N (by omega)
  have l24 : (len : Int) ≤ 24 := by omega
  clear I J hk hw hl hl' h24
  go_enter Tryz.func8, Tryz.ntmps8
  go_wp2_with fail
  refine (implManyX a len cap ps a' len cap' ns t p _ H0.out.shs H0.out.ints hsz).mono ?_
  rw [HK.out.1]
  rintro e w1 ⟨rfl, B1⟩
  have H1 : Hid (Rb w w1 a len cap ps a' len cap' ns t p) := H0.out.all B1
  clear B1 H0
  have a3 := H1.out.arg.c3
  go_wp2_with fail
  refine (steps_any (N : Int) _).mono ?_
  rw [HK.out.2.1]
  rintro e w2 ⟨rfl, rfl⟩
  go_wp2_with fail
  refine (countOk_any (p + (N : Int)) _).mono ?_
  rw [HK.out.2.2.1]
  rintro e w3 ⟨rfl, rfl⟩
  go_upto_region 3 with fail
  have a0 := H1.out.arg.c0
  have a1 := H1.out.arg.c1
  have a2 := H1.out.arg.c2
  have l0 := H1.out.arg.lt
  have q0 := Nat.ne_of_lt l0
  have q1 := Nat.ne_of_gt l0
  go_cut [6] from 27 to 37 (fun s wx => ∃ b gs g : Nat, s = .pointer (some ⟨b, 0, none⟩) ∧ Hid (Thn w wx b gs g len ps ns t p))
  case first =>
    go_region_held3 (fun w' => w'.cell? ⟨w.heap.size, 0, none⟩ = some (.slice a len cap) ∧ w'.cell? ⟨w.heap.size, 1, none⟩ = some (.slice a' len cap') ∧ w'.cell? ⟨w.heap.size, 2, none⟩ = some (.int .i64 t) ∧ w'.cell? ⟨w.heap.size, 3, none⟩ = some (.int .i64 p)) (go_keep)
      (first
        | (go_at_call_of 39 (Value.slice a len cap); refine (copiedS_any a len cap ps _ ?_ hsz).mono ?_; (refine Rb.shs (w0 := w) (a' := a') (len' := len) (cap' := cap') (ns := ns) (t := t) (p := p) (cap := cap) ?_; (repeat (first | (with_reducible exact H1.out) | (with_reducible apply Rb.drew) | (with_reducible apply Rb.alloc)))); rintro e u1 ⟨rfl, R1, B1⟩; have K1 : Hid (Rb w u1 a len cap ps a' len cap' ns t p) := (by refine Rb.all ?_ B1; (repeat (first | (with_reducible exact H1.out) | (with_reducible apply Rb.drew) | (with_reducible apply Rb.alloc)))); have e0 := K1.out.arg.c0; have e1 := K1.out.arg.c1; have e2 := K1.out.arg.c2; have e3 := K1.out.arg.c3; have m0 := K1.out.arg.lt; have m1 := Nat.ne_of_lt m0; have m2 := Nat.ne_of_gt m0; (first | (with_reducible have ZP := m_one B1; have z0 := ZP.c0; have z1 := ZP.c1; have z2 := ZP.c2; have z3 := ZP.c3; have f0 := ZP.fr 0; have f1 := ZP.fr 1; have f2 := ZP.fr 2; have f3 := ZP.fr 3; have n1 := ZP.lt) | (with_reducible have ZP := m_oneD B1; have z0 := ZP.c0; have z1 := ZP.c1; have z2 := ZP.c2; have z3 := ZP.c3; have f0 := ZP.fr 0; have f1 := ZP.fr 1; have f2 := ZP.fr 2; have f3 := ZP.fr 3; have n1 := ZP.lt) | skip))
        | (go_at_call_of 40 (Value.slice a' len cap'); refine (copied_any a' len cap' ns _ ?_ hsz).mono ?_; (refine Rb.ints (w0 := w) (a := a) (len := len) (cap := cap) (ps := ps) (t := t) (p := p) (cap' := cap') ?_; (repeat (first | (with_reducible exact K1.out) | (with_reducible apply Rb.drew) | (with_reducible apply Rb.alloc)))); rintro e u2 ⟨rfl, R2, B2⟩; have K2 : Hid (Rb w u2 a len cap ps a' len cap' ns t p) := (by refine Rb.all ?_ B2; (repeat (first | (with_reducible exact K1.out) | (with_reducible apply Rb.drew) | (with_reducible apply Rb.alloc)))); have e0 := K2.out.arg.c0; have e1 := K2.out.arg.c1; have e2 := K2.out.arg.c2; have e3 := K2.out.arg.c3; have m0 := K2.out.arg.lt; have m1 := Nat.ne_of_lt m0; have m2 := Nat.ne_of_gt m0; (first | (with_reducible have ZP := Mny.all ZP B2; have z0 := ZP.c0; have z1 := ZP.c1; have z2 := ZP.c2; have z3 := ZP.c3; have f0 := ZP.fr 0; have f1 := ZP.fr 1; have f2 := ZP.fr 2; have f3 := ZP.fr 3; have n1 := ZP.lt) | (with_reducible have ZP := Mny.all ZP.drew B2; have z0 := ZP.c0; have z1 := ZP.c1; have z2 := ZP.c2; have z3 := ZP.c3; have f0 := ZP.fr 0; have f1 := ZP.fr 1; have f2 := ZP.fr 2; have f3 := ZP.fr 3; have n1 := ZP.lt) | (with_reducible have ZP := m_one B2; have z0 := ZP.c0; have z1 := ZP.c1; have z2 := ZP.c2; have z3 := ZP.c3; have f0 := ZP.fr 0; have f1 := ZP.fr 1; have f2 := ZP.fr 2; have f3 := ZP.fr 3; have n1 := ZP.lt) | (with_reducible have ZP := m_oneD B2; have z0 := ZP.c0; have z1 := ZP.c1; have z2 := ZP.c2; have z3 := ZP.c3; have f0 := ZP.fr 0; have f1 := ZP.fr 1; have f2 := ZP.fr 2; have f3 := ZP.fr 3; have n1 := ZP.lt) | skip)))
    all_goals go_wp2_with fail
    all_goals go_meet
    all_goals
      have hw3 : w.heap.size + 1 < w3.heap.size := H1.out.res.lt
      have hu1 : w3.heap.size < u1.heap.size := by first | (have := R1.lt; simpa using this) | (have := R1.lt; simp at this; omega)
      have X : Below u1.heap.size u1 u2 := by first | exact B2 | exact (Below.refl _ u1).drew.trans B2 | exact (below_new u1 _).trans (B2.mono (by simp)) | exact (below_new u1 _).drew.trans (B2.mono (by simp))
      have R3 := R1.all X
    · have R4 : SRow u2 w3.heap.size len ps := by simpa using R3
      have R5 : Row u2 u1.heap.size len ns := by simpa using R2
      exact ⟨_, _, _, rfl, hid (thn_last K2.out R4 R5 hw3 (by omega) (by omega))⟩
    · have R4 : SRow u2 w3.heap.size len ps := by simpa using R3
      have R5 : Row u2 (u1.heap.size + 1) len ns := by simpa using R2
      exact ⟨_, _, _, rfl, hid (thn_first K2.out ZP R4 R5 (by omega) hw3 (by omega) (by omega) (by omega) (by omega))⟩
    · have R4 : SRow u2 (w3.heap.size + 1) len ps := by simpa using R3
      have R5 : Row u2 u1.heap.size len ns := by simpa using R2
      have hlt := R1.lt
      exact ⟨_, _, _, rfl, hid (thn_first K2.out ZP R4 R5 hw3 (by omega) (by omega) (by omega) (by omega) (by simp at hlt; omega))⟩
  case rest =>
    obtain ⟨b, gs, g, rfl, H⟩ := hcut
    clear a0 a1 a2 a3 l0 q0 q1 H1
    have H5 : Hid (Rm w (wc.alloc (.cells (nilSs N) 25)) b gs g wc.heap.size N 0 len ps ns t p []) := rm_start H.out hN
    go_wp2_with fail
    generalize wc.alloc (.cells (nilSs N) 25) = W0 at *
    generalize wc.heap.size = h at *
    go_loopw [42] (fun i wr => ∃ (k : Nat) (vs : List Value), i = .int .i64 k ∧ k ≤ N ∧ Hid (Rm w wr b gs g h N k len ps ns t p vs)) (fun i _ => N - (intOf i).toNat)
    case atStart => exact ⟨0, [], rfl, Nat.zero_le _, H5⟩
    case round =>
      obtain ⟨k, vs, rfl, hk, HR⟩ := hrel
      by_cases hlt : k < N
      · have hlt' : (k : Int) < (N : Int) := by omega
        have hok : manyOk ps (mAt ps ns t p k) t (p + k) = true := by
          have hm := many_parts HK.out.1
          refine many_end hm.1 (by rw [mAt_len]; exact hm.2.1) ?_ (mAt_cnts hm.2.2.2 k)
          simp [within]; omega
        have ht := HR.out.tms
        have z0 : wr.cell? ⟨h, k, none⟩ = some (.slice none 0 0) := by
          have hl := HR.out.lst.len
          rw [mLists_len] at hl
          refine ht.cell ?_
          rw [List.getElem?_append_right (by omega), List.getElem?_replicate]
          rw [if_pos (by omega)]
        have hsh : Shs wr (some ⟨gs, 0, none⟩) len ps := by
          have := HR.out.thn.shs.shs
          rwa [HK.out.2.2.2.1] at this
        go_wp2_with fail
        refine (turns_at (some ⟨gs, 0, none⟩) len len ps b g len (mAt ps ns t p k) t (p + k) _ HR.out.thn.box hsh HR.out.thn.cnt HR.out.thn.n2 hok).mono ?_
        rintro e w5 ⟨v, c, rfl, T⟩
        have y0 : w5.cell? ⟨h, k, none⟩ = some (.slice none 0 0) := by
          have hb := T.but.block h ht.lt (by have := HR.out.o1; omega) (by have := HR.out.o3; omega)
          rw [World.cell?_of_block (a := ⟨h, k, none⟩) hb]
          exact z0
        have y1 : w5.frozen? ⟨h, k, none⟩ = false := (ht.still (T.but.block h ht.lt (by have := HR.out.o1; omega) (by have := HR.out.o3; omega))).frozen k
        obtain ⟨m, hm⟩ : ∃ m, m = (mList ps (mAt ps ns t p k) t (p + k)).length := ⟨_, rfl⟩
        rw [← hm] at T ⊢
        have HS : Hid (Rm w (w5.setCell ⟨h, k, none⟩ (.slice v m c)) b gs g h N (k + 1) len ps ns t p (vs ++ [.slice v m c])) := rm_step HR.out T hlt
        clear T hm ht z0 hsh hok
        go_wp2_with fail
        go_roundw
        case rel => exact ⟨k + 1, _, by go_num, by omega, HS⟩
        case measure => simp [intOf]; omega
      · have hlt' : ¬ (k : Int) < (N : Int) := by omega
        have e : k = N := by omega
        subst e
        have r0 := HR.out.thn.box.c0
        have r1 := HR.out.thn.box.c1
        have r2 := HR.out.thn.box.c2
        have r3 := HR.out.thn.box.c3
        have p0 := HR.out.thn.res.c0
        have p1 := HR.out.thn.res.c1
        have p2 := HR.out.thn.res.c2
        have p3 := HR.out.thn.res.c3
        have f0 := HR.out.thn.res.fr 0
        have f1 := HR.out.thn.res.fr 1
        have f2 := HR.out.thn.res.fr 2
        have f3 := HR.out.thn.res.fr 3
        go_wp2_with fail
        have hl := HR.out.lst.len
        rw [mLists_len] at hl
        have q1 := HR.out.thn.l1
        have q2 := HR.out.thn.l2
        have q3 := HR.out.thn.l3
        have q4 := HR.out.o1
        have q5 := HR.out.o2
        have q6 := HR.out.o3
        have q7 := HR.out.thn.n3
        have q8 := HR.out.tms.lt
        have hs : SRow ((((wr.setCell ⟨w.heap.size + 1, 0, none⟩ (.slice (some ⟨gs, 0, none⟩) len len)).setCell ⟨w.heap.size + 1, 1, none⟩ (.slice (some ⟨g, 0, none⟩) len len)).setCell ⟨w.heap.size + 1, 2, none⟩ (.int .i64 t)).setCell ⟨w.heap.size + 1, 3, none⟩ (.int .i64 (p + k))) gs len ps :=
          (((HR.out.thn.shs.past (by omega) _).past (by omega) _).past (by omega) _).past (by omega) _
        have hr : Row ((((wr.setCell ⟨w.heap.size + 1, 0, none⟩ (.slice (some ⟨gs, 0, none⟩) len len)).setCell ⟨w.heap.size + 1, 1, none⟩ (.slice (some ⟨g, 0, none⟩) len len)).setCell ⟨w.heap.size + 1, 2, none⟩ (.int .i64 t)).setCell ⟨w.heap.size + 1, 3, none⟩ (.int .i64 (p + k))) g len (mAt ps ns t p k) :=
          (((HR.out.thn.cnt.past (by omega) _).past (by omega) _).past (by omega) _).past (by omega) _
        have hk : ∀ j, j < wr.heap.size → j ≠ w.heap.size + 1 → ((((wr.setCell ⟨w.heap.size + 1, 0, none⟩ (.slice (some ⟨gs, 0, none⟩) len len)).setCell ⟨w.heap.size + 1, 1, none⟩ (.slice (some ⟨g, 0, none⟩) len len)).setCell ⟨w.heap.size + 1, 2, none⟩ (.int .i64 t)).setCell ⟨w.heap.size + 1, 3, none⟩ (.int .i64 (p + k))).heap[j]? = wr.heap[j]? := by
          intro j hj hne
          rw [(grown_at _ (w.heap.size + 1) 3 _).block j (by simpa using hj) (by simpa using hne), (grown_at _ (w.heap.size + 1) 2 _).block j (by simpa using hj) (by simpa using hne), (grown_at _ (w.heap.size + 1) 1 _).block j (by simpa using hj) (by simpa using hne), (grown_at _ (w.heap.size + 1) 0 _).block j hj (by simpa using hne)]
        have hsz2 : ((((wr.setCell ⟨w.heap.size + 1, 0, none⟩ (.slice (some ⟨gs, 0, none⟩) len len)).setCell ⟨w.heap.size + 1, 1, none⟩ (.slice (some ⟨g, 0, none⟩) len len)).setCell ⟨w.heap.size + 1, 2, none⟩ (.int .i64 t)).setCell ⟨w.heap.size + 1, 3, none⟩ (.int .i64 (p + k))).heap.size = wr.heap.size := by simp
        have ht : Tms ((((wr.setCell ⟨w.heap.size + 1, 0, none⟩ (.slice (some ⟨gs, 0, none⟩) len len)).setCell ⟨w.heap.size + 1, 1, none⟩ (.slice (some ⟨g, 0, none⟩) len len)).setCell ⟨w.heap.size + 1, 2, none⟩ (.int .i64 t)).setCell ⟨w.heap.size + 1, 3, none⟩ (.int .i64 (p + k))) h k vs := by
          have := HR.out.tms
          rw [Nat.sub_self, List.replicate_zero, List.append_nil] at this
          exact this.still (hk h q8 (by omega))
        have hlst : Lst ((((wr.setCell ⟨w.heap.size + 1, 0, none⟩ (.slice (some ⟨gs, 0, none⟩) len len)).setCell ⟨w.heap.size + 1, 1, none⟩ (.slice (some ⟨g, 0, none⟩) len len)).setCell ⟨w.heap.size + 1, 2, none⟩ (.int .i64 t)).setCell ⟨w.heap.size + 1, 3, none⟩ (.int .i64 (p + k))) (fun _ => False) (h + 1) wr.heap.size vs (mLists ps ns t p k) :=
          HR.out.lst.still (by omega) (fun j j1 j2 _ => hk j j2 (by omega))
        have hb := below_set (below_set (below_set (below_set HR.out.thn.bel (by omega : w.heap.size ≤ w.heap.size + 1) (j := 0) (.slice (some ⟨gs, 0, none⟩) len len)) (by omega : w.heap.size ≤ w.heap.size + 1) (j := 1) (.slice (some ⟨g, 0, none⟩) len len)) (by omega : w.heap.size ≤ w.heap.size + 1) (j := 2) (.int .i64 t)) (by omega : w.heap.size ≤ w.heap.size + 1) (j := 3) (.int .i64 (p + k))
        refine bodyPost_ret (ret_mny2 rfl rfl rfl ((((HR.out.thn.res.set0 _).set1 _).set2 t).set3 (p + k))) rfl ⟨some ⟨gs, 0, none⟩, len, len, some ⟨g, 0, none⟩, len, len, h, k, vs, (by rw [mLists_len]; rfl), hs.fit (by omega) HK.out.2.2.2.1, hr.fit (by omega) (by rw [mAt_len]; exact HK.out.2.2.2.2), (fun x y hx hy => by cases hx; cases hy; exact q7), by omega, (fun x hx => by cases hx; exact Nat.ne_of_lt q5), (fun x hx => by cases hx; exact Nat.ne_of_lt q6), ht, ?_, hb⟩
        rw [hsz2]
        exact hlst.above (by omega) (fun j hj => by
          rintro (e | ⟨x, hx, e⟩ | ⟨x, hx, e⟩)
          · omega
          · cases hx; simp at e; omega
          · cases hx; simp at e; omega)

end Go.Proofs.YtjhenfdmbagaiaaGreat.Crew

namespace Go.Proofs.YtjhenfdmbagaiaaGreat.Crew
open Go.ChangeShapes Go.WideShapes Go.ChangeAt Go.RowKit

set_option maxHeartbeats 8000000 in
set_option maxRecDepth 100000 in
/-- impl.ManyRun at every Many and number. -/
theorem implRunM (a : Option Addr) (len cap : Nat) (ps : List Shr) (a' : Option Addr) (len' cap' : Nat) (ns : List Int) (t p n : Int) (w : World) (I : Shs w a len ps) (J : Ints w a' len' ns) (hsz : (len : Int) ≤ 1048576) :
    Calls Tryz.prog 8 #[mv (.slice a len cap) (.slice a' len' cap') t p, .int .i64 n] w (RunPostM (rmS ps ns t p n) (rmC ps ns t p n) (rmQ ps ns t p n) (rmT ps ns t p n) (rmL ps ns t p n) w) := by
  have H0 : Hid (Rb w ((w.alloc (.cells #[.slice a len cap, .slice a' len' cap', .int .i64 t, .int .i64 p] 27)).alloc (.cells #[.slice none 0 0, .slice none 0 0, .int .i64 0, .int .i64 0] 27)) a len cap ps a' len' cap' ns t p) := rb_new t p I J
  have HIJ : Hid (Shs w a len ps ∧ Ints w a' len' ns) := ⟨I, J⟩
  have hl := I.1
  have hl' := J.1
  clear I J
  cases hk : manyOk ps ns t p
  · have HK : Hid (manyOk ps ns t p = false) := hk
    have HN : Hid (runOkM ps ns t p n = false) := by show _ = _; rw [runOkM, hk]; rfl
    clear hk
    go_enter Tryz.func8, Tryz.ntmps8
    go_wp2_with fail
    refine (implManyX a len cap ps a' len' cap' ns t p _ H0.out.shs H0.out.ints hsz).mono ?_
    rw [HK.out]
    rintro e w1 ⟨rfl, B1⟩
    have H1 : Hid (Rb w w1 a len cap ps a' len' cap' ns t p) := H0.out.all B1
    clear B1 H0
    have p0 := H1.out.res.c0
    have p1 := H1.out.res.c1
    have p2 := H1.out.res.c2
    have p3 := H1.out.res.c3
    have f0 := H1.out.res.fr 0
    have f1 := H1.out.res.fr 1
    have f2 := H1.out.res.fr 2
    have f3 := H1.out.res.fr 3
    have n1 := H1.out.res.lt
    go_wp2_with fail
    refine bodyPost_ret (ret_mny2 rfl rfl rfl (((((H1.out.res.set0 _).set1 _).set2 0).set3 0).alloc _)) rfl (run_none HN.out ?_ (tms_nil_at (by simp)) H1.out.bel.size rfl)
    exact (below_set (below_set (below_set (below_set H1.out.bel (by omega) _) (by omega) _) (by omega) _) (by omega) _).alloc (by have := H1.out.bel.size; simp; omega) _
  cases hw : within n 0 3000
  · have HK : Hid (manyOk ps ns t p = true ∧ within n 0 3000 = false) := ⟨hk, hw⟩
    have HN : Hid (runOkM ps ns t p n = false) := by show _ = _; rw [runOkM, hk, hw]; rfl
    clear hk hw
    go_enter Tryz.func8, Tryz.ntmps8
    go_wp2_with fail
    refine (implManyX a len cap ps a' len' cap' ns t p _ H0.out.shs H0.out.ints hsz).mono ?_
    rw [HK.out.1]
    rintro e w1 ⟨rfl, B1⟩
    have H1 : Hid (Rb w w1 a len cap ps a' len' cap' ns t p) := H0.out.all B1
    clear B1 H0
    have p0 := H1.out.res.c0
    have p1 := H1.out.res.c1
    have p2 := H1.out.res.c2
    have p3 := H1.out.res.c3
    have f0 := H1.out.res.fr 0
    have f1 := H1.out.res.fr 1
    have f2 := H1.out.res.fr 2
    have f3 := H1.out.res.fr 3
    have n1 := H1.out.res.lt
    go_wp2_with fail
    refine (steps_any n _).mono ?_
    rw [HK.out.2]
    rintro e w2 ⟨rfl, rfl⟩
    go_wp2_with fail
    refine bodyPost_ret (ret_mny2 rfl rfl rfl (((((H1.out.res.set0 _).set1 _).set2 0).set3 0).alloc _)) rfl (run_none HN.out ?_ (tms_nil_at (by simp)) H1.out.bel.size rfl)
    exact (below_set (below_set (below_set (below_set H1.out.bel (by omega) _) (by omega) _) (by omega) _) (by omega) _).alloc (by have := H1.out.bel.size; simp; omega) _
  have b1 := within_yes hw
  have b2 := within_yes (many_parts hk).2.2.1
  by_cases hov : p + n ≤ 1000000
  case neg =>
    have HK : Hid (manyOk ps ns t p = true ∧ within n 0 3000 = true ∧ within (p + n) 0 1000000 = false) := ⟨hk, hw, by simp [within]; omega⟩
    have HN : Hid (runOkM ps ns t p n = false) := by show _ = _; rw [runOkM, decide_eq_false hov, Bool.and_false]
    clear hk hw
    go_enter Tryz.func8, Tryz.ntmps8
    go_wp2_with fail
    refine (implManyX a len cap ps a' len' cap' ns t p _ H0.out.shs H0.out.ints hsz).mono ?_
    rw [HK.out.1]
    rintro e w1 ⟨rfl, B1⟩
    have H1 : Hid (Rb w w1 a len cap ps a' len' cap' ns t p) := H0.out.all B1
    clear B1 H0
    have a3 := H1.out.arg.c3
    have p0 := H1.out.res.c0
    have p1 := H1.out.res.c1
    have p2 := H1.out.res.c2
    have p3 := H1.out.res.c3
    have f0 := H1.out.res.fr 0
    have f1 := H1.out.res.fr 1
    have f2 := H1.out.res.fr 2
    have f3 := H1.out.res.fr 3
    have n1 := H1.out.res.lt
    go_wp2_with fail
    refine (steps_any n _).mono ?_
    rw [HK.out.2.1]
    rintro e w2 ⟨rfl, rfl⟩
    go_wp2_with fail
    refine (countOk_any (p + n) _).mono ?_
    rw [HK.out.2.2]
    rintro e w3 ⟨rfl, rfl⟩
    go_wp2_with fail
    refine bodyPost_ret (ret_mny2 rfl rfl rfl (((((H1.out.res.set0 _).set1 _).set2 0).set3 0).alloc _)) rfl (run_none HN.out ?_ (tms_nil_at (by simp)) H1.out.bel.size rfl)
    exact (below_set (below_set (below_set (below_set H1.out.bel (by omega) _) (by omega) _) (by omega) _) (by omega) _).alloc (by have := H1.out.bel.size; simp; omega) _
  obtain ⟨N, rfl⟩ := Int.eq_ofNat_of_zero_le b1.1
  have hok : runOkM ps ns t p (N : Int) = true := by rw [runOkM, hk, hw, decide_eq_true hov]; rfl
  obtain ⟨h1, h2, h3, h4, h5⟩ := rm_yes hok
  have hll : len' = len := by have := (many_parts hk).2.1; omega
  subst hll
  rw [h1, h2, h3, h4, h5, Int.toNat_natCast]
  exact implRunM_yes a len' cap ps a' cap' ns t p N w HIJ.out.1 HIJ.out.2 hk b1.2 hov

end Go.Proofs.YtjhenfdmbagaiaaGreat.Crew

namespace Go.Proofs.YtjhenfdmbagaiaaGreat.Crew
open Go.ChangeShapes Go.WideShapes Go.ChangeAt Go.RowKit

attribute [local go_sem ↓] Go.wp_at_zero Go.wp_at_succ

/-- Who is taken, where one time more can be. -/
def nxL (ps : List Shr) (ns : List Int) (q now : Int) : List Int := if runOkM ps ns q now 1 then icast (mList ps ns q now) else []

theorem nxL_no {ps : List Shr} {ns : List Int} {q now : Int} (h : runOkM ps ns q now 1 = false) : nxL ps ns q now = [] := by rw [nxL, h]; rfl

theorem nxL_yes {ps : List Shr} {ns : List Int} {q now : Int} (h : runOkM ps ns q now 1 = true) : nxL ps ns q now = icast (mList ps ns q now) := by rw [nxL, h, if_pos rfl]

/-- What one time answers. -/
def NextPostM (S : List Shr) (C : List Int) (q now : Int) (L : List Int) (w : World) (e : Ending) (w' : World) : Prop :=
  ∃ (a : Option Addr) (la ca : Nat) (d : Option Addr) (ld cd : Nat) (v : Option Addr) (n c : Nat), e = .returned (.tuple #[mv (.slice a la ca) (.slice d ld cd) q now, .slice v n c]) ∧
    SFit w' w.heap.size a la ca S ∧ Fit w' w.heap.size d ld cd C ∧ Fit w' w.heap.size v n c L ∧ Apart a d ∧ Apart a v ∧ Apart d v ∧ Below w.heap.size w w'

/-- A Many that came, in a block of the call's own, and one to be answered behind it. -/
structure Nb (w0 W : World) (r : Nat) (x y : Value) (t p : Int) : Prop where
  res : Mny W r x y t p
  bel : Below w0.heap.size w0 W
  lr : w0.heap.size ≤ r

theorem four_still (W : World) (r : Nat) (v0 v1 v2 v3 : Value) {j : Nat} (hj : j < W.heap.size) (hne : j ≠ r) : ((((W.setCell ⟨r, 0, none⟩ v0).setCell ⟨r, 1, none⟩ v1).setCell ⟨r, 2, none⟩ v2).setCell ⟨r, 3, none⟩ v3).drew.heap[j]? = W.heap[j]? := by
  show ((((W.setCell ⟨r, 0, none⟩ v0).setCell ⟨r, 1, none⟩ v1).setCell ⟨r, 2, none⟩ v2).setCell ⟨r, 3, none⟩ v3).heap[j]? = W.heap[j]?
  rw [(grown_at _ r 3 _).block j (by simpa using hj) (by simpa using hne), (grown_at _ r 2 _).block j (by simpa using hj) (by simpa using hne), (grown_at _ r 1 _).block j (by simpa using hj) (by simpa using hne), (grown_at _ r 0 _).block j hj (by simpa using hne)]

theorem row_nil_at {X : World} {s : Nat} (h : X.heap.size = s) : Row (X.alloc (.cells #[] 2)) s 0 [] := by
  subst h
  exact row_nil X

theorem implNextM (a : Option Addr) (len cap : Nat) (ps : List Shr) (a' : Option Addr) (len' cap' : Nat) (ns : List Int) (t p : Int) (w : World) (I : Shs w a len ps) (J : Ints w a' len' ns) (hsz : (len : Int) ≤ 1048576) :
    Calls Tryz.prog 11 #[mv (.slice a len cap) (.slice a' len' cap') t p] w (NextPostM (rmS ps ns t p 1) (rmC ps ns t p 1) (rmQ ps ns t p 1) (rmT ps ns t p 1) (nxL ps ns t p) w) := by
  have H0 : Hid (Rb w ((w.alloc (.cells #[.slice a len cap, .slice a' len' cap', .int .i64 t, .int .i64 p] 27)).alloc (.cells #[.slice none 0 0, .slice none 0 0, .int .i64 0, .int .i64 0] 27)) a len cap ps a' len' cap' ns t p) := rb_new t p I J
  clear I J
  have hz : ((w.alloc (.cells #[.slice a len cap, .slice a' len' cap', .int .i64 t, .int .i64 p] 27)).alloc (.cells #[.slice none 0 0, .slice none 0 0, .int .i64 0, .int .i64 0] 27)).heap.size = w.heap.size + 2 := by simp
  have HZ : Hid (w.heap.size ≤ ((w.alloc (.cells #[.slice a len cap, .slice a' len' cap', .int .i64 t, .int .i64 p] 27)).alloc (.cells #[.slice none 0 0, .slice none 0 0, .int .i64 0, .int .i64 0] 27)).heap.size ∧ w.heap.size + 1 < ((w.alloc (.cells #[.slice a len cap, .slice a' len' cap', .int .i64 t, .int .i64 p] 27)).alloc (.cells #[.slice none 0 0, .slice none 0 0, .int .i64 0, .int .i64 0] 27)).heap.size) := ⟨by omega, by omega⟩
  clear hz
  cases hk : runOkM ps ns t p 1
  · obtain ⟨h1, h2, h3, h4, h5⟩ := rm_no hk
    rw [h1, h2, h3, h4, nxL_no hk]
    have HE : Hid (rmS ps ns t p 1 = [] ∧ rmC ps ns t p 1 = [] ∧ rmQ ps ns t p 1 = 0 ∧ rmT ps ns t p 1 = 0 ∧ rmL ps ns t p 1 = []) := ⟨h1, h2, h3, h4, h5⟩
    clear hk h1 h2 h3 h4 h5
    go_enter Tryz.func11, Tryz.ntmps11
    go_wp2_with fail
    refine (implRunM a len cap ps a' len' cap' ns t p 1 _ H0.out.shs H0.out.ints hsz).mono ?_
    rw [HE.out.1, HE.out.2.1, HE.out.2.2.1, HE.out.2.2.2.1, HE.out.2.2.2.2]
    rintro e w1 ⟨b, lb, cb, d, ld, cd, h, c, vs, rfl, F, G, D, hh, n1, n2, T, L, B⟩
    have H1 : Hid (Rb w w1 a len cap ps a' len' cap' ns t p) := H0.out.all B
    clear F G D n1 n2 T L B H0 HZ
    go_upto_region 3 with fail
    have H2 : Hid (Rb w (w1.alloc (.cells #[.slice b lb cb, .slice d ld cd, .int .i64 0, .int .i64 0] 27)) a len cap ps a' len' cap' ns t p) := H1.out.alloc _
    clear H1
    generalize w1.alloc (.cells #[.slice b lb cb, .slice d ld cd, .int .i64 0, .int .i64 0] 27) = W1 at *
    have p0 := H2.out.res.c0
    have p1 := H2.out.res.c1
    have p2 := H2.out.res.c2
    have p3 := H2.out.res.c3
    have f0 := H2.out.res.fr 0
    have f1 := H2.out.res.fr 1
    have f2 := H2.out.res.fr 2
    have f3 := H2.out.res.fr 3
    have n1 := H2.out.res.lt
    go_wp2_with fail
    refine bodyPost_ret (ret_mny2 rfl rfl rfl (((((H2.out.res.set0 _).set1 _).set2 0).set3 0).alloc _)) rfl ⟨none, 0, 0, none, 0, 0, some ⟨W1.heap.size, 0, none⟩, 0, 0, rfl, sfit_nil _ _, fit_nil _ _, (row_nil_at (by simp)).fit H2.out.bel.size rfl, (fun x y hx => by cases hx), (fun x y hx => by cases hx), (fun x y hx => by cases hx), ?_⟩
    exact (below_set (below_set (below_set (below_set H2.out.bel (by omega) _) (by omega) _) (by omega) _) (by omega) _).alloc (by have := H2.out.bel.size; simp; omega) _
  · obtain ⟨h1, h2, h3, h4, h5⟩ := rm_yes hk
    rw [h1, h2, h3, h4, nxL_yes hk]
    have HE : Hid (rmS ps ns t p 1 = ps ∧ rmC ps ns t p 1 = mNext ps ns t p ∧ rmQ ps ns t p 1 = t ∧ rmT ps ns t p 1 = p + 1 ∧ rmL ps ns t p 1 = [icast (mList ps ns t p)]) := by
      have e0 : mAt ps ns t p (1 : Int).toNat = mNext ps ns t p := by
        show mNext ps ns t (p + ((0 : Nat) : Int)) = _
        rw [show p + ((0 : Nat) : Int) = p by simp]
      have e1 : mLists ps ns t p (1 : Int).toNat = [icast (mList ps ns t p)] := by
        show [icast (mList ps ns t (p + ((0 : Nat) : Int)))] = _
        rw [show p + ((0 : Nat) : Int) = p by simp]
      exact ⟨h1, by rw [h2, e0], h3, h4, by rw [h5, e1]⟩
    have e2 : mAt ps ns t p (1 : Int).toNat = mNext ps ns t p := by rw [← h2]; exact HE.out.2.1
    rw [e2]
    clear hk h1 h2 h3 h4 h5 e2
    go_enter Tryz.func11, Tryz.ntmps11
    go_wp2_with fail
    refine (implRunM a len cap ps a' len' cap' ns t p 1 _ H0.out.shs H0.out.ints hsz).mono ?_
    rw [HE.out.1, HE.out.2.1, HE.out.2.2.1, HE.out.2.2.2.1, HE.out.2.2.2.2]
    rintro e w1 ⟨b, lb, cb, d, ld, cd, h, c, vs, rfl, F, G, D, hh, n1, n2, T, L, B⟩
    obtain ⟨v, n, cv, l, m, g1, g2, g3, g4, g5, g6⟩ := L.get (i := 0) (by simp)
    simp only [List.getD_cons_zero] at g2
    have H1 : Hid (Rb w w1 a len cap ps a' len' cap' ns t p ∧ SFit w1 w.heap.size b lb cb ps ∧ Fit w1 w.heap.size d ld cd (mNext ps ns t p) ∧ Fit w1 w.heap.size v n cv (icast (mList ps ns t p)) ∧ Apart b d ∧ Apart b v ∧ Apart d v ∧ (∀ x, b = some x → w.heap.size + 1 < x.block) ∧ (∀ x, d = some x → w.heap.size + 1 < x.block) ∧ (∀ x, v = some x → w.heap.size + 1 < x.block)) :=
      ⟨H0.out.all B, F.mono HZ.out.1, G.mono HZ.out.1, g2.fit.mono (Nat.le_trans HZ.out.1 g3), D,
       fun x y hx hy e => g6 y hy (.inr (.inl ⟨x, hx, e⟩)), fun x y hx hy e => g6 y hy (.inr (.inr ⟨x, hx, e⟩)),
       fun x hx => Nat.lt_of_lt_of_le HZ.out.2 (F.ge hx).1, fun x hx => Nat.lt_of_lt_of_le HZ.out.2 (G.ge hx).1, fun x hx => Nat.lt_of_lt_of_le HZ.out.2 (Nat.le_trans g3 (g2.fit.ge hx).1)⟩
    have t0 := T.cell g1
    have tl := T.lt
    have hc : 0 < c := by
      obtain ⟨cur, _, h1, _⟩ := T
      have := (List.getElem?_eq_some_iff.1 g1).1
      omega
    have q2 : h ≠ w.heap.size + 1 := by have := HZ.out.2; omega
    have q3 := Ne.symm q2
    clear F G D n1 n2 L B H0 HZ g1 g2 g3 g4 g5 g6 T hh
    go_upto_region 4 with fail
    have H2 : Hid (Mny (w1.alloc (.cells #[.slice b lb cb, .slice d ld cd, .int .i64 t, .int .i64 (p + 1)] 27)) w1.heap.size (.slice b lb cb) (.slice d ld cd) t (p + 1) ∧ Rb w (w1.alloc (.cells #[.slice b lb cb, .slice d ld cd, .int .i64 t, .int .i64 (p + 1)] 27)) a len cap ps a' len' cap' ns t p ∧ SFit (w1.alloc (.cells #[.slice b lb cb, .slice d ld cd, .int .i64 t, .int .i64 (p + 1)] 27)) w.heap.size b lb cb ps ∧ Fit (w1.alloc (.cells #[.slice b lb cb, .slice d ld cd, .int .i64 t, .int .i64 (p + 1)] 27)) w.heap.size d ld cd (mNext ps ns t p) ∧ Fit (w1.alloc (.cells #[.slice b lb cb, .slice d ld cd, .int .i64 t, .int .i64 (p + 1)] 27)) w.heap.size v n cv (icast (mList ps ns t p)) ∧ w.heap.size + 1 < w1.heap.size) :=
      ⟨mny_new _ _ _ _ _, H1.out.1.alloc _, H1.out.2.1.all (below_new _ _), H1.out.2.2.1.all (below_new _ _), H1.out.2.2.2.1.all (below_new _ _), H1.out.1.res.lt⟩
    have t1 : (w1.alloc (.cells #[.slice b lb cb, .slice d ld cd, .int .i64 t, .int .i64 (p + 1)] 27)).cell? ⟨h, 0, none⟩ = some (.slice v n cv) := ((below_new w1 (.cells #[.slice b lb cb, .slice d ld cd, .int .i64 t, .int .i64 (p + 1)] 27)).cell (p := ⟨h, 0, none⟩) tl).trans t0
    clear t0
    generalize w1.alloc (.cells #[.slice b lb cb, .slice d ld cd, .int .i64 t, .int .i64 (p + 1)] 27) = W1 at *
    generalize w1.heap.size = s1 at *
    have r0 := H2.out.1.c0
    have r1 := H2.out.1.c1
    have r2 := H2.out.1.c2
    have r3 := H2.out.1.c3
    have p0 := H2.out.2.1.res.c0
    have p1 := H2.out.2.1.res.c1
    have p2 := H2.out.2.1.res.c2
    have p3 := H2.out.2.1.res.c3
    have f0 := H2.out.2.1.res.fr 0
    have f1 := H2.out.2.1.res.fr 1
    have f2 := H2.out.2.1.res.fr 2
    have f3 := H2.out.2.1.res.fr 3
    have q0 := Nat.ne_of_lt H2.out.2.2.2.2.2
    have q1 := Nat.ne_of_gt H2.out.2.2.2.2.2
    go_region_held3 (fun w' => w'.cell? ⟨h, 0, none⟩ = some (.slice v n cv) ∧ w'.cell? ⟨s1, 0, none⟩ = some (.slice b lb cb) ∧ w'.cell? ⟨s1, 1, none⟩ = some (.slice d ld cd) ∧ w'.cell? ⟨s1, 2, none⟩ = some (.int .i64 t) ∧ w'.cell? ⟨s1, 3, none⟩ = some (.int .i64 (p + 1))) (go_keep) (fail)
    go_wp2_with fail
    have k1 := H1.out.2.2.2.2.2.2.2.1
    have k2 := H1.out.2.2.2.2.2.2.2.2.1
    have k3 := H1.out.2.2.2.2.2.2.2.2.2
    refine bodyPost_ret (ret_mny2 rfl rfl rfl ((((H2.out.2.1.res.set0 _).set1 _).set2 t).set3 (p + 1)).drew) rfl ⟨b, lb, cb, d, ld, cd, v, n, cv, rfl, ?_, ?_, ?_, H1.out.2.2.2.2.1, H1.out.2.2.2.2.2.1, H1.out.2.2.2.2.2.2.1, ?_⟩
    · exact H2.out.2.2.1.still fun x hx => four_still W1 _ _ _ _ _ (H2.out.2.2.1.ge hx).2 (Nat.ne_of_gt (k1 x hx))
    · exact H2.out.2.2.2.1.still fun x hx => four_still W1 _ _ _ _ _ (H2.out.2.2.2.1.ge hx).2 (Nat.ne_of_gt (k2 x hx))
    · exact H2.out.2.2.2.2.1.still fun x hx => four_still W1 _ _ _ _ _ (H2.out.2.2.2.2.1.ge hx).2 (Nat.ne_of_gt (k3 x hx))
    · exact (below_set (below_set (below_set (below_set H2.out.2.1.bel (by omega) _) (by omega) _) (by omega) _) (by omega) _).drew

end Go.Proofs.YtjhenfdmbagaiaaGreat.Crew
