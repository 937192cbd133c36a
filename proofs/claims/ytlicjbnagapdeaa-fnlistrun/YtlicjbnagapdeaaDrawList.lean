/-
  Drawing a List: spec.l8Draw, l8DrawAny, DrawLeftOf, DrawListRun. What is drawn lies in blocks of its own; besides these the cursor's block alone is written.
-/
import Derived.Test.YtlicjbnagapdeaaDrawLeft
import Derived.Test.YtlicjbnagapdeaaListRunS
import Derived.Test.YtlicjbnagapdeaaListFair
import Derived.Deep.RegionWith
namespace Go.Proofs.Ytlicjbnagapdeaa.Draw
open Go.ChangeShapes Go.WideShapes Go.ChangeAt Go.RowKit
open Go.Proofs.Ytlicjbnagapdeaa.Crew

attribute [local go_sem ↓] Go.wp_at_zero Go.wp_at_succ

theorem Quad.left {k : IntKind} {T : TypeId} {p : Nat} {a : Option Addr} {len cap : Nat} {w w' : World} {b : Nat} {x y : Value} {t q : Int} (h : Quad w b x y t q) (L : Left k T p a len cap w w') (hb : b ≠ p) : Quad w' b x y t q := h.other L.1 (by simpa using hb)

theorem left_puts {k : IntKind} {T : TypeId} {p : Nat} {a : Option Addr} {len cap : Nat} {w w1 : World} (L : Left k T p a len cap w w1) (hp : p < w.heap.size) {b : Nat} (hb : w.heap.size ≤ b) (x0 x1 x2 x3 : Value) : Left k T p a len cap w ((((w1.setCell ⟨b, 0, none⟩ x0).setCell ⟨b, 1, none⟩ x1).setCell ⟨b, 2, none⟩ x2).setCell ⟨b, 3, none⟩ x3) :=
  left_put (left_put (left_put (left_put L hp hb _) hp hb _) hp hb _) hp hb _

/-- A run from a new list. -/
theorem run_new {xs : List Int} (hc : crewOk xs = true) {k : Int} (k0 : 0 ≤ k) (k1 : k ≤ 3000) : ∃ s : Ls, Right xs s ∧ lrC xs (List.replicate xs.length 0) 0 0 k = xs ∧ lrH xs (List.replicate xs.length 0) 0 0 k = s.had ∧ lrT xs (List.replicate xs.length 0) 0 0 k = s.turns ∧ lrP xs (List.replicate xs.length 0) 0 0 k = s.pos := by
  have F := (fine_new hc).at k.toNat
  have h1 : within k 0 3000 = true := decide_eq_true ⟨k0, k1⟩
  have h2 : lrOk xs (List.replicate xs.length 0) 0 0 k = true := by
    have h3 : listOk xs (List.replicate xs.length 0) 0 0 = true := (right_new hc).ok
    rw [lrOk, h3, h1]
    exact F.2
  obtain ⟨e1, e2, e3, e4, _⟩ := lr_yes h2
  exact ⟨_, F.1.right, e1, e2, e3, e4⟩

theorem wts_crew {xs : List Int} (h : wts xs = true) (h1 : 1 ≤ xs.length) (h2 : xs.length ≤ 6) : crewOk xs = true := by
  have e : within (xs.length : Int) 1 24 = true := decide_eq_true ⟨by omega, by omega⟩
  rw [crewOk, e]
  exact h

/-- spec.l8Draw: a right List. -/
theorem draw_list (T : TypeId) (p : Nat) (a : Option Addr) (len cap : Nat) (w : World) (C : Cur .i64 T p a len cap w) :
    Calls Try.prog 65 #[.pointer (some ⟨p, 0, none⟩)] w fun e w' => ∃ b lb cb d ld cd X s, e = .returned (lv (.slice b lb cb) (.slice d ld cd) s.turns s.pos) ∧ Fit w' w.heap.size b lb cb X ∧ Fit w' w.heap.size d ld cd s.had ∧ Apart b d ∧ Right X s ∧ Left .i64 T p a len cap w w' := by
  have hp := C.lt
  have HC : Hid (Cur .i64 T p a len cap w) := C
  have H0 : Hid (Left .i64 T p a len cap w (w.alloc (.cells #[.slice none 0 0, .slice none 0 0, .int .i64 0, .int .i64 0] 31)) ∧ Quad (w.alloc (.cells #[.slice none 0 0, .slice none 0 0, .int .i64 0, .int .i64 0] 31)) w.heap.size (.slice none 0 0) (.slice none 0 0) 0 0) := ⟨left_all (Left.refl C) (below_new _ _) hp, quad_new _ _ _ _ _⟩
  have hz : (w.alloc (.cells #[.slice none 0 0, .slice none 0 0, .int .i64 0, .int .i64 0] 31)).heap.size = w.heap.size + 1 := by simp
  clear C
  go_enter Try.func65, Try.ntmps65
  go_wp2_with fail
  refine (draw_crew T p a len cap _ (H0.out.1.cur HC.out)).mono ?_
  rintro e w1 ⟨g, cp, xs, rfl, O1, hn1, hn6, wt⟩
  have hc := wts_crew wt hn1 hn6
  obtain ⟨n, hn⟩ : ∃ n, n = xs.length := ⟨_, rfl⟩
  rw [← hn] at hn6 ⊢
  have gb := O1.base
  rw [hz] at gb
  have H1 : Hid (Left .i64 T p a len cap w w1 ∧ Quad w1 w.heap.size (.slice none 0 0) (.slice none 0 0) 0 0 ∧ Ints w1 (some ⟨g, 0, none⟩) n xs ∧ crewOk xs = true ∧ xs.length = n) := ⟨H0.out.1.trans O1.left, Quad.left H0.out.2 O1.left (by omega), by rw [hn]; exact O1.row.ints, hc, hn.symm⟩
  clear O1 H0 hn hz hn1 hc wt
  go_wp2_with fail
  refine (specNewL _ n cp xs _ H1.out.2.2.1 (by omega)).mono ?_
  rw [newC_yes H1.out.2.2.2.1, newR_yes H1.out.2.2.2.1]
  rintro e w2 ⟨b, lb, cb, d, ld, cd, rfl, Fb, Fd, D, B2⟩
  have l1 := H1.out.2.1.lt
  have l2 := B2.size
  have hlb : (lb : Int) ≤ 24 := by have := Fb.1; have := H1.out.2.2.2.2; omega
  have hld : (ld : Int) ≤ 24 := by have h := Fd.1; rw [List.length_replicate] at h; have := H1.out.2.2.2.2; omega
  have H2 : Hid (Left .i64 T p a len cap w (w2.alloc (.cells #[.slice b lb cb, .slice d ld cd, .int .i64 0, .int .i64 0] 31)) ∧ Quad (w2.alloc (.cells #[.slice b lb cb, .slice d ld cd, .int .i64 0, .int .i64 0] 31)) w.heap.size (.slice none 0 0) (.slice none 0 0) 0 0 ∧ Quad (w2.alloc (.cells #[.slice b lb cb, .slice d ld cd, .int .i64 0, .int .i64 0] 31)) w2.heap.size (.slice b lb cb) (.slice d ld cd) 0 0 ∧ Fit (w2.alloc (.cells #[.slice b lb cb, .slice d ld cd, .int .i64 0, .int .i64 0] 31)) w.heap.size b lb cb xs ∧ Fit (w2.alloc (.cells #[.slice b lb cb, .slice d ld cd, .int .i64 0, .int .i64 0] 31)) w.heap.size d ld cd (List.replicate xs.length 0) ∧ crewOk xs = true) :=
    ⟨left_all (left_all H1.out.1 B2 hp) (below_new _ _) hp, (H1.out.2.1.all B2).alloc _, quad_new _ _ _ _ _, (Fb.all (below_new _ _)).mono (by omega), (Fd.all (below_new _ _)).mono (by omega), H1.out.2.2.2.1⟩
  clear H1 Fb Fd D B2
  go_wp2_with fail
  generalize w2.alloc (.cells #[.slice b lb cb, .slice d ld cd, .int .i64 0, .int .i64 0] 31) = W2 at *
  have hbx : w.heap.size < w2.heap.size := by omega
  generalize w2.heap.size = bx at *
  have lx := H2.out.2.2.1.lt
  have q0 := H2.out.2.2.1.c0
  have q1 := H2.out.2.2.1.c1
  have q2 := H2.out.2.2.1.c2
  have q3 := H2.out.2.2.1.c3
  go_region_with (first | (go_at_call 67; refine (below_any T p a len cap _ _ ((left_drawn H2.out.1).cur HC.out)).mono ?_; rintro e w3 ⟨k, rfl, k0, k1, _, L3⟩; have H3 : Hid (Left .i64 T p a len cap w w3 ∧ Quad w3 w.heap.size (.slice none 0 0) (.slice none 0 0) 0 0 ∧ Quad w3 bx (.slice b lb cb) (.slice d ld cd) 0 0 ∧ Fit w3 w.heap.size b lb cb xs ∧ Fit w3 w.heap.size d ld cd (List.replicate xs.length 0) ∧ k < 30) := ⟨(left_drawn H2.out.1).trans L3, Quad.left (w := W2.drew) H2.out.2.1 L3 (by omega), Quad.left (w := W2.drew) H2.out.2.2.1 L3 (by omega), Fit.left (H2.out.2.2.2.1.all ((Below.refl _ _).drew)) L3 hp, Fit.left (H2.out.2.2.2.2.1.all ((Below.refl _ _).drew)) L3 hp, k1 (by omega)⟩; have q0 := H3.out.2.2.1.c0; have q1 := H3.out.2.2.1.c1; have q2 := H3.out.2.2.1.c2; have q3 := H3.out.2.2.1.c3; clear L3 k1) | (go_at_call 21; refine (specListRun b lb cb xs d ld cd (List.replicate xs.length 0) 0 0 _ _ H3.out.2.2.2.1.ints H3.out.2.2.2.2.1.ints (by omega) (by omega)).mono ?_; unfold RunPostL; obtain ⟨s, hR, e1, e2, e3, e4⟩ := run_new H2.out.2.2.2.2.2 k0 (Int.le_of_lt (Int.lt_trans H3.out.2.2.2.2.2 (by omega))); rw [e1, e2, e3, e4]; have HR := hid hR; clear hR e1 e2 e3 e4; rintro e w4 ⟨b4, lb4, cb4, d4, ld4, cd4, z4, lz4, cz4, rfl, F4, G4, _, D4, _, _, B4⟩; have P4 := H3.out.2.2.1.all B4; have q0 := P4.c0; have q1 := P4.c1; have q2 := P4.c2; have q3 := P4.c3; have f0 := P4.fr 0; have f1 := P4.fr 1; have f2 := P4.fr 2; have f3 := P4.fr 3))
  all_goals
    have l3 := H3.out.2.2.1.lt
    have H5 : Hid (Left .i64 T p a len cap w ((((w4.setCell ⟨bx, 0, none⟩ (.slice b4 lb4 cb4)).setCell ⟨bx, 1, none⟩ (.slice d4 ld4 cd4)).setCell ⟨bx, 2, none⟩ (.int .i64 s.turns)).setCell ⟨bx, 3, none⟩ (.int .i64 (s.pos : Int))) ∧ Quad ((((w4.setCell ⟨bx, 0, none⟩ (.slice b4 lb4 cb4)).setCell ⟨bx, 1, none⟩ (.slice d4 ld4 cd4)).setCell ⟨bx, 2, none⟩ (.int .i64 s.turns)).setCell ⟨bx, 3, none⟩ (.int .i64 (s.pos : Int))) w.heap.size (.slice none 0 0) (.slice none 0 0) 0 0 ∧ Quad ((((w4.setCell ⟨bx, 0, none⟩ (.slice b4 lb4 cb4)).setCell ⟨bx, 1, none⟩ (.slice d4 ld4 cd4)).setCell ⟨bx, 2, none⟩ (.int .i64 s.turns)).setCell ⟨bx, 3, none⟩ (.int .i64 (s.pos : Int))) bx (.slice b4 lb4 cb4) (.slice d4 ld4 cd4) s.turns s.pos ∧ Fit ((((w4.setCell ⟨bx, 0, none⟩ (.slice b4 lb4 cb4)).setCell ⟨bx, 1, none⟩ (.slice d4 ld4 cd4)).setCell ⟨bx, 2, none⟩ (.int .i64 s.turns)).setCell ⟨bx, 3, none⟩ (.int .i64 (s.pos : Int))) (w.heap.size + 1) b4 lb4 cb4 xs ∧ Fit ((((w4.setCell ⟨bx, 0, none⟩ (.slice b4 lb4 cb4)).setCell ⟨bx, 1, none⟩ (.slice d4 ld4 cd4)).setCell ⟨bx, 2, none⟩ (.int .i64 s.turns)).setCell ⟨bx, 3, none⟩ (.int .i64 (s.pos : Int))) (w.heap.size + 1) d4 ld4 cd4 s.had ∧ Apart b4 d4) :=
      ⟨left_puts (left_all H3.out.1 B4 hp) hp (by omega) _ _ _ _, (H3.out.2.1.all B4).past4 (by omega) _ _ _ _, P4.sets _ _ _ _, (F4.before4 l3 _ _ _ _).mono (by omega), (G4.before4 l3 _ _ _ _).mono (by omega), D4⟩
    clear q0 q1 q2 q3 f0 f1 f2 f3 P4 B4 F4 G4 D4 H3 H2
    generalize (((w4.setCell ⟨bx, 0, none⟩ (.slice b4 lb4 cb4)).setCell ⟨bx, 1, none⟩ (.slice d4 ld4 cd4)).setCell ⟨bx, 2, none⟩ (.int .i64 s.turns)).setCell ⟨bx, 3, none⟩ (.int .i64 (s.pos : Int)) = w5 at *
    have q0 := H5.out.2.2.1.c0
    have q1 := H5.out.2.2.1.c1
    have q2 := H5.out.2.2.1.c2
    have q3 := H5.out.2.2.1.c3
    have p0 := H5.out.2.1.c0
    have p1 := H5.out.2.1.c1
    have p2 := H5.out.2.1.c2
    have p3 := H5.out.2.1.c3
    have f0 := H5.out.2.1.fr 0
    have f1 := H5.out.2.1.fr 1
    have f2 := H5.out.2.1.fr 2
    have f3 := H5.out.2.1.fr 3
    go_wp2_with fail
    refine bodyPost_ret (ret_quad rfl rfl (H5.out.2.1.sets _ _ _ _)) rfl ?_
    exact ⟨_, _, _, _, _, _, _, _, rfl, (H5.out.2.2.2.1.before4 (by omega) _ _ _ _).mono (by omega), (H5.out.2.2.2.2.1.before4 (by omega) _ _ _ _).mono (by omega), H5.out.2.2.2.2.2, HR.out, left_puts H5.out.1 hp (Nat.le_refl _) _ _ _ _⟩

/-- A List in the variable at bx, told beside the cursor. -/
structure DL (T : TypeId) (p : Nat) (a : Option Addr) (len cap : Nat) (w wr : World) (bx : Nat) (b : Option Addr) (lb cb : Nat) (d : Option Addr) (ld cd : Nat) (X Y : List Int) (t q : Int) : Prop where
  left : Left .i64 T p a len cap w wr
  res : Quad wr w.heap.size (.slice none 0 0) (.slice none 0 0) 0 0
  var : Quad wr bx (.slice b lb cb) (.slice d ld cd) t q
  crew : Fit wr (w.heap.size + 1) b lb cb X
  had : Fit wr (w.heap.size + 1) d ld cd Y
  apart : Apart b d
  hx : w.heap.size < bx
  nb : ∀ x, b = some x → x.block ≠ bx
  nd : ∀ x, d = some x → x.block ≠ bx
  l1 : (lb : Int) ≤ 30
  l2 : (ld : Int) ≤ 24

/-- What a draw of a List answers. -/
def DrawPostL (T : TypeId) (p : Nat) (a : Option Addr) (len cap : Nat) (w : World) (e : Ending) (w' : World) : Prop :=
  ∃ b lb cb d ld cd X Y t q, e = .returned (lv (.slice b lb cb) (.slice d ld cd) t q) ∧ Fit w' w.heap.size b lb cb X ∧ Fit w' w.heap.size d ld cd Y ∧ (lb : Int) ≤ 30 ∧ (ld : Int) ≤ 24 ∧ Left .i64 T p a len cap w w'

theorem DL.done {T : TypeId} {p : Nat} {a : Option Addr} {len cap : Nat} {w wr : World} {bx : Nat} {b : Option Addr} {lb cb : Nat} {d : Option Addr} {ld cd : Nat} {X Y : List Int} {t q : Int} (h : DL T p a len cap w wr bx b lb cb d ld cd X Y t q) (hp : p < w.heap.size) :
    DrawPostL T p a len cap w (.returned (lv (.slice b lb cb) (.slice d ld cd) t q)) ((((wr.setCell ⟨w.heap.size, 0, none⟩ (.slice b lb cb)).setCell ⟨w.heap.size, 1, none⟩ (.slice d ld cd)).setCell ⟨w.heap.size, 2, none⟩ (.int .i64 t)).setCell ⟨w.heap.size, 3, none⟩ (.int .i64 q)) :=
  ⟨_, _, _, _, _, _, _, _, _, _, rfl, (h.crew.before4 (by omega) _ _ _ _).mono (by omega), (h.had.before4 (by omega) _ _ _ _).mono (by omega), h.l1, h.l2, left_puts h.left hp (Nat.le_refl _) _ _ _ _⟩

theorem DL.draw {T : TypeId} {p : Nat} {a : Option Addr} {len cap : Nat} {w wr : World} {bx : Nat} {b : Option Addr} {lb cb : Nat} {d : Option Addr} {ld cd : Nat} {X Y : List Int} {t q : Int} {w' : World} (h : DL T p a len cap w wr bx b lb cb d ld cd X Y t q) (hp : p < w.heap.size) (L : Left .i64 T p a len cap wr w') : DL T p a len cap w w' bx b lb cb d ld cd X Y t q := by
  have := h.hx
  exact ⟨h.left.trans L, Quad.left h.res L (by omega), Quad.left h.var L (by omega), Fit.left h.crew L (by omega), Fit.left h.had L (by omega), h.apart, h.hx, h.nb, h.nd, h.l1, h.l2⟩

theorem DL.drawn {T : TypeId} {p : Nat} {a : Option Addr} {len cap : Nat} {w wr : World} {bx : Nat} {b : Option Addr} {lb cb : Nat} {d : Option Addr} {ld cd : Nat} {X Y : List Int} {t q : Int} (h : DL T p a len cap w wr bx b lb cb d ld cd X Y t q) : DL T p a len cap w wr.drew bx b lb cb d ld cd X Y t q :=
  ⟨left_drawn h.left, h.res, h.var, h.crew.all ((Below.refl _ _).drew), h.had.all ((Below.refl _ _).drew), h.apart, h.hx, h.nb, h.nd, h.l1, h.l2⟩

theorem Fit.beside {w : World} {base : Nat} {a : Option Addr} {len cap : Nat} {xs : List Int} (h : Fit w base a len cap xs) {b j : Nat} (hb : ∀ x, a = some x → x.block ≠ b) (v : Value) : Fit (w.setCell ⟨b, j, none⟩ v) base a len cap xs :=
  h.other (grown_at w b j v) (fun x hx => by have := hb x hx; simpa using this)

/-- Other turns. -/
theorem DL.turns {T : TypeId} {p : Nat} {a : Option Addr} {len cap : Nat} {w wr : World} {bx : Nat} {b : Option Addr} {lb cb : Nat} {d : Option Addr} {ld cd : Nat} {X Y : List Int} {t q : Int} (h : DL T p a len cap w wr bx b lb cb d ld cd X Y t q) (hp : p < w.heap.size) (v : Int) : DL T p a len cap w (wr.setCell ⟨bx, 2, none⟩ (.int .i64 v)) bx b lb cb d ld cd X Y v q :=
  have := h.hx
  ⟨left_put h.left hp (by omega) _, h.res.past (by omega) _, h.var.set2 _, Fit.beside h.crew h.nb _, Fit.beside h.had h.nd _, h.apart, h.hx, h.nb, h.nd, h.l1, h.l2⟩

/-- It stands elsewhere. -/
theorem DL.stands {T : TypeId} {p : Nat} {a : Option Addr} {len cap : Nat} {w wr : World} {bx : Nat} {b : Option Addr} {lb cb : Nat} {d : Option Addr} {ld cd : Nat} {X Y : List Int} {t q : Int} (h : DL T p a len cap w wr bx b lb cb d ld cd X Y t q) (hp : p < w.heap.size) (v : Int) : DL T p a len cap w (wr.setCell ⟨bx, 3, none⟩ (.int .i64 v)) bx b lb cb d ld cd X Y t v :=
  have := h.hx
  ⟨left_put h.left hp (by omega) _, h.res.past (by omega) _, h.var.set3 _, Fit.beside h.crew h.nb _, Fit.beside h.had h.nd _, h.apart, h.hx, h.nb, h.nd, h.l1, h.l2⟩

/-- A store into what each one had. -/
theorem DL.set {T : TypeId} {p : Nat} {a : Option Addr} {len cap : Nat} {w wr : World} {bx : Nat} {b : Option Addr} {lb cb g ld cd : Nat} {X Y : List Int} {t q : Int} (h : DL T p a len cap w wr bx b lb cb (some ⟨g, 0, none⟩) ld cd X Y t q) (hp : p < w.heap.size) (hl : 0 < ld) (j : Nat) (v : Int) : DL T p a len cap w (wr.setCell ⟨g, j, none⟩ (.int .i64 v)) bx b lb cb (some ⟨g, 0, none⟩) ld cd X (Y.set j v) t q := by
  have hg : w.heap.size + 1 ≤ g := (h.had.ge rfl).1
  have hx := h.nd _ rfl
  simp only at hx
  refine ⟨left_put h.left hp (by omega) _, h.res.past (by omega) _, h.var.past (by omega) _, h.crew.other (grown_at wr g j _) (fun x hx' => by have := h.apart x _ hx' rfl; simpa using this), ?_, h.apart, h.hx, h.nb, h.nd, h.l1, h.l2⟩
  obtain ⟨h1, ⟨h2, _⟩ | ⟨g', h2, h3, R⟩⟩ := h.had
  · omega
  · cases h2
    exact (R.set j v).fit h3 (by rw [List.length_set]; exact h1)

theorem DL.row {T : TypeId} {p : Nat} {a : Option Addr} {len cap : Nat} {w wr : World} {bx : Nat} {b : Option Addr} {lb cb g ld cd : Nat} {X Y : List Int} {t q : Int} (h : DL T p a len cap w wr bx b lb cb (some ⟨g, 0, none⟩) ld cd X Y t q) (hl : 0 < ld) : Row wr g cd Y ∧ Y.length = ld := by
  obtain ⟨h1, ⟨h2, _⟩ | ⟨g', h2, h3, R⟩⟩ := h.had
  · omega
  · cases h2
    exact ⟨R, h1⟩

theorem DL.rowC {T : TypeId} {p : Nat} {a : Option Addr} {len cap : Nat} {w wr : World} {bx : Nat} {d : Option Addr} {lb cb g ld cd : Nat} {X Y : List Int} {t q : Int} (h : DL T p a len cap w wr bx (some ⟨g, 0, none⟩) lb cb d ld cd X Y t q) (hl : 0 < lb) : Row wr g cb X ∧ X.length = lb := by
  obtain ⟨h1, ⟨h2, _⟩ | ⟨g', h2, h3, R⟩⟩ := h.crew
  · omega
  · cases h2
    exact ⟨R, h1⟩

/-- Another crew. -/
theorem DL.crewed {T : TypeId} {p : Nat} {a : Option Addr} {len cap : Nat} {w wr : World} {bx : Nat} {b : Option Addr} {lb cb : Nat} {d : Option Addr} {ld cd : Nat} {X Y : List Int} {t q : Int} {w' : World} (h : DL T p a len cap w wr bx b lb cb d ld cd X Y t q) (hp : p < w.heap.size) {g cp : Nat} {xs : List Int} (O : Own T p a len cap wr w' g cp xs) {l : Nat} (hl : xs.length = l) (h30 : l ≤ 30) :
    DL T p a len cap w (w'.setCell ⟨bx, 0, none⟩ (.slice (some ⟨g, 0, none⟩) l cp)) bx (some ⟨g, 0, none⟩) l cp d ld cd xs Y t q := by
  have hb := O.base
  have hx := h.hx
  have hv := h.var.lt
  have k := h.draw hp O.left
  refine ⟨left_put k.left hp (by omega) _, k.res.past (by omega) _, k.var.set0 _, (O.row.past (by omega) _).fit (by omega) hl, Fit.beside k.had h.nd _, ?_, hx, ?_, h.nd, by omega, h.l2⟩
  · intro x y hx' hy e
    cases hx'
    have := (h.had.ge hy).2
    simp at e
    omega
  · intro x hx'
    cases hx'
    exact (by simp; omega)

set_option maxHeartbeats 2000000 in
/-- spec.l8DrawAny. -/
theorem draw_any_list (T : TypeId) (p : Nat) (a : Option Addr) (len cap : Nat) (w : World) (C : Cur .i64 T p a len cap w) :
    Calls Try.prog 48 #[.pointer (some ⟨p, 0, none⟩)] w (DrawPostL T p a len cap w) := by
  have hp := C.lt
  have HC : Hid (Cur .i64 T p a len cap w) := C
  have H0 : Hid (Left .i64 T p a len cap w (w.alloc (.cells #[.slice none 0 0, .slice none 0 0, .int .i64 0, .int .i64 0] 31)) ∧ Quad (w.alloc (.cells #[.slice none 0 0, .slice none 0 0, .int .i64 0, .int .i64 0] 31)) w.heap.size (.slice none 0 0) (.slice none 0 0) 0 0) := ⟨left_all (Left.refl C) (below_new _ _) hp, quad_new _ _ _ _ _⟩
  have hz : (w.alloc (.cells #[.slice none 0 0, .slice none 0 0, .int .i64 0, .int .i64 0] 31)).heap.size = w.heap.size + 1 := by simp
  clear C
  go_enter Try.func48, Try.ntmps48
  go_wp2_with fail
  refine (draw_list T p a len cap _ (H0.out.1.cur HC.out)).mono ?_
  rintro e w1 ⟨b, lb, cb, d, ld, cd, X, s, rfl, Fb, Fd, D, R, L1⟩
  rw [hz] at Fb Fd
  have hx24 := crew_len R.crew
  have hlb := Fb.1
  have hld := Fd.1
  have hsl := R.len
  obtain ⟨gb, rfl⟩ : ∃ g, b = some ⟨g, 0, none⟩ := by
    rcases Fb.2 with ⟨h, _⟩ | ⟨g, h, _⟩
    · omega
    · exact ⟨g, h⟩
  obtain ⟨gd, rfl⟩ : ∃ g, d = some ⟨g, 0, none⟩ := by
    rcases Fd.2 with ⟨h, _⟩ | ⟨g, h, _⟩
    · omega
    · exact ⟨g, h⟩
  have H1 : Hid (DL T p a len cap w (w1.alloc (.cells #[.slice (some ⟨gb, 0, none⟩) lb cb, .slice (some ⟨gd, 0, none⟩) ld cd, .int .i64 s.turns, .int .i64 (s.pos : Int)] 31)) w1.heap.size (some ⟨gb, 0, none⟩) lb cb (some ⟨gd, 0, none⟩) ld cd X s.had s.turns s.pos) :=
    ⟨left_all (H0.out.1.trans L1) (below_new _ _) hp, (Quad.left H0.out.2 L1 (by omega)).alloc _, quad_new _ _ _ _ _, Fb.all (below_new _ _), Fd.all (below_new _ _), D, (Quad.left H0.out.2 L1 (by omega)).lt, fun x hx => Nat.ne_of_lt (Fb.ge hx).2, fun x hx => Nat.ne_of_lt (Fd.ge hx).2, by omega, by omega⟩
  have HR : Hid (Right X s) := R
  have hl1 : 0 < lb := by omega
  have hl2 : 0 < ld := by omega
  have hl1' : (0 : Int) < (lb : Int) := by omega
  have hl2' : (0 : Int) < (ld : Int) := by omega
  have hld24 : (ld : Int) ≤ 24 := by omega
  have hlb24 : (lb : Int) ≤ 24 := by omega
  have bt := R.bounds
  clear H0 hz Fb Fd D L1 R hx24 hlb hld hsl
  go_wp2_with fail
  generalize w1.alloc (.cells #[.slice (some ⟨gb, 0, none⟩) lb cb, .slice (some ⟨gd, 0, none⟩) ld cd, .int .i64 s.turns, .int .i64 (s.pos : Int)] 31) = W1 at *
  generalize w1.heap.size = bx at *
  refine (once_any T p a len cap _ _ (H1.out.left.cur HC.out)).mono ?_
  rintro e w2 ⟨tt, rfl, L2⟩
  have H2 : Hid (DL T p a len cap w w2 bx (some ⟨gb, 0, none⟩) lb cb (some ⟨gd, 0, none⟩) ld cd X s.had s.turns s.pos) := H1.out.draw hp L2
  clear L2 H1
  cases tt
  · skip
    have q0 := H2.out.var.c0
    have q1 := H2.out.var.c1
    have q2 := H2.out.var.c2
    have q3 := H2.out.var.c3
    have p0 := H2.out.res.c0
    have p1 := H2.out.res.c1
    have p2 := H2.out.res.c2
    have p3 := H2.out.res.c3
    have e0 := H2.out.res.fr 0
    have e1 := H2.out.res.fr 1
    have e2 := H2.out.res.fr 2
    have e3 := H2.out.res.fr 3
    go_wp2_with fail
    refine bodyPost_ret (ret_quad rfl rfl (H2.out.res.sets _ _ _ _)) rfl ?_
    exact H2.out.done hp
  · go_wp2_with fail
    refine (below_any T p a len cap _ _ (H2.out.left.cur HC.out)).mono ?_
    rintro e w3 ⟨x, rfl, x0, x1, _, L3⟩
    have hx5 : x < 5 := x1 (by omega)
    have H3 : Hid (DL T p a len cap w w3 bx (some ⟨gb, 0, none⟩) lb cb (some ⟨gd, 0, none⟩) ld cd X s.had s.turns s.pos) := H2.out.draw hp L3
    clear L3 H2 x1
    have ng1 : ¬ bx = gd := by have := H3.out.nd _ rfl; simp at this; omega
    have ng2 : ¬ gd = bx := by omega
    have ng3 : ¬ gb = gd := by have := H3.out.apart _ _ rfl rfl; simpa using this
    have ng4 : ¬ gd = gb := fun h => ng3 h.symm
    have hx : x = 0 ∨ x = 1 ∨ x = 2 ∨ x = 3 ∨ x = 4 := by omega
    rcases hx with rfl | rfl | rfl | rfl | rfl
    · have q0 := H3.out.var.c0
      go_wp2_with fail
      clear q0
      refine (from_any T p a len cap (-1) lb _ (H3.out.left.cur HC.out) (by omega) (by omega) (by omega)).mono ?_
      rintro e w4 ⟨y, rfl, _, _, L4⟩
      have H4 : Hid (DL T p a len cap w w4 bx (some ⟨gb, 0, none⟩) lb cb (some ⟨gd, 0, none⟩) ld cd X s.had s.turns s.pos) := H3.out.draw hp L4
      have q3 := H4.out.var.c3
      have f3 := H4.out.var.fr 3
      have H5 : Hid (DL T p a len cap w (w4.setCell ⟨bx, 3, none⟩ (.int .i64 y)) bx (some ⟨gb, 0, none⟩) lb cb (some ⟨gd, 0, none⟩) ld cd X s.had s.turns y) := H4.out.stands hp y
      clear L4 H3
      go_upto_region 15 with fail
      clear q3 f3 H4
      generalize w4.setCell ⟨bx, 3, none⟩ (.int .i64 y) = w5 at *
      have q0 := H5.out.var.c0
      have q1 := H5.out.var.c1
      have q2 := H5.out.var.c2
      have q3 := H5.out.var.c3
      have p0 := H5.out.res.c0
      have p1 := H5.out.res.c1
      have p2 := H5.out.res.c2
      have p3 := H5.out.res.c3
      have e0 := H5.out.res.fr 0
      have e1 := H5.out.res.fr 1
      have e2 := H5.out.res.fr 2
      have e3 := H5.out.res.fr 3
      go_wp2_with fail
      refine bodyPost_ret (ret_quad rfl rfl (H5.out.res.sets _ _ _ _)) rfl ?_
      exact H5.out.done hp
    · have q2 := H3.out.var.c2
      have f2 := H3.out.var.fr 2
      have H5 : Hid (DL T p a len cap w (w3.setCell ⟨bx, 2, none⟩ (.int .i64 (s.turns + 1))) bx (some ⟨gb, 0, none⟩) lb cb (some ⟨gd, 0, none⟩) ld cd X s.had (s.turns + 1) s.pos) := H3.out.turns hp _
      go_upto_region 15 with fail
      clear q2 f2 H3
      generalize w3.setCell ⟨bx, 2, none⟩ (.int .i64 (s.turns + 1)) = w5 at *
      have q0 := H5.out.var.c0
      have q1 := H5.out.var.c1
      have q2 := H5.out.var.c2
      have q3 := H5.out.var.c3
      have p0 := H5.out.res.c0
      have p1 := H5.out.res.c1
      have p2 := H5.out.res.c2
      have p3 := H5.out.res.c3
      have e0 := H5.out.res.fr 0
      have e1 := H5.out.res.fr 1
      have e2 := H5.out.res.fr 2
      have e3 := H5.out.res.fr 3
      go_wp2_with fail
      refine bodyPost_ret (ret_quad rfl rfl (H5.out.res.sets _ _ _ _)) rfl ?_
      exact H5.out.done hp
    · obtain ⟨c0, hc0⟩ : ∃ c0, c0 = X.getD 0 0 := ⟨_, rfl⟩
      have bc := crew_get HR.out.crew 0
      rw [← hc0] at bc
      have q0 := H3.out.var.c0
      have q1 := H3.out.var.c1
      have k0 : w3.cell? ⟨gb, 0, none⟩ = some (.int .i64 c0) := by rw [hc0]; exact (H3.out.rowC hl1).1.cell (by rw [(H3.out.rowC hl1).2]; exact hl1)
      have fd := (H3.out.row hl2).1.frozen 0
      obtain ⟨z, cd0⟩ : ∃ z, w3.cell? ⟨gd, 0, none⟩ = some (.int .i64 z) := ⟨_, (H3.out.row hl2).1.cell (j := 0) (by rw [(H3.out.row hl2).2]; exact hl2)⟩
      clear hc0
      go_wp2_with fail
      go_region
      have H4 : Hid (DL T p a len cap w (w3.setCell ⟨gd, 0, none⟩ (.int .i64 c0)).drew bx (some ⟨gb, 0, none⟩) lb cb (some ⟨gd, 0, none⟩) ld cd X (s.had.set 0 c0) s.turns s.pos) := (H3.out.set hp hl2 0 c0).drawn
      have HSM : Hid (Small (s.had.set 0 c0)) := by
        intro m hm
        rcases List.mem_or_eq_of_mem_set hm with h | h
        · obtain ⟨i, hi, rfl⟩ := List.getElem_of_mem h
          have h1 := HR.out.had i (by rw [← HR.out.len]; exact hi)
          have h2 := crew_get HR.out.crew i
          have e : s.had.getD i 0 = s.had[i] := by simp [List.getD, hi]
          rw [e] at h1
          omega
        · omega
      clear q0 q1 k0 fd cd0 H3
      generalize (w3.setCell ⟨gd, 0, none⟩ (.int .i64 c0)).drew = w4 at *
      have q1 := H4.out.var.c1
      go_wp2_with fail
      clear q1
      refine (sum_any _ ld cd (s.had.set 0 c0) _ H4.out.had.ints (by omega) HSM.out).mono ?_
      rintro e w4' ⟨rfl, rfl⟩
      obtain ⟨v, hv⟩ : ∃ v, v = sumI (s.had.set 0 c0) := ⟨_, rfl⟩
      rw [← hv]
      clear hv
      have q2 := H4.out.var.c2
      have f2 := H4.out.var.fr 2
      have H5 : Hid (DL T p a len cap w (w4'.setCell ⟨bx, 2, none⟩ (.int .i64 v)) bx (some ⟨gb, 0, none⟩) lb cb (some ⟨gd, 0, none⟩) ld cd X (s.had.set 0 c0) v s.pos) := H4.out.turns hp _
      go_upto_region 15 with fail
      clear q2 f2 H4
      generalize w4'.setCell ⟨bx, 2, none⟩ (.int .i64 v) = w5 at *
      have q0 := H5.out.var.c0
      have q1 := H5.out.var.c1
      have q2 := H5.out.var.c2
      have q3 := H5.out.var.c3
      have p0 := H5.out.res.c0
      have p1 := H5.out.res.c1
      have p2 := H5.out.res.c2
      have p3 := H5.out.res.c3
      have e0 := H5.out.res.fr 0
      have e1 := H5.out.res.fr 1
      have e2 := H5.out.res.fr 2
      have e3 := H5.out.res.fr 3
      go_wp2_with fail
      refine bodyPost_ret (ret_quad rfl rfl (H5.out.res.sets _ _ _ _)) rfl ?_
      exact H5.out.done hp
    · go_wp2_with fail
      refine (draw_any_crew T p a len cap _ (H3.out.left.cur HC.out)).mono ?_
      rintro e w4 ⟨g4, cp4, xs4, rfl, O4, hn4⟩
      obtain ⟨n, hn⟩ : ∃ n, xs4.length = n := ⟨_, rfl⟩
      rw [hn] at hn4 ⊢
      have V4 := (H3.out.draw hp O4.left).var
      have q0 := V4.c0
      have f0 := V4.fr 0
      have H5 : Hid (DL T p a len cap w (w4.setCell ⟨bx, 0, none⟩ (.slice (some ⟨g4, 0, none⟩) n cp4)) bx (some ⟨g4, 0, none⟩) n cp4 (some ⟨gd, 0, none⟩) ld cd xs4 s.had s.turns s.pos) := H3.out.crewed hp O4 hn hn4
      clear H3 O4 V4
      go_upto_region 15 with fail
      clear q0 f0
      generalize w4.setCell ⟨bx, 0, none⟩ (.slice (some ⟨g4, 0, none⟩) n cp4) = w5 at *
      have q0 := H5.out.var.c0
      have q1 := H5.out.var.c1
      have q2 := H5.out.var.c2
      have q3 := H5.out.var.c3
      have p0 := H5.out.res.c0
      have p1 := H5.out.res.c1
      have p2 := H5.out.res.c2
      have p3 := H5.out.res.c3
      have e0 := H5.out.res.fr 0
      have e1 := H5.out.res.fr 1
      have e2 := H5.out.res.fr 2
      have e3 := H5.out.res.fr 3
      go_wp2_with fail
      refine bodyPost_ret (ret_quad rfl rfl (H5.out.res.sets _ _ _ _)) rfl ?_
      exact H5.out.done hp
    · obtain ⟨c0, hc0⟩ : ∃ c0, c0 = X.getD 0 0 := ⟨_, rfl⟩
      have bc := crew_get HR.out.crew 0
      rw [← hc0] at bc
      have q0 := H3.out.var.c0
      have q1 := H3.out.var.c1
      have k0 : w3.cell? ⟨gb, 0, none⟩ = some (.int .i64 c0) := by rw [hc0]; exact (H3.out.rowC hl1).1.cell (by rw [(H3.out.rowC hl1).2]; exact hl1)
      have fd := (H3.out.row hl2).1.frozen 0
      obtain ⟨z, cd0⟩ : ∃ z, w3.cell? ⟨gd, 0, none⟩ = some (.int .i64 z) := ⟨_, (H3.out.row hl2).1.cell (j := 0) (by rw [(H3.out.row hl2).2]; exact hl2)⟩
      clear hc0
      go_wp2_with fail
      go_region
      have H5 : Hid (DL T p a len cap w (w3.setCell ⟨gd, 0, none⟩ (.int .i64 (c0 + 1))).drew bx (some ⟨gb, 0, none⟩) lb cb (some ⟨gd, 0, none⟩) ld cd X (s.had.set 0 (c0 + 1)) s.turns s.pos) := (H3.out.set hp hl2 0 (c0 + 1)).drawn
      clear q0 q1 k0 fd cd0 H3
      generalize (w3.setCell ⟨gd, 0, none⟩ (.int .i64 (c0 + 1))).drew = w5 at *
      have q0 := H5.out.var.c0
      have q1 := H5.out.var.c1
      have q2 := H5.out.var.c2
      have q3 := H5.out.var.c3
      have p0 := H5.out.res.c0
      have p1 := H5.out.res.c1
      have p2 := H5.out.res.c2
      have p3 := H5.out.res.c3
      have e0 := H5.out.res.fr 0
      have e1 := H5.out.res.fr 1
      have e2 := H5.out.res.fr 2
      have e3 := H5.out.res.fr 3
      go_wp2_with fail
      refine bodyPost_ret (ret_quad rfl rfl (H5.out.res.sets _ _ _ _)) rfl ?_
      exact H5.out.done hp

/-- spec.DrawLeftOf. -/
theorem drawLeft_any (a : Option Addr) (len cap : Nat) (w : World) (B : Bytes w a len) (ht : len ≤ 9223372036854775806) :
    Calls Try.prog 22 #[.slice a len cap] w fun e w' => ∃ b lb cb d ld cd X Y t q, e = .returned (lv (.slice b lb cb) (.slice d ld cd) t q) ∧ Fit w' w.heap.size b lb cb X ∧ Fit w' w.heap.size d ld cd Y ∧ (lb : Int) ≤ 30 ∧ (ld : Int) ≤ 24 ∧ Below w.heap.size w w' := by
  have N0 := below_new w (.cells #[.slice none 0 0, .slice none 0 0, .int .i64 0, .int .i64 0] 31)
  have B0 := B.grown N0
  have H0 : Hid (Below w.heap.size w (w.alloc (.cells #[.slice none 0 0, .slice none 0 0, .int .i64 0, .int .i64 0] 31)) ∧ Quad (w.alloc (.cells #[.slice none 0 0, .slice none 0 0, .int .i64 0, .int .i64 0] 31)) w.heap.size (.slice none 0 0) (.slice none 0 0) 0 0) := ⟨N0, quad_new _ _ _ _ _⟩
  have HZ : Hid ((w.alloc (.cells #[.slice none 0 0, .slice none 0 0, .int .i64 0, .int .i64 0] 31)).heap.size = w.heap.size + 1) := by show _ = _; simp
  clear N0
  go_enter Try.func22, Try.ntmps22
  go_wp2_with fail
  generalize w.alloc (.cells #[.slice none 0 0, .slice none 0 0, .int .i64 0, .int .i64 0] 31) = W0 at H0 B0 HZ ⊢
  refine (new_any a len cap _ B0 ht).mono ?_
  rintro e w1 ⟨rfl, h, rfl⟩
  have C1 := cur_new (k := .i64) (T := 78) (cap := cap) B0 ht h
  have HC : Hid (Cur .i64 78 W0.heap.size a len cap (W0.alloc (.cells #[.slice a len cap, .int .i64 0, .int .i64 h] 78))) := C1
  clear B B0 C1
  go_wp2_with fail
  refine (draw_any_list _ _ a len cap _ HC.out).mono ?_
  unfold DrawPostL
  rintro e w2 ⟨b, lb, cb, d, ld, cd, X, Y, t, q, rfl, Fb, Fd, hlb, hld, L2⟩
  have hz := HZ.out
  have hs : (W0.alloc (.cells #[.slice a len cap, .int .i64 0, .int .i64 h] 78)).heap.size = W0.heap.size + 1 := by simp
  rw [hs] at Fb Fd
  have H2 : Hid (Below w.heap.size w w2 ∧ Quad w2 w.heap.size (.slice none 0 0) (.slice none 0 0) 0 0 ∧ Fit w2 (w.heap.size + 2) b lb cb X ∧ Fit w2 (w.heap.size + 2) d ld cd Y) := ⟨below_call H0.out.1 H0.out.1.size (new_below L2), Quad.left (H0.out.2.alloc _) L2 (by omega), Fb.mono (by omega), Fd.mono (by omega)⟩
  clear Fb Fd L2 H0
  have p0 := H2.out.2.1.c0
  have p1 := H2.out.2.1.c1
  have p2 := H2.out.2.1.c2
  have p3 := H2.out.2.1.c3
  have f0 := H2.out.2.1.fr 0
  have f1 := H2.out.2.1.fr 1
  have f2 := H2.out.2.1.fr 2
  have f3 := H2.out.2.1.fr 3
  go_wp2_with fail
  refine bodyPost_ret (ret_quad rfl rfl (H2.out.2.1.sets _ _ _ _)) rfl ?_
  exact ⟨_, _, _, _, _, _, _, _, _, _, rfl, (H2.out.2.2.1.before4 (by omega) _ _ _ _).mono (by omega), (H2.out.2.2.2.before4 (by omega) _ _ _ _).mono (by omega), hlb, hld, below_sets4 H2.out.1 (Nat.le_refl _) _ _ _ _⟩

/-- spec.DrawListRun. -/
theorem drawListRun_any (a : Option Addr) (len cap : Nat) (w : World) (B : Bytes w a len) (ht : len ≤ 9223372036854775806) :
    Calls Try.prog 19 #[.slice a len cap] w fun e w' => ∃ b lb cb d ld cd X Y t q n, e = .returned (.tuple #[lv (.slice b lb cb) (.slice d ld cd) t q, .int .i64 n]) ∧ Fit w' w.heap.size b lb cb X ∧ Fit w' w.heap.size d ld cd Y ∧ (lb : Int) ≤ 30 ∧ (ld : Int) ≤ 24 ∧ Below w.heap.size w w' := by
  have N0 := below_new w (.cells #[.slice none 0 0, .slice none 0 0, .int .i64 0, .int .i64 0] 31)
  have B0 := B.grown N0
  have H0 : Hid (Below w.heap.size w (w.alloc (.cells #[.slice none 0 0, .slice none 0 0, .int .i64 0, .int .i64 0] 31)) ∧ Quad (w.alloc (.cells #[.slice none 0 0, .slice none 0 0, .int .i64 0, .int .i64 0] 31)) w.heap.size (.slice none 0 0) (.slice none 0 0) 0 0) := ⟨N0, quad_new _ _ _ _ _⟩
  have HZ : Hid ((w.alloc (.cells #[.slice none 0 0, .slice none 0 0, .int .i64 0, .int .i64 0] 31)).heap.size = w.heap.size + 1) := by show _ = _; simp
  clear N0
  go_enter Try.func19, Try.ntmps19
  go_wp2_with fail
  generalize w.alloc (.cells #[.slice none 0 0, .slice none 0 0, .int .i64 0, .int .i64 0] 31) = W0 at H0 B0 HZ ⊢
  refine (new_any a len cap _ B0 ht).mono ?_
  rintro e w1 ⟨rfl, h, rfl⟩
  have C1 := cur_new (k := .i64) (T := 78) (cap := cap) B0 ht h
  have HC : Hid (Cur .i64 78 W0.heap.size a len cap (W0.alloc (.cells #[.slice a len cap, .int .i64 0, .int .i64 h] 78))) := C1
  clear B B0 C1
  go_wp2_with fail
  refine (draw_any_list _ _ a len cap _ HC.out).mono ?_
  unfold DrawPostL
  rintro e w2 ⟨b, lb, cb, d, ld, cd, X, Y, t, q, rfl, Fb, Fd, hlb, hld, L2⟩
  have hz := HZ.out
  have hs : (W0.alloc (.cells #[.slice a len cap, .int .i64 0, .int .i64 h] 78)).heap.size = W0.heap.size + 1 := by simp
  rw [hs] at Fb Fd
  have P2 := Quad.left (H0.out.2.alloc (.cells #[.slice a len cap, .int .i64 0, .int .i64 h] 78)) L2 (by omega)
  have l2 := P2.lt
  have H2 : Hid (Left .i64 78 W0.heap.size a len cap (W0.alloc (.cells #[.slice a len cap, .int .i64 0, .int .i64 h] 78)) (w2.alloc (.cells #[.slice b lb cb, .slice d ld cd, .int .i64 t, .int .i64 q] 31)) ∧ Quad (w2.alloc (.cells #[.slice b lb cb, .slice d ld cd, .int .i64 t, .int .i64 q] 31)) w.heap.size (.slice none 0 0) (.slice none 0 0) 0 0 ∧ Fit (w2.alloc (.cells #[.slice b lb cb, .slice d ld cd, .int .i64 t, .int .i64 q] 31)) (w.heap.size + 2) b lb cb X ∧ Fit (w2.alloc (.cells #[.slice b lb cb, .slice d ld cd, .int .i64 t, .int .i64 q] 31)) (w.heap.size + 2) d ld cd Y ∧ Quad (w2.alloc (.cells #[.slice b lb cb, .slice d ld cd, .int .i64 t, .int .i64 q] 31)) w2.heap.size (.slice b lb cb) (.slice d ld cd) t q) :=
    ⟨left_all L2 (below_new _ _) (by rw [hs]; omega), P2.alloc _, (Fb.mono (by omega)).all (below_new _ _), (Fd.mono (by omega)).all (below_new _ _), quad_new _ _ _ _ _⟩
  have i1 : w.heap.size < W0.heap.size := by omega
  have i2 : W0.heap.size < w.heap.size + 2 := by omega
  have s2 : W0.heap.size + 1 ≤ w2.heap.size := by
    have := L2.1.size
    rw [hs] at this
    exact this
  clear Fb Fd L2 P2 hz hs
  go_wp2_with fail
  generalize w2.alloc (.cells #[.slice b lb cb, .slice d ld cd, .int .i64 t, .int .i64 q] 31) = W2 at *
  generalize w2.heap.size = bx at *
  have n1 : ¬ w.heap.size = bx := by omega
  have n2 : ¬ bx = w.heap.size := by omega
  have v0 := H2.out.2.2.2.2.c0
  have v1 := H2.out.2.2.2.2.c1
  have v2 := H2.out.2.2.2.2.c2
  have v3 := H2.out.2.2.2.2.c3
  have p0 := H2.out.2.1.c0
  have p1 := H2.out.2.1.c1
  have p2 := H2.out.2.1.c2
  have p3 := H2.out.2.1.c3
  have f0 := H2.out.2.1.fr 0
  have f1 := H2.out.2.1.fr 1
  have f2 := H2.out.2.1.fr 2
  have f3 := H2.out.2.1.fr 3
  go_region_held3 (fun w' => w'.cell? ⟨bx, 0, none⟩ = some (.slice b lb cb) ∧ w'.cell? ⟨bx, 1, none⟩ = some (.slice d ld cd) ∧ w'.cell? ⟨bx, 2, none⟩ = some (.int .i64 t) ∧ w'.cell? ⟨bx, 3, none⟩ = some (.int .i64 q)) (go_keep) ((go_at_call 49; refine (draw_steps _ _ a len cap _ ((left_drawn H2.out.1).cur HC.out)).mono ?_; rintro e w3 ⟨n, rfl, L3⟩; have H3 : Hid (Below w.heap.size w w3 ∧ Quad w3 w.heap.size (.slice none 0 0) (.slice none 0 0) 0 0 ∧ Fit w3 (w.heap.size + 2) b lb cb X ∧ Fit w3 (w.heap.size + 2) d ld cd Y ∧ Quad w3 bx (.slice b lb cb) (.slice d ld cd) t q) := ⟨below_call H0.out.1 H0.out.1.size (new_below ((left_drawn H2.out.1).trans L3)), Quad.left (w := W2.drew) H2.out.2.1 L3 (by omega), Fit.left (H2.out.2.2.1.all ((Below.refl _ _).drew)) L3 (by omega), Fit.left (H2.out.2.2.2.1.all ((Below.refl _ _).drew)) L3 (by omega), Quad.left (w := W2.drew) H2.out.2.2.2.2 L3 (by omega)⟩; have v0 := H3.out.2.2.2.2.c0; have v1 := H3.out.2.2.2.2.c1; have v2 := H3.out.2.2.2.2.c2; have v3 := H3.out.2.2.2.2.c3; have p0 := H3.out.2.1.c0; have p1 := H3.out.2.1.c1; have p2 := H3.out.2.1.c2; have p3 := H3.out.2.1.c3; have f0 := H3.out.2.1.fr 0; have f1 := H3.out.2.1.fr 1; have f2 := H3.out.2.1.fr 2; have f3 := H3.out.2.1.fr 3; clear L3))
  all_goals
    go_wp2_with fail
    refine bodyPost_ret (ret_quad2 rfl rfl rfl (H3.out.2.1.sets _ _ _ _)) rfl ?_
    exact ⟨_, _, _, _, _, _, _, _, _, _, _, rfl, (H3.out.2.2.1.before4 (by omega) _ _ _ _).mono (by omega), (H3.out.2.2.2.1.before4 (by omega) _ _ _ _).mono (by omega), hlb, hld, below_sets4 H3.out.1 (Nat.le_refl _) _ _ _ _⟩

end Go.Proofs.Ytlicjbnagapdeaa.Draw
