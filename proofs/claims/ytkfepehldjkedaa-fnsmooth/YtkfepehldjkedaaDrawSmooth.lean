/-
  Drawing a Smooth: spec.l6Draw, l6DrawAny, l6DrawSteps, DrawSmoothNext, DrawSmoothRun. What is drawn lies in blocks of its own; besides these the cursor's block alone is written.
-/
import Derived.Test.YtkfepehldjkedaaDrawCrew
import Derived.Test.YtkfepehldjkedaaSmoothRunS
import Derived.Deep.RegionWith
namespace Go.Proofs.Ytkfepehldjkedaa.Draw
open Go.ChangeShapes Go.WideShapes Go.ChangeAt Go.RowKit
open Go.Proofs.Ytkfepehldjkedaa.Crew

attribute [local go_sem ↓] Go.wp_at_zero Go.wp_at_succ

theorem grown_all {w w' : World} (b : Below w.heap.size w w') : w.grownBy w' none := ⟨b.os, b.tape, b.output, b.size, fun i hi _ => b.block i hi⟩

theorem left_all {k : IntKind} {T : TypeId} {p : Nat} {a : Option Addr} {len cap : Nat} {w w1 w2 : World} (L : Left k T p a len cap w w1) (B : Below w1.heap.size w1 w2) (hp : p < w.heap.size) : Left k T p a len cap w w2 := left_own L (grown_all B) (by simp) hp

theorem left_put {k : IntKind} {T : TypeId} {p : Nat} {a : Option Addr} {len cap : Nat} {w w1 : World} (L : Left k T p a len cap w w1) (hp : p < w.heap.size) {b j : Nat} (hb : w.heap.size ≤ b) (v : Value) : Left k T p a len cap w (w1.setCell ⟨b, j, none⟩ v) := left_own L (grown_at w1 b j v) (fun i hi => by cases hi; exact hb) hp

theorem left_drawn {k : IntKind} {T : TypeId} {p : Nat} {a : Option Addr} {len cap : Nat} {w w1 : World} (L : Left k T p a len cap w w1) : Left k T p a len cap w w1.drew := ⟨grown_drewN L.1 1, L.2⟩

theorem Pair.left {k : IntKind} {T : TypeId} {p : Nat} {a : Option Addr} {len cap : Nat} {w w' : World} {b : Nat} {x y : Value} (h : Pair w b x y) (L : Left k T p a len cap w w') (hb : b ≠ p) : Pair w' b x y := h.other L.1 (by simpa using hb)

theorem Fit.left {k : IntKind} {T : TypeId} {p : Nat} {a : Option Addr} {len cap : Nat} {w w' : World} {base : Nat} {b : Option Addr} {l c : Nat} {xs : List Int} (h : Fit w base b l c xs) (L : Left k T p a len cap w w') (hb : p < base) : Fit w' base b l c xs := h.other L.1 (fun x hx => by have := (h.ge hx).1; simp; omega)

/-- spec.l6Draw: some Smooth of at most 24. -/
theorem draw_smooth (T : TypeId) (p : Nat) (a : Option Addr) (len cap : Nat) (w : World) (C : Cur .i64 T p a len cap w) :
    Calls Try.prog 59 #[.pointer (some ⟨p, 0, none⟩)] w fun e w' => ∃ b lb cb d ld cd X Y, e = .returned (sm (.slice b lb cb) (.slice d ld cd)) ∧ Fit w' w.heap.size b lb cb X ∧ Fit w' w.heap.size d ld cd Y ∧ Apart b d ∧ (lb : Int) ≤ 24 ∧ (ld : Int) ≤ 24 ∧ Left .i64 T p a len cap w w' := by
  have hp := C.lt
  have HC : Hid (Cur .i64 T p a len cap w) := C
  have H0 : Hid (Left .i64 T p a len cap w (w.alloc (.cells #[.slice none 0 0, .slice none 0 0] 31)) ∧ Pair (w.alloc (.cells #[.slice none 0 0, .slice none 0 0] 31)) w.heap.size (.slice none 0 0) (.slice none 0 0)) := ⟨left_all (Left.refl C) (below_new _ _) hp, pair_new _ _ _⟩
  have hz : (w.alloc (.cells #[.slice none 0 0, .slice none 0 0] 31)).heap.size = w.heap.size + 1 := by simp
  clear C
  go_enter Try.func59, Try.ntmps59
  go_wp2_with fail
  refine (draw_crew T p a len cap _ (H0.out.1.cur HC.out)).mono ?_
  rintro e w1 ⟨g, cp, xs, rfl, O1, hn1, hn6, _⟩
  obtain ⟨n, hn⟩ : ∃ n, n = xs.length := ⟨_, rfl⟩
  rw [← hn] at hn6 ⊢
  have gb := O1.base
  rw [hz] at gb
  have H1 : Hid (Left .i64 T p a len cap w w1 ∧ Pair w1 w.heap.size (.slice none 0 0) (.slice none 0 0) ∧ Ints w1 (some ⟨g, 0, none⟩) n xs) := ⟨H0.out.1.trans O1.left, Pair.left H0.out.2 O1.left (by omega), by rw [hn]; exact O1.row.ints⟩
  clear O1 H0 hn hz hn1
  go_wp2_with fail
  refine (specNew _ n cp xs _ H1.out.2.2 (by omega)).mono ?_
  rintro e w2 ⟨b, lb, cb, d, ld, cd, rfl, Fb, Fd, D, B2⟩
  have l1 := H1.out.2.1.lt
  have l2 := B2.size
  have hlb : (lb : Int) ≤ 24 := by have := Fb.1; have := newC_len xs; omega
  have hld : (ld : Int) ≤ 24 := by have := Fd.1; have := newR_len xs; omega
  have H2 : Hid (Left .i64 T p a len cap w (w2.alloc (.cells #[.slice b lb cb, .slice d ld cd] 31)) ∧ Pair (w2.alloc (.cells #[.slice b lb cb, .slice d ld cd] 31)) w.heap.size (.slice none 0 0) (.slice none 0 0) ∧ Pair (w2.alloc (.cells #[.slice b lb cb, .slice d ld cd] 31)) w2.heap.size (.slice b lb cb) (.slice d ld cd) ∧ Fit (w2.alloc (.cells #[.slice b lb cb, .slice d ld cd] 31)) w.heap.size b lb cb (newC xs) ∧ Fit (w2.alloc (.cells #[.slice b lb cb, .slice d ld cd] 31)) w.heap.size d ld cd (newR xs)) :=
    ⟨left_all (left_all H1.out.1 B2 hp) (below_new _ _) hp, (H1.out.2.1.all B2).alloc _, pair_new _ _ _, (Fb.all (below_new _ _)).mono (by omega), (Fd.all (below_new _ _)).mono (by omega)⟩
  clear H1 Fb Fd D B2
  go_wp2_with fail
  generalize w2.alloc (.cells #[.slice b lb cb, .slice d ld cd] 31) = W2 at *
  have hbx : w.heap.size < w2.heap.size := by omega
  generalize w2.heap.size = bx at *
  have lx := H2.out.2.2.1.lt
  have q0 := H2.out.2.2.1.c0
  have q1 := H2.out.2.2.1.c1
  go_region_with (first | (go_at_call 61; refine (below_any T p a len cap _ _ ((left_drawn H2.out.1).cur HC.out)).mono ?_; rintro e w3 ⟨k, rfl, k0, k1, _, L3⟩; have H3 : Hid (Left .i64 T p a len cap w w3 ∧ Pair w3 w.heap.size (.slice none 0 0) (.slice none 0 0) ∧ Pair w3 bx (.slice b lb cb) (.slice d ld cd) ∧ Fit w3 w.heap.size b lb cb (newC xs) ∧ Fit w3 w.heap.size d ld cd (newR xs)) := ⟨(left_drawn H2.out.1).trans L3, Pair.left (w := W2.drew) H2.out.2.1 L3 (by omega), Pair.left (w := W2.drew) H2.out.2.2.1 L3 (by omega), Fit.left (H2.out.2.2.2.1.all ((Below.refl _ _).drew)) L3 hp, Fit.left (H2.out.2.2.2.2.all ((Below.refl _ _).drew)) L3 hp⟩; have q0 := H3.out.2.2.1.c0; have q1 := H3.out.2.2.1.c1; clear L3 k1) | (go_at_call 26; refine (specRun b lb cb (newC xs) d ld cd (newR xs) _ _ H3.out.2.2.2.1.ints H3.out.2.2.2.2.ints (by omega) (by omega)).mono ?_; unfold RunPost; rintro e w4 ⟨b4, lb4, cb4, d4, ld4, cd4, z4, lz4, cz4, rfl, F4, G4, _, D4, _, _, B4⟩; have P4 := H3.out.2.2.1.all B4; have q0 := P4.c0; have q1 := P4.c1; have f0 := P4.fr 0; have f1 := P4.fr 1))
  all_goals
    have l3 := H3.out.2.2.1.lt
    have hlb4 : (lb4 : Int) ≤ 24 := by have := F4.1; have := runC_len (newC xs) (newR xs) k; omega
    have hld4 : (ld4 : Int) ≤ 24 := by have := G4.1; have := runR_len (newC xs) (newR xs) k; omega
    have H5 : Hid (Left .i64 T p a len cap w ((w4.setCell ⟨bx, 0, none⟩ (.slice b4 lb4 cb4)).setCell ⟨bx, 1, none⟩ (.slice d4 ld4 cd4)) ∧ Pair ((w4.setCell ⟨bx, 0, none⟩ (.slice b4 lb4 cb4)).setCell ⟨bx, 1, none⟩ (.slice d4 ld4 cd4)) w.heap.size (.slice none 0 0) (.slice none 0 0) ∧ Pair ((w4.setCell ⟨bx, 0, none⟩ (.slice b4 lb4 cb4)).setCell ⟨bx, 1, none⟩ (.slice d4 ld4 cd4)) bx (.slice b4 lb4 cb4) (.slice d4 ld4 cd4) ∧ Fit ((w4.setCell ⟨bx, 0, none⟩ (.slice b4 lb4 cb4)).setCell ⟨bx, 1, none⟩ (.slice d4 ld4 cd4)) (w.heap.size + 1) b4 lb4 cb4 (runC (newC xs) (newR xs) k) ∧ Fit ((w4.setCell ⟨bx, 0, none⟩ (.slice b4 lb4 cb4)).setCell ⟨bx, 1, none⟩ (.slice d4 ld4 cd4)) (w.heap.size + 1) d4 ld4 cd4 (runR (newC xs) (newR xs) k) ∧ Apart b4 d4) :=
      ⟨left_put (left_put (left_all H3.out.1 B4 hp) hp (by omega) _) hp (by omega) _, ((H3.out.2.1.all B4).past (by omega) _).past (by omega) _, (P4.set0 _).set1 _, ((F4.past l3 _).past l3 _).mono (by omega), ((G4.past l3 _).past l3 _).mono (by omega), D4⟩
    clear q0 q1 f0 f1 P4 B4 F4 G4 D4 H3 H2
    generalize (w4.setCell ⟨bx, 0, none⟩ (.slice b4 lb4 cb4)).setCell ⟨bx, 1, none⟩ (.slice d4 ld4 cd4) = w5 at *
    have q0 := H5.out.2.2.1.c0
    have q1 := H5.out.2.2.1.c1
    have p0 := H5.out.2.1.c0
    have p1 := H5.out.2.1.c1
    have f0 := H5.out.2.1.fr 0
    have f1 := H5.out.2.1.fr 1
    go_wp2_with fail
    refine bodyPost_ret (ret_pair rfl rfl ((H5.out.2.1.set0 _).set1 _)) rfl ?_
    exact ⟨_, _, _, _, _, _, _, _, rfl, ((H5.out.2.2.2.1.past (by omega) _).past (by omega) _).mono (by omega), ((H5.out.2.2.2.2.1.past (by omega) _).past (by omega) _).mono (by omega), H5.out.2.2.2.2.2, hlb4, hld4, left_put (left_put H5.out.1 hp (Nat.le_refl _) _) hp (Nat.le_refl _) _⟩

/-- A Smooth in the variable at bx, told beside the cursor. -/
structure DS (T : TypeId) (p : Nat) (a : Option Addr) (len cap : Nat) (w wr : World) (bx : Nat) (b : Option Addr) (lb cb : Nat) (d : Option Addr) (ld cd : Nat) (X Y : List Int) : Prop where
  left : Left .i64 T p a len cap w wr
  res : Pair wr w.heap.size (.slice none 0 0) (.slice none 0 0)
  var : Pair wr bx (.slice b lb cb) (.slice d ld cd)
  crew : Fit wr (w.heap.size + 1) b lb cb X
  rich : Fit wr (w.heap.size + 1) d ld cd Y
  apart : Apart b d
  hx : w.heap.size < bx
  nb : ∀ x, b = some x → x.block ≠ bx
  nd : ∀ x, d = some x → x.block ≠ bx
  l1 : (lb : Int) ≤ 30
  l2 : (ld : Int) ≤ 24

/-- What a draw of a Smooth answers. -/
def DrawPost (T : TypeId) (p : Nat) (a : Option Addr) (len cap : Nat) (w : World) (e : Ending) (w' : World) : Prop :=
  ∃ b lb cb d ld cd X Y, e = .returned (sm (.slice b lb cb) (.slice d ld cd)) ∧ Fit w' w.heap.size b lb cb X ∧ Fit w' w.heap.size d ld cd Y ∧ (lb : Int) ≤ 30 ∧ (ld : Int) ≤ 24 ∧ Left .i64 T p a len cap w w'

theorem DS.done {T : TypeId} {p : Nat} {a : Option Addr} {len cap : Nat} {w wr : World} {bx : Nat} {b : Option Addr} {lb cb : Nat} {d : Option Addr} {ld cd : Nat} {X Y : List Int} (h : DS T p a len cap w wr bx b lb cb d ld cd X Y) (hp : p < w.heap.size) :
    DrawPost T p a len cap w (.returned (sm (.slice b lb cb) (.slice d ld cd))) ((wr.setCell ⟨w.heap.size, 0, none⟩ (.slice b lb cb)).setCell ⟨w.heap.size, 1, none⟩ (.slice d ld cd)) :=
  ⟨_, _, _, _, _, _, _, _, rfl, ((h.crew.past (by omega) _).past (by omega) _).mono (by omega), ((h.rich.past (by omega) _).past (by omega) _).mono (by omega), h.l1, h.l2, left_put (left_put h.left hp (Nat.le_refl _) _) hp (Nat.le_refl _) _⟩

theorem DS.draw {T : TypeId} {p : Nat} {a : Option Addr} {len cap : Nat} {w wr w' : World} {bx : Nat} {b : Option Addr} {lb cb : Nat} {d : Option Addr} {ld cd : Nat} {X Y : List Int} (h : DS T p a len cap w wr bx b lb cb d ld cd X Y) (hp : p < w.heap.size) (L : Left .i64 T p a len cap wr w') : DS T p a len cap w w' bx b lb cb d ld cd X Y := by
  have := h.hx
  exact ⟨h.left.trans L, Pair.left h.res L (by omega), Pair.left h.var L (by omega), Fit.left h.crew L (by omega), Fit.left h.rich L (by omega), h.apart, h.hx, h.nb, h.nd, h.l1, h.l2⟩

theorem DS.drawn {T : TypeId} {p : Nat} {a : Option Addr} {len cap : Nat} {w wr : World} {bx : Nat} {b : Option Addr} {lb cb : Nat} {d : Option Addr} {ld cd : Nat} {X Y : List Int} (h : DS T p a len cap w wr bx b lb cb d ld cd X Y) : DS T p a len cap w wr.drew bx b lb cb d ld cd X Y :=
  ⟨left_drawn h.left, h.res, h.var, h.crew.all ((Below.refl _ _).drew), h.rich.all ((Below.refl _ _).drew), h.apart, h.hx, h.nb, h.nd, h.l1, h.l2⟩

/-- A store into what is rich. -/
theorem DS.set {T : TypeId} {p : Nat} {a : Option Addr} {len cap : Nat} {w wr : World} {bx : Nat} {b : Option Addr} {lb cb g ld cd : Nat} {X Y : List Int} (h : DS T p a len cap w wr bx b lb cb (some ⟨g, 0, none⟩) ld cd X Y) (hp : p < w.heap.size) (hl : 0 < ld) (j : Nat) (v : Int) : DS T p a len cap w (wr.setCell ⟨g, j, none⟩ (.int .i64 v)) bx b lb cb (some ⟨g, 0, none⟩) ld cd X (Y.set j v) := by
  have hg : w.heap.size + 1 ≤ g := (h.rich.ge rfl).1
  have hx := h.nd _ rfl
  simp only at hx
  refine ⟨left_put h.left hp (by omega) _, h.res.past (by omega) _, h.var.past (by omega) _, h.crew.other (grown_at wr g j _) (fun x hx' => by have := h.apart x _ hx' rfl; simpa using this), ?_, h.apart, h.hx, h.nb, h.nd, h.l1, h.l2⟩
  obtain ⟨h1, ⟨h2, _⟩ | ⟨g', h2, h3, R⟩⟩ := h.rich
  · omega
  · cases h2
    exact (R.set j v).fit h3 (by rw [List.length_set]; exact h1)

theorem DS.row {T : TypeId} {p : Nat} {a : Option Addr} {len cap : Nat} {w wr : World} {bx : Nat} {b : Option Addr} {lb cb g ld cd : Nat} {X Y : List Int} (h : DS T p a len cap w wr bx b lb cb (some ⟨g, 0, none⟩) ld cd X Y) (hl : 0 < ld) : Row wr g cd Y ∧ Y.length = ld := by
  obtain ⟨h1, ⟨h2, _⟩ | ⟨g', h2, h3, R⟩⟩ := h.rich
  · omega
  · cases h2
    exact ⟨R, h1⟩

/-- Another crew. -/
theorem DS.crewed {T : TypeId} {p : Nat} {a : Option Addr} {len cap : Nat} {w wr w' : World} {bx : Nat} {b : Option Addr} {lb cb : Nat} {d : Option Addr} {ld cd : Nat} {X Y : List Int} (h : DS T p a len cap w wr bx b lb cb d ld cd X Y) (hp : p < w.heap.size) {g cp : Nat} {xs : List Int} (O : Own T p a len cap wr w' g cp xs) {l : Nat} (hl : xs.length = l) (h30 : l ≤ 30) :
    DS T p a len cap w (w'.setCell ⟨bx, 0, none⟩ (.slice (some ⟨g, 0, none⟩) l cp)) bx (some ⟨g, 0, none⟩) l cp d ld cd xs Y := by
  have hb := O.base
  have hx := h.hx
  have hv := h.var.lt
  have k := h.draw hp O.left
  refine ⟨left_put k.left hp (by omega) _, k.res.past (by omega) _, k.var.set0 _, (O.row.past (by omega) _).fit (by omega) hl, k.rich.other (grown_at w' bx 0 _) (fun x hx' => by have := h.nd x hx'; simpa using this), ?_, hx, ?_, h.nd, by omega, h.l2⟩
  · intro x y hx' hy e
    cases hx'
    have := (h.rich.ge hy).2
    simp at e
    omega
  · intro x hx'
    cases hx'
    exact (by simp; omega)

set_option maxHeartbeats 1000000 in
/-- spec.l6DrawAny. -/
theorem draw_any_smooth (T : TypeId) (p : Nat) (a : Option Addr) (len cap : Nat) (w : World) (C : Cur .i64 T p a len cap w) :
    Calls Try.prog 48 #[.pointer (some ⟨p, 0, none⟩)] w (DrawPost T p a len cap w) := by
  have hp := C.lt
  have HC : Hid (Cur .i64 T p a len cap w) := C
  have H0 : Hid (Left .i64 T p a len cap w (w.alloc (.cells #[.slice none 0 0, .slice none 0 0] 31)) ∧ Pair (w.alloc (.cells #[.slice none 0 0, .slice none 0 0] 31)) w.heap.size (.slice none 0 0) (.slice none 0 0)) := ⟨left_all (Left.refl C) (below_new _ _) hp, pair_new _ _ _⟩
  have hz : (w.alloc (.cells #[.slice none 0 0, .slice none 0 0] 31)).heap.size = w.heap.size + 1 := by simp
  clear C
  go_enter Try.func48, Try.ntmps48
  go_wp2_with fail
  refine (draw_smooth T p a len cap _ (H0.out.1.cur HC.out)).mono ?_
  rintro e w1 ⟨b, lb, cb, d, ld, cd, X, Y, rfl, Fb, Fd, D, hlb, hld, L1⟩
  rw [hz] at Fb Fd
  have H1 : Hid (DS T p a len cap w (w1.alloc (.cells #[.slice b lb cb, .slice d ld cd] 31)) w1.heap.size b lb cb d ld cd X Y) :=
    ⟨left_all (H0.out.1.trans L1) (below_new _ _) hp, (Pair.left H0.out.2 L1 (by omega)).alloc _, pair_new _ _ _, Fb.all (below_new _ _), Fd.all (below_new _ _), D, (Pair.left H0.out.2 L1 (by omega)).lt, fun x hx => Nat.ne_of_lt (Fb.ge hx).2, fun x hx => Nat.ne_of_lt (Fd.ge hx).2, by omega, by omega⟩
  clear H0 hz Fb Fd D L1
  go_wp2_with fail
  generalize w1.alloc (.cells #[.slice b lb cb, .slice d ld cd] 31) = W1 at *
  generalize w1.heap.size = bx at *
  refine (once_any T p a len cap _ _ (H1.out.left.cur HC.out)).mono ?_
  rintro e w2 ⟨t, rfl, L2⟩
  have H2 : Hid (DS T p a len cap w w2 bx b lb cb d ld cd X Y) := H1.out.draw hp L2
  clear L2 H1
  cases t
  · have q0 := H2.out.var.c0
    have q1 := H2.out.var.c1
    have p0 := H2.out.res.c0
    have p1 := H2.out.res.c1
    have e0 := H2.out.res.fr 0
    have e1 := H2.out.res.fr 1
    go_wp2_with fail
    refine bodyPost_ret (ret_pair rfl rfl ((H2.out.res.set0 _).set1 _)) rfl ?_
    exact H2.out.done hp
  · by_cases hl0 : ld = 0
    · subst hl0
      have hl' : ¬ (0 : Int) < ((0 : Nat) : Int) := by omega
      have q0 := H2.out.var.c0
      have q1 := H2.out.var.c1
      have p0 := H2.out.res.c0
      have p1 := H2.out.res.c1
      have e0 := H2.out.res.fr 0
      have e1 := H2.out.res.fr 1
      go_wp2_with fail
      refine bodyPost_ret (ret_pair rfl rfl ((H2.out.res.set0 _).set1 _)) rfl ?_
      exact H2.out.done hp
    · have hl1 : (0 : Int) < (ld : Int) := by omega
      have hl2 : 0 < ld := by omega
      obtain ⟨g, rfl⟩ : ∃ g, d = some ⟨g, 0, none⟩ := by
        rcases H2.out.rich.2 with ⟨h, _⟩ | ⟨g, h, _⟩
        · omega
        · exact ⟨g, h⟩
      have q1 := H2.out.var.c1
      go_wp2_with fail
      clear q1
      refine (below_any T p a len cap _ _ (H2.out.left.cur HC.out)).mono ?_
      rintro e w3 ⟨x, rfl, x0, x1, _, L3⟩
      have hx3 : x < 3 := x1 (by omega)
      have H3 : Hid (DS T p a len cap w w3 bx b lb cb (some ⟨g, 0, none⟩) ld cd X Y) := H2.out.draw hp L3
      clear L3 H2 x1
      have ngb : ¬ bx = g := by have := H3.out.nd _ rfl; simp at this; omega
      have ngb' : ¬ g = bx := by omega
      have hx : x = 0 ∨ x = 1 ∨ x = 2 := by omega
      rcases hx with rfl | rfl | rfl
      · have q1 := H3.out.var.c1
        go_wp2_with fail
        go_region_held3 (fun w' => w'.cell? ⟨bx, 1, none⟩ = some (.slice (some ⟨g, 0, none⟩) ld cd)) (go_keep) ((go_at_call 62; refine (num_any T p a len cap _ _ (H3.out.drawn.left.cur HC.out)).mono ?_; rintro e w4 ⟨y, rfl, L4⟩; have H4 : Hid (DS T p a len cap w w4 bx b lb cb (some ⟨g, 0, none⟩) ld cd X Y) := H3.out.drawn.draw hp L4; have q1 := H4.out.var.c1; have f4 := (H4.out.row hl2).1.frozen 0; obtain ⟨z, c4⟩ : ∃ z, w4.cell? ⟨g, 0, none⟩ = some (.int .i64 z) := ⟨_, (H4.out.row hl2).1.cell (j := 0) (by rw [(H4.out.row hl2).2]; exact hl2)⟩; clear L4))
        have H5 : Hid (DS T p a len cap w (w4.setCell ⟨g, 0, none⟩ (.int .i64 y)) bx b lb cb (some ⟨g, 0, none⟩) ld cd X (Y.set 0 y)) := H4.out.set hp hl2 0 y
        clear q1 f4 c4 H4 H3
        generalize w4.setCell ⟨g, 0, none⟩ (.int .i64 y) = w5 at *
        have q0 := H5.out.var.c0
        have q1 := H5.out.var.c1
        have p0 := H5.out.res.c0
        have p1 := H5.out.res.c1
        have e0 := H5.out.res.fr 0
        have e1 := H5.out.res.fr 1
        go_wp2_with fail
        refine bodyPost_ret (ret_pair rfl rfl ((H5.out.res.set0 _).set1 _)) rfl ?_
        exact H5.out.done hp
      · go_wp2_with fail
        refine (draw_any_crew T p a len cap _ (H3.out.left.cur HC.out)).mono ?_
        rintro e w4 ⟨g4, cp4, xs4, rfl, O4, hn4⟩
        obtain ⟨n, hn⟩ : ∃ n, xs4.length = n := ⟨_, rfl⟩
        rw [hn] at hn4 ⊢
        have V4 := (H3.out.draw hp O4.left).var
        have q0 := V4.c0
        have f0 := V4.fr 0
        have H5 : Hid (DS T p a len cap w (w4.setCell ⟨bx, 0, none⟩ (.slice (some ⟨g4, 0, none⟩) n cp4)) bx (some ⟨g4, 0, none⟩) n cp4 (some ⟨g, 0, none⟩) ld cd xs4 Y) := H3.out.crewed hp O4 hn hn4
        clear H3 O4 V4
        go_upto_region 16 with fail
        clear q0 f0
        generalize w4.setCell ⟨bx, 0, none⟩ (.slice (some ⟨g4, 0, none⟩) n cp4) = w5 at *
        have q0 := H5.out.var.c0
        have q1 := H5.out.var.c1
        have p0 := H5.out.res.c0
        have p1 := H5.out.res.c1
        have e0 := H5.out.res.fr 0
        have e1 := H5.out.res.fr 1
        go_wp2_with fail
        refine bodyPost_ret (ret_pair rfl rfl ((H5.out.res.set0 _).set1 _)) rfl ?_
        exact H5.out.done hp
      · by_cases h1 : 1 < ld
        · have h1' : (1 : Int) < (ld : Int) := by omega
          have q1 := H3.out.var.c1
          go_wp2_with fail
          go_region_held3 (fun w' => w'.cell? ⟨bx, 1, none⟩ = some (.slice (some ⟨g, 0, none⟩) ld cd)) (go_keep) ((go_at_call 61; refine (below_any T p a len cap _ _ (H3.out.drawn.left.cur HC.out)).mono ?_; rintro e w4 ⟨y, rfl, y0, y1, _, L4⟩; have H4 : Hid (DS T p a len cap w w4 bx b lb cb (some ⟨g, 0, none⟩) ld cd X Y) := H3.out.drawn.draw hp L4; have q1 := H4.out.var.c1; have f4 := (H4.out.row hl2).1.frozen 0; obtain ⟨z, c4⟩ : ∃ z, w4.cell? ⟨g, 0, none⟩ = some (.int .i64 z) := ⟨_, (H4.out.row hl2).1.cell (j := 0) (by rw [(H4.out.row hl2).2]; exact hl2)⟩; clear L4))
          have HU : Hid (DS T p a len cap w (w4.setCell ⟨g, 0, none⟩ (.int .i64 (IntKind.i64.wrap (100000000 - y)))) bx b lb cb (some ⟨g, 0, none⟩) ld cd X (Y.set 0 (IntKind.i64.wrap (100000000 - y)))) := H4.out.set hp hl2 0 _
          generalize IntKind.i64.wrap (100000000 - y) = u at *
          clear q1 f4 c4 H4 H3
          generalize w4.setCell ⟨g, 0, none⟩ (.int .i64 u) = w5 at *
          obtain ⟨Z, hZ⟩ : ∃ Z, Z = Y.set 0 u := ⟨_, rfl⟩
          rw [← hZ] at HU
          clear hZ
          obtain ⟨y0', hy0⟩ : ∃ y', y' = Z.getD 0 0 := ⟨_, rfl⟩
          have q1 := HU.out.var.c1
          have c0 := (HU.out.row hl2).1.cell (j := 0) (by rw [(HU.out.row hl2).2]; exact hl2)
          rw [← hy0] at c0
          have f1 := (HU.out.row hl2).1.frozen 1
          obtain ⟨z1, c1⟩ : ∃ z, w5.cell? ⟨g, 1, none⟩ = some (.int .i64 z) := ⟨_, (HU.out.row hl2).1.cell (j := 1) (by rw [(HU.out.row hl2).2]; exact h1)⟩
          clear hy0
          go_wp2_with fail
          go_region
          generalize wrap64 (-y0') = v at *
          have HV : Hid (DS T p a len cap w (w5.setCell ⟨g, 1, none⟩ (.int .i64 v)).drew bx b lb cb (some ⟨g, 0, none⟩) ld cd X (Z.set 1 v)) := (HU.out.set hp hl2 1 v).drawn
          clear q1 c0 f1 c1 HU
          generalize (w5.setCell ⟨g, 1, none⟩ (.int .i64 v)).drew = w6 at *
          go_wp2_with fail
          go_loopw [4] (fun i wr => ∃ (k : Nat) (Q : List Int), k ≤ ld ∧ i = .int .i64 k ∧ Hid (DS T p a len cap w wr bx b lb cb (some ⟨g, 0, none⟩) ld cd X Q)) (fun i _ => ld - (intOf i).toNat)
          case atStart => exact ⟨2, _, h1, rfl, HV⟩
          case round =>
            obtain ⟨k, Q, hk, rfl, HQ⟩ := hrel
            by_cases hlt : k < ld
            · have hlt' : (k : Int) < (ld : Int) := by omega
              have hk0 : (0 : Int) ≤ (k : Int) := by omega
              have q1 := HQ.out.var.c1
              have f1 := (HQ.out.row hl2).1.frozen k
              obtain ⟨z1, c1⟩ : ∃ z, wr.cell? ⟨g, k, none⟩ = some (.int .i64 z) := ⟨_, (HQ.out.row hl2).1.cell (j := k) (by rw [(HQ.out.row hl2).2]; exact hlt)⟩
              go_wp2_with fail
              go_roundw
              case rel => exact ⟨k + 1, _, by omega, by go_num, HQ.out.set hp hl2 k 0⟩
              case measure => simp [intOf]; omega
            · have hlt' : ¬ (k : Int) < (ld : Int) := by omega
              have q0 := HQ.out.var.c0
              have q1 := HQ.out.var.c1
              have p0 := HQ.out.res.c0
              have p1 := HQ.out.res.c1
              have e0 := HQ.out.res.fr 0
              have e1 := HQ.out.res.fr 1
              go_wp2_with fail
              refine bodyPost_ret (ret_pair rfl rfl ((HQ.out.res.set0 _).set1 _)) rfl ?_
              exact HQ.out.done hp
        · have h1' : ¬ (1 : Int) < (ld : Int) := by omega
          have q0 := H3.out.var.c0
          have q1 := H3.out.var.c1
          have p0 := H3.out.res.c0
          have p1 := H3.out.res.c1
          have e0 := H3.out.res.fr 0
          have e1 := H3.out.res.fr 1
          go_wp2_with fail
          refine bodyPost_ret (ret_pair rfl rfl ((H3.out.res.set0 _).set1 _)) rfl ?_
          exact H3.out.done hp

/-- spec.l6DrawSteps. -/
theorem draw_steps (T : TypeId) (p : Nat) (a : Option Addr) (len cap : Nat) (w : World) (C : Cur .i64 T p a len cap w) :
    Calls Try.prog 53 #[.pointer (some ⟨p, 0, none⟩)] w fun e w' => ∃ x : Int, e = .returned (.int .i64 x) ∧ Left .i64 T p a len cap w w' := by
  go_enter Try.func53, Try.ntmps53
  go_wp2_with fail
  refine (once_any T p a len cap _ _ C).mono ?_
  rintro e w1 ⟨t, rfl, L1⟩
  have C1 := L1.cur C
  cases t
  · go_wp2_with fail
    refine (below_any T p a len cap _ _ C1).mono ?_
    rintro e w2 ⟨x, rfl, x0, x1, _, L2⟩
    go_wp2_with fail
    go_ret
    exact ⟨_, rfl, L1.trans L2⟩
  · go_wp2_with fail
    refine (num_any T p a len cap _ _ C1).mono ?_
    rintro e w2 ⟨x, rfl, L2⟩
    go_wp2_with fail
    go_ret
    exact ⟨_, rfl, L1.trans L2⟩

/-- spec.DrawSmoothNext. -/
theorem drawSmoothNext_any (a : Option Addr) (len cap : Nat) (w : World) (B : Bytes w a len) (ht : len ≤ 9223372036854775806) :
    Calls Try.prog 21 #[.slice a len cap] w fun e w' => ∃ b lb cb d ld cd X Y, e = .returned (sm (.slice b lb cb) (.slice d ld cd)) ∧ Fit w' w.heap.size b lb cb X ∧ Fit w' w.heap.size d ld cd Y ∧ (lb : Int) ≤ 30 ∧ (ld : Int) ≤ 24 ∧ Below w.heap.size w w' := by
  have N0 := below_new w (.cells #[.slice none 0 0, .slice none 0 0] 31)
  have B0 := B.grown N0
  have H0 : Hid (Below w.heap.size w (w.alloc (.cells #[.slice none 0 0, .slice none 0 0] 31)) ∧ Pair (w.alloc (.cells #[.slice none 0 0, .slice none 0 0] 31)) w.heap.size (.slice none 0 0) (.slice none 0 0)) := ⟨N0, pair_new _ _ _⟩
  have HZ : Hid ((w.alloc (.cells #[.slice none 0 0, .slice none 0 0] 31)).heap.size = w.heap.size + 1) := by show _ = _; simp
  clear N0
  go_enter Try.func21, Try.ntmps21
  go_wp2_with fail
  generalize w.alloc (.cells #[.slice none 0 0, .slice none 0 0] 31) = W0 at H0 B0 HZ ⊢
  refine (new_any a len cap _ B0 ht).mono ?_
  rintro e w1 ⟨rfl, h, rfl⟩
  have C1 := cur_new (k := .i64) (T := 73) (cap := cap) B0 ht h
  have HC : Hid (Cur .i64 73 W0.heap.size a len cap (W0.alloc (.cells #[.slice a len cap, .int .i64 0, .int .i64 h] 73))) := C1
  clear B B0 C1
  go_wp2_with fail
  refine (draw_any_smooth _ _ a len cap _ HC.out).mono ?_
  unfold DrawPost
  rintro e w2 ⟨b, lb, cb, d, ld, cd, X, Y, rfl, Fb, Fd, hlb, hld, L2⟩
  have hz := HZ.out
  have hs : (W0.alloc (.cells #[.slice a len cap, .int .i64 0, .int .i64 h] 73)).heap.size = W0.heap.size + 1 := by simp
  rw [hs] at Fb Fd
  have H2 : Hid (Below w.heap.size w w2 ∧ Pair w2 w.heap.size (.slice none 0 0) (.slice none 0 0) ∧ Fit w2 (w.heap.size + 2) b lb cb X ∧ Fit w2 (w.heap.size + 2) d ld cd Y) := ⟨below_call H0.out.1 H0.out.1.size (new_below L2), Pair.left (H0.out.2.alloc _) L2 (by omega), Fb.mono (by omega), Fd.mono (by omega)⟩
  clear Fb Fd L2 H0
  have p0 := H2.out.2.1.c0
  have p1 := H2.out.2.1.c1
  have f0 := H2.out.2.1.fr 0
  have f1 := H2.out.2.1.fr 1
  go_wp2_with fail
  refine bodyPost_ret (ret_pair rfl rfl ((H2.out.2.1.set0 _).set1 _)) rfl ?_
  exact ⟨_, _, _, _, _, _, _, _, rfl, ((H2.out.2.2.1.past (by omega) _).past (by omega) _).mono (by omega), ((H2.out.2.2.2.past (by omega) _).past (by omega) _).mono (by omega), hlb, hld, below_set (below_set H2.out.1 (Nat.le_refl _) _) (Nat.le_refl _) _⟩

/-- spec.DrawSmoothRun. -/
theorem drawSmoothRun_any (a : Option Addr) (len cap : Nat) (w : World) (B : Bytes w a len) (ht : len ≤ 9223372036854775806) :
    Calls Try.prog 25 #[.slice a len cap] w fun e w' => ∃ b lb cb d ld cd X Y n, e = .returned (.tuple #[sm (.slice b lb cb) (.slice d ld cd), .int .i64 n]) ∧ Fit w' w.heap.size b lb cb X ∧ Fit w' w.heap.size d ld cd Y ∧ (lb : Int) ≤ 30 ∧ (ld : Int) ≤ 24 ∧ Below w.heap.size w w' := by
  have N0 := below_new w (.cells #[.slice none 0 0, .slice none 0 0] 31)
  have B0 := B.grown N0
  have H0 : Hid (Below w.heap.size w (w.alloc (.cells #[.slice none 0 0, .slice none 0 0] 31)) ∧ Pair (w.alloc (.cells #[.slice none 0 0, .slice none 0 0] 31)) w.heap.size (.slice none 0 0) (.slice none 0 0)) := ⟨N0, pair_new _ _ _⟩
  have HZ : Hid ((w.alloc (.cells #[.slice none 0 0, .slice none 0 0] 31)).heap.size = w.heap.size + 1) := by show _ = _; simp
  clear N0
  go_enter Try.func25, Try.ntmps25
  go_wp2_with fail
  generalize w.alloc (.cells #[.slice none 0 0, .slice none 0 0] 31) = W0 at H0 B0 HZ ⊢
  refine (new_any a len cap _ B0 ht).mono ?_
  rintro e w1 ⟨rfl, h, rfl⟩
  have C1 := cur_new (k := .i64) (T := 73) (cap := cap) B0 ht h
  have HC : Hid (Cur .i64 73 W0.heap.size a len cap (W0.alloc (.cells #[.slice a len cap, .int .i64 0, .int .i64 h] 73))) := C1
  clear B B0 C1
  go_wp2_with fail
  refine (draw_any_smooth _ _ a len cap _ HC.out).mono ?_
  unfold DrawPost
  rintro e w2 ⟨b, lb, cb, d, ld, cd, X, Y, rfl, Fb, Fd, hlb, hld, L2⟩
  have hz := HZ.out
  have hs : (W0.alloc (.cells #[.slice a len cap, .int .i64 0, .int .i64 h] 73)).heap.size = W0.heap.size + 1 := by simp
  rw [hs] at Fb Fd
  have P2 := Pair.left (H0.out.2.alloc (.cells #[.slice a len cap, .int .i64 0, .int .i64 h] 73)) L2 (by omega)
  have l2 := P2.lt
  have H2 : Hid (Left .i64 73 W0.heap.size a len cap (W0.alloc (.cells #[.slice a len cap, .int .i64 0, .int .i64 h] 73)) (w2.alloc (.cells #[.slice b lb cb, .slice d ld cd] 31)) ∧ Pair (w2.alloc (.cells #[.slice b lb cb, .slice d ld cd] 31)) w.heap.size (.slice none 0 0) (.slice none 0 0) ∧ Fit (w2.alloc (.cells #[.slice b lb cb, .slice d ld cd] 31)) (w.heap.size + 2) b lb cb X ∧ Fit (w2.alloc (.cells #[.slice b lb cb, .slice d ld cd] 31)) (w.heap.size + 2) d ld cd Y ∧ Pair (w2.alloc (.cells #[.slice b lb cb, .slice d ld cd] 31)) w2.heap.size (.slice b lb cb) (.slice d ld cd)) :=
    ⟨left_all L2 (below_new _ _) (by rw [hs]; omega), P2.alloc _, (Fb.mono (by omega)).all (below_new _ _), (Fd.mono (by omega)).all (below_new _ _), pair_new _ _ _⟩
  have i1 : w.heap.size < W0.heap.size := by omega
  have i2 : W0.heap.size < w.heap.size + 2 := by omega
  have s2 : W0.heap.size + 1 ≤ w2.heap.size := by
    have := L2.1.size
    rw [hs] at this
    exact this
  clear Fb Fd L2 P2 hz hs
  go_wp2_with fail
  generalize w2.alloc (.cells #[.slice b lb cb, .slice d ld cd] 31) = W2 at *
  generalize w2.heap.size = bx at *
  have q0 := H2.out.2.2.2.2.c0
  have q1 := H2.out.2.2.2.2.c1
  have n1 : ¬ w.heap.size = bx := by omega
  have n2 : ¬ bx = w.heap.size := by omega
  have p0 := H2.out.2.1.c0
  have p1 := H2.out.2.1.c1
  have f0 := H2.out.2.1.fr 0
  have f1 := H2.out.2.1.fr 1
  go_region_held3 (fun w' => w'.cell? ⟨bx, 0, none⟩ = some (.slice b lb cb) ∧ w'.cell? ⟨bx, 1, none⟩ = some (.slice d ld cd)) (go_keep) ((go_at_call 53; refine (draw_steps _ _ a len cap _ ((left_drawn H2.out.1).cur HC.out)).mono ?_; rintro e w3 ⟨n, rfl, L3⟩; have H3 : Hid (Below w.heap.size w w3 ∧ Pair w3 w.heap.size (.slice none 0 0) (.slice none 0 0) ∧ Fit w3 (w.heap.size + 2) b lb cb X ∧ Fit w3 (w.heap.size + 2) d ld cd Y ∧ Pair w3 bx (.slice b lb cb) (.slice d ld cd)) := ⟨below_call H0.out.1 H0.out.1.size (new_below ((left_drawn H2.out.1).trans L3)), Pair.left (w := W2.drew) H2.out.2.1 L3 (by omega), Fit.left (H2.out.2.2.1.all ((Below.refl _ _).drew)) L3 (by omega), Fit.left (H2.out.2.2.2.1.all ((Below.refl _ _).drew)) L3 (by omega), Pair.left (w := W2.drew) H2.out.2.2.2.2 L3 (by omega)⟩; have q0 := H3.out.2.2.2.2.c0; have q1 := H3.out.2.2.2.2.c1; have p0 := H3.out.2.1.c0; have p1 := H3.out.2.1.c1; have f0 := H3.out.2.1.fr 0; have f1 := H3.out.2.1.fr 1; clear L3))
  all_goals
    go_wp2_with fail
    refine bodyPost_ret (ret_pair2 rfl rfl rfl ((H3.out.2.1.set0 _).set1 _)) rfl ?_
    exact ⟨_, _, _, _, _, _, _, _, _, rfl, ((H3.out.2.2.1.past (by omega) _).past (by omega) _).mono (by omega), ((H3.out.2.2.2.1.past (by omega) _).past (by omega) _).mono (by omega), hlb, hld, below_set (below_set H3.out.1 (Nat.le_refl _) _) (Nat.le_refl _) _⟩

end Go.Proofs.Ytkfepehldjkedaa.Draw
