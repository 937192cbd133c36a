/-
  Drawing a Many: spec.l12Draw, l12DrawAny, DrawManyRun, DrawManyNext, DrawManyLag. What is drawn lies in blocks of its own; besides these the cursor's block alone is written.
-/
import Derived.Test.YtjhenfdmbagaiaaGreatDrawLeft
import Derived.Test.YtjhenfdmbagaiaaGreatDrawAdj
import Derived.Test.YtjhenfdmbagaiaaGreatManyNextS
import Derived.Deep.RegionWith
namespace Go.Proofs.YtjhenfdmbagaiaaGreat.Draw
open Go.ChangeShapes Go.WideShapes Go.ChangeAt Go.RowKit
open Go.Proofs.YtjhenfdmbagaiaaGreat.Crew

attribute [local go_sem ↓] Go.wp_at_zero Go.wp_at_succ

section
variable {T : TypeId} {p : Nat} {a : Option Addr} {len cap : Nat}

theorem Mny.left {w w' : World} {b : Nat} {x y : Value} {t q : Int} (h : Mny w b x y t q) (L : Left .i64 T p a len cap w w') (hb : b ≠ p) : Mny w' b x y t q := h.other L.1 (by simpa using hb)

theorem SFit.left {w w' : World} {base : Nat} {b : Option Addr} {l c : Nat} {ps : List Shr} (h : SFit w base b l c ps) (L : Left .i64 T p a len cap w w') (hb : p < base) : SFit w' base b l c ps := h.other L.1 (fun x hx => by have := (h.ge hx).1; simp; omega)

theorem left_putsM {w w1 : World} (L : Left .i64 T p a len cap w w1) (hp : p < w.heap.size) {b : Nat} (hb : w.heap.size ≤ b) (x0 x1 x2 x3 : Value) : Left .i64 T p a len cap w ((((w1.setCell ⟨b, 0, none⟩ x0).setCell ⟨b, 1, none⟩ x1).setCell ⟨b, 2, none⟩ x2).setCell ⟨b, 3, none⟩ x3) :=
  left_put (left_put (left_put (left_put L hp hb _) hp hb _) hp hb _) hp hb _

/-- A Many in the variable at bx, told beside the cursor. -/
structure DM (T : TypeId) (p : Nat) (a : Option Addr) (len cap : Nat) (w wr : World) (bx : Nat) (b : Option Addr) (lb cb : Nat) (d : Option Addr) (ld cd : Nat) (ps : List Shr) (ns : List Int) (t q : Int) : Prop where
  left : Left .i64 T p a len cap w wr
  res : Mny wr w.heap.size (.slice none 0 0) (.slice none 0 0) 0 0
  var : Mny wr bx (.slice b lb cb) (.slice d ld cd) t q
  shs : SFit wr (w.heap.size + 1) b lb cb ps
  cnt : Fit wr (w.heap.size + 1) d ld cd ns
  apart : Apart b d
  hx : w.heap.size < bx
  nb : ∀ x, b = some x → x.block ≠ bx
  nd : ∀ x, d = some x → x.block ≠ bx
  l1 : (lb : Int) ≤ 30
  l2 : (ld : Int) ≤ 30

/-- What a draw of a Many answers. -/
def DrawPostM (T : TypeId) (p : Nat) (a : Option Addr) (len cap : Nat) (w : World) (e : Ending) (w' : World) : Prop :=
  ∃ b lb cb d ld cd ps ns t q, e = .returned (mv (.slice b lb cb) (.slice d ld cd) t q) ∧ SFit w' w.heap.size b lb cb ps ∧ Fit w' w.heap.size d ld cd ns ∧ Apart b d ∧ (lb : Int) ≤ 30 ∧ (ld : Int) ≤ 30 ∧ Left .i64 T p a len cap w w'

variable {w wr w' : World} {bx : Nat} {b : Option Addr} {lb cb : Nat} {d : Option Addr} {ld cd : Nat} {ps : List Shr} {ns : List Int} {t q : Int}

theorem DM.done (h : DM T p a len cap w wr bx b lb cb d ld cd ps ns t q) (hp : p < w.heap.size) :
    DrawPostM T p a len cap w (.returned (mv (.slice b lb cb) (.slice d ld cd) t q)) ((((wr.setCell ⟨w.heap.size, 0, none⟩ (.slice b lb cb)).setCell ⟨w.heap.size, 1, none⟩ (.slice d ld cd)).setCell ⟨w.heap.size, 2, none⟩ (.int .i64 t)).setCell ⟨w.heap.size, 3, none⟩ (.int .i64 q)) :=
  ⟨_, _, _, _, _, _, _, _, _, _, rfl, (SFit.mono h.shs (by omega)).still (fun x hx => set4_still (h.shs.ge hx).2 (by have := (h.shs.ge hx).1; omega)), (Fit.mono h.cnt (by omega)).still (fun x hx => set4_still (h.cnt.ge hx).2 (by have := (h.cnt.ge hx).1; omega)), h.apart, h.l1, h.l2, left_putsM h.left hp (Nat.le_refl _) _ _ _ _⟩

theorem DM.draw (h : DM T p a len cap w wr bx b lb cb d ld cd ps ns t q) (hp : p < w.heap.size) (L : Left .i64 T p a len cap wr w') : DM T p a len cap w w' bx b lb cb d ld cd ps ns t q := by
  have := h.hx
  exact ⟨h.left.trans L, Mny.left h.res L (by omega), Mny.left h.var L (by omega), SFit.left h.shs L (by omega), Fit.left h.cnt L (by omega), h.apart, h.hx, h.nb, h.nd, h.l1, h.l2⟩

theorem DM.drawn (h : DM T p a len cap w wr bx b lb cb d ld cd ps ns t q) : DM T p a len cap w wr.drew bx b lb cb d ld cd ps ns t q :=
  ⟨left_drawn h.left, h.res, h.var, h.shs.all ((Below.refl _ _).drew), h.cnt.all ((Below.refl _ _).drew), h.apart, h.hx, h.nb, h.nd, h.l1, h.l2⟩

/-- A store into the variable: no other block. -/
theorem DM.puts (h : DM T p a len cap w wr bx b lb cb d ld cd ps ns t q) (hp : p < w.heap.size) {j : Nat} {v : Value} {t' q' : Int} (V : Mny (wr.setCell ⟨bx, j, none⟩ v) bx (.slice b lb cb) (.slice d ld cd) t' q') : DM T p a len cap w (wr.setCell ⟨bx, j, none⟩ v) bx b lb cb d ld cd ps ns t' q' := by
  have hx := h.hx
  exact ⟨left_put h.left hp (by omega) v, h.res.past (by omega) v, V, h.shs.other (grown_at wr bx j v) (fun x hx => by simpa using h.nb x hx), h.cnt.other (grown_at wr bx j v) (fun x hx => by simpa using h.nd x hx), h.apart, h.hx, h.nb, h.nd, h.l1, h.l2⟩

theorem DM.now (h : DM T p a len cap w wr bx b lb cb d ld cd ps ns t q) (hp : p < w.heap.size) (v : Int) : DM T p a len cap w (wr.setCell ⟨bx, 3, none⟩ (.int .i64 v)) bx b lb cb d ld cd ps ns t v := h.puts hp (h.var.set3 v)

theorem DM.procs (h : DM T p a len cap w wr bx b lb cb d ld cd ps ns t q) (hp : p < w.heap.size) (v : Int) : DM T p a len cap w (wr.setCell ⟨bx, 2, none⟩ (.int .i64 v)) bx b lb cb d ld cd ps ns v q := h.puts hp (h.var.set2 v)

theorem DM.row {g : Nat} (h : DM T p a len cap w wr bx b lb cb (some ⟨g, 0, none⟩) ld cd ps ns t q) : Row wr g cd ns ∧ ns.length = ld := by
  obtain ⟨hl, ⟨_, h1⟩ | ⟨g', h1, _, R⟩⟩ := h.cnt
  · cases h1
  · cases h1
    exact ⟨R, hl⟩

theorem DM.set {g : Nat} (h : DM T p a len cap w wr bx b lb cb (some ⟨g, 0, none⟩) ld cd ps ns t q) (hp : p < w.heap.size) (j : Nat) (v : Int) : DM T p a len cap w (wr.setCell ⟨g, j, none⟩ (.int .i64 v)) bx b lb cb (some ⟨g, 0, none⟩) ld cd ps (ns.set j v) t q := by
  have hg := (h.cnt.ge rfl).1
  have hn := h.nd _ rfl
  simp only at hg hn
  exact ⟨left_put h.left hp (by omega) _, h.res.past (by omega) _, h.var.past (fun e => hn e.symm) _, h.shs.other (grown_at wr g j _) (fun x hx => by simpa using h.apart x _ hx rfl), (h.row.1.set j v).fit hg (by rw [List.length_set]; exact h.row.2), h.apart, h.hx, h.nb, h.nd, h.l1, h.l2⟩

/-- One count more. -/
theorem DM.more {g g' c' : Nat} {ob : Obj} {w1 : World} (h : DM T p a len cap w wr bx b lb cb (some ⟨g, 0, none⟩) ld cd ps ns t q) (hp : p < w.heap.size) (h24 : (ld : Int) ≤ 24) (R : Row w1 g' c' (ns ++ [0])) (G : (wr.alloc ob).grownBy w1 (some g)) (D : g' = g ∨ g' = wr.heap.size + 1) :
    DM T p a len cap w (w1.setCell ⟨bx, 1, none⟩ (.slice (some ⟨g', 0, none⟩) (ld + 1) c')) bx b lb cb (some ⟨g', 0, none⟩) (ld + 1) c' ps (ns ++ [0]) t q := by
  have hg := h.cnt.ge rfl
  have hn := h.nd _ rfl
  have hx := h.hx
  have hv := h.var.lt
  simp only at hg hn
  have V1 : Mny w1 bx (.slice b lb cb) (.slice (some ⟨g, 0, none⟩) ld cd) t q := (h.var.alloc _).other G (by simp; omega)
  have L1 : Left .i64 T p a len cap w w1 := left_own (left_all h.left (below_new _ ob) hp) G (fun i hi => by cases hi; omega) hp
  have hg' : g' ≠ bx := by omega
  refine ⟨left_put L1 hp (by omega) _, ((h.res.alloc _).other G (by simp; omega)).past (by omega) _, V1.set1 _, ?_, (R.past hg' _).fit (by omega) (by rw [List.length_append, h.row.2]; rfl), ?_, h.hx, h.nb, fun x hx => by cases hx; exact hg', h.l1, by push_cast; omega⟩
  · exact ((h.shs.all (below_new _ ob)).other G (fun x hx => by simpa using h.apart x _ hx rfl)).other (grown_at w1 bx 1 _) (fun x hx => by simpa using h.nb x hx)
  · intro x y hx hy
    cases hy
    have := h.apart x _ hx rfl
    have := h.shs.ge hx
    simp only at this ⊢
    rcases D with e | e
    · rw [e]; assumption
    · omega

end

/-- spec.l12Draw. -/
theorem draw_many (T : TypeId) (p : Nat) (a : Option Addr) (len cap : Nat) (w : World) (C : Cur .i64 T p a len cap w) :
    Calls Tryz.prog 60 #[.pointer (some ⟨p, 0, none⟩)] w fun e w' => ∃ b lb cb d ld cd ps ns t q, e = .returned (mv (.slice b lb cb) (.slice d ld cd) t q) ∧ SFit w' w.heap.size b lb cb ps ∧ Fit w' w.heap.size d ld cd ns ∧ Apart b d ∧ (lb : Int) ≤ 24 ∧ (ld : Int) ≤ 24 ∧ Left .i64 T p a len cap w w' := by
  have hp := C.lt
  have HC : Hid (Cur .i64 T p a len cap w) := C
  have H0 : Hid (Left .i64 T p a len cap w (w.alloc (.cells #[.slice none 0 0, .slice none 0 0, .int .i64 0, .int .i64 0] 27)) ∧ Mny (w.alloc (.cells #[.slice none 0 0, .slice none 0 0, .int .i64 0, .int .i64 0] 27)) w.heap.size (.slice none 0 0) (.slice none 0 0) 0 0) := ⟨left_all (Left.refl C) (below_new _ _) hp, mny_new _ _ _ _ _⟩
  have hz : (w.alloc (.cells #[.slice none 0 0, .slice none 0 0, .int .i64 0, .int .i64 0] 27)).heap.size = w.heap.size + 1 := by simp
  clear C
  go_enter Tryz.func60, Tryz.ntmps60
  go_wp2_with fail
  refine (draw_shares T p a len cap _ (H0.out.1.cur HC.out)).mono ?_
  rintro e w1 ⟨g, cp, qs, x, rfl, O1, hn1, hn6⟩
  obtain ⟨n, hn⟩ : ∃ n, n = qs.length := ⟨_, rfl⟩
  rw [← hn] at hn6 ⊢
  have gb := O1.base
  rw [hz] at gb
  have H1 : Hid (Left .i64 T p a len cap w w1 ∧ Mny w1 w.heap.size (.slice none 0 0) (.slice none 0 0) 0 0 ∧ Shs w1 (some ⟨g, 0, none⟩) n qs) := ⟨H0.out.1.trans O1.left, Mny.left H0.out.2 O1.left (by omega), by rw [hn]; exact O1.row.shs⟩
  clear O1 H0 hn hz hn1
  go_wp2_with fail
  refine (specNewM _ n cp qs x _ H1.out.2.2 (by omega)).mono ?_
  have hsz := nm_len qs x
  obtain ⟨ps, hps⟩ : ∃ ps, ps = nmS qs x := ⟨_, rfl⟩
  obtain ⟨ns, hns⟩ : ∃ ns, ns = nmN qs x := ⟨_, rfl⟩
  obtain ⟨t, ht⟩ : ∃ t, t = nmQ qs x := ⟨_, rfl⟩
  rw [← hps, ← hns] at hsz
  rw [← hps, ← hns, ← ht]
  clear hps hns ht
  rintro e w2 ⟨b, lb, cb, d, ld, cd, rfl, Fb, Fd, D, B2⟩
  have l1 := H1.out.2.1.lt
  have l2 := B2.size
  have hlb : (lb : Int) ≤ 24 := by have := Fb.1; omega
  have hld : (ld : Int) ≤ 24 := by have := Fd.1; omega
  have H2 : Hid (Left .i64 T p a len cap w (w2.alloc (.cells #[.slice b lb cb, .slice d ld cd, .int .i64 t, .int .i64 0] 27)) ∧ Mny (w2.alloc (.cells #[.slice b lb cb, .slice d ld cd, .int .i64 t, .int .i64 0] 27)) w.heap.size (.slice none 0 0) (.slice none 0 0) 0 0 ∧ Mny (w2.alloc (.cells #[.slice b lb cb, .slice d ld cd, .int .i64 t, .int .i64 0] 27)) w2.heap.size (.slice b lb cb) (.slice d ld cd) t 0 ∧ SFit (w2.alloc (.cells #[.slice b lb cb, .slice d ld cd, .int .i64 t, .int .i64 0] 27)) (w.heap.size + 1) b lb cb ps ∧ Fit (w2.alloc (.cells #[.slice b lb cb, .slice d ld cd, .int .i64 t, .int .i64 0] 27)) (w.heap.size + 1) d ld cd ns) :=
    ⟨left_all (left_all H1.out.1 B2 hp) (below_new _ _) hp, (H1.out.2.1.all B2).alloc _, mny_new _ _ _ _ _, (SFit.all Fb (below_new _ _)).mono (by omega), (Fit.all Fd (below_new _ _)).mono (by omega)⟩
  clear H1 Fb Fd D B2
  go_wp2_with fail
  generalize w2.alloc (.cells #[.slice b lb cb, .slice d ld cd, .int .i64 t, .int .i64 0] 27) = W2 at *
  have hbx : w.heap.size < w2.heap.size := by omega
  generalize w2.heap.size = bx at *
  have lx := H2.out.2.2.1.lt
  have q0 := H2.out.2.2.1.c0
  have q1 := H2.out.2.2.1.c1
  have q2 := H2.out.2.2.1.c2
  have q3 := H2.out.2.2.1.c3
  go_region_with (first | (go_at_call 47; refine (below_any T p a len cap _ _ ((left_drawn H2.out.1).cur HC.out)).mono ?_; rintro e w3 ⟨k, rfl, k0, k1, _, L3⟩; have H3 : Hid (Left .i64 T p a len cap w w3 ∧ Mny w3 w.heap.size (.slice none 0 0) (.slice none 0 0) 0 0 ∧ Mny w3 bx (.slice b lb cb) (.slice d ld cd) t 0 ∧ SFit w3 (w.heap.size + 1) b lb cb ps ∧ Fit w3 (w.heap.size + 1) d ld cd ns) := ⟨(left_drawn H2.out.1).trans L3, Mny.left (w := W2.drew) H2.out.2.1 L3 (by omega), Mny.left (w := W2.drew) H2.out.2.2.1 L3 (by omega), SFit.left (H2.out.2.2.2.1.all ((Below.refl _ _).drew)) L3 (by omega), Fit.left (H2.out.2.2.2.2.all ((Below.refl _ _).drew)) L3 (by omega)⟩; have q0 := H3.out.2.2.1.c0; have q1 := H3.out.2.2.1.c1; have q2 := H3.out.2.2.1.c2; have q3 := H3.out.2.2.1.c3; clear L3 k1) | (go_at_call 9; refine (specRunM b lb cb ps d ld cd ns t 0 k _ H3.out.2.2.2.1.shs H3.out.2.2.2.2.ints (by omega)).mono ?_; unfold RunPostM; rintro e w4 ⟨b4, lb4, cb4, d4, ld4, cd4, z4, cz4, vs4, rfl, F4, G4, D4, _, _, _, _, _, B4⟩; have P4 := H3.out.2.2.1.all B4; have q0 := P4.c0; have q1 := P4.c1; have q2 := P4.c2; have q3 := P4.c3; have f0 := P4.fr 0; have f1 := P4.fr 1; have f2 := P4.fr 2; have f3 := P4.fr 3))
  all_goals
    have l3 := H3.out.2.2.1.lt
    have rp := rn_parts ps ns t 0 k
    have hlb4 : (lb4 : Int) ≤ 24 := by have := F4.1; omega
    have hld4 : (ld4 : Int) ≤ 24 := by have := G4.1; omega
    have H5 : Hid (Left .i64 T p a len cap w ((((w4.setCell ⟨bx, 0, none⟩ (.slice b4 lb4 cb4)).setCell ⟨bx, 1, none⟩ (.slice d4 ld4 cd4)).setCell ⟨bx, 2, none⟩ (.int .i64 (rmQ ps ns t 0 k))).setCell ⟨bx, 3, none⟩ (.int .i64 (rmT ps ns t 0 k))) ∧ Mny ((((w4.setCell ⟨bx, 0, none⟩ (.slice b4 lb4 cb4)).setCell ⟨bx, 1, none⟩ (.slice d4 ld4 cd4)).setCell ⟨bx, 2, none⟩ (.int .i64 (rmQ ps ns t 0 k))).setCell ⟨bx, 3, none⟩ (.int .i64 (rmT ps ns t 0 k))) w.heap.size (.slice none 0 0) (.slice none 0 0) 0 0 ∧ Mny ((((w4.setCell ⟨bx, 0, none⟩ (.slice b4 lb4 cb4)).setCell ⟨bx, 1, none⟩ (.slice d4 ld4 cd4)).setCell ⟨bx, 2, none⟩ (.int .i64 (rmQ ps ns t 0 k))).setCell ⟨bx, 3, none⟩ (.int .i64 (rmT ps ns t 0 k))) bx (.slice b4 lb4 cb4) (.slice d4 ld4 cd4) (rmQ ps ns t 0 k) (rmT ps ns t 0 k) ∧ SFit ((((w4.setCell ⟨bx, 0, none⟩ (.slice b4 lb4 cb4)).setCell ⟨bx, 1, none⟩ (.slice d4 ld4 cd4)).setCell ⟨bx, 2, none⟩ (.int .i64 (rmQ ps ns t 0 k))).setCell ⟨bx, 3, none⟩ (.int .i64 (rmT ps ns t 0 k))) (w.heap.size + 1) b4 lb4 cb4 (rmS ps ns t 0 k) ∧ Fit ((((w4.setCell ⟨bx, 0, none⟩ (.slice b4 lb4 cb4)).setCell ⟨bx, 1, none⟩ (.slice d4 ld4 cd4)).setCell ⟨bx, 2, none⟩ (.int .i64 (rmQ ps ns t 0 k))).setCell ⟨bx, 3, none⟩ (.int .i64 (rmT ps ns t 0 k))) (w.heap.size + 1) d4 ld4 cd4 (rmC ps ns t 0 k) ∧ Apart b4 d4) :=
      ⟨left_putsM (left_all H3.out.1 B4 hp) hp (by omega) _ _ _ _, ((((H3.out.2.1.all B4).past (by omega) _).past (by omega) _).past (by omega) _).past (by omega) _, (((P4.set0 _).set1 _).set2 _).set3 _, (SFit.mono (base' := w.heap.size + 1) F4 (by omega)).still (fun x hx => set4_still (F4.ge hx).2 (by have := (F4.ge hx).1; omega)), (Fit.mono (base' := w.heap.size + 1) G4 (by omega)).still (fun x hx => set4_still (G4.ge hx).2 (by have := (G4.ge hx).1; omega)), D4⟩
    clear q0 q1 q2 q3 f0 f1 f2 f3 P4 B4 F4 G4 D4 H3 H2 rp
    generalize (((w4.setCell ⟨bx, 0, none⟩ (.slice b4 lb4 cb4)).setCell ⟨bx, 1, none⟩ (.slice d4 ld4 cd4)).setCell ⟨bx, 2, none⟩ (.int .i64 (rmQ ps ns t 0 k))).setCell ⟨bx, 3, none⟩ (.int .i64 (rmT ps ns t 0 k)) = w5 at *
    have q0 := H5.out.2.2.1.c0
    have q1 := H5.out.2.2.1.c1
    have q2 := H5.out.2.2.1.c2
    have q3 := H5.out.2.2.1.c3
    have p0 := H5.out.2.1.c0
    have p1 := H5.out.2.1.c1
    have p2 := H5.out.2.1.c2
    have p3 := H5.out.2.1.c3
    have f0 := H5.out.2.1.fr 0
    have f1 := H5.out.2.1.fr 1
    have f2 := H5.out.2.1.fr 2
    have f3 := H5.out.2.1.fr 3
    go_wp2_with fail
    refine bodyPost_ret (ret_mny rfl rfl ((((H5.out.2.1.set0 _).set1 _).set2 _).set3 _)) rfl ?_
    exact ⟨_, _, _, _, _, _, _, _, _, _, rfl, (SFit.mono H5.out.2.2.2.1 (by omega)).still (fun x hx => set4_still (H5.out.2.2.2.1.ge hx).2 (by have := (H5.out.2.2.2.1.ge hx).1; omega)), (Fit.mono H5.out.2.2.2.2.1 (by omega)).still (fun x hx => set4_still (H5.out.2.2.2.2.1.ge hx).2 (by have := (H5.out.2.2.2.2.1.ge hx).1; omega)), H5.out.2.2.2.2.2, hlb4, hld4, left_putsM H5.out.1 hp (Nat.le_refl _) _ _ _ _⟩

set_option maxHeartbeats 4000000 in
set_option maxRecDepth 100000 in
theorem draw_any_many (T : TypeId) (p : Nat) (a : Option Addr) (len cap : Nat) (w : World) (C : Cur .i64 T p a len cap w) :
    Calls Tryz.prog 35 #[.pointer (some ⟨p, 0, none⟩)] w (DrawPostM T p a len cap w) := by
  obtain ⟨i0, hi, hz0, hz1, hz2⟩ := info_parts info_int
  have hp := C.lt
  have HC : Hid (Cur .i64 T p a len cap w) := C
  have H0 : Hid (Left .i64 T p a len cap w (w.alloc (.cells #[.slice none 0 0, .slice none 0 0, .int .i64 0, .int .i64 0] 27)) ∧ Mny (w.alloc (.cells #[.slice none 0 0, .slice none 0 0, .int .i64 0, .int .i64 0] 27)) w.heap.size (.slice none 0 0) (.slice none 0 0) 0 0) := ⟨left_all (Left.refl C) (below_new _ _) hp, mny_new _ _ _ _ _⟩
  have hz : (w.alloc (.cells #[.slice none 0 0, .slice none 0 0, .int .i64 0, .int .i64 0] 27)).heap.size = w.heap.size + 1 := by simp
  clear C
  go_enter Tryz.func35, Tryz.ntmps35
  go_wp2_with fail
  refine (draw_many T p a len cap _ (H0.out.1.cur HC.out)).mono ?_
  rintro e w1 ⟨b, lb, cb, d, ld, cd, ps, ns, t, q, rfl, Fb, Fd, D, hlb, hld, L1⟩
  rw [hz] at Fb Fd
  have H1 : Hid (DM T p a len cap w (w1.alloc (.cells #[.slice b lb cb, .slice d ld cd, .int .i64 t, .int .i64 q] 27)) w1.heap.size b lb cb d ld cd ps ns t q) :=
    ⟨left_all (H0.out.1.trans L1) (below_new _ _) hp, (Mny.left H0.out.2 L1 (by omega)).alloc _, mny_new _ _ _ _ _, Fb.all (below_new _ _), Fd.all (below_new _ _), D, (Mny.left H0.out.2 L1 (by omega)).lt, fun x hx => Nat.ne_of_lt (Fb.ge hx).2, fun x hx => Nat.ne_of_lt (Fd.ge hx).2, by omega, by omega⟩
  clear H0 hz Fb Fd D L1
  go_wp2_with fail
  generalize w1.alloc (.cells #[.slice b lb cb, .slice d ld cd, .int .i64 t, .int .i64 q] 27) = W1 at *
  generalize w1.heap.size = bx at *
  refine (once_any T p a len cap _ _ (H1.out.left.cur HC.out)).mono ?_
  rintro e w2 ⟨tt, rfl, L2⟩
  have H2 : Hid (DM T p a len cap w w2 bx b lb cb d ld cd ps ns t q) := H1.out.draw hp L2
  clear L2 H1
  cases tt
  · skip
    have q0 := H2.out.var.c0
    have q1 := H2.out.var.c1
    have q2 := H2.out.var.c2
    have q3 := H2.out.var.c3
    have p0 := H2.out.res.c0
    have p1 := H2.out.res.c1
    have p2 := H2.out.res.c2
    have p3 := H2.out.res.c3
    have e0 := H2.out.res.fr 0
    have e1 := H2.out.res.fr 1
    have e2 := H2.out.res.fr 2
    have e3 := H2.out.res.fr 3
    go_wp2_with fail
    refine bodyPost_ret (ret_mny rfl rfl ((((H2.out.res.set0 _).set1 _).set2 _).set3 _)) rfl ?_
    exact H2.out.done hp
  by_cases hl0 : ld = 0
  · have hd0 : decide ((0 : Int) < (ld : Int)) = false := decide_eq_false (by omega)
    have hd1 : decide (0 < ld) = false := decide_eq_false (by omega)
    clear hl0
    have q0 := H2.out.var.c0
    have q1 := H2.out.var.c1
    have q2 := H2.out.var.c2
    have q3 := H2.out.var.c3
    have p0 := H2.out.res.c0
    have p1 := H2.out.res.c1
    have p2 := H2.out.res.c2
    have p3 := H2.out.res.c3
    have e0 := H2.out.res.fr 0
    have e1 := H2.out.res.fr 1
    have e2 := H2.out.res.fr 2
    have e3 := H2.out.res.fr 3
    go_wp2_with fail
    refine bodyPost_ret (ret_mny rfl rfl ((((H2.out.res.set0 _).set1 _).set2 _).set3 _)) rfl ?_
    exact H2.out.done hp
  have hl2 : 0 < ld := by omega
  have hl2' : (0 : Int) < (ld : Int) := by omega
  obtain ⟨g, rfl⟩ : ∃ g, d = some ⟨g, 0, none⟩ := by
    rcases H2.out.cnt.2 with ⟨h, _⟩ | ⟨g, h, _⟩
    · omega
    · exact ⟨g, h⟩
  have v1 := H2.out.var.c1
  go_wp2_with fail
  clear v1
  refine (below_any T p a len cap _ _ (H2.out.left.cur HC.out)).mono ?_
  rintro e w3 ⟨x, rfl, x0, x1, _, L3⟩
  have hx5 : x < 5 := x1 (by omega)
  have H3 : Hid (DM T p a len cap w w3 bx b lb cb (some ⟨g, 0, none⟩) ld cd ps ns t q) := H2.out.draw hp L3
  clear L3 H2 x1
  have ng1 : ¬ bx = g := by have := H3.out.nd _ rfl; simp at this; omega
  have ng2 : ¬ g = bx := by omega
  have hx : x = 0 ∨ x = 1 ∨ x = 2 ∨ x = 3 ∨ x = 4 := by omega
  rcases hx with rfl | rfl | rfl | rfl | rfl
  · go_wp2_with fail
    refine (num_any T p a len cap _ _ (H3.out.left.cur HC.out)).mono ?_
    rintro e w4 ⟨y, rfl, L4⟩
    have H4 : Hid (DM T p a len cap w w4 bx b lb cb (some ⟨g, 0, none⟩) ld cd ps ns t q) := H3.out.draw hp L4
    have q3 := H4.out.var.c3
    have f3 := H4.out.var.fr 3
    have H5 : Hid (DM T p a len cap w (w4.setCell ⟨bx, 3, none⟩ (.int .i64 y)) bx b lb cb (some ⟨g, 0, none⟩) ld cd ps ns t y) := H4.out.now hp y
    clear L4 H3
    go_upto_region 14 with fail
    clear q3 f3 H4
    generalize w4.setCell ⟨bx, 3, none⟩ (.int .i64 y) = w5 at *
    have q0 := H5.out.var.c0
    have q1 := H5.out.var.c1
    have q2 := H5.out.var.c2
    have q3 := H5.out.var.c3
    have p0 := H5.out.res.c0
    have p1 := H5.out.res.c1
    have p2 := H5.out.res.c2
    have p3 := H5.out.res.c3
    have e0 := H5.out.res.fr 0
    have e1 := H5.out.res.fr 1
    have e2 := H5.out.res.fr 2
    have e3 := H5.out.res.fr 3
    go_wp2_with fail
    refine bodyPost_ret (ret_mny rfl rfl ((((H5.out.res.set0 _).set1 _).set2 _).set3 _)) rfl ?_
    exact H5.out.done hp
  · have q1 := H3.out.var.c1
    go_wp2_with fail
    go_region_held3 (fun w' => w'.cell? ⟨bx, 1, none⟩ = some (.slice (some ⟨g, 0, none⟩) ld cd)) (go_keep) ((go_at_call 61; refine (num_any T p a len cap _ _ (H3.out.drawn.left.cur HC.out)).mono ?_; rintro e w4 ⟨y, rfl, L4⟩; have H4 : Hid (DM T p a len cap w w4 bx b lb cb (some ⟨g, 0, none⟩) ld cd ps ns t q) := H3.out.drawn.draw hp L4; have q1 := H4.out.var.c1; have f4 := H4.out.row.1.frozen 0; obtain ⟨z, c4⟩ : ∃ z, w4.cell? ⟨g, 0, none⟩ = some (.int .i64 z) := ⟨_, H4.out.row.1.cell (j := 0) (by rw [H4.out.row.2]; exact hl2)⟩; clear L4))
    have H5 : Hid (DM T p a len cap w (w4.setCell ⟨g, 0, none⟩ (.int .i64 y)) bx b lb cb (some ⟨g, 0, none⟩) ld cd ps (ns.set 0 y) t q) := H4.out.set hp 0 y
    clear q1 f4 c4 H4 H3
    generalize w4.setCell ⟨g, 0, none⟩ (.int .i64 y) = w5 at *
    have q0 := H5.out.var.c0
    have q1 := H5.out.var.c1
    have q2 := H5.out.var.c2
    have q3 := H5.out.var.c3
    have p0 := H5.out.res.c0
    have p1 := H5.out.res.c1
    have p2 := H5.out.res.c2
    have p3 := H5.out.res.c3
    have e0 := H5.out.res.fr 0
    have e1 := H5.out.res.fr 1
    have e2 := H5.out.res.fr 2
    have e3 := H5.out.res.fr 3
    go_wp2_with fail
    refine bodyPost_ret (ret_mny rfl rfl ((((H5.out.res.set0 _).set1 _).set2 _).set3 _)) rfl ?_
    exact H5.out.done hp
  · go_wp2_with fail
    refine (num_any T p a len cap _ _ (H3.out.left.cur HC.out)).mono ?_
    rintro e w4 ⟨y, rfl, L4⟩
    have H4 : Hid (DM T p a len cap w w4 bx b lb cb (some ⟨g, 0, none⟩) ld cd ps ns t q) := H3.out.draw hp L4
    have q3 := H4.out.var.c2
    have f3 := H4.out.var.fr 2
    have H5 : Hid (DM T p a len cap w (w4.setCell ⟨bx, 2, none⟩ (.int .i64 y)) bx b lb cb (some ⟨g, 0, none⟩) ld cd ps ns y q) := H4.out.procs hp y
    clear L4 H3
    go_upto_region 14 with fail
    clear q3 f3 H4
    generalize w4.setCell ⟨bx, 2, none⟩ (.int .i64 y) = w5 at *
    have q0 := H5.out.var.c0
    have q1 := H5.out.var.c1
    have q2 := H5.out.var.c2
    have q3 := H5.out.var.c3
    have p0 := H5.out.res.c0
    have p1 := H5.out.res.c1
    have p2 := H5.out.res.c2
    have p3 := H5.out.res.c3
    have e0 := H5.out.res.fr 0
    have e1 := H5.out.res.fr 1
    have e2 := H5.out.res.fr 2
    have e3 := H5.out.res.fr 3
    go_wp2_with fail
    refine bodyPost_ret (ret_mny rfl rfl ((((H5.out.res.set0 _).set1 _).set2 _).set3 _)) rfl ?_
    exact H5.out.done hp
  · have q1 := H3.out.var.c1
    have f1 := H3.out.var.fr 1
    have hns := H3.out.row.2
    have hgw : g < w3.heap.size := H3.out.row.1.lt
    have hbw : bx < w3.heap.size := H3.out.var.lt
    go_wp2_with (at_builtin; refine wpList_append_ints rfl (.tmp 36) (.tmp 37) 25 rfl i0 Tryz.underlying25 hi hz0 hz1 hz2 _ _ _ ns rfl hns.symm (H3.out.row.1.alloc _) _ _ _ [(0 : Int)] rfl (ints_one _ _ _) (by omega) ?_)
    intro g4 c4 w4 R4 G4 D4
    have D4' : g4 = g ∨ g4 = w3.heap.size + 1 := by simpa using D4
    have H5 : Hid (DM T p a len cap w (w4.setCell ⟨bx, 1, none⟩ (.slice (some ⟨g4, 0, none⟩) (ld + 1) c4)) bx b lb cb (some ⟨g4, 0, none⟩) (ld + 1) c4 ps (ns ++ [0]) t q) := H3.out.more hp hld R4 G4 D4'
    have V4 : Mny w4 bx (.slice b lb cb) (.slice (some ⟨g, 0, none⟩) ld cd) t q := (H3.out.var.alloc _).other G4 (by simp; omega)
    clear q1 f1 R4 G4 D4 D4' H3
    have q1 := V4.c1
    have f1 := V4.fr 1
    go_upto_region 14 with fail
    clear q1 f1 V4
    generalize w4.setCell ⟨bx, 1, none⟩ (.slice (some ⟨g4, 0, none⟩) (ld + 1) c4) = w5 at *
    have q0 := H5.out.var.c0
    have q1 := H5.out.var.c1
    have q2 := H5.out.var.c2
    have q3 := H5.out.var.c3
    have p0 := H5.out.res.c0
    have p1 := H5.out.res.c1
    have p2 := H5.out.res.c2
    have p3 := H5.out.res.c3
    have e0 := H5.out.res.fr 0
    have e1 := H5.out.res.fr 1
    have e2 := H5.out.res.fr 2
    have e3 := H5.out.res.fr 3
    go_wp2_with fail
    refine bodyPost_ret (ret_mny rfl rfl ((((H5.out.res.set0 _).set1 _).set2 _).set3 _)) rfl ?_
    exact H5.out.done hp
  · have q1 := H3.out.var.c1
    go_wp2_with fail
    go_region_held3 (fun w' => w'.cell? ⟨bx, 1, none⟩ = some (.slice (some ⟨g, 0, none⟩) ld cd)) (go_keep) ((go_at_call 47; refine (below_any T p a len cap _ _ (H3.out.drawn.left.cur HC.out)).mono ?_; rintro e w4 ⟨y, rfl, _, _, _, L4⟩; have H4 : Hid (DM T p a len cap w w4 bx b lb cb (some ⟨g, 0, none⟩) ld cd ps ns t q) := H3.out.drawn.draw hp L4; have q1 := H4.out.var.c1; have f4 := H4.out.row.1.frozen 0; obtain ⟨z, c4⟩ : ∃ z, w4.cell? ⟨g, 0, none⟩ = some (.int .i64 z) := ⟨_, H4.out.row.1.cell (j := 0) (by rw [H4.out.row.2]; exact hl2)⟩; clear L4))
    have H5 : Hid (DM T p a len cap w (w4.setCell ⟨g, 0, none⟩ (.int .i64 y)) bx b lb cb (some ⟨g, 0, none⟩) ld cd ps (ns.set 0 y) t q) := H4.out.set hp 0 y
    clear q1 f4 c4 H4 H3
    generalize w4.setCell ⟨g, 0, none⟩ (.int .i64 y) = w5 at *
    have q0 := H5.out.var.c0
    have q1 := H5.out.var.c1
    have q2 := H5.out.var.c2
    have q3 := H5.out.var.c3
    have p0 := H5.out.res.c0
    have p1 := H5.out.res.c1
    have p2 := H5.out.res.c2
    have p3 := H5.out.res.c3
    have e0 := H5.out.res.fr 0
    have e1 := H5.out.res.fr 1
    have e2 := H5.out.res.fr 2
    have e3 := H5.out.res.fr 3
    go_wp2_with fail
    refine bodyPost_ret (ret_mny rfl rfl ((((H5.out.res.set0 _).set1 _).set2 _).set3 _)) rfl ?_
    exact H5.out.done hp

set_option maxHeartbeats 4000000 in
theorem drawManyRun_any (a : Option Addr) (len cap : Nat) (w : World) (B : Bytes w a len) (ht : len ≤ 9223372036854775806) :
    Calls Tryz.prog 7 #[.slice a len cap] w fun e w' => ∃ b lb cb d ld cd ps ns t q n, e = .returned (.tuple #[mv (.slice b lb cb) (.slice d ld cd) t q, .int .i64 n]) ∧ SFit w' w.heap.size b lb cb ps ∧ Fit w' w.heap.size d ld cd ns ∧ Apart b d ∧ (lb : Int) ≤ 30 ∧ (ld : Int) ≤ 30 ∧ Below w.heap.size w w' := by
  have N0 := below_new w (.cells #[.slice none 0 0, .slice none 0 0, .int .i64 0, .int .i64 0] 27)
  have B0 := B.grown N0
  have H0 : Hid (Below w.heap.size w (w.alloc (.cells #[.slice none 0 0, .slice none 0 0, .int .i64 0, .int .i64 0] 27)) ∧ Mny (w.alloc (.cells #[.slice none 0 0, .slice none 0 0, .int .i64 0, .int .i64 0] 27)) w.heap.size (.slice none 0 0) (.slice none 0 0) 0 0) := ⟨N0, mny_new _ _ _ _ _⟩
  have HZ : Hid ((w.alloc (.cells #[.slice none 0 0, .slice none 0 0, .int .i64 0, .int .i64 0] 27)).heap.size = w.heap.size + 1) := by show _ = _; simp
  clear N0
  go_enter Tryz.func7, Tryz.ntmps7
  go_wp2_with fail
  generalize w.alloc (.cells #[.slice none 0 0, .slice none 0 0, .int .i64 0, .int .i64 0] 27) = W0 at H0 B0 HZ ⊢
  refine (new_any a len cap _ B0 ht).mono ?_
  rintro e w1 ⟨rfl, h, rfl⟩
  have C1 := cur_new (k := .i64) (T := 82) (cap := cap) B0 ht h
  have HC : Hid (Cur .i64 82 W0.heap.size a len cap (W0.alloc (.cells #[.slice a len cap, .int .i64 0, .int .i64 h] 82))) := C1
  clear B B0 C1
  go_wp2_with fail
  refine (draw_any_many _ _ a len cap _ HC.out).mono ?_
  unfold DrawPostM
  rintro e w2 ⟨b, lb, cb, d, ld, cd, ps, ns, t, q, rfl, Fb, Fd, D, hlb, hld, L2⟩
  have hz := HZ.out
  have hs : (W0.alloc (.cells #[.slice a len cap, .int .i64 0, .int .i64 h] 82)).heap.size = W0.heap.size + 1 := by simp
  rw [hs] at Fb Fd
  have P2 := Mny.left (H0.out.2.alloc (.cells #[.slice a len cap, .int .i64 0, .int .i64 h] 82)) L2 (by omega)
  have l2 := P2.lt
  have i1 : w.heap.size < W0.heap.size := by omega
  have i2 : W0.heap.size < w.heap.size + 2 := by omega
  have s2 : W0.heap.size + 1 ≤ w2.heap.size := by
    have := L2.1.size
    rw [hs] at this
    exact this
  have H2 : Hid (Left .i64 82 W0.heap.size a len cap (W0.alloc (.cells #[.slice a len cap, .int .i64 0, .int .i64 h] 82)) (w2.alloc (.cells #[.slice b lb cb, .slice d ld cd, .int .i64 t, .int .i64 q] 27)) ∧ Mny (w2.alloc (.cells #[.slice b lb cb, .slice d ld cd, .int .i64 t, .int .i64 q] 27)) w.heap.size (.slice none 0 0) (.slice none 0 0) 0 0 ∧ SFit (w2.alloc (.cells #[.slice b lb cb, .slice d ld cd, .int .i64 t, .int .i64 q] 27)) (w.heap.size + 2) b lb cb ps ∧ Fit (w2.alloc (.cells #[.slice b lb cb, .slice d ld cd, .int .i64 t, .int .i64 q] 27)) (w.heap.size + 2) d ld cd ns ∧ Mny (w2.alloc (.cells #[.slice b lb cb, .slice d ld cd, .int .i64 t, .int .i64 q] 27)) w2.heap.size (.slice b lb cb) (.slice d ld cd) t q) :=
    ⟨left_all L2 (below_new _ _) (by rw [hs]; omega), P2.alloc _, (SFit.mono Fb (by omega)).all (below_new _ _), (Fit.mono Fd (by omega)).all (below_new _ _), mny_new _ _ _ _ _⟩
  have HA : Hid (Apart b d) := D
  clear Fb Fd L2 P2 hz hs D
  go_wp2_with fail
  generalize w2.alloc (.cells #[.slice b lb cb, .slice d ld cd, .int .i64 t, .int .i64 q] 27) = W2 at *
  generalize w2.heap.size = bx at *
  have n1 : ¬ w.heap.size = bx := by omega
  have n2 : ¬ bx = w.heap.size := by omega
  have v0 := H2.out.2.2.2.2.c0
  have v1 := H2.out.2.2.2.2.c1
  have v2 := H2.out.2.2.2.2.c2
  have v3 := H2.out.2.2.2.2.c3
  have p0 := H2.out.2.1.c0
  have p1 := H2.out.2.1.c1
  have p2 := H2.out.2.1.c2
  have p3 := H2.out.2.1.c3
  have f0 := H2.out.2.1.fr 0
  have f1 := H2.out.2.1.fr 1
  have f2 := H2.out.2.1.fr 2
  have f3 := H2.out.2.1.fr 3
  go_region_held3 (fun w' => w'.cell? ⟨bx, 0, none⟩ = some (.slice b lb cb) ∧ w'.cell? ⟨bx, 1, none⟩ = some (.slice d ld cd) ∧ w'.cell? ⟨bx, 2, none⟩ = some (.int .i64 t) ∧ w'.cell? ⟨bx, 3, none⟩ = some (.int .i64 q)) (go_keep) ((go_at_call 36; refine (draw_steps _ _ a len cap _ ((left_drawn H2.out.1).cur HC.out)).mono ?_; rintro e w3 ⟨n, rfl, L3⟩; have H3 : Hid (Below w.heap.size w w3 ∧ Mny w3 w.heap.size (.slice none 0 0) (.slice none 0 0) 0 0 ∧ SFit w3 (w.heap.size + 2) b lb cb ps ∧ Fit w3 (w.heap.size + 2) d ld cd ns ∧ Mny w3 bx (.slice b lb cb) (.slice d ld cd) t q) := ⟨below_call H0.out.1 H0.out.1.size (new_below ((left_drawn H2.out.1).trans L3)), Mny.left (w := W2.drew) H2.out.2.1 L3 (by omega), SFit.left (H2.out.2.2.1.all ((Below.refl _ _).drew)) L3 (by omega), Fit.left (H2.out.2.2.2.1.all ((Below.refl _ _).drew)) L3 (by omega), Mny.left (w := W2.drew) H2.out.2.2.2.2 L3 (by omega)⟩; have v0 := H3.out.2.2.2.2.c0; have v1 := H3.out.2.2.2.2.c1; have v2 := H3.out.2.2.2.2.c2; have v3 := H3.out.2.2.2.2.c3; have p0 := H3.out.2.1.c0; have p1 := H3.out.2.1.c1; have p2 := H3.out.2.1.c2; have p3 := H3.out.2.1.c3; have f0 := H3.out.2.1.fr 0; have f1 := H3.out.2.1.fr 1; have f2 := H3.out.2.1.fr 2; have f3 := H3.out.2.1.fr 3; have m3 := H3.out.2.1.lt; clear L3))
  all_goals
    go_wp2_with fail
    refine bodyPost_ret (ret_mny2 rfl rfl rfl ((((H3.out.2.1.set0 _).set1 _).set2 _).set3 _)) rfl ?_
    exact ⟨_, _, _, _, _, _, _, _, _, _, _, rfl, (SFit.mono H3.out.2.2.1 (by omega)).still (fun x hx => set4_still (H3.out.2.2.1.ge hx).2 (by have := (H3.out.2.2.1.ge hx).1; omega)), (Fit.mono H3.out.2.2.2.1 (by omega)).still (fun x hx => set4_still (H3.out.2.2.2.1.ge hx).2 (by have := (H3.out.2.2.2.1.ge hx).1; omega)), HA.out, hlb, hld, below_set (below_set (below_set (below_set H3.out.1 (Nat.le_refl _) _) (Nat.le_refl _) _) (Nat.le_refl _) _) (Nat.le_refl _) _⟩

set_option maxHeartbeats 4000000 in
theorem drawManyNext_any (a : Option Addr) (len cap : Nat) (w : World) (B : Bytes w a len) (ht : len ≤ 9223372036854775806) :
    Calls Tryz.prog 10 #[.slice a len cap] w fun e w' => ∃ b lb cb d ld cd ps ns t q, e = .returned (mv (.slice b lb cb) (.slice d ld cd) t q) ∧ SFit w' w.heap.size b lb cb ps ∧ Fit w' w.heap.size d ld cd ns ∧ Apart b d ∧ (lb : Int) ≤ 30 ∧ (ld : Int) ≤ 30 ∧ Below w.heap.size w w' := by
  have N0 := below_new w (.cells #[.slice none 0 0, .slice none 0 0, .int .i64 0, .int .i64 0] 27)
  have B0 := B.grown N0
  have H0 : Hid (Below w.heap.size w (w.alloc (.cells #[.slice none 0 0, .slice none 0 0, .int .i64 0, .int .i64 0] 27)) ∧ Mny (w.alloc (.cells #[.slice none 0 0, .slice none 0 0, .int .i64 0, .int .i64 0] 27)) w.heap.size (.slice none 0 0) (.slice none 0 0) 0 0) := ⟨N0, mny_new _ _ _ _ _⟩
  have HZ : Hid ((w.alloc (.cells #[.slice none 0 0, .slice none 0 0, .int .i64 0, .int .i64 0] 27)).heap.size = w.heap.size + 1) := by show _ = _; simp
  clear N0
  go_enter Tryz.func10, Tryz.ntmps10
  go_wp2_with fail
  generalize w.alloc (.cells #[.slice none 0 0, .slice none 0 0, .int .i64 0, .int .i64 0] 27) = W0 at H0 B0 HZ ⊢
  refine (new_any a len cap _ B0 ht).mono ?_
  rintro e w1 ⟨rfl, h, rfl⟩
  have C1 := cur_new (k := .i64) (T := 82) (cap := cap) B0 ht h
  have HC : Hid (Cur .i64 82 W0.heap.size a len cap (W0.alloc (.cells #[.slice a len cap, .int .i64 0, .int .i64 h] 82))) := C1
  clear B B0 C1
  go_wp2_with fail
  refine (draw_any_many _ _ a len cap _ HC.out).mono ?_
  unfold DrawPostM
  rintro e w2 ⟨b, lb, cb, d, ld, cd, ps, ns, t, q, rfl, Fb, Fd, D, hlb, hld, L2⟩
  have hz := HZ.out
  have hs : (W0.alloc (.cells #[.slice a len cap, .int .i64 0, .int .i64 h] 82)).heap.size = W0.heap.size + 1 := by simp
  rw [hs] at Fb Fd
  have P2 := Mny.left (H0.out.2.alloc (.cells #[.slice a len cap, .int .i64 0, .int .i64 h] 82)) L2 (by omega)
  have l2 := P2.lt
  have i1 : w.heap.size < W0.heap.size := by omega
  have i2 : W0.heap.size < w.heap.size + 2 := by omega
  have s2 : W0.heap.size + 1 ≤ w2.heap.size := by
    have := L2.1.size
    rw [hs] at this
    exact this
  have H2 : Hid (Below w.heap.size w w2 ∧ Mny w2 w.heap.size (.slice none 0 0) (.slice none 0 0) 0 0 ∧ SFit w2 (w.heap.size + 2) b lb cb ps ∧ Fit w2 (w.heap.size + 2) d ld cd ns) :=
    ⟨below_call H0.out.1 H0.out.1.size (new_below L2), P2, SFit.mono Fb (by omega), Fit.mono Fd (by omega)⟩
  have HA : Hid (Apart b d) := D
  clear Fb Fd L2 P2 hz hs D
  have p0 := H2.out.2.1.c0
  have p1 := H2.out.2.1.c1
  have p2 := H2.out.2.1.c2
  have p3 := H2.out.2.1.c3
  have f0 := H2.out.2.1.fr 0
  have f1 := H2.out.2.1.fr 1
  have f2 := H2.out.2.1.fr 2
  have f3 := H2.out.2.1.fr 3
  go_wp2_with fail
  refine bodyPost_ret (ret_mny rfl rfl ((((H2.out.2.1.set0 _).set1 _).set2 _).set3 _)) rfl ?_
  exact ⟨_, _, _, _, _, _, _, _, _, _, rfl, (SFit.mono H2.out.2.2.1 (by omega)).still (fun x hx => set4_still (H2.out.2.2.1.ge hx).2 (by have := (H2.out.2.2.1.ge hx).1; omega)), (Fit.mono H2.out.2.2.2 (by omega)).still (fun x hx => set4_still (H2.out.2.2.2.ge hx).2 (by have := (H2.out.2.2.2.ge hx).1; omega)), HA.out, hlb, hld, below_set (below_set (below_set (below_set H2.out.1 (Nat.le_refl _) _) (Nat.le_refl _) _) (Nat.le_refl _) _) (Nat.le_refl _) _⟩

set_option maxHeartbeats 4000000 in
theorem drawManyLag_any (a : Option Addr) (len cap : Nat) (w : World) (B : Bytes w a len) (ht : len ≤ 9223372036854775806) :
    Calls Tryz.prog 13 #[.slice a len cap] w fun e w' => ∃ b lb cb d ld cd ps ns t q i, e = .returned (.tuple #[mv (.slice b lb cb) (.slice d ld cd) t q, .int .i64 i]) ∧ SFit w' w.heap.size b lb cb ps ∧ Fit w' w.heap.size d ld cd ns ∧ Apart b d ∧ (lb : Int) ≤ 30 ∧ (ld : Int) ≤ 30 ∧ Below w.heap.size w w' := by
  have N0 := below_new w (.cells #[.slice none 0 0, .slice none 0 0, .int .i64 0, .int .i64 0] 27)
  have B0 := B.grown N0
  have H0 : Hid (Below w.heap.size w (w.alloc (.cells #[.slice none 0 0, .slice none 0 0, .int .i64 0, .int .i64 0] 27)) ∧ Mny (w.alloc (.cells #[.slice none 0 0, .slice none 0 0, .int .i64 0, .int .i64 0] 27)) w.heap.size (.slice none 0 0) (.slice none 0 0) 0 0) := ⟨N0, mny_new _ _ _ _ _⟩
  have HZ : Hid ((w.alloc (.cells #[.slice none 0 0, .slice none 0 0, .int .i64 0, .int .i64 0] 27)).heap.size = w.heap.size + 1) := by show _ = _; simp
  clear N0
  go_enter Tryz.func13, Tryz.ntmps13
  go_wp2_with fail
  generalize w.alloc (.cells #[.slice none 0 0, .slice none 0 0, .int .i64 0, .int .i64 0] 27) = W0 at H0 B0 HZ ⊢
  refine (new_any a len cap _ B0 ht).mono ?_
  rintro e w1 ⟨rfl, h, rfl⟩
  have C1 := cur_new (k := .i64) (T := 82) (cap := cap) B0 ht h
  have HC : Hid (Cur .i64 82 W0.heap.size a len cap (W0.alloc (.cells #[.slice a len cap, .int .i64 0, .int .i64 h] 82))) := C1
  clear B B0 C1
  go_wp2_with fail
  refine (draw_any_many _ _ a len cap _ HC.out).mono ?_
  unfold DrawPostM
  rintro e w2 ⟨b, lb, cb, d, ld, cd, ps, ns, t, q, rfl, Fb, Fd, D, hlb, hld, L2⟩
  have hz := HZ.out
  have hs : (W0.alloc (.cells #[.slice a len cap, .int .i64 0, .int .i64 h] 82)).heap.size = W0.heap.size + 1 := by simp
  rw [hs] at Fb Fd
  have P2 := Mny.left (H0.out.2.alloc (.cells #[.slice a len cap, .int .i64 0, .int .i64 h] 82)) L2 (by omega)
  have l2 := P2.lt
  have i1 : w.heap.size < W0.heap.size := by omega
  have i2 : W0.heap.size < w.heap.size + 2 := by omega
  have s2 : W0.heap.size + 1 ≤ w2.heap.size := by
    have := L2.1.size
    rw [hs] at this
    exact this
  have H2 : Hid (Left .i64 82 W0.heap.size a len cap (W0.alloc (.cells #[.slice a len cap, .int .i64 0, .int .i64 h] 82)) (w2.alloc (.cells #[.slice b lb cb, .slice d ld cd, .int .i64 t, .int .i64 q] 27)) ∧ Mny (w2.alloc (.cells #[.slice b lb cb, .slice d ld cd, .int .i64 t, .int .i64 q] 27)) w.heap.size (.slice none 0 0) (.slice none 0 0) 0 0 ∧ SFit (w2.alloc (.cells #[.slice b lb cb, .slice d ld cd, .int .i64 t, .int .i64 q] 27)) (w.heap.size + 2) b lb cb ps ∧ Fit (w2.alloc (.cells #[.slice b lb cb, .slice d ld cd, .int .i64 t, .int .i64 q] 27)) (w.heap.size + 2) d ld cd ns ∧ Mny (w2.alloc (.cells #[.slice b lb cb, .slice d ld cd, .int .i64 t, .int .i64 q] 27)) w2.heap.size (.slice b lb cb) (.slice d ld cd) t q) :=
    ⟨left_all L2 (below_new _ _) (by rw [hs]; omega), P2.alloc _, (SFit.mono Fb (by omega)).all (below_new _ _), (Fit.mono Fd (by omega)).all (below_new _ _), mny_new _ _ _ _ _⟩
  have HA : Hid (Apart b d) := D
  clear Fb Fd L2 P2 hz hs D
  go_wp2_with fail
  generalize w2.alloc (.cells #[.slice b lb cb, .slice d ld cd, .int .i64 t, .int .i64 q] 27) = W2 at *
  generalize w2.heap.size = bx at *
  have n1 : ¬ w.heap.size = bx := by omega
  have n2 : ¬ bx = w.heap.size := by omega
  refine (once_any _ _ a len cap _ _ (H2.out.1.cur HC.out)).mono ?_
  rintro e w2' ⟨tt, rfl, L3⟩
  have H4 : Hid (Left .i64 82 W0.heap.size a len cap (W0.alloc (.cells #[.slice a len cap, .int .i64 0, .int .i64 h] 82)) w2' ∧ Mny w2' w.heap.size (.slice none 0 0) (.slice none 0 0) 0 0 ∧ SFit w2' (w.heap.size + 2) b lb cb ps ∧ Fit w2' (w.heap.size + 2) d ld cd ns ∧ Mny w2' bx (.slice b lb cb) (.slice d ld cd) t q) := ⟨H2.out.1.trans L3, Mny.left H2.out.2.1 L3 (by omega), SFit.left H2.out.2.2.1 L3 (by omega), Fit.left H2.out.2.2.2.1 L3 (by omega), Mny.left H2.out.2.2.2.2 L3 (by omega)⟩
  clear L3 H2
  have v0 := H4.out.2.2.2.2.c0
  have v1 := H4.out.2.2.2.2.c1
  have v2 := H4.out.2.2.2.2.c2
  have v3 := H4.out.2.2.2.2.c3
  have p0 := H4.out.2.1.c0
  have p1 := H4.out.2.1.c1
  have p2 := H4.out.2.1.c2
  have p3 := H4.out.2.1.c3
  have f0 := H4.out.2.1.fr 0
  have f1 := H4.out.2.1.fr 1
  have f2 := H4.out.2.1.fr 2
  have f3 := H4.out.2.1.fr 3
  cases tt
  · go_wp2_with fail
    go_region_held3 (fun w' => w'.cell? ⟨bx, 0, none⟩ = some (.slice b lb cb) ∧ w'.cell? ⟨bx, 1, none⟩ = some (.slice d ld cd) ∧ w'.cell? ⟨bx, 2, none⟩ = some (.int .i64 t) ∧ w'.cell? ⟨bx, 3, none⟩ = some (.int .i64 q)) (go_keep) (first | (go_at_call 48; refine (max_two lb 1 _).mono ?_; rintro e w9 ⟨rfl, rfl⟩) | (go_at_call 47; refine (below_any _ _ a len cap _ _ ((left_drawn H4.out.1).cur HC.out)).mono ?_; rintro e w3 ⟨n, rfl, _, _, _, L3⟩; have H3 : Hid (Below w.heap.size w w3 ∧ Mny w3 w.heap.size (.slice none 0 0) (.slice none 0 0) 0 0 ∧ SFit w3 (w.heap.size + 2) b lb cb ps ∧ Fit w3 (w.heap.size + 2) d ld cd ns ∧ Mny w3 bx (.slice b lb cb) (.slice d ld cd) t q) := ⟨below_call H0.out.1 H0.out.1.size (new_below ((left_drawn H4.out.1).trans L3)), Mny.left (w := w2'.drew) H4.out.2.1 L3 (by omega), SFit.left (H4.out.2.2.1.all ((Below.refl _ _).drew)) L3 (by omega), Fit.left (H4.out.2.2.2.1.all ((Below.refl _ _).drew)) L3 (by omega), Mny.left (w := w2'.drew) H4.out.2.2.2.2 L3 (by omega)⟩; have v0 := H3.out.2.2.2.2.c0; have v1 := H3.out.2.2.2.2.c1; have v2 := H3.out.2.2.2.2.c2; have v3 := H3.out.2.2.2.2.c3; have p0 := H3.out.2.1.c0; have p1 := H3.out.2.1.c1; have p2 := H3.out.2.1.c2; have p3 := H3.out.2.1.c3; have f0 := H3.out.2.1.fr 0; have f1 := H3.out.2.1.fr 1; have f2 := H3.out.2.1.fr 2; have f3 := H3.out.2.1.fr 3; have m3 := H3.out.2.1.lt; clear L3))
    all_goals
      go_wp2_with fail
      refine bodyPost_ret (ret_mny2 rfl rfl rfl ((((H3.out.2.1.set0 _).set1 _).set2 _).set3 _)) rfl ?_
      exact ⟨_, _, _, _, _, _, _, _, _, _, _, rfl, (SFit.mono H3.out.2.2.1 (by omega)).still (fun x hx => set4_still (H3.out.2.2.1.ge hx).2 (by have := (H3.out.2.2.1.ge hx).1; omega)), (Fit.mono H3.out.2.2.2.1 (by omega)).still (fun x hx => set4_still (H3.out.2.2.2.1.ge hx).2 (by have := (H3.out.2.2.2.1.ge hx).1; omega)), HA.out, hlb, hld, below_set (below_set (below_set (below_set H3.out.1 (Nat.le_refl _) _) (Nat.le_refl _) _) (Nat.le_refl _) _) (Nat.le_refl _) _⟩
  · go_wp2_with fail
    go_region_held3 (fun w' => w'.cell? ⟨bx, 0, none⟩ = some (.slice b lb cb) ∧ w'.cell? ⟨bx, 1, none⟩ = some (.slice d ld cd) ∧ w'.cell? ⟨bx, 2, none⟩ = some (.int .i64 t) ∧ w'.cell? ⟨bx, 3, none⟩ = some (.int .i64 q)) (go_keep) ((go_at_call 46; refine (from_any _ _ a len cap (-1) lb _ ((left_drawn H4.out.1).cur HC.out) (by omega) (by omega) (by omega)).mono ?_; rintro e w3 ⟨n, rfl, _, _, L3⟩; have H3 : Hid (Below w.heap.size w w3 ∧ Mny w3 w.heap.size (.slice none 0 0) (.slice none 0 0) 0 0 ∧ SFit w3 (w.heap.size + 2) b lb cb ps ∧ Fit w3 (w.heap.size + 2) d ld cd ns ∧ Mny w3 bx (.slice b lb cb) (.slice d ld cd) t q) := ⟨below_call H0.out.1 H0.out.1.size (new_below ((left_drawn H4.out.1).trans L3)), Mny.left (w := w2'.drew) H4.out.2.1 L3 (by omega), SFit.left (H4.out.2.2.1.all ((Below.refl _ _).drew)) L3 (by omega), Fit.left (H4.out.2.2.2.1.all ((Below.refl _ _).drew)) L3 (by omega), Mny.left (w := w2'.drew) H4.out.2.2.2.2 L3 (by omega)⟩; have v0 := H3.out.2.2.2.2.c0; have v1 := H3.out.2.2.2.2.c1; have v2 := H3.out.2.2.2.2.c2; have v3 := H3.out.2.2.2.2.c3; have p0 := H3.out.2.1.c0; have p1 := H3.out.2.1.c1; have p2 := H3.out.2.1.c2; have p3 := H3.out.2.1.c3; have f0 := H3.out.2.1.fr 0; have f1 := H3.out.2.1.fr 1; have f2 := H3.out.2.1.fr 2; have f3 := H3.out.2.1.fr 3; have m3 := H3.out.2.1.lt; clear L3))
    all_goals
      go_wp2_with fail
      refine bodyPost_ret (ret_mny2 rfl rfl rfl ((((H3.out.2.1.set0 _).set1 _).set2 _).set3 _)) rfl ?_
      exact ⟨_, _, _, _, _, _, _, _, _, _, _, rfl, (SFit.mono H3.out.2.2.1 (by omega)).still (fun x hx => set4_still (H3.out.2.2.1.ge hx).2 (by have := (H3.out.2.2.1.ge hx).1; omega)), (Fit.mono H3.out.2.2.2.1 (by omega)).still (fun x hx => set4_still (H3.out.2.2.2.1.ge hx).2 (by have := (H3.out.2.2.2.1.ge hx).1; omega)), HA.out, hlb, hld, below_set (below_set (below_set (below_set H3.out.1 (Nat.le_refl _) _) (Nat.le_refl _) _) (Nat.le_refl _) _) (Nat.le_refl _) _⟩

end Go.Proofs.YtjhenfdmbagaiaaGreat.Draw
