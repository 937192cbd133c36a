/-
  spec.ManyNext and spec.ManyRun at every Many.
-/
import Derived.Test.YtjhenfdmbagaiaaGreatManyNewS
import Derived.Test.YtjhenfdmbagaiaaGreatManyMath
import Derived.Test.YtjhenfdmbagaiaaGreatManyRunI
namespace Go.Proofs.YtjhenfdmbagaiaaGreat.Crew
open Go.ChangeShapes Go.WideShapes Go.ChangeAt Go.RowKit

/-- Who was taken of the first i, and the i-th where it is among the first k of the line. -/
def nxI (f : Nat → Bool) (L : List Int) (i k : Nat) : List Nat := Top.listB f i ++ (if (i : Int) ∈ L.take k then [i] else [])

theorem nxI_zero (f : Nat → Bool) (L : List Int) (i : Nat) : nxI f L i 0 = Top.listB f i := by simp [nxI]

theorem take_one {L : List Int} {k : Nat} (hk : k < L.length) {x : Int} : x ∈ L.take (k + 1) ↔ x ∈ L.take k ∨ x = L.getD k 0 := by
  rw [List.take_succ_eq_append_getElem hk, List.mem_append, List.mem_singleton, List.getD_eq_getElem?_getD, List.getElem?_eq_getElem hk]
  rfl

theorem nxI_miss {f : Nat → Bool} {L : List Int} {i k : Nat} (hk : k < L.length) (h : ¬ L.getD k 0 = (i : Int)) : nxI f L i (k + 1) = nxI f L i k := by
  have e : (i : Int) ∈ L.take (k + 1) ↔ (i : Int) ∈ L.take k := by
    rw [take_one hk]
    constructor
    · rintro (h1 | h1)
      · exact h1
      · exact absurd h1.symm h
    · exact .inl
  simp only [nxI, e]

theorem nxI_hit {f : Nat → Bool} {L : List Int} {i k : Nat} (hk : k < L.length) (h : L.getD k 0 = (i : Int)) (hd : L.Nodup) : nxI f L i k = Top.listB f i ∧ nxI f L i (k + 1) = Top.listB f i ++ [i] := by
  have h1 : (i : Int) ∉ L.take k := by
    intro hm
    obtain ⟨t, ht, he⟩ := List.mem_iff_getElem.1 hm
    rw [List.getElem_take] at he
    rw [List.length_take] at ht
    have h2 := List.pairwise_iff_getElem.1 hd t k (by omega) hk (by omega)
    rw [List.getD_eq_getElem?_getD, List.getElem?_eq_getElem hk] at h
    exact h2 (he.trans h.symm)
  have h2 : (i : Int) ∈ L.take (k + 1) := (take_one hk).2 (.inr h.symm)
  simp [nxI, h1, h2]

theorem nxI_end {f : Nat → Bool} {L : List Int} {i : Nat} (h : (i : Int) ∈ L ↔ f i = true) : nxI f L i L.length = Top.listB f (i + 1) := by
  simp only [nxI, List.take_length, h, Top.listB_succ]

/-- While it is laid out who is taken. -/
structure Ny (w0 W : World) (a : Option Addr) (len cap : Nat) (a' : Option Addr) (cap' o gs cs gc cc gl cl gt ct : Nat) (ps : List Shr) (ns : List Int) (t p : Int) (L : List Int) (lt lc : List Nat) : Prop where
  arg : Mny W w0.heap.size (.slice a len cap) (.slice a' len cap') t p
  res : Mny W (w0.heap.size + 1) (.slice none 0 0) (.slice none 0 0) 0 0
  box : Mny W o (.slice (some ⟨gs, 0, none⟩) len cs) (.slice (some ⟨gc, 0, none⟩) len cc) t p
  shs : SRow W gs cs ps
  cnt : Row W gc cc (bump lc ns)
  lin : Row W gl cl L
  tak : Row W gt ct (icast lt)
  bel : Below w0.heap.size w0 W
  l1 : w0.heap.size + 1 < gs
  l2 : w0.heap.size + 1 < gc
  l3 : gs ≠ gc
  l4 : gs < o
  l5 : gc < o
  l6 : o < gl
  l7 : gl < gt

theorem Ny.all {w0 W W' : World} {a : Option Addr} {len cap : Nat} {a' : Option Addr} {cap' o gs cs gc cc gl cl gt ct : Nat} {ps : List Shr} {ns : List Int} {t p : Int} {L : List Int} {lt lc : List Nat} (h : Ny w0 W a len cap a' cap' o gs cs gc cc gl cl gt ct ps ns t p L lt lc) (k : Below W.heap.size W W') : Ny w0 W' a len cap a' cap' o gs cs gc cc gl cl gt ct ps ns t p L lt lc :=
  { h with arg := h.arg.all k, res := h.res.all k, box := h.box.all k, shs := h.shs.all k, cnt := h.cnt.all k, lin := h.lin.all k, tak := h.tak.all k, bel := below_call h.bel h.bel.size k }

theorem icast_snoc (l : List Nat) (i : Nat) : icast (l ++ [i]) = icast l ++ [(i : Int)] := by simp [icast]

/-- One more is taken. -/
theorem Ny.took {w0 W W' : World} {a : Option Addr} {len cap : Nat} {a' : Option Addr} {cap' o gs cs gc cc gl cl gt ct gt' ct' : Nat} {ps : List Shr} {ns : List Int} {t p : Int} {L : List Int} {lt lc : List Nat} {i : Nat} {ob : Obj} (h : Ny w0 W a len cap a' cap' o gs cs gc cc gl cl gt ct ps ns t p L lt lc) (R : Row W' gt' ct' (icast lt ++ [(i : Int)])) (G : (W.alloc ob).grownBy W' (some gt)) (D : gt' = gt ∨ gt' = W.heap.size + 1) : Ny w0 W' a len cap a' cap' o gs cs gc cc gl cl gt' ct' ps ns t p L (lt ++ [i]) lc := by
  have z := h.tak.lt
  have b1 := h.l1; have b2 := h.l2; have b4 := h.l4; have b5 := h.l5; have b6 := h.l6; have b7 := h.l7
  have hs := h.bel.size
  exact { h with
    arg := (h.arg.alloc _).other G (by simp; omega)
    res := (h.res.alloc _).other G (by simp; omega)
    box := (h.box.alloc _).other G (by simp; omega)
    shs := (h.shs.alloc _).other G (by simp; omega)
    cnt := (h.cnt.alloc _).other G (by simp; omega)
    lin := (h.lin.alloc _).other G (by simp; omega)
    tak := by rw [icast_snoc]; exact R
    bel := (h.bel.alloc hs _).grown G (by simp; omega) (fun j hj => by cases hj; omega)
    l7 := by omega }

/-- Its count is one more. -/
theorem Ny.one {w0 W : World} {a : Option Addr} {len cap : Nat} {a' : Option Addr} {cap' o gs cs gc cc gl cl gt ct : Nat} {ps : List Shr} {ns : List Int} {t p : Int} {L : List Int} {lt lc : List Nat} (h : Ny w0 W a len cap a' cap' o gs cs gc cc gl cl gt ct ps ns t p L lt lc) (i : Nat) {c : Int} (hc : (bump lc ns).getD i 0 = c) : Ny w0 (W.setCell ⟨gc, i, none⟩ (.int .i64 (c + 1))) a len cap a' cap' o gs cs gc cc gl cl gt ct ps ns t p L lt (lc ++ [i]) := by
  have b1 := h.l1; have b2 := h.l2; have b3 := h.l3; have b4 := h.l4; have b5 := h.l5; have b6 := h.l6; have b7 := h.l7
  exact { h with
    arg := h.arg.past (by omega) _
    res := h.res.past (by omega) _
    box := h.box.past (by omega) _
    shs := h.shs.past (by omega) _
    cnt := by rw [bump_snoc, hc]; exact h.cnt.set i (c + 1)
    lin := h.lin.past (by omega) _
    tak := h.tak.past (by omega) _
    bel := below_set h.bel (by omega) _ }

/-- What is answered where no time more can be. -/
theorem next_noneM {w W : World} {ps : List Shr} {ns : List Int} {q now : Int} (h : runOkM ps ns q now 1 = false) (B : Below w.heap.size w W) {g c : Nat} (R : Row W g c []) (hg : w.heap.size ≤ g) {e : Ending} (he : e = .returned (.tuple #[mv (.slice none 0 0) (.slice none 0 0) 0 0, .slice (some ⟨g, 0, none⟩) 0 c])) :
    NextPostM (rmS ps ns q now 1) (rmC ps ns q now 1) (rmQ ps ns q now 1) (rmT ps ns q now 1) (nxL ps ns q now) w e W := by
  subst he
  obtain ⟨h1, h2, h3, h4, _⟩ := rm_no h
  rw [h1, h2, h3, h4, nxL_no h]
  exact ⟨none, 0, 0, none, 0, 0, some ⟨g, 0, none⟩, 0, c, rfl, sfit_nil _ _, fit_nil _ _, R.fit hg rfl, (fun x y hx => by cases hx), (fun x y hx => by cases hx), (fun x y hx => by cases hx), B⟩

set_option maxRecDepth 100000 in
set_option maxHeartbeats 4000000 in
theorem specNextM_yes (a : Option Addr) (len cap : Nat) (ps : List Shr) (a' : Option Addr) (cap' : Nat) (ns : List Int) (t p : Int) (w : World) (I : Shs w a len ps) (J : Ints w a' len ns) (hk : manyOk ps ns t p = true) (hp : p < 1000000) :
    Calls Tryz.prog 12 #[mv (.slice a len cap) (.slice a' len cap') t p] w (NextPostM ps (bump (mList ps ns t p) ns) t (p + 1) (icast (mList ps ns t p)) w) := by
  obtain ⟨i0, hi, hz0, hz1, hz2⟩ := info_parts info_int
  have H0 : Hid (Rb w ((w.alloc (.cells #[.slice a len cap, .slice a' len cap', .int .i64 t, .int .i64 p] 27)).alloc (.cells #[.slice none 0 0, .slice none 0 0, .int .i64 0, .int .i64 0] 27)) a len cap ps a' len cap' ns t p) := rb_new t p I J
  have hl := I.1
  have hl' := J.1
  have h24 : len ≤ 24 := by have := fits_len (many_parts hk).1; omega
  have hq := fits_proc (many_parts hk).1
  have hb := within_yes (many_parts hk).2.2.1
  have HK : Hid (manyOk ps ns t p = true ∧ ps.length = len ∧ ns.length = len) := ⟨hk, hl, hl'⟩
  have hp' : ¬ (1000000 : Int) ≤ p := by omega
  clear I J hl hl' hk
  go_enter Tryz.func12, Tryz.ntmps12
  go_wp2_with fail
  refine (specManyX a len cap ps a' len cap' ns t p _ H0.out.shs H0.out.ints (by omega)).mono ?_
  rw [HK.out.1]
  rintro e w1 ⟨rfl, B1⟩
  have H1 : Hid (Rb w w1 a len cap ps a' len cap' ns t p) := H0.out.all B1
  clear B1 H0
  have a0 := H1.out.arg.c0
  have a1 := H1.out.arg.c1
  have a2 := H1.out.arg.c2
  have a3 := H1.out.arg.c3
  go_wp2_with fail
  refine (specCopyM a len cap ps a' len cap' ns t p _ H1.out.shs H1.out.ints (by omega) (by omega)).mono ?_
  rintro e w2 ⟨gs, cs, gc, cc, rfl, RS, RC, hgs, hgc, hne, B2⟩
  have H2 : Hid (Rb w w2 a len cap ps a' len cap' ns t p ∧ SRow w2 gs cs ps ∧ Row w2 gc cc ns) := ⟨H1.out.all B2, RS, RC⟩
  have z0 := H1.out.res.lt
  have z1 := RS.lt
  have z2 := RC.lt
  have z3 := B2.size
  clear B2 H1 a0 a1 a2 a3 RS RC
  have a0 := H2.out.1.arg.c0
  have a1 := H2.out.1.arg.c1
  have a2 := H2.out.1.arg.c2
  have a3 := H2.out.1.arg.c3
  have a4 := H2.out.1.arg.lt
  go_wp2_with fail
  obtain ⟨W2, hW2⟩ : ∃ W2, W2 = w2.alloc (.cells #[.slice (some ⟨gs, 0, none⟩) len cs, .slice (some ⟨gc, 0, none⟩) len cc, .int .i64 t, .int .i64 p] 27) := ⟨_, rfl⟩
  rw [← hW2]
  have hW : W2.heap.size = w2.heap.size + 1 := by rw [hW2]; simp
  have H3 : Hid (Rb w W2 a len cap ps a' len cap' ns t p ∧ SRow W2 gs cs ps ∧ Row W2 gc cc ns ∧ Mny W2 w2.heap.size (.slice (some ⟨gs, 0, none⟩) len cs) (.slice (some ⟨gc, 0, none⟩) len cc) t p) := by
    rw [hW2]
    exact ⟨H2.out.1.alloc _, H2.out.2.1.alloc _, H2.out.2.2.alloc _, mny_new _ _ _ _ _⟩
  clear H2 a0 a1 a2 a3 a4 hW2
  generalize w2.heap.size = o at *
  refine (specLine a len cap ps a' len cap' ns t p _ H3.out.1.shs H3.out.1.ints HK.out.1).mono ?_
  obtain ⟨L, hL⟩ : ∃ L, L = lnM ps ns p len := ⟨_, rfl⟩
  rw [← hL]
  obtain ⟨m0, hm0⟩ : ∃ m0, m0 = L.length := ⟨_, rfl⟩
  rw [← hm0]
  have hm24 : m0 ≤ 24 := by have := lnM_len (ps := ps) (ns := ns) (now := p) len; rw [← hL, ← hm0] at this; omega
  rintro e w3 ⟨gl, cl, rfl, RL, hgl, B3⟩
  have H4 : Hid (Rb w w3 a len cap ps a' len cap' ns t p ∧ SRow w3 gs cs ps ∧ Row w3 gc cc ns ∧ Mny w3 o (.slice (some ⟨gs, 0, none⟩) len cs) (.slice (some ⟨gc, 0, none⟩) len cc) t p ∧ Row w3 gl cl L) := ⟨H3.out.1.all B3, H3.out.2.1.all B3, H3.out.2.2.1.all B3, H3.out.2.2.2.all B3, RL⟩
  have hgl' : o < gl := by omega
  have hcl : m0 ≤ cl := by obtain ⟨_, _, h, _⟩ := RL; omega
  have HL : Hid (L = lnM ps ns p len ∧ m0 = L.length) := ⟨hL, hm0⟩
  clear H3 B3 RL hL hm0 hgl
  have a0 := H4.out.1.arg.c0
  have a1 := H4.out.1.arg.c1
  have a2 := H4.out.1.arg.c2
  have a3 := H4.out.1.arg.c3
  go_upto_if 27 with fail
  go_cut [5] from 23 to 31 (fun s wx => ∃ m : Nat, s = .slice (some ⟨gl, 0, none⟩) m cl ∧ Hid ((L.take t.toNat).length = m) ∧ wx = w3)
  case first =>
    by_cases htm : t < (m0 : Int)
    · have hd : decide (t < (m0 : Int)) = true := decide_eq_true htm
      obtain ⟨q, rfl⟩ := Int.eq_ofNat_of_zero_le (show 0 ≤ t by omega)
      have h1 : q ≤ cl := by omega
      have HM : Hid ((L.take (q : Int).toNat).length = q) := by show _ = _; rw [Int.toNat_natCast, List.length_take, ← HL.out.2]; omega
      go_wp2_with fail
      go_meet
      exact ⟨q, rfl, HM, rfl⟩
    · have hd : decide (t < (m0 : Int)) = false := decide_eq_false htm
      have HM : Hid ((L.take t.toNat).length = m0) := by show _ = _; rw [List.length_take, ← HL.out.2]; omega
      go_wp2_with fail
      go_meet
      exact ⟨m0, rfl, HM, rfl⟩
  case rest =>
    obtain ⟨m, rfl, HM, rfl⟩ := hcut
    obtain ⟨f, hf⟩ : ∃ f, f = mTop ps ns t p len := ⟨_, rfl⟩
    obtain ⟨L', hL'⟩ : ∃ L', L' = L.take t.toNat := ⟨_, rfl⟩
    rw [← hL'] at HM
    have HP : Hid (L'.Nodup ∧ (∀ i : Nat, (i : Int) ∈ L' ↔ f i = true)) := by
      refine ⟨?_, fun i => ?_⟩
      · rw [hL', HL.out.1]
        exact (lnM_nodup len).sublist (List.take_sublist _ _)
      · rw [hL', HL.out.1, hf]
        exact lnM_take
    have HF : Hid (f = mTop ps ns t p len) := hf
    have N0 : Hid (Ny w (wc.alloc (.cells #[] 2)) a len cap a' cap' o gs cs gc cc gl cl wc.heap.size 0 ps ns t p L' (Top.listB f 0) (Top.listB f 0)) := by
      have hg := H4.out.2.2.2.2.lt
      exact { arg := H4.out.1.arg.alloc _, res := H4.out.1.res.alloc _, box := H4.out.2.2.2.1.alloc _, shs := H4.out.2.1.alloc _, cnt := H4.out.2.2.1.alloc _, lin := by rw [hL']; exact (H4.out.2.2.2.2.cut _).alloc _, tak := row_nil wc, bel := H4.out.1.bel.alloc H4.out.1.bel.size _, l1 := by omega, l2 := by omega, l3 := hne, l4 := z1, l5 := z2, l6 := hgl', l7 := hg }
    have hm24' : m ≤ 24 := by have := HM.out; rw [hL', List.length_take, ← HL.out.2] at this; omega
    clear H4 hf hL' HL hm24 hgl' hcl z1 z2 z3 z0 hgs hgc hne
    go_wp2_with fail
    clear a0 a1 a2 a3
    go_loopw [6, 7, 8] (fun v i _ wr => ∃ n r gt ct : Nat, n ≤ len ∧ i = .int .i64 n ∧ v = .slice (some ⟨gt, 0, none⟩) r ct ∧ Hid ((Top.listB f n).length = r) ∧ Hid (Ny w wr a len cap a' cap' o gs cs gc cc gl cl gt ct ps ns t p L' (Top.listB f n) (Top.listB f n))) (fun _ i _ _ => len - (intOf i).toNat)
    case atStart => exact ⟨0, 0, _, 0, Nat.zero_le _, rfl, rfl, rfl, N0⟩
    case round =>
      obtain ⟨n, r, gt, ct, hn, rfl, rfl, HR, NN⟩ := hrel
      have a0 := NN.out.arg.c0
      by_cases hlt : n < len
      · have hlt' : (n : Int) < (len : Int) := by omega
        go_wp2_with fail
        clear a0
        have N1 : Hid (Ny w wr a len cap a' cap' o gs cs gc cc gl cl gt ct ps ns t p L' (nxI f L' n 0) (nxI f L' n 0)) := by rw [nxI_zero]; exact NN
        have R1 : Hid ((nxI f L' n 0).length = r) := by rw [nxI_zero]; exact HR
        clear NN HR
        go_loopw [6, 8] (fun v k wr => ∃ j r gt ct : Nat, j ≤ m ∧ k = .int .i64 j ∧ v = .slice (some ⟨gt, 0, none⟩) r ct ∧ Hid ((nxI f L' n j).length = r) ∧ Hid (Ny w wr a len cap a' cap' o gs cs gc cc gl cl gt ct ps ns t p L' (nxI f L' n j) (nxI f L' n j))) (fun _ k _ => m - (intOf k).toNat)
        case atStart => exact ⟨0, r, gt, ct, Nat.zero_le _, rfl, rfl, R1, N1⟩
        case round =>
          obtain ⟨j, r, gt, ct, hj, rfl, rfl, HR, NN⟩ := hrel
          by_cases hjm : j < m
          · have hjm' : (j : Int) < (m : Int) := by omega
            have hjl : j < L'.length := by rw [HM.out]; exact hjm
            have d0 := NN.out.lin.cell hjl
            obtain ⟨y, hy⟩ : ∃ y, y = L'.getD j 0 := ⟨_, rfl⟩
            rw [← hy] at d0
            by_cases hyn : y = (n : Int)
            · subst hyn
              have HH := hid (nxI_hit (f := f) hjl hy.symm HP.out.1)
              obtain ⟨l, hl⟩ : ∃ l, l = Top.listB f n := ⟨_, rfl⟩
              have NL : Hid (Ny w wr a len cap a' cap' o gs cs gc cc gl cl gt ct ps ns t p L' l l ∧ l.length = r ∧ nxI f L' n (j + 1) = l ++ [n]) := by
                rw [hl]
                have h1 := NN.out
                have h2 := HR.out
                rw [HH.out.1] at h1 h2
                exact ⟨h1, h2, HH.out.2⟩
              have hr24 : r ≤ 24 := by
                have := NL.out.2.1
                have h3 : (Top.listB f n).length ≤ n := Nat.le_trans (List.length_filter_le _ _) (by simp)
                rw [hl] at this
                omega
              obtain ⟨c, hc⟩ : ∃ c, c = (bump l ns).getD n 0 := ⟨_, rfl⟩
              have hcb : 0 ≤ c ∧ c ≤ 1000000 := by
                rw [hc, bump_get (by rw [hl]; exact List.Pairwise.imp (fun h => Nat.ne_of_lt h) (Top.listB_asc f n)) (by rw [HK.out.2.2]; exact hlt), if_neg (by rw [hl, Top.mem_listB]; omega)]
                have := cnts_get (many_parts HK.out.1).2.2.2 n
                omega
              have HC : Hid (c = (bump l ns).getD n 0) := hc
              clear hl hc HH NN HR hy
              go_wp2_with (at_builtin; refine wpList_append_ints rfl (.tmp 52) (.tmp 54) 25 rfl i0 Tryz.underlying25 hi hz0 hz1 hz2 _ _ _ (icast l) rfl (by rw [icast, List.length_map, NL.out.2.1]) (NL.out.1.tak.alloc _) _ _ _ [(n : Int)] rfl (ints_one _ _ _) (by rw [icast, List.length_map, NL.out.2.1]; omega) ?_)
              intro gt' ct' w4 R4 G4 D4
              have N4 : Hid (Ny w w4 a len cap a' cap' o gs cs gc cc gl cl gt' ct' ps ns t p L' (l ++ [n]) l) := NL.out.1.took R4 G4 (by simpa using D4)
              clear R4 G4 D4 d0
              have b1 := N4.out.box.c1
              have e1 : w4.cell? ⟨gc, n, none⟩ = some (.int .i64 c) := by rw [HC.out]; exact N4.out.cnt.cell (by rw [bump_len, HK.out.2.2]; exact hlt)
              have f1 : w4.frozen? ⟨gc, n, none⟩ = false := N4.out.cnt.frozen n
              have hn0 : (0 : Int) ≤ (n : Int) := by omega
              go_wp2_with fail
              go_region
              have N5 : Hid (Ny w (w4.setCell ⟨gc, n, none⟩ (.int .i64 (c + 1))).drew a len cap a' cap' o gs cs gc cc gl cl gt' ct' ps ns t p L' (l ++ [n]) (l ++ [n])) := (N4.out.one n HC.out.symm).all (Below.refl _ _).drew
              clear b1 e1 f1 N4
              go_wp2_with fail
              go_roundw
              case rel => exact ⟨j + 1, r + 1, gt', ct', by omega, by go_num, rfl, by show _ = _; rw [NL.out.2.2, List.length_append, NL.out.2.1]; rfl, by rw [NL.out.2.2]; exact N5⟩
              case measure => simp [intOf]; omega
            · have hyd : (y == (n : Int)) = false := by simpa using hyn
              have HH := hid (nxI_miss (f := f) (i := n) hjl (by rw [← hy]; exact hyn))
              clear hy
              go_wp2_with fail
              go_roundw
              case rel => exact ⟨j + 1, r, gt, ct, by omega, by go_num, rfl, by rw [HH.out]; exact HR, by rw [HH.out]; exact NN⟩
              case measure => simp [intOf]; omega
          · have hjm' : ¬ (j : Int) < (m : Int) := by omega
            have he : j = m := by omega
            subst he
            have HH := hid (nxI_end (f := f) (L := L') (i := n) (HP.out.2 n))
            have HE : Hid ((Top.listB f (n + 1)).length = r ∧ Ny w wr a len cap a' cap' o gs cs gc cc gl cl gt ct ps ns t p L' (Top.listB f (n + 1)) (Top.listB f (n + 1))) := by
              rw [← HH.out, HM.out]
              exact ⟨HR.out, NN.out⟩
            clear HH HR NN
            go_wp2_with fail
            go_roundw
            case rel => exact ⟨n + 1, r, gt, ct, by omega, by go_num, rfl, HE.out.1, HE.out.2⟩
            case measure => simp [intOf]; omega
      · have hlt' : ¬ (n : Int) < (len : Int) := by omega
        have he : n = len := by omega
        subst he
        have q0 := NN.out.box.c0
        have q1 := NN.out.box.c1
        have q2 := NN.out.box.c2
        have q3 := NN.out.box.c3
        have g3 := NN.out.box.fr 3
        have p0 := NN.out.res.c0
        have p1 := NN.out.res.c1
        have p2 := NN.out.res.c2
        have p3 := NN.out.res.c3
        have f0 := NN.out.res.fr 0
        have f1 := NN.out.res.fr 1
        have f2 := NN.out.res.fr 2
        have f3 := NN.out.res.fr 3
        have m1 := NN.out.res.lt
        have m2 := NN.out.box.lt
        have m3 : w.heap.size + 1 < o := Nat.lt_trans NN.out.l1 NN.out.l4
        have m4 := Nat.ne_of_lt m3
        have m5 := Nat.ne_of_gt m3
        go_wp2_with fail
        have e : Top.listB f n = mList ps ns t p := by rw [HF.out, mList, HK.out.2.1]
        have HN : Hid (Ny w wr a n cap a' cap' o gs cs gc cc gl cl gt ct ps ns t p L' (mList ps ns t p) (mList ps ns t p) ∧ (icast (mList ps ns t p)).length = r) := by
          rw [← e]
          exact ⟨NN.out, by rw [icast, List.length_map]; exact HR.out⟩
        clear e NN HR q0 q1 q2 q3 g3 p0 p1 p2 p3 f0 f1 f2 f3 m1 m2 m3 m4 m5 a0
        have b1 := HN.out.1.l1
        have b2 := HN.out.1.l2
        have b3 := HN.out.1.l3
        have b4 := HN.out.1.l4
        have b5 := HN.out.1.l5
        have b6 := HN.out.1.l6
        have b7 := HN.out.1.l7
        refine bodyPost_ret (ret_mny2 rfl rfl rfl (((((HN.out.1.res.past (by omega) _).set0 _).set1 _).set2 _).set3 _)) rfl ⟨_, _, _, _, _, _, _, _, _, rfl, ?_, ?_, ?_, ?_, ?_, ?_, ?_⟩
        · exact (((((HN.out.1.shs.past (by omega) _).past (by omega) _).past (by omega) _).past (by omega) _).past (by omega) _).fit (by omega) HK.out.2.1
        · exact (((((HN.out.1.cnt.past (by omega) _).past (by omega) _).past (by omega) _).past (by omega) _).past (by omega) _).fit (by omega) (by rw [bump_len]; exact HK.out.2.2)
        · exact (((((HN.out.1.tak.past (by omega) _).past (by omega) _).past (by omega) _).past (by omega) _).past (by omega) _).fit (by omega) HN.out.2
        · exact fun x y hx hy => by cases hx; cases hy; exact b3
        · exact fun x y hx hy => by cases hx; cases hy; show gs ≠ gt; omega
        · exact fun x y hx hy => by cases hx; cases hy; show gc ≠ gt; omega
        · exact below_set (below_set (below_set (below_set (below_set HN.out.1.bel (by omega) _) (by omega) _) (by omega) _) (by omega) _) (by omega) _

set_option maxRecDepth 100000 in
/-- spec.ManyNext at every Many. -/
theorem specNextM (a : Option Addr) (len cap : Nat) (ps : List Shr) (a' : Option Addr) (len' cap' : Nat) (ns : List Int) (t p : Int) (w : World) (I : Shs w a len ps) (J : Ints w a' len' ns) (hsz : (len : Int) ≤ 1048576) :
    Calls Tryz.prog 12 #[mv (.slice a len cap) (.slice a' len' cap') t p] w (NextPostM (rmS ps ns t p 1) (rmC ps ns t p 1) (rmQ ps ns t p 1) (rmT ps ns t p 1) (nxL ps ns t p) w) := by
  have H0 : Hid (Rb w ((w.alloc (.cells #[.slice a len cap, .slice a' len' cap', .int .i64 t, .int .i64 p] 27)).alloc (.cells #[.slice none 0 0, .slice none 0 0, .int .i64 0, .int .i64 0] 27)) a len cap ps a' len' cap' ns t p) := rb_new t p I J
  have HIJ : Hid (Shs w a len ps ∧ Ints w a' len' ns) := ⟨I, J⟩
  have hl := I.1
  have hl' := J.1
  clear I J
  cases hk : manyOk ps ns t p
  · have HK : Hid (manyOk ps ns t p = false) := hk
    have HN : Hid (runOkM ps ns t p 1 = false) := by show _ = _; rw [runOkM, hk]; rfl
    clear hk
    go_enter Tryz.func12, Tryz.ntmps12
    go_wp2_with fail
    refine (specManyX a len cap ps a' len' cap' ns t p _ H0.out.shs H0.out.ints hsz).mono ?_
    rw [HK.out]
    rintro e w1 ⟨rfl, B1⟩
    have H1 : Hid (Rb w w1 a len cap ps a' len' cap' ns t p) := H0.out.all B1
    clear B1 H0
    have p0 := H1.out.res.c0
    have p1 := H1.out.res.c1
    have p2 := H1.out.res.c2
    have p3 := H1.out.res.c3
    have f0 := H1.out.res.fr 0
    have f1 := H1.out.res.fr 1
    have f2 := H1.out.res.fr 2
    have f3 := H1.out.res.fr 3
    have n1 := H1.out.res.lt
    go_wp2_with fail
    refine bodyPost_ret (ret_mny2 rfl rfl rfl (((((H1.out.res.set0 _).set1 _).set2 0).set3 0).alloc _)) rfl (next_noneM HN.out ?_ (row_nil_at (by simp)) H1.out.bel.size rfl)
    exact (below_set (below_set (below_set (below_set H1.out.bel (by omega) _) (by omega) _) (by omega) _) (by omega) _).alloc (by have := H1.out.bel.size; simp; omega) _
  have b2 := within_yes (many_parts hk).2.2.1
  by_cases hp : p < 1000000
  case neg =>
    have hp' : (1000000 : Int) ≤ p := by omega
    have hd : decide ((1000000 : Int) ≤ p) = true := decide_eq_true hp'
    have HK : Hid (manyOk ps ns t p = true) := hk
    have HN : Hid (runOkM ps ns t p 1 = false) := by show _ = _; rw [runOkM, decide_eq_false (p := p + 1 ≤ 1000000) (by omega), Bool.and_false]
    clear hk
    go_enter Tryz.func12, Tryz.ntmps12
    go_wp2_with fail
    refine (specManyX a len cap ps a' len' cap' ns t p _ H0.out.shs H0.out.ints hsz).mono ?_
    rw [HK.out]
    rintro e w1 ⟨rfl, B1⟩
    have H1 : Hid (Rb w w1 a len cap ps a' len' cap' ns t p) := H0.out.all B1
    clear B1 H0
    have a3 := H1.out.arg.c3
    have p0 := H1.out.res.c0
    have p1 := H1.out.res.c1
    have p2 := H1.out.res.c2
    have p3 := H1.out.res.c3
    have f0 := H1.out.res.fr 0
    have f1 := H1.out.res.fr 1
    have f2 := H1.out.res.fr 2
    have f3 := H1.out.res.fr 3
    have n1 := H1.out.res.lt
    go_wp2_with fail
    refine bodyPost_ret (ret_mny2 rfl rfl rfl (((((H1.out.res.set0 _).set1 _).set2 0).set3 0).alloc _)) rfl (next_noneM HN.out ?_ (row_nil_at (by simp)) H1.out.bel.size rfl)
    exact (below_set (below_set (below_set (below_set H1.out.bel (by omega) _) (by omega) _) (by omega) _) (by omega) _).alloc (by have := H1.out.bel.size; simp; omega) _
  have hok : runOkM ps ns t p 1 = true := by rw [runOkM, hk, decide_eq_true (p := p + 1 ≤ 1000000) (by omega)]; rfl
  obtain ⟨h1, h2, h3, h4, h5⟩ := rm_yes hok
  have hll : len' = len := by have := (many_parts hk).2.1; omega
  subst hll
  rw [h1, h2, h3, h4, nxL_yes hok]
  have e : mAt ps ns t p (1 : Int).toNat = bump (mList ps ns t p) ns := by
    show mNext ps ns t (p + ((0 : Nat) : Int)) = _
    rw [mNext]
    simp
  rw [e]
  exact specNextM_yes a len' cap ps a' cap' ns t p w HIJ.out.1 HIJ.out.2 hk hp

end Go.Proofs.YtjhenfdmbagaiaaGreat.Crew

namespace Go.Proofs.YtjhenfdmbagaiaaGreat.Crew
open Go.ChangeShapes Go.WideShapes Go.ChangeAt Go.RowKit

theorem Tms.owns {w : World} {g cap : Nat} {vs : List Value} (h : Tms w g cap vs) {base : Nat} (hb : base ≤ g) : w.ownsRow base 25 1 (.slice (some ⟨g, 0, none⟩) vs.length cap) vs.length vs := by
  obtain ⟨cur, hh, hl, hm, hs, ht⟩ := h
  exact ⟨by simp, .inr ⟨g, cap, cur, rfl, hb, hh, hl, hm, by simpa using hs, by simpa using ht⟩⟩

theorem tms_of_owns {w : World} {base g n cap : Nat} {vs : List Value} (h : w.ownsRow base 25 1 (.slice (some ⟨g, 0, none⟩) n cap) n vs) : Tms w g cap vs := by
  obtain ⟨h1, h2⟩ := h
  have hn : vs.length = n := by simpa using h1
  rcases h2 with ⟨h', _⟩ | ⟨g', cap', cur, h', hb, hg, hl, hm, hs, ht⟩
  · simp at h'
  · simp only [Value.slice.injEq, Option.some.injEq, Addr.mk.injEq, and_true, true_and] at h'
    obtain ⟨rfl, rfl⟩ := h'
    exact ⟨cur, hg, by omega, hm, by simpa using hs, by rw [hn]; simpa using ht⟩

theorem run_append_list {P : Program} (w : World) (t ty : TypeId) (i : TypeInfo) (ht : P.underlying t = some (.slice 25)) (hi : P.info? 25 = some i) (hz : i.zero = some (.slice none 0 0)) (hsize : i.size = 1) (hby : i.bytes = 24)
    (g cap : Nat) (vs : List Value) (T : Tms w g cap vs) (b : Nat) (v : Value) (hv : w.cell? ⟨b, 0, none⟩ = some v) (h1 : v.oneCell' = true) (hlen : vs.length + 1 ≤ 1000000000) :
    ∃ g' cap' w', (Builtin.append_ #[t, t] ty #[.slice (some ⟨g, 0, none⟩) vs.length cap, .slice (some ⟨b, 0, none⟩) 1 1]).run P w = .ok (.slice (some ⟨g', 0, none⟩) (vs.length + 1) cap') w' ∧ Tms w' g' cap' (vs ++ [v]) ∧ w.grownBy w' (some g) ∧ (g' = g ∨ g' = w.heap.size) := by
  have hown := T.owns (base := 0) (Nat.zero_le _)
  obtain ⟨v', w', hr, h2, h3, h4, h5⟩ := run_append_own_at (P := P) w 0 t ty 25 i (.slice none 0 0) 1 24 ht hi hz hsize hby rfl (by decide) _ vs.length _ hown ⟨b, 0, none⟩ 1 1 [v] rfl (by
    intro j u hu
    have hj : j = 0 := by
      have := (List.getElem?_eq_some_iff.1 hu).1
      simp at this
      exact this
    subst hj
    simp at hu
    rw [← hu]
    exact hv) (by intro u hu; rw [List.mem_singleton] at hu; rw [hu]; exact h1) (by unfold maxLen; omega) (by omega) (Nat.zero_le _)
  rcases h2.2 with ⟨hv', _⟩ | ⟨g', cap', cur, hv', _⟩
  · rw [h4] at hv'
    simp at hv'
  · subst hv'
    refine ⟨g', cap', w', hr, tms_of_owns h2, h3, ?_⟩
    rcases h5 with h | h
    · simp [Value.ownBlock] at h; exact .inl h
    · simp [Value.ownBlock] at h; exact .inr h

/-- At the operation, for the walk. -/
theorem wpList_append_list {P : Program} {w : World} {ops : Array Oper} {rest : List Oper} {o : Oper} {a : Act} {Q : Exit → Act → World → Prop} (hgd : o.guard = none) (s x : Operand) (t : TypeId)
    (ho : o.op = .call { callee := .builtin .append, args := #[s, x], argTypes := #[t, t] })
    (i : TypeInfo) (ht : P.underlying t = some (.slice 25)) (hi : P.info? 25 = some i) (hz : i.zero = some (.slice none 0 0)) (hsize : i.size = 1) (hby : i.bytes = 24)
    (g n cap : Nat) (vs : List Value) (hs : a.eval s = .slice (some ⟨g, 0, none⟩) n cap) (hn : n = vs.length) (T : Tms w g cap vs) (b : Nat) (v : Value) (hx : a.eval x = .slice (some ⟨b, 0, none⟩) 1 1) (hv : w.cell? ⟨b, 0, none⟩ = some v) (h1 : v.oneCell' = true) (hlen : vs.length + 1 ≤ 1000000000)
    (h : ∀ g' cap' w', Tms w' g' cap' (vs ++ [v]) → w.grownBy w' (some g) → (g' = g ∨ g' = w.heap.size) → wpList P ops Q rest (a.put o.dst (.slice (some ⟨g', 0, none⟩) (n + 1) cap')) w') :
    wpList P ops Q (o :: rest) a w := by
  refine wpList_plain hgd fun K hK => ?_
  subst hn
  obtain ⟨g', cap', w', hr, h2, h3, h4⟩ := run_append_list (P := P) w t o.type i ht hi hz hsize hby g cap vs T b v hv h1 hlen
  unfold Oper.wp execOp
  simp only [ho, resolve, invoke, builtin, Sem.run_bind, Sem.run_pure, Result.andThen_ok, List.map_toArray, List.map_cons, List.map_nil, hs, hx, hr]
  exact hK _ _ (h g' cap' w' h2 h3 h4)

theorem one_at {X : World} {s : Nat} (h : X.heap.size = s) (v : Value) (t : TypeId) : (X.alloc (.cells #[v] t)).cell? ⟨s, 0, none⟩ = some v := by
  subst h
  rw [cell_of_row _ X.heap.size _ _ _ _ (heap_alloc_new X _)]
  rfl

/-- Lists in another world, with other blocks spoken for. -/
theorem Lst.turn {w w' : World} {ex ex' : Nat → Prop} {lo hi hi' : Nat} {vs : List Value} {xss : List (List Int)} (h : Lst w ex lo hi vs xss) (hs : w.heap.size ≤ w'.heap.size) (hh : hi ≤ hi') (hb : hi' ≤ w'.heap.size) (hk : ∀ j, lo ≤ j → j < hi → ¬ ex j → w'.heap[j]? = w.heap[j]? ∧ ¬ ex' j) : Lst w' ex' lo hi' vs xss := by
  induction vs generalizing lo xss with
  | nil => cases xss with
    | nil => exact ⟨Nat.le_trans h.1 hh, hb⟩
    | cons _ _ => exact h.elim
  | cons v vs ih => cases xss with
    | nil => exact h.elim
    | cons xs xss =>
      obtain ⟨a, n, c, m, h1, h2, h3, h4, h5⟩ := h
      have hb := h5.bounds
      refine ⟨a, n, c, m, h1, ⟨h2.fit.still (fun x hx => (hk _ (h2.range x hx).1 (by have := (h2.range x hx).2; omega) (h4 x hx)).1), h2.under, Nat.le_trans h2.top hs⟩, h3, fun x hx => (hk _ (h2.range x hx).1 (by have := (h2.range x hx).2; omega) (h4 x hx)).2, ih h5 (fun j j1 j2 j3 => hk j (by omega) j2 j3)⟩

theorem Lst.down {w : World} {ex : Nat → Prop} {lo lo' hi : Nat} {vs : List Value} {xss : List (List Int)} (h : Lst w ex lo hi vs xss) (hl : lo' ≤ lo) : Lst w ex lo' hi vs xss := by
  cases vs with
  | nil => cases xss with
    | nil => exact ⟨Nat.le_trans hl h.1, h.2⟩
    | cons _ _ => exact h.elim
  | cons v vs => cases xss with
    | nil => exact h.elim
    | cons xs xss =>
      obtain ⟨a, n, c, m, h1, h2, h3, h4, h5⟩ := h
      exact ⟨a, n, c, m, h1, ⟨h2.fit.mono hl, h2.under, h2.top⟩, by omega, h4, h5⟩

/-- While a run goes on: a Many in the variable, the lists so far. -/
structure Sm (w0 W : World) (a : Option Addr) (la ca : Nat) (d : Option Addr) (ld cd h c : Nat) (ps : List Shr) (ns : List Int) (t p : Int) (k : Nat) (vt vl : List Value) : Prop where
  arg : Mny W w0.heap.size (.slice a la ca) (.slice d ld cd) t (p + k)
  res : Mny W (w0.heap.size + 1) (.slice none 0 0) (.slice none 0 0) 0 0
  shs : SFit W (w0.heap.size + 2) a la ca ps
  cnt : Fit W (w0.heap.size + 2) d ld cd (mAt ps ns t p k)
  ap : Apart a d
  bel : Below w0.heap.size w0 W
  tms : Tms W h c vt
  lh : w0.heap.size + 2 ≤ h
  ah : ∀ x, a = some x → x.block ≠ h
  dh : ∀ x, d = some x → x.block ≠ h
  lst : Lst W (Taken a d h) (w0.heap.size + 2) W.heap.size vl (mLists ps ns t p k)

theorem Sm.all {w0 W W' : World} {a : Option Addr} {la ca : Nat} {d : Option Addr} {ld cd h c : Nat} {ps : List Shr} {ns : List Int} {t p : Int} {k : Nat} {vt vl : List Value} (S : Sm w0 W a la ca d ld cd h c ps ns t p k vt vl) (b : Below W.heap.size W W') : Sm w0 W' a la ca d ld cd h c ps ns t p k vt vl :=
  { S with arg := S.arg.all b, res := S.res.all b, shs := S.shs.all b, cnt := S.cnt.all b, bel := below_call S.bel S.bel.size b, tms := S.tms.all b, lst := S.lst.turn b.size b.size (Nat.le_refl _) (fun j _ hj h => ⟨b.block j hj, h⟩) }

theorem Sm.alloc {w0 W : World} {a : Option Addr} {la ca : Nat} {d : Option Addr} {ld cd h c : Nat} {ps : List Shr} {ns : List Int} {t p : Int} {k : Nat} {vt vl : List Value} (S : Sm w0 W a la ca d ld cd h c ps ns t p k vt vl) (o : Obj) : Sm w0 (W.alloc o) a la ca d ld cd h c ps ns t p k vt vl := S.all (below_new _ _)

theorem set4_still {W : World} {r : Nat} {v0 v1 v2 v3 : Value} {j : Nat} (hj : j < W.heap.size) (hne : j ≠ r) : ((((W.setCell ⟨r, 0, none⟩ v0).setCell ⟨r, 1, none⟩ v1).setCell ⟨r, 2, none⟩ v2).setCell ⟨r, 3, none⟩ v3).heap[j]? = W.heap[j]? := by
  rw [(grown_at _ r 3 _).block j (by simpa using hj) (by simpa using hne), (grown_at _ r 2 _).block j (by simpa using hj) (by simpa using hne), (grown_at _ r 1 _).block j (by simpa using hj) (by simpa using hne), (grown_at _ r 0 _).block j hj (by simpa using hne)]

/-- One time more: what came is in the variable. -/
theorem Sm.next {w0 W W4 : World} {a : Option Addr} {la ca : Nat} {d : Option Addr} {ld cd h c : Nat} {ps : List Shr} {ns : List Int} {t p : Int} {k : Nat} {vs : List Value} (S : Sm w0 W a la ca d ld cd h c ps ns t p k vs vs)
    {a4 : Option Addr} {la4 ca4 : Nat} {d4 : Option Addr} {ld4 cd4 : Nat} {v : Option Addr} {n cv : Nat} (F : SFit W4 W.heap.size a4 la4 ca4 ps) (G : Fit W4 W.heap.size d4 ld4 cd4 (mAt ps ns t p (k + 1))) (V : Fit W4 W.heap.size v n cv (icast (mList ps (mAt ps ns t p k) t (p + k)))) (A1 : Apart a4 d4) (A2 : Apart a4 v) (A3 : Apart d4 v) (B : Below W.heap.size W W4) :
    Sm w0 ((((W4.setCell ⟨w0.heap.size, 0, none⟩ (.slice a4 la4 ca4)).setCell ⟨w0.heap.size, 1, none⟩ (.slice d4 ld4 cd4)).setCell ⟨w0.heap.size, 2, none⟩ (.int .i64 t)).setCell ⟨w0.heap.size, 3, none⟩ (.int .i64 (p + k + 1))) a4 la4 ca4 d4 ld4 cd4 h c ps ns t p (k + 1) vs (vs ++ [.slice v n cv]) := by
  have lh := S.lh
  have ht := S.tms.lt
  have hr := S.res.lt
  have hs := B.size
  have e1 : ((((W4.setCell ⟨w0.heap.size, 0, none⟩ (.slice a4 la4 ca4)).setCell ⟨w0.heap.size, 1, none⟩ (.slice d4 ld4 cd4)).setCell ⟨w0.heap.size, 2, none⟩ (.int .i64 t)).setCell ⟨w0.heap.size, 3, none⟩ (.int .i64 (p + k + 1))).heap.size = W4.heap.size := by simp
  have e : p + ((k + 1 : Nat) : Int) = p + k + 1 := by push_cast; omega
  refine ⟨?_, ?_, ?_, ?_, A1, ?_, ?_, lh, ?_, ?_, ?_⟩
  · rw [e]
    exact ((((S.arg.all B).set0 _).set1 _).set2 _).set3 _
  · exact ((((S.res.all B).past (by omega) _).past (by omega) _).past (by omega) _).past (by omega) _
  · refine (SFit.mono (base' := w0.heap.size + 2) F (by omega)).still (fun x hx => ?_)
    have := F.ge hx
    exact set4_still this.2 (by omega)
  · refine (Fit.mono (base' := w0.heap.size + 2) G (by omega)).still (fun x hx => ?_)
    have := G.ge hx
    exact set4_still this.2 (by omega)
  · exact below_set (below_set (below_set (below_set (below_call S.bel S.bel.size B) (Nat.le_refl _) _) (Nat.le_refl _) _) (Nat.le_refl _) _) (Nat.le_refl _) _
  · exact (S.tms.all B).still (set4_still (by omega) (by omega))
  · intro x hx
    have := F.ge hx
    omega
  · intro x hx
    have := G.ge hx
    omega
  · rw [mLists_succ, e1]
    have l1 : Lst W4 (Taken a4 d4 h) (w0.heap.size + 2) W.heap.size vs (mLists ps ns t p k) := S.lst.turn hs (Nat.le_refl _) hs (fun j _ hj hn => ⟨B.block j hj, fun ht => hn (by
      rcases ht with rfl | ⟨x, hx, hb⟩ | ⟨x, hx, hb⟩
      · exact .inl rfl
      · have := F.ge hx; omega
      · have := G.ge hx; omega)⟩)
    have l2 := l1.snoc (hi' := W4.heap.size) ⟨V, V.under, Nat.le_refl _⟩ hs (fun x hx => by
      have hv := V.ge hx
      rintro (h1 | ⟨y, hy, hb⟩ | ⟨y, hy, hb⟩)
      · omega
      · exact A2 y x hy hx hb
      · exact A3 y x hy hx hb)
    exact l2.turn (by rw [e1]; exact Nat.le_refl _) (Nat.le_refl _) (by rw [e1]; exact Nat.le_refl _) (fun j j1 j2 hn => ⟨set4_still j2 (by omega), hn⟩)

/-- Its list is with the others. -/
theorem Sm.append {w0 W W' : World} {a : Option Addr} {la ca : Nat} {d : Option Addr} {ld cd h c h' c' : Nat} {ps : List Shr} {ns : List Int} {t p : Int} {k : Nat} {vt vl : List Value} (S : Sm w0 W a la ca d ld cd h c ps ns t p k vt vl) (T : Tms W' h' c' vl) (G : W.grownBy W' (some h)) (D : h' = h ∨ h' = W.heap.size) : Sm w0 W' a la ca d ld cd h' c' ps ns t p k vl vl := by
  have lh := S.lh
  have ht := S.tms.lt
  have hr := S.res.lt
  have hs := G.size
  refine ⟨S.arg.other G (by simp; omega), S.res.other G (by simp; omega), S.shs.other G (fun x hx => by simpa using S.ah x hx), S.cnt.other G (fun x hx => by simpa using S.dh x hx), S.ap, S.bel.grown G S.bel.size (fun j hj => by cases hj; omega), T, by omega, ?_, ?_, ?_⟩
  · intro x hx
    have := S.shs.ge hx
    have := S.ah x hx
    omega
  · intro x hx
    have := S.cnt.ge hx
    have := S.dh x hx
    omega
  · refine S.lst.turn hs hs (Nat.le_refl _) (fun j _ hj hn => ⟨G.block j hj (fun e => hn (.inl (by simpa using e))), fun ht => hn ?_⟩)
    rcases ht with h1 | h1 | h1
    · exact .inl (by omega)
    · exact .inr (.inl h1)
    · exact .inr (.inr h1)

/-- What is answered in the end. -/
theorem Sm.answer {w0 W : World} {a : Option Addr} {la ca : Nat} {d : Option Addr} {ld cd h c : Nat} {ps : List Shr} {ns : List Int} {t p : Int} {k : Nat} {vs : List Value} (S : Sm w0 W a la ca d ld cd h c ps ns t p k vs vs) :
    RunPostM ps (mAt ps ns t p k) t (p + k) (mLists ps ns t p k) w0 (.returned (.tuple #[mv (.slice a la ca) (.slice d ld cd) t (p + k), .slice (some ⟨h, 0, none⟩) k c])) ((((W.setCell ⟨w0.heap.size + 1, 0, none⟩ (.slice a la ca)).setCell ⟨w0.heap.size + 1, 1, none⟩ (.slice d ld cd)).setCell ⟨w0.heap.size + 1, 2, none⟩ (.int .i64 t)).setCell ⟨w0.heap.size + 1, 3, none⟩ (.int .i64 (p + k))) := by
  have lh := S.lh
  have ht := S.tms.lt
  have e1 : ((((W.setCell ⟨w0.heap.size + 1, 0, none⟩ (.slice a la ca)).setCell ⟨w0.heap.size + 1, 1, none⟩ (.slice d ld cd)).setCell ⟨w0.heap.size + 1, 2, none⟩ (.int .i64 t)).setCell ⟨w0.heap.size + 1, 3, none⟩ (.int .i64 (p + k))).heap.size = W.heap.size := by simp
  refine ⟨a, la, ca, d, ld, cd, h, c, vs, by rw [mLists_len], ?_, ?_, S.ap, by omega, S.ah, S.dh, ?_, ?_, ?_⟩
  · refine (SFit.mono (base' := w0.heap.size) S.shs (by omega)).still (fun x hx => ?_)
    have := S.shs.ge hx
    exact set4_still this.2 (by omega)
  · refine (Fit.mono (base' := w0.heap.size) S.cnt (by omega)).still (fun x hx => ?_)
    have := S.cnt.ge hx
    exact set4_still this.2 (by omega)
  · exact S.tms.still (set4_still ht (by omega))
  · rw [e1]
    have l1 := S.lst.turn (w' := ((((W.setCell ⟨w0.heap.size + 1, 0, none⟩ (.slice a la ca)).setCell ⟨w0.heap.size + 1, 1, none⟩ (.slice d ld cd)).setCell ⟨w0.heap.size + 1, 2, none⟩ (.int .i64 t)).setCell ⟨w0.heap.size + 1, 3, none⟩ (.int .i64 (p + k)))) (ex' := Taken a d h) (hi' := W.heap.size) (by rw [e1]; exact Nat.le_refl _) (Nat.le_refl _) (by rw [e1]; exact Nat.le_refl _) (fun j j1 j2 hn => ⟨set4_still j2 (by omega), hn⟩)
    exact l1.down (by omega)
  · exact below_set (below_set (below_set (below_set S.bel (by omega) _) (by omega) _) (by omega) _) (by omega) _

set_option maxRecDepth 100000 in
set_option maxHeartbeats 4000000 in
theorem specRunM_yes (a : Option Addr) (len cap : Nat) (ps : List Shr) (a' : Option Addr) (cap' : Nat) (ns : List Int) (t p : Int) (N : Nat) (w : World) (I : Shs w a len ps) (J : Ints w a' len ns) (hk : manyOk ps ns t p = true) (hN : (N : Int) ≤ 3000) (hov : p + (N : Int) ≤ 1000000) :
    Calls Tryz.prog 9 #[mv (.slice a len cap) (.slice a' len cap') t p, .int .i64 N] w (RunPostM ps (mAt ps ns t p N) t (p + N) (mLists ps ns t p N) w) := by
  obtain ⟨i0, hi, hz0, hz1, hz2⟩ := info_parts info_ints
  have H0 : Hid (Rb w ((w.alloc (.cells #[.slice a len cap, .slice a' len cap', .int .i64 t, .int .i64 p] 27)).alloc (.cells #[.slice none 0 0, .slice none 0 0, .int .i64 0, .int .i64 0] 27)) a len cap ps a' len cap' ns t p) := rb_new t p I J
  have h24 : len ≤ 24 := by have := fits_len (many_parts hk).1; have := I.1; omega
  have hb := within_yes (many_parts hk).2.2.1
  have hw : within (N : Int) 0 3000 = true := by simp [within]; omega
  have HK : Hid (manyOk ps ns t p = true ∧ ps.length = len ∧ ns.length = len ∧ within (N : Int) 0 3000 = true) := ⟨hk, I.1, J.1, hw⟩
  have hov' : ¬ (1000000 : Int) < p + (N : Int) := by omega
  have HT : ∀ k : Nat, k < N → manyOk ps (mAt ps ns t p k) t (p + k) = true := by
    intro k hkN
    have h := many_parts hk
    exact many_end h.1 (by rw [mAt_len]; exact h.2.1) (by simp only [within, decide_eq_true_eq]; omega) (mAt_cnts h.2.2.2 k)
  have HTH := hid HT
  clear I J hk hw HT
  go_enter Tryz.func9, Tryz.ntmps9
  go_wp2_with fail
  refine (specManyX a len cap ps a' len cap' ns t p _ H0.out.shs H0.out.ints (by omega)).mono ?_
  rw [HK.out.1]
  rintro e w1 ⟨rfl, B1⟩
  have H1 : Hid (Rb w w1 a len cap ps a' len cap' ns t p) := H0.out.all B1
  clear B1 H0
  have a0 := H1.out.arg.c0
  have a1 := H1.out.arg.c1
  have a2 := H1.out.arg.c2
  have a3 := H1.out.arg.c3
  go_wp2_with fail
  refine (specSteps_any (N : Int) _).mono ?_
  rw [HK.out.2.2.2]
  rintro e w2 ⟨rfl, rfl⟩
  go_wp2_with fail
  refine (specCopyM a len cap ps a' len cap' ns t p _ H1.out.shs H1.out.ints (by omega) (by omega)).mono ?_
  rintro e w3 ⟨gs, cs, gc, cc, rfl, RS, RC, hgs, hgc, hne, B3⟩
  have z0 := H1.out.res.lt
  have H3 : Hid (Rb w w3 a len cap ps a' len cap' ns t p ∧ SFit w3 (w.heap.size + 2) (some ⟨gs, 0, none⟩) len cs ps ∧ Fit w3 (w.heap.size + 2) (some ⟨gc, 0, none⟩) len cc ns) := ⟨H1.out.all B3, RS.fit (by omega) HK.out.2.1, RC.fit (by omega) HK.out.2.2.1⟩
  have z1 := RS.lt
  have z2 := RC.lt
  have z3 := B3.size
  clear B3 H1 a0 a1 a2 a3 RS RC
  have a0 := H3.out.1.arg.c0
  have a1 := H3.out.1.arg.c1
  have a2 := H3.out.1.arg.c2
  have a3 := H3.out.1.arg.c3
  have f0 := H3.out.1.arg.fr 0
  have f1 := H3.out.1.arg.fr 1
  have f2 := H3.out.1.arg.fr 2
  have f3 := H3.out.1.arg.fr 3
  have a4 := H3.out.1.arg.lt
  go_wp2_with fail
  clear a0 a1 a2 a3 f0 f1 f2 f3
  have S0 : Hid (Sm w (((((w3.setCell ⟨w.heap.size, 0, none⟩ (.slice (some ⟨gs, 0, none⟩) len cs)).setCell ⟨w.heap.size, 1, none⟩ (.slice (some ⟨gc, 0, none⟩) len cc)).setCell ⟨w.heap.size, 2, none⟩ (.int .i64 t)).setCell ⟨w.heap.size, 3, none⟩ (.int .i64 p)).alloc (.cells #[] 25)) (some ⟨gs, 0, none⟩) len cs (some ⟨gc, 0, none⟩) len cc w3.heap.size 0 ps ns t p 0 [] []) := by
    have e1 : (((((w3.setCell ⟨w.heap.size, 0, none⟩ (.slice (some ⟨gs, 0, none⟩) len cs)).setCell ⟨w.heap.size, 1, none⟩ (.slice (some ⟨gc, 0, none⟩) len cc)).setCell ⟨w.heap.size, 2, none⟩ (.int .i64 t)).setCell ⟨w.heap.size, 3, none⟩ (.int .i64 p)).alloc (.cells #[] 25)).heap.size = w3.heap.size + 1 := by simp
    refine ⟨?_, ?_, ?_, ?_, ?_, ?_, tms_nil_at (by simp), by omega, ?_, ?_, ?_⟩
    · have e : p + ((0 : Nat) : Int) = p := by simp
      rw [e]
      exact ((((H3.out.1.arg.set0 _).set1 _).set2 _).set3 _).alloc _
    · exact (((((H3.out.1.res.past (by omega) _).past (by omega) _).past (by omega) _).past (by omega) _)).alloc _
    · refine SFit.all (SFit.still H3.out.2.1 (fun x hx => ?_)) (below_new _ _)
      have := H3.out.2.1.ge hx
      exact set4_still this.2 (by omega)
    · refine Fit.all (Fit.still H3.out.2.2 (fun x hx => ?_)) (below_new _ _)
      have := H3.out.2.2.ge hx
      exact set4_still this.2 (by omega)
    · exact fun x y hx hy => by cases hx; cases hy; exact hne
    · exact (below_set (below_set (below_set (below_set H3.out.1.bel (Nat.le_refl _) _) (Nat.le_refl _) _) (Nat.le_refl _) _) (Nat.le_refl _) _).alloc (by have := H3.out.1.bel.size; simp; omega) _
    · exact fun x hx => by cases hx; show gs ≠ _; omega
    · exact fun x hx => by cases hx; show gc ≠ _; omega
    · exact ⟨by omega, Nat.le_refl _⟩
  generalize ((((w3.setCell ⟨w.heap.size, 0, none⟩ (.slice (some ⟨gs, 0, none⟩) len cs)).setCell ⟨w.heap.size, 1, none⟩ (.slice (some ⟨gc, 0, none⟩) len cc)).setCell ⟨w.heap.size, 2, none⟩ (.int .i64 t)).setCell ⟨w.heap.size, 3, none⟩ (.int .i64 p)).alloc (.cells #[] 25) = W3 at *
  generalize w3.heap.size = g0 at *
  clear H3 z0 z1 z2 z3 a4 hgs hgc hne
  go_loopw [1, 6, 7, 8] (fun nn oo _ _ wr => ∃ (k h c : Nat) (b : Option Addr) (lb cb : Nat) (d : Option Addr) (ld cd : Nat) (vs : List Value), k ≤ N ∧ nn = .int .i64 ((N : Int) - (k : Int)) ∧ oo = .slice (some ⟨h, 0, none⟩) k c ∧ lb = len ∧ ld = len ∧ Hid (Sm w wr b lb cb d ld cd h c ps ns t p k vs vs)) (fun nn _ _ _ _ => (intOf nn).toNat)
  case atStart => exact ⟨0, g0, 0, _, _, _, _, _, _, [], Nat.zero_le _, by simp, rfl, rfl, rfl, S0⟩
  case round =>
    obtain ⟨k, h, c, b, lb, cb, d, ld, cd, vs, hkN, rfl, rfl, rfl, rfl, S⟩ := hrel
    have v0 := S.out.arg.c0
    have v1 := S.out.arg.c1
    have v2 := S.out.arg.c2
    have v3 := S.out.arg.c3
    by_cases hlt : k < N
    · have hpos : (0 : Int) < (N : Int) - (k : Int) := by omega
      have hpk : p + (k : Int) < 1000000 := by omega
      have hvl : vs.length = k := by have := S.out.lst.len; rw [mLists_len] at this; exact this
      go_wp2_with fail
      clear v0 v1 v2 v3
      refine (specNextM_yes b ld cb ps d cd (mAt ps ns t p k) t (p + k) _ S.out.shs.shs S.out.cnt.ints (HTH.out k hlt) hpk).mono ?_
      obtain ⟨C, hC⟩ : ∃ C, C = bump (mList ps (mAt ps ns t p k) t (p + k)) (mAt ps ns t p k) := ⟨_, rfl⟩
      rw [← hC]
      rintro e w4 ⟨b4, lb4, cb4, d4, ld4, cd4, v, n, cv, rfl, F4, G4, V4, A1, A2, A3, B4⟩
      have e4 : lb4 = ld := by have := F4.1; have := HK.out.2.1; omega
      have e5 : ld4 = ld := by have h1 := G4.1; rw [hC, bump_len, mAt_len] at h1; have := HK.out.2.2.1; omega
      subst e4
      rw [hC] at G4
      have SN : Hid (Sm w ((((w4.setCell ⟨w.heap.size, 0, none⟩ (.slice b4 lb4 cb4)).setCell ⟨w.heap.size, 1, none⟩ (.slice d4 ld4 cd4)).setCell ⟨w.heap.size, 2, none⟩ (.int .i64 t)).setCell ⟨w.heap.size, 3, none⟩ (.int .i64 (p + k + 1))) b4 lb4 cb4 d4 ld4 cd4 h c ps ns t p (k + 1) vs (vs ++ [.slice v n cv])) := S.out.next F4 G4 V4 A1 A2 A3 B4
      have X4 := S.out.arg.all B4
      have v0 := X4.c0
      have v1 := X4.c1
      have v2 := X4.c2
      have v3 := X4.c3
      have f0 := X4.fr 0
      have f1 := X4.fr 1
      have f2 := X4.fr 2
      have f3 := X4.fr 3
      have n0 := X4.lt
      have n1 := Nat.ne_of_lt n0
      have n2 := Nat.ne_of_gt n0
      clear F4 G4 V4 A1 A2 A3 B4 X4 S hC
      subst e5
      go_wp2_with (at_builtin; refine wpList_append_list rfl (.tmp 39) (.tmp 41) 30 rfl i0 Tryz.underlying30 hi hz0 hz1 hz2 _ _ _ vs rfl hvl.symm ((SN.out.tms.all (below_new _ _)).all (below_new _ _)) _ (.slice v n cv) rfl (one_at (by simp) _ _) rfl (by omega) ?_)
      intro h5 c5 w5 T5 G5 D5
      have S5 : Hid (Sm w w5 b4 ld4 cb4 d4 ld4 cd4 h5 c5 ps ns t p (k + 1) (vs ++ [.slice v n cv]) (vs ++ [.slice v n cv])) := ((SN.out.alloc _).alloc _).append T5 G5 (by simpa using D5)
      clear T5 G5 D5 SN v0 v1 v2 v3 f0 f1 f2 f3 n0 n1 n2
      go_wp2_with fail
      go_roundw
      case rel => exact ⟨k + 1, h5, c5, b4, ld4, cb4, d4, ld4, cd4, _, by omega, by go_num, rfl, rfl, rfl, S5⟩
      case measure => simp [intOf]; omega
    · have hkn : k = N := by omega
      subst hkn
      have hd : decide ((0 : Int) < (k : Int) - (k : Int)) = false := by simp
      have hz' : ¬ (0 : Int) < (k : Int) - (k : Int) := by omega
      have p0 := S.out.res.c0
      have p1 := S.out.res.c1
      have p2 := S.out.res.c2
      have p3 := S.out.res.c3
      have f0 := S.out.res.fr 0
      have f1 := S.out.res.fr 1
      have f2 := S.out.res.fr 2
      have f3 := S.out.res.fr 3
      go_wp2_with fail
      refine bodyPost_ret (ret_mny2 rfl rfl rfl ((((S.out.res.set0 _).set1 _).set2 _).set3 _)) rfl ?_
      exact S.out.answer

set_option maxRecDepth 100000 in
set_option maxHeartbeats 4000000 in
/-- spec.ManyRun at every Many and number. -/
theorem specRunM (a : Option Addr) (len cap : Nat) (ps : List Shr) (a' : Option Addr) (len' cap' : Nat) (ns : List Int) (t p n : Int) (w : World) (I : Shs w a len ps) (J : Ints w a' len' ns) (hsz : (len : Int) ≤ 1048576) :
    Calls Tryz.prog 9 #[mv (.slice a len cap) (.slice a' len' cap') t p, .int .i64 n] w (RunPostM (rmS ps ns t p n) (rmC ps ns t p n) (rmQ ps ns t p n) (rmT ps ns t p n) (rmL ps ns t p n) w) := by
  have H0 : Hid (Rb w ((w.alloc (.cells #[.slice a len cap, .slice a' len' cap', .int .i64 t, .int .i64 p] 27)).alloc (.cells #[.slice none 0 0, .slice none 0 0, .int .i64 0, .int .i64 0] 27)) a len cap ps a' len' cap' ns t p) := rb_new t p I J
  have HIJ : Hid (Shs w a len ps ∧ Ints w a' len' ns) := ⟨I, J⟩
  have hl := I.1
  have hl' := J.1
  clear I J
  cases hk : manyOk ps ns t p
  · have HK : Hid (manyOk ps ns t p = false) := hk
    have HN : Hid (runOkM ps ns t p n = false) := by show _ = _; rw [runOkM, hk]; rfl
    clear hk 
    go_enter Tryz.func9, Tryz.ntmps9
    go_wp2_with fail
    refine (specManyX a len cap ps a' len' cap' ns t p _ H0.out.shs H0.out.ints hsz).mono ?_
    rw [HK.out]
    rintro e w1 ⟨rfl, B1⟩
    have H1 : Hid (Rb w w1 a len cap ps a' len' cap' ns t p) := H0.out.all B1
    clear B1 H0
    have a3 := H1.out.arg.c3
    have p0 := H1.out.res.c0
    have p1 := H1.out.res.c1
    have p2 := H1.out.res.c2
    have p3 := H1.out.res.c3
    have f0 := H1.out.res.fr 0
    have f1 := H1.out.res.fr 1
    have f2 := H1.out.res.fr 2
    have f3 := H1.out.res.fr 3
    have n1 := H1.out.res.lt
    go_wp2_with fail
    refine bodyPost_ret (ret_mny2 rfl rfl rfl (((((H1.out.res.set0 _).set1 _).set2 0).set3 0).alloc _)) rfl (run_none HN.out ?_ (tms_nil_at (by simp)) H1.out.bel.size rfl)
    exact (below_set (below_set (below_set (below_set H1.out.bel (by omega) _) (by omega) _) (by omega) _) (by omega) _).alloc (by have := H1.out.bel.size; simp; omega) _
  cases hw : within n 0 3000
  · have HK : Hid (manyOk ps ns t p = true ∧ within n 0 3000 = false) := ⟨hk, hw⟩
    have HN : Hid (runOkM ps ns t p n = false) := by show _ = _; rw [runOkM, hk, hw]; rfl
    clear hk hw
    go_enter Tryz.func9, Tryz.ntmps9
    go_wp2_with fail
    refine (specManyX a len cap ps a' len' cap' ns t p _ H0.out.shs H0.out.ints hsz).mono ?_
    rw [HK.out.1]
    rintro e w1 ⟨rfl, B1⟩
    have H1 : Hid (Rb w w1 a len cap ps a' len' cap' ns t p) := H0.out.all B1
    clear B1 H0
    have a3 := H1.out.arg.c3
    have p0 := H1.out.res.c0
    have p1 := H1.out.res.c1
    have p2 := H1.out.res.c2
    have p3 := H1.out.res.c3
    have f0 := H1.out.res.fr 0
    have f1 := H1.out.res.fr 1
    have f2 := H1.out.res.fr 2
    have f3 := H1.out.res.fr 3
    have n1 := H1.out.res.lt
    go_wp2_with fail
    refine (specSteps_any n _).mono ?_
    rw [HK.out.2]
    rintro e w2 ⟨rfl, rfl⟩
    go_wp2_with fail
    refine bodyPost_ret (ret_mny2 rfl rfl rfl (((((H1.out.res.set0 _).set1 _).set2 0).set3 0).alloc _)) rfl (run_none HN.out ?_ (tms_nil_at (by simp)) H1.out.bel.size rfl)
    exact (below_set (below_set (below_set (below_set H1.out.bel (by omega) _) (by omega) _) (by omega) _) (by omega) _).alloc (by have := H1.out.bel.size; simp; omega) _
  have b1 := within_yes hw
  have b2 := within_yes (many_parts hk).2.2.1
  by_cases hov : p + n ≤ 1000000
  case neg =>
    have hd : decide ((1000000 : Int) < p + n) = true := decide_eq_true (by omega)
    have hlt : (1000000 : Int) < p + n := by omega
    have HK : Hid (manyOk ps ns t p = true ∧ within n 0 3000 = true) := ⟨hk, hw⟩
    have HN : Hid (runOkM ps ns t p n = false) := by show _ = _; rw [runOkM, decide_eq_false hov, Bool.and_false]
    clear hk hw
    go_enter Tryz.func9, Tryz.ntmps9
    go_wp2_with fail
    refine (specManyX a len cap ps a' len' cap' ns t p _ H0.out.shs H0.out.ints hsz).mono ?_
    rw [HK.out.1]
    rintro e w1 ⟨rfl, B1⟩
    have H1 : Hid (Rb w w1 a len cap ps a' len' cap' ns t p) := H0.out.all B1
    clear B1 H0
    have a3 := H1.out.arg.c3
    have p0 := H1.out.res.c0
    have p1 := H1.out.res.c1
    have p2 := H1.out.res.c2
    have p3 := H1.out.res.c3
    have f0 := H1.out.res.fr 0
    have f1 := H1.out.res.fr 1
    have f2 := H1.out.res.fr 2
    have f3 := H1.out.res.fr 3
    have n1 := H1.out.res.lt
    go_wp2_with fail
    refine (specSteps_any n _).mono ?_
    rw [HK.out.2]
    rintro e w2 ⟨rfl, rfl⟩
    go_wp2_with fail
    refine bodyPost_ret (ret_mny2 rfl rfl rfl (((((H1.out.res.set0 _).set1 _).set2 0).set3 0).alloc _)) rfl (run_none HN.out ?_ (tms_nil_at (by simp)) H1.out.bel.size rfl)
    exact (below_set (below_set (below_set (below_set H1.out.bel (by omega) _) (by omega) _) (by omega) _) (by omega) _).alloc (by have := H1.out.bel.size; simp; omega) _
  obtain ⟨N, rfl⟩ := Int.eq_ofNat_of_zero_le b1.1
  have hok : runOkM ps ns t p (N : Int) = true := by rw [runOkM, hk, hw, decide_eq_true hov]; rfl
  obtain ⟨h1, h2, h3, h4, h5⟩ := rm_yes hok
  have hll : len' = len := by have := (many_parts hk).2.1; omega
  subst hll
  rw [h1, h2, h3, h4, h5, Int.toNat_natCast]
  exact specRunM_yes a len' cap ps a' cap' ns t p N w HIJ.out.1 HIJ.out.2 hk b1.2 hov

theorem run_fits {ps : List Shr} {ns : List Int} {q now n : Int} (h : runOkM ps ns q now n = true) : ps.length ≤ 24 ∧ ns.length ≤ 24 ∧ 0 ≤ n ∧ n ≤ 3000 := by
  rw [runOkM, Bool.and_eq_true, Bool.and_eq_true] at h
  have h1 := many_parts h.1.1
  have h2 := fits_len h1.1
  have h3 := within_yes h.1.2
  have := h1.2.1
  exact ⟨h2, by omega, h3⟩

theorem rn_parts (ps : List Shr) (ns : List Int) (q now n : Int) : (rmS ps ns q now n).length ≤ 24 ∧ (rmC ps ns q now n).length ≤ 24 := by
  cases h : runOkM ps ns q now n
  · rw [(rm_no h).1, (rm_no h).2.1]
    exact ⟨by simp, by simp⟩
  · rw [(rm_yes h).1, (rm_yes h).2.1, mAt_len]
    exact ⟨(run_fits h).1, (run_fits h).2.1⟩

end Go.Proofs.YtjhenfdmbagaiaaGreat.Crew
