/-
  laws.likeMany and likeLists where both read alike; a run in two parts, and what all took together (for FnMany).
-/
import Derived.Test.YtjhenfdmbagaiaaGreatShsLaws
import Derived.Test.YtjhenfdmbagaiaaGreatKindsMany
import Derived.Test.YtjhenfdmbagaiaaGreatManyNextS
import Derived.Test.YtjhenfdmbagaiaaGreatManyRunI
namespace Go.Proofs.YtjhenfdmbagaiaaGreat.Crew
open Go.ChangeShapes Go.WideShapes Go.ChangeAt Go.RowKit

theorem many_like {w : World} {S T : Bs} {u v : Value} {d : MnD} (h : manyK.rep w S u d) (k : manyK.rep w T v d) (hs : (d.s.length : Int) ≤ 1048576) (hs' : (d.c.length : Int) ≤ 1048576) :
    Calls Tryz.prog 16 #[u, v] w fun e w' => e = .returned (.bool true) ∧ Below w.heap.size w w' := by
  obtain ⟨a, la, ca, a', la', ca', rfl, F, F', _, _⟩ := many_at h
  obtain ⟨b, lb, cb, b', lb', cb', rfl, G, G', _, _⟩ := many_at k
  obtain ⟨xs, ys, t, p⟩ := d
  have h1 : (la : Int) ≤ 1048576 := by have := F.1; simp only at this hs; omega
  have h2 : (la' : Int) ≤ 1048576 := by have := F'.1; simp only at this hs'; omega
  have HI : Hid (Shs w a la xs ∧ Ints w a' la' ys ∧ Shs w b lb xs ∧ Ints w b' lb' ys) := ⟨F.shs, F'.ints, G.shs, G'.ints⟩
  obtain ⟨W0, hW0⟩ : ∃ W0, W0 = (w.alloc (.cells #[.slice a la ca, .slice a' la' ca', .int .i64 t, .int .i64 p] 27)).alloc (.cells #[.slice b lb cb, .slice b' lb' cb', .int .i64 t, .int .i64 p] 27) := ⟨_, rfl⟩
  have hz : W0.heap.size = w.heap.size + 2 := by rw [hW0]; simp
  have H0 : Hid (Mny W0 w.heap.size (.slice a la ca) (.slice a' la' ca') t p ∧ Mny W0 (w.heap.size + 1) (.slice b lb cb) (.slice b' lb' cb') t p ∧ Below w.heap.size w W0) := by
    subst hW0
    exact ⟨(mny_new _ _ _ _ _).alloc _, mny_new_at (by simp) _ _ _ _, (below_new _ _).alloc (by simp) _⟩
  clear h k F F' G G' hs hs'
  have n1 : (t == t) = true := by simp
  have n2 : (p == p) = true := by simp
  show Calls _ _ #[mv (.slice a la ca) (.slice a' la' ca') t p, mv (.slice b lb cb) (.slice b' lb' cb') t p] _ _
  go_enter Tryz.func16, Tryz.ntmps16
  go_wp2_with fail
  rw [← hW0]
  clear hW0
  refine (likeShares_same a la ca xs b lb cb _ (HI.out.1.kept H0.out.2.2) (HI.out.2.2.1.kept H0.out.2.2) h1).mono ?_
  rintro e w1 ⟨rfl, B1⟩
  have H1 : Hid (Mny w1 w.heap.size (.slice a la ca) (.slice a' la' ca') t p ∧ Mny w1 (w.heap.size + 1) (.slice b lb cb) (.slice b' lb' cb') t p ∧ Below w.heap.size w w1) := ⟨H0.out.1.all B1, H0.out.2.1.all B1, below_call H0.out.2.2 (by omega) B1⟩
  have c0 := H1.out.1.c1
  have c1 := H1.out.2.1.c1
  clear B1
  go_wp2_with fail
  refine (likeInts_same a' la' ca' ys b' lb' cb' _ (HI.out.2.1.kept H1.out.2.2) (HI.out.2.2.2.kept H1.out.2.2) h2).mono ?_
  rintro e w2 ⟨rfl, B2⟩
  have H2 : Hid (Below w.heap.size w w2) := below_call H1.out.2.2 H1.out.2.2.size B2
  clear c0 c1
  have c0 := (H1.out.1.all B2).c2
  have c1 := (H1.out.2.1.all B2).c2
  have c2 := (H1.out.1.all B2).c3
  have c3 := (H1.out.2.1.all B2).c3
  clear B2
  go_wp2_with fail
  go_ret
  exact ⟨by simp, H2.out⟩

/-- A slice of slices that reads so, in whatever blocks. -/
def Lrd (w : World) (g : Nat) (c : Nat) (vs : List Value) (L : List (List Int)) : Prop :=
  Tms w g c vs ∧ vs.length = L.length ∧ ∀ i, i < L.length → ∃ a n k, vs[i]? = some (.slice a n k) ∧ Ints w a n (L.getD i [])

theorem Lrd.all {w w' : World} {g c : Nat} {vs : List Value} {L : List (List Int)} (h : Lrd w g c vs L) (k : Below w.heap.size w w') : Lrd w' g c vs L :=
  ⟨h.1.all k, h.2.1, fun i hi => by
    obtain ⟨a, n, c, h1, h2⟩ := h.2.2 i hi
    exact ⟨a, n, c, h1, h2.kept k⟩⟩

theorem lists_rd {w : World} {S : Bs} {v : Value} {L : List (List Int)} (h : listsK.rep w S v L) : ∃ g c vs, v = .slice (some ⟨g, 0, none⟩) L.length c ∧ Lrd w g c vs L := by
  obtain ⟨g, c, vs, lo, hi, ex, rfl, T, l, _, _⟩ := h
  refine ⟨g, c, vs, rfl, T, l.len, fun i hi => ?_⟩
  obtain ⟨a, n, k, _, _, h1, h2, _⟩ := l.get hi
  exact ⟨a, n, k, h1, h2.fit.ints⟩

set_option maxRecDepth 100000 in
theorem lists_like {w : World} {g c g' c' : Nat} {vs vs' : List Value} {L : List (List Int)} (h : Lrd w g c vs L) (k : Lrd w g' c' vs' L) (len : Nat) (hlen : len = L.length) (hs : (L.length : Int) ≤ 1048576) (ht : (sumL L : Int) ≤ 1000000) :
    Calls Tryz.prog 17 #[.slice (some ⟨g, 0, none⟩) len c, .slice (some ⟨g', 0, none⟩) len c'] w fun e w' => e = .returned (.bool true) ∧ Below w.heap.size w w' := by
  have HH : Hid (Lrd w g c vs L) := h
  have HK : Hid (Lrd w g' c' vs' L) := k
  have HL : Hid (len = L.length) := hlen
  rw [← hlen] at hs
  clear h k hlen
  have hne : ((len : Int) != (len : Int)) = false := by simp
  go_enter Tryz.func17, Tryz.ntmps17
  go_wp2_with fail
  go_loopw [5] (fun i wr => ∃ n : Nat, n ≤ len ∧ i = .int .i64 n ∧ Hid (Below w.heap.size w wr)) (fun i _ => len - (intOf i).toNat)
  case atStart => exact ⟨0, Nat.zero_le _, rfl, Below.refl _ _⟩
  case round =>
    obtain ⟨n, hn, rfl, B⟩ := hrel
    by_cases hlt : n < len
    · have hlt' : (n : Int) < (len : Int) := by omega
      have H1 := HH.out.all B.out
      have H2 := HK.out.all B.out
      obtain ⟨a1, n1, k1, i1, S1⟩ := H1.2.2 n (by rw [← HL.out]; exact hlt)
      obtain ⟨a2, n2, k2, i2, S2⟩ := H2.2.2 n (by rw [← HL.out]; exact hlt)
      have z1 := H1.1.lt
      have z2 := H2.1.lt
      have d1 : ∀ x : Kin wr, x.u.cell? ⟨g, n, none⟩ = some (.slice a1 n1 k1) := fun x => x.cell z1 (H1.1.cell i1)
      have d2 : ∀ x : Kin wr, x.u.cell? ⟨g', n, none⟩ = some (.slice a2 n2 k2) := fun x => x.cell z2 (H2.1.cell i2)
      have hb := sumL_get (L := L) (n := n) (by rw [← HL.out]; exact hlt)
      have hn1 : (n1 : Int) ≤ 1048576 := by have := S1.1; omega
      have HE : Hid (∀ x : Kin wr, Calls Tryz.prog 18 #[.slice a1 n1 k1, .slice a2 n2 k2] x.u fun e w' => e = .returned (.bool true) ∧ Below x.u.heap.size x.u w') := fun x => likeInts_same a1 n1 k1 (L.getD n []) a2 n2 k2 x.u (S1.kept x.b) (S2.kept x.b) hn1
      clear H1 H2 i1 i2 S1 S2 z1 z2 hb
      go_wp2_with fail
      refine wp_region_kin (by kernel_rfl) (by kernel_rfl) (fun hne => ?_)
      repeat (go_big_quiet_step ((first | (go_at_call 18; exact kin_calls (HE.out _)))))
      refine wpQuiet_nil ?_
      rintro _ ⟨x, rfl⟩
      have BX : Hid (Below w.heap.size w x.u) := below_call B.out B.out.size x.b
      clear d1 d2 HE hne
      generalize x.u = wx at BX ⊢
      go_wp2_with fail
      go_roundw
      case rel => exact ⟨n + 1, by omega, by go_num, BX⟩
      case measure => simp [intOf]; omega
    · have hlt' : ¬ (n : Int) < (len : Int) := by omega
      go_wp2_with fail
      go_ret
      exact ⟨rfl, B.out⟩

/-- append of a slice of slices, whole, under a guard that holds. -/
theorem wpList_append_lists {P : Program} {w : World} {ops : Array Oper} {rest : List Oper} {o : Oper} {a : Act} {Q : Exit → Act → World → Prop} (hgd : Region.wanted o (yielded ops a.tmps) = true) (s x : Operand) (t : TypeId)
    (ho : o.op = .call { callee := .builtin .append, args := #[s, x], argTypes := #[t, t] })
    (i : TypeInfo) (ht : P.underlying t = some (.slice 25)) (hi : P.info? 25 = some i) (hz : i.zero = some (.slice none 0 0)) (hsize : i.size = 1) (hby : i.bytes = 24)
    (g n cap : Nat) (vs : List Value) (hs : a.eval s = .slice (some ⟨g, 0, none⟩) n cap) (hn : n = vs.length) (T : Tms w g cap vs) (b m c : Nat) (us : List Value) (hx : a.eval x = .slice (some ⟨b, 0, none⟩) m c) (hm : us.length = m) (U : Tms w b c us) (h1 : ∀ v ∈ us, v.oneCell' = true) (hlen : vs.length + m ≤ 1000000000)
    (h : ∀ g' cap' w', Tms w' g' cap' (vs ++ us) → w.grownBy w' (some g) → (g' = g ∨ g' = w.heap.size) → wpList P ops Q rest (a.put o.dst (.slice (some ⟨g', 0, none⟩) (n + m) cap')) w') :
    wpList P ops Q (o :: rest) a w := by
  refine wpList_step fun K hK => ?_
  rw [if_pos hgd]
  subst hn
  subst hm
  have hown := T.owns (base := 0) (Nat.zero_le _)
  obtain ⟨v', w', hr, h2, h3, h4, h5⟩ := run_append_own_at (P := P) w 0 t o.type 25 i (.slice none 0 0) 1 24 ht hi hz hsize hby rfl (by decide) _ vs.length _ hown ⟨b, 0, none⟩ us.length c us (by simp) (by
    intro j u hu
    rw [add_plain, Nat.zero_add]
    exact U.cell hu) h1 (by unfold maxLen; omega) (by omega) (Nat.zero_le _)
  rcases h2.2 with ⟨hv', _⟩ | ⟨g', cap', cur, hv', _⟩
  · rw [h4] at hv'
    simp at hv'
  · subst hv'
    unfold Oper.wp execOp
    simp only [ho, resolve, invoke, builtin, Sem.run_bind, Sem.run_pure, Result.andThen_ok, List.map_toArray, List.map_cons, List.map_nil, hs, hx, hr]
    refine hK _ _ (h g' cap' w' (tms_of_owns h2) h3 ?_)
    rcases h5 with h | h
    · simp [Value.ownBlock] at h; exact .inl h
    · simp [Value.ownBlock] at h; exact .inr h

theorem lrd_one {w : World} {g c : Nat} {vs : List Value} {L : List (List Int)} (h : Lrd w g c vs L) : ∀ v ∈ vs, v.oneCell' = true := by
  intro v hv
  obtain ⟨i, hi, rfl⟩ := List.getElem_of_mem hv
  obtain ⟨a, n, k, h1, _⟩ := h.2.2 i (by rw [← h.2.1]; exact hi)
  rw [List.getElem?_eq_getElem hi] at h1
  rw [Option.some.inj h1]
  rfl

/-- One slice of slices behind another. -/
theorem lrd_append {w : World} {g c g1 c1 g2 c2 : Nat} {us vs : List Value} {L M : List (List Int)} (T : Tms w g c (us ++ vs)) (h : Lrd w g1 c1 us L) (k : Lrd w g2 c2 vs M) : Lrd w g c (us ++ vs) (L ++ M) := by
  refine ⟨T, by rw [List.length_append, List.length_append, h.2.1, k.2.1], fun i hi => ?_⟩
  rw [List.length_append] at hi
  by_cases hl : i < L.length
  · obtain ⟨a, n, c, e1, e2⟩ := h.2.2 i hl
    refine ⟨a, n, c, ?_, ?_⟩
    · rw [List.getElem?_append_left (by rw [h.2.1]; exact hl)]
      exact e1
    · rw [List.getD_eq_getElem?_getD, List.getElem?_append_left hl, ← List.getD_eq_getElem?_getD]
      exact e2
  · obtain ⟨a, n, c, e1, e2⟩ := k.2.2 (i - L.length) (by omega)
    refine ⟨a, n, c, ?_, ?_⟩
    · rw [List.getElem?_append_right (by rw [h.2.1]; omega), h.2.1]
      exact e1
    · rw [List.getD_eq_getElem?_getD, List.getElem?_append_right (by omega), ← List.getD_eq_getElem?_getD]
      exact e2

theorem sumI_one (ns : List Int) (i : Nat) (h : i < ns.length) : sumI (ns.set i (ns.getD i 0 + 1)) = sumI ns + 1 := by
  induction ns generalizing i with
  | nil => simp at h
  | cons x ns ih =>
    cases i with
    | zero =>
      have e1 : sumI (x :: ns) = x + sumI ns := by simp [sumI]
      have e2 : sumI ((x + 1) :: ns) = x + 1 + sumI ns := by simp [sumI]
      rw [List.set_cons_zero, List.getD_cons_zero, e1, e2]
      omega
    | succ i =>
      have e1 : ∀ ys : List Int, sumI (x :: ys) = x + sumI ys := fun ys => by simp [sumI]
      rw [List.set_cons_succ, List.getD_cons_succ, e1, e1, ih i (by simpa using h)]
      omega

theorem sumI_bump (l : List Nat) (ns : List Int) (h : ∀ i ∈ l, i < ns.length) : sumI (bump l ns) = sumI ns + (l.length : Int) := by
  induction l generalizing ns with
  | nil => simp [bump]
  | cons i l ih =>
    have e : bump (i :: l) ns = bump l (ns.set i (ns.getD i 0 + 1)) := rfl
    rw [e, ih _ (fun j hj => by rw [List.length_set]; exact h j (List.mem_cons_of_mem _ hj)), sumI_one ns i (h i (List.mem_cons_self ..)), List.length_cons]
    push_cast
    omega

/-- What all had more behind k times is what was taken. -/
theorem mAt_sum (ps : List Shr) (ns : List Int) (q now : Int) (hl : ns.length = ps.length) (k : Nat) : sumI (mAt ps ns q now k) = sumI ns + (sumL (mLists ps ns q now k) : Nat) := by
  induction k with
  | zero => simp [mAt, mLists, mWho, sumL]
  | succ k ih =>
    have e : mAt ps ns q now (k + 1) = bump (mList ps (mAt ps ns q now k) q (now + k)) (mAt ps ns q now k) := rfl
    rw [e, sumI_bump _ _ (fun i hi => by rw [mAt_len, hl]; exact mList_lt hi), ih, mLists_succ, sumL_snoc, icast, List.length_map]
    push_cast
    omega

/-- A run in two parts. -/
theorem two_partsM {ps : List Shr} {ns : List Int} {q t n k : Int} (h : runOkM ps ns q t n = true) (k0 : 0 ≤ k) (k1 : k ≤ n) :
    runOkM ps ns q t k = true ∧ runOkM ps (mAt ps ns q t k.toNat) q (t + k) (n - k) = true ∧
    mAt ps (mAt ps ns q t k.toNat) q (t + k) (n - k).toNat = mAt ps ns q t n.toNat ∧ mLists ps ns q t k.toNat ++ mLists ps (mAt ps ns q t k.toNat) q (t + k) (n - k).toNat = mLists ps ns q t n.toNat := by
  rw [runOkM, Bool.and_eq_true, Bool.and_eq_true, decide_eq_true_eq] at h
  obtain ⟨⟨hm, hw⟩, hv⟩ := h
  have hb := within_yes hw
  have hp := many_parts hm
  have ht := within_yes hp.2.2.1
  have w1 : within k 0 3000 = true := by simp only [within, decide_eq_true_eq]; omega
  have w2 : within (n - k) 0 3000 = true := by simp only [within, decide_eq_true_eq]; omega
  have w3 : within (t + k) 0 1000000 = true := by simp only [within, decide_eq_true_eq]; omega
  have m2 : manyOk ps (mAt ps ns q t k.toNat) q (t + k) = true := many_end hp.1 (by rw [mAt_len]; exact hp.2.1) w3 (mAt_cnts hp.2.2.2 _)
  have e0 : t + k = t + ((k.toNat : Nat) : Int) := by omega
  have e1 : n.toNat = k.toNat + (n - k).toNat := by omega
  refine ⟨?_, ?_, ?_, ?_⟩
  · rw [runOkM, hm, w1, decide_eq_true (by omega)]; rfl
  · rw [runOkM, m2, w2, decide_eq_true (by omega)]; rfl
  · rw [e1, mAt_add, ← e0]
  · rw [e1, mLists, mLists, mLists, mWho_add, List.map_append, ← e0]

end Go.Proofs.YtjhenfdmbagaiaaGreat.Crew

/-
  Several processors: what ManyNext and ManyRun answer, as kinds.
-/
namespace Go.Proofs.YtjhenfdmbagaiaaGreat.Crew
open Go.ChangeShapes Go.WideShapes Go.ChangeAt Go.RowKit

def nxD (d : MnD) : MnD := ⟨rmS d.s d.c d.q d.t 1, rmC d.s d.c d.q d.t 1, rmQ d.s d.c d.q d.t 1, rmT d.s d.c d.q d.t 1⟩
def nxW (d : MnD) : List Int := nxL d.s d.c d.q d.t
def rnD (d : MnD) (n : Int) : MnD := ⟨rmS d.s d.c d.q d.t n, rmC d.s d.c d.q d.t n, rmQ d.s d.c d.q d.t n, rmT d.s d.c d.q d.t n⟩
def rnW (d : MnD) (n : Int) : List (List Int) := rmL d.s d.c d.q d.t n

theorem next_post {w w' : World} {e : Ending} {S : List Shr} {C : List Int} {q t : Int} {L : List Int} (h : NextPostM S C q t L w e w') :
    ∃ xa xl xc ya yl yc u T U, e = .returned (.tuple #[mv (.slice xa xl xc) (.slice ya yl yc) q t, u]) ∧ manyK.rep w' T (mv (.slice xa xl xc) (.slice ya yl yc) q t) ⟨S, C, q, t⟩ ∧ intsK.rep w' U u L ∧ Dj T U ∧ (∀ j, T j → w.heap.size ≤ j) ∧ (∀ j, U j → w.heap.size ≤ j) ∧ Below w.heap.size w w' := by
  obtain ⟨a, la, ca, d, ld, cd, v, n, c, rfl, F, G, V, A1, A2, A3, B⟩ := h
  refine ⟨_, _, _, _, _, _, _, _, _, rfl, many_mk F G A1, fit_ints V, ?_, ?_, fit_fresh V, B⟩
  · rintro j (h1 | h1) h2
    · exact apart_dj A2 j h1 h2
    · exact apart_dj A3 j h1 h2
  · rintro j (h1 | h1)
    · exact sfit_fresh F j h1
    · exact fit_fresh G j h1

theorem run_post {w w' : World} {e : Ending} {S : List Shr} {C : List Int} {q t : Int} {L : List (List Int)} (h : RunPostM S C q t L w e w') :
    ∃ xa xl xc ya yl yc u T U, e = .returned (.tuple #[mv (.slice xa xl xc) (.slice ya yl yc) q t, u]) ∧ manyK.rep w' T (mv (.slice xa xl xc) (.slice ya yl yc) q t) ⟨S, C, q, t⟩ ∧ listsK.rep w' U u L ∧ Dj T U ∧ (∀ j, T j → w.heap.size ≤ j) ∧ (∀ j, U j → w.heap.size ≤ j) ∧ Below w.heap.size w w' := by
  obtain ⟨a, la, ca, d, ld, cd, h, c, vs, rfl, F, G, A1, hh, ah, dh, T, l, B⟩ := h
  refine ⟨_, _, _, _, _, _, _, _, fun j => j = h ∨ (w.heap.size ≤ j ∧ j < w'.heap.size ∧ ¬ Taken a d h j), rfl, many_mk F G A1, ⟨h, c, vs, _, _, _, rfl, T, l, .inl rfl, fun _ => Iff.rfl⟩, ?_, ?_, ?_, B⟩
  · rintro j (h1 | h1) h2
    · cases a with
      | none => cases h1
      | some x =>
        rw [blk_some] at h1
        have h3 := Option.some.inj h1
        rcases h2 with h2 | ⟨_, _, h2⟩
        · exact ah x rfl (h3.trans h2)
        · exact h2 (.inr (.inl ⟨x, rfl, h3⟩))
    · cases d with
      | none => cases h1
      | some x =>
        rw [blk_some] at h1
        have h3 := Option.some.inj h1
        rcases h2 with h2 | ⟨_, _, h2⟩
        · exact dh x rfl (h3.trans h2)
        · exact h2 (.inr (.inr ⟨x, rfl, h3⟩))
  · rintro j (h1 | h1)
    · exact sfit_fresh F j h1
    · exact fit_fresh G j h1
  · rintro j (h1 | ⟨h1, _⟩)
    · omega
    · exact h1

theorem specNextK {w : World} {S : Bs} {v : Value} {d : MnD} (h : manyK.rep w S v d) (hs : (d.s.length : Int) ≤ 1048576) :
    Calls Tryz.prog 12 #[v] w fun e w' => ∃ xa xl xc ya yl yc u T U, e = .returned (.tuple #[mv (.slice xa xl xc) (.slice ya yl yc) (nxD d).q (nxD d).t, u]) ∧ manyK.rep w' T (mv (.slice xa xl xc) (.slice ya yl yc) (nxD d).q (nxD d).t) (nxD d) ∧ intsK.rep w' U u (nxW d) ∧ Dj T U ∧ (∀ j, T j → w.heap.size ≤ j) ∧ (∀ j, U j → w.heap.size ≤ j) ∧ Below w.heap.size w w' := by
  obtain ⟨a, la, ca, b, lb, cb, rfl, F, G, _, _⟩ := many_at h
  exact (specNextM a la ca d.s b lb cb d.c d.q d.t w F.shs G.ints (by have := F.1; omega)).mono (fun e w' h => next_post h)

theorem implNextK {w : World} {S : Bs} {v : Value} {d : MnD} (h : manyK.rep w S v d) (hs : (d.s.length : Int) ≤ 1048576) :
    Calls Tryz.prog 11 #[v] w fun e w' => ∃ xa xl xc ya yl yc u T U, e = .returned (.tuple #[mv (.slice xa xl xc) (.slice ya yl yc) (nxD d).q (nxD d).t, u]) ∧ manyK.rep w' T (mv (.slice xa xl xc) (.slice ya yl yc) (nxD d).q (nxD d).t) (nxD d) ∧ intsK.rep w' U u (nxW d) ∧ Dj T U ∧ (∀ j, T j → w.heap.size ≤ j) ∧ (∀ j, U j → w.heap.size ≤ j) ∧ Below w.heap.size w w' := by
  obtain ⟨a, la, ca, b, lb, cb, rfl, F, G, _, _⟩ := many_at h
  exact (implNextM a la ca d.s b lb cb d.c d.q d.t w F.shs G.ints (by have := F.1; omega)).mono (fun e w' h => next_post h)

theorem specRunK {w : World} {S : Bs} {v : Value} {d : MnD} (n : Int) (h : manyK.rep w S v d) (hs : (d.s.length : Int) ≤ 1048576) :
    Calls Tryz.prog 9 #[v, .int .i64 n] w fun e w' => ∃ xa xl xc ya yl yc u T U, e = .returned (.tuple #[mv (.slice xa xl xc) (.slice ya yl yc) (rnD d n).q (rnD d n).t, u]) ∧ manyK.rep w' T (mv (.slice xa xl xc) (.slice ya yl yc) (rnD d n).q (rnD d n).t) (rnD d n) ∧ listsK.rep w' U u (rnW d n) ∧ Dj T U ∧ (∀ j, T j → w.heap.size ≤ j) ∧ (∀ j, U j → w.heap.size ≤ j) ∧ Below w.heap.size w w' := by
  obtain ⟨a, la, ca, b, lb, cb, rfl, F, G, _, _⟩ := many_at h
  exact (specRunM a la ca d.s b lb cb d.c d.q d.t n w F.shs G.ints (by have := F.1; omega)).mono (fun e w' h => run_post h)

theorem implRunK {w : World} {S : Bs} {v : Value} {d : MnD} (n : Int) (h : manyK.rep w S v d) (hs : (d.s.length : Int) ≤ 1048576) :
    Calls Tryz.prog 8 #[v, .int .i64 n] w fun e w' => ∃ xa xl xc ya yl yc u T U, e = .returned (.tuple #[mv (.slice xa xl xc) (.slice ya yl yc) (rnD d n).q (rnD d n).t, u]) ∧ manyK.rep w' T (mv (.slice xa xl xc) (.slice ya yl yc) (rnD d n).q (rnD d n).t) (rnD d n) ∧ listsK.rep w' U u (rnW d n) ∧ Dj T U ∧ (∀ j, T j → w.heap.size ≤ j) ∧ (∀ j, U j → w.heap.size ≤ j) ∧ Below w.heap.size w w' := by
  obtain ⟨a, la, ca, b, lb, cb, rfl, F, G, _, _⟩ := many_at h
  exact (implRunM a la ca d.s b lb cb d.c d.q d.t n w F.shs G.ints (by have := F.1; omega)).mono (fun e w' h => run_post h)

theorem sumL_le {L : List (List Int)} {k : Nat} (h : ∀ xs ∈ L, xs.length ≤ k) : sumL L ≤ k * L.length := by
  induction L with
  | nil => simp [sumL]
  | cons xs L ih =>
    have h1 := h xs (List.mem_cons_self ..)
    have h2 := ih (fun ys hy => h ys (List.mem_cons_of_mem _ hy))
    rw [sumL, List.length_cons, Nat.mul_succ]
    omega

theorem nx_small (d : MnD) : ((nxD d).s.length ≤ 24 ∧ (nxD d).c.length ≤ 24 ∧ manyK.slots (nxD d) ≤ 100) ∧ (nxW d).length ≤ 24 ∧ intsK.slots (nxW d) ≤ 24 := by
  have h := rn_parts d.s d.c d.q d.t 1
  refine ⟨⟨h.1, h.2, ?_⟩, ?_⟩
  · show 2 * (rmS d.s d.c d.q d.t 1).length + (rmC d.s d.c d.q d.t 1).length ≤ 100
    omega
  · have h2 : (nxW d).length ≤ 24 := by
      show (nxL d.s d.c d.q d.t).length ≤ 24
      cases hk : runOkM d.s d.c d.q d.t 1
      · rw [nxL_no hk]; simp
      · rw [nxL_yes hk, icast, List.length_map]
        exact Nat.le_trans mList_len (run_fits hk).1
    exact ⟨h2, h2⟩

theorem rn_small (d : MnD) (n : Int) : ((rnD d n).s.length ≤ 24 ∧ (rnD d n).c.length ≤ 24 ∧ manyK.slots (rnD d n) ≤ 100) ∧ (rnW d n).length ≤ 3000 ∧ sumL (rnW d n) ≤ 72000 ∧ listsK.slots (rnW d n) ≤ 72000 := by
  have h := rn_parts d.s d.c d.q d.t n
  refine ⟨⟨h.1, h.2, ?_⟩, ?_⟩
  · show 2 * (rmS d.s d.c d.q d.t n).length + (rmC d.s d.c d.q d.t n).length ≤ 100
    omega
  · have h2 : (rnW d n).length ≤ 3000 ∧ sumL (rnW d n) ≤ 72000 := by
      show (rmL d.s d.c d.q d.t n).length ≤ 3000 ∧ sumL (rmL d.s d.c d.q d.t n) ≤ 72000
      cases hk : runOkM d.s d.c d.q d.t n
      · rw [(rm_no hk).2.2.2.2]
        exact ⟨by simp, by simp [sumL]⟩
      · have hf := run_fits hk
        rw [(rm_yes hk).2.2.2.2, mLists_len]
        have h3 : sumL (mLists d.s d.c d.q d.t n.toNat) ≤ 24 * n.toNat := by
          have := sumL_le (L := mLists d.s d.c d.q d.t n.toNat) (k := 24) (fun xs hx => by
            rw [mLists, List.mem_map] at hx
            obtain ⟨l, hl, rfl⟩ := hx
            rw [mWho, List.mem_map] at hl
            obtain ⟨j, _, rfl⟩ := hl
            rw [icast, List.length_map]
            exact Nat.le_trans mList_len hf.1)
          rwa [mLists_len] at this
        omega
    exact ⟨h2.1, h2.2, h2.2⟩

end Go.Proofs.YtjhenfdmbagaiaaGreat.Crew
