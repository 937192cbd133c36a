/-
  Several processors: who is ready, who goes first, who is taken, and what a run comes to (no code here).
-/
import Derived.Test.YtjhenfdmbagaiaaGreatRankMath
import Derived.Test.YtjhenfdmbagaiaaGreatManyBase
import Derived.Test.YtjhenfdmbagaiaaGreatTopPure
import Derived.Test.YtjhenfdmbagaiaaGreatSortMath
namespace Go.Proofs.YtjhenfdmbagaiaaGreat.Crew
open Go.Proofs.YtjhenfdmbagaiaaGreat.Win

/-- Whose next turn is ready, and has a number. -/
def tnR (ps : List Shr) (ns : List Int) (now : Int) (i : Nat) : Bool := decide (ns.getD i 0 < 1000000) && decide (readyV (ps.getD i (0, 0)).1 (ps.getD i (0, 0)).2 (ns.getD i 0 + 1) ≤ now)

def rkA (ps : List Shr) (ns : List Int) (i : Nat) : Int := dueV (ps.getD i (0, 0)).1 (ps.getD i (0, 0)).2 (ns.getD i 0 + 1)
def rkO (ps : List Shr) (ns : List Int) (i : Nat) : Bool := overB (ps.getD i (0, 0)).1 (ps.getD i (0, 0)).2 (ns.getD i 0 + 1)
def rkC (ps : List Shr) (ns : List Int) (i : Nat) : Int := rankC (ps.getD i (0, 0)).1 (ps.getD i (0, 0)).2 (ns.getD i 0 + 1)

def ahM (ps : List Shr) (ns : List Int) (i j : Nat) : Int := cmpR (rkA ps ns i) (rkO ps ns i) (rkC ps ns i) (rkA ps ns j) (rkO ps ns j) (rkC ps ns j)

/-- Whose next turn goes first; the lesser number's, where neither goes ahead. -/
def goM (ps : List Shr) (ns : List Int) (i j : Nat) : Bool := decide (ahM ps ns i j = 1) || (decide (ahM ps ns i j = 0) && decide (i < j))

theorem goM_iff {ps : List Shr} {ns : List Int} {i j : Nat} : goM ps ns i j = true ↔ ahM ps ns i j = 1 ∨ (ahM ps ns i j = 0 ∧ i < j) := by
  simp [goM]

theorem ahM_neg (ps : List Shr) (ns : List Int) (i j : Nat) : ahM ps ns j i = - ahM ps ns i j := cmp_neg _ _ _ _ _ _

theorem ahM_bd (ps : List Shr) (ns : List Int) (i j : Nat) : -1 ≤ ahM ps ns i j ∧ ahM ps ns i j ≤ 1 := cmp_bd _ _ _ _ _ _

theorem ahM_tr {ps : List Shr} {ns : List Int} {i j k : Nat} (h : 0 ≤ ahM ps ns i j) (h' : 0 ≤ ahM ps ns j k) : 0 ≤ ahM ps ns i k := cmp_trans _ _ _ _ _ _ _ _ _ h h'

theorem goM_strict (ps : List Shr) (ns : List Int) : Top.Strict (goM ps ns) := by
  refine ⟨fun i => ?_, fun i j k h1 h2 => ?_, fun i j hij => ?_⟩
  · have h0 : ahM ps ns i i = 0 := cmp_self _ _ _
    cases h : goM ps ns i i
    · rfl
    · rw [goM_iff, h0] at h; omega
  · rw [goM_iff] at *
    have b1 := ahM_bd ps ns i k
    have n1 := ahM_neg ps ns i j
    have n2 := ahM_neg ps ns j k
    have n3 := ahM_neg ps ns i k
    have t1 : 0 ≤ ahM ps ns i k := ahM_tr (j := j) (by omega) (by omega)
    have t2 : 0 ≤ ahM ps ns k i → 0 ≤ ahM ps ns j i := fun h => ahM_tr (j := k) (by omega) h
    have t3 : 0 ≤ ahM ps ns k i → 0 ≤ ahM ps ns k j := fun h => ahM_tr (j := i) h (by omega)
    have b2 := ahM_bd ps ns i j
    have b3 := ahM_bd ps ns j k
    omega
  · rw [goM_iff, goM_iff]
    have b1 := ahM_bd ps ns i j
    have n1 := ahM_neg ps ns i j
    omega

/-- Who of the first k is among the first q. -/
def mTop (ps : List Shr) (ns : List Int) (q now : Int) (k i : Nat) : Bool := Top.topB (goM ps ns) (tnR ps ns now) q.toNat k i

/-- Who is taken, rising. -/
def mList (ps : List Shr) (ns : List Int) (q now : Int) : List Nat := Top.listB (mTop ps ns q now ps.length) ps.length

/-- One turn more for each of some. -/
def bump (l : List Nat) (ns : List Int) : List Int := l.foldl (fun ns i => ns.set i (ns.getD i 0 + 1)) ns

theorem bump_len (l : List Nat) (ns : List Int) : (bump l ns).length = ns.length := by
  induction l generalizing ns with
  | nil => rfl
  | cons a l ih => rw [bump, List.foldl_cons, ← bump, ih, List.length_set]

theorem bump_snoc (l : List Nat) (i : Nat) (ns : List Int) : bump (l ++ [i]) ns = (bump l ns).set i ((bump l ns).getD i 0 + 1) := by
  rw [bump, List.foldl_append]
  rfl

theorem bump_nil (ns : List Int) : bump [] ns = ns := rfl

theorem bump_get {l : List Nat} (hl : l.Nodup) {ns : List Int} {i : Nat} (hi : i < ns.length) : (bump l ns).getD i 0 = ns.getD i 0 + (if i ∈ l then 1 else 0) := by
  induction l generalizing ns with
  | nil => simp [bump]
  | cons a l ih =>
    have h1 := List.nodup_cons.1 hl
    have e : bump (a :: l) ns = bump l (ns.set a (ns.getD a 0 + 1)) := rfl
    rw [e, ih h1.2 (by simpa using hi)]
    by_cases h : i = a
    · subst h
      have : (ns.set i (ns.getD i 0 + 1)).getD i 0 = ns.getD i 0 + 1 := by simp [List.getD, hi]
      rw [this]
      simp [h1.1]
    · have : (ns.set a (ns.getD a 0 + 1)).getD i 0 = ns.getD i 0 := by simp [List.getD, Ne.symm h]
      rw [this]
      simp [h]

theorem mList_nodup (ps : List Shr) (ns : List Int) (q now : Int) : (mList ps ns q now).Nodup := List.Pairwise.imp (fun h => Nat.ne_of_lt h) (Top.listB_asc (mTop ps ns q now ps.length) ps.length)

theorem mem_mList {ps : List Shr} {ns : List Int} {q now : Int} {i : Nat} : i ∈ mList ps ns q now ↔ mTop ps ns q now ps.length i = true := by
  unfold mList
  rw [Top.mem_listB]
  constructor
  · exact fun h => h.2
  · exact fun h => ⟨(Top.topB_iff.1 h).2.1, h⟩

theorem mList_lt {ps : List Shr} {ns : List Int} {q now : Int} {i : Nat} (h : i ∈ mList ps ns q now) : i < ps.length := (Top.mem_listB.1 h).1

theorem mList_rdy {ps : List Shr} {ns : List Int} {q now : Int} {i : Nat} (h : i ∈ mList ps ns q now) : tnR ps ns now i = true := (Top.topB_iff.1 (mem_mList.1 h)).1

theorem mList_len {ps : List Shr} {ns : List Int} {q now : Int} : (mList ps ns q now).length ≤ ps.length := by
  unfold mList Top.listB
  exact Nat.le_trans (List.length_filter_le _ _) (by simp)

theorem mList_procs {ps : List Shr} {ns : List Int} {q now : Int} : (mList ps ns q now).length ≤ q.toNat := by
  unfold mList
  rw [Top.listB_len]
  exact Top.top_le (goM_strict ps ns)

/-- The counts behind one time. -/
def mNext (ps : List Shr) (ns : List Int) (q now : Int) : List Int := bump (mList ps ns q now) ns

theorem mNext_len (ps : List Shr) (ns : List Int) (q now : Int) : (mNext ps ns q now).length = ns.length := bump_len _ _

theorem mNext_cnts {ps : List Shr} {ns : List Int} {q now : Int} (h : cnts ns = true) : cnts (mNext ps ns q now) = true := by
  rw [cnts, List.all_eq_true] at h ⊢
  intro x hx
  obtain ⟨i, hi, rfl⟩ := List.getElem_of_mem hx
  have hi' : i < ns.length := by rw [mNext_len] at hi; exact hi
  have e := bump_get (mList_nodup ps ns q now) hi'
  have e2 : (mNext ps ns q now)[i] = (mNext ps ns q now).getD i 0 := by simp [List.getD, hi]
  rw [e2]
  have h0 := within_yes (h (ns[i]) (List.getElem_mem _))
  have e3 : ns[i] = ns.getD i 0 := by simp [List.getD, hi']
  rw [e3] at h0
  unfold mNext
  rw [e]
  by_cases hm : i ∈ mList ps ns q now
  · have hr := mList_rdy hm
    simp only [tnR, Bool.and_eq_true, decide_eq_true_eq] at hr
    simp only [hm, if_true, within, decide_eq_true_eq]
    omega
  · simp only [hm, if_false, within, decide_eq_true_eq]
    omega

/-- The counts behind k times. -/
def mAt (ps : List Shr) (ns : List Int) (q now : Int) : Nat → List Int
  | 0 => ns
  | k + 1 => mNext ps (mAt ps ns q now k) q (now + k)

/-- Who was taken at each of k times. -/
def mWho (ps : List Shr) (ns : List Int) (q now : Int) (k : Nat) : List (List Nat) := (List.range k).map fun j => mList ps (mAt ps ns q now j) q (now + j)

theorem mWho_len (ps : List Shr) (ns : List Int) (q now : Int) (k : Nat) : (mWho ps ns q now k).length = k := by simp [mWho]

theorem mWho_succ (ps : List Shr) (ns : List Int) (q now : Int) (k : Nat) : mWho ps ns q now (k + 1) = mWho ps ns q now k ++ [mList ps (mAt ps ns q now k) q (now + k)] := by
  unfold mWho
  rw [List.range_succ, List.map_append]
  rfl

theorem mAt_len (ps : List Shr) (ns : List Int) (q now : Int) (k : Nat) : (mAt ps ns q now k).length = ns.length := by
  induction k with
  | zero => rfl
  | succ k ih => rw [mAt, mNext_len, ih]

theorem mAt_cnts {ps : List Shr} {ns : List Int} {q now : Int} (h : cnts ns = true) (k : Nat) : cnts (mAt ps ns q now k) = true := by
  induction k with
  | zero => exact h
  | succ k ih => exact mNext_cnts ih

theorem mAt_add (ps : List Shr) (ns : List Int) (q now : Int) (j k : Nat) : mAt ps ns q now (j + k) = mAt ps (mAt ps ns q now j) q (now + j) k := by
  induction k with
  | zero => rfl
  | succ k ih =>
    rw [← Nat.add_assoc, mAt, ih, mAt]
    congr 1
    push_cast
    omega

theorem mWho_add (ps : List Shr) (ns : List Int) (q now : Int) (j k : Nat) : mWho ps ns q now (j + k) = mWho ps ns q now j ++ mWho ps (mAt ps ns q now j) q (now + j) k := by
  induction k with
  | zero => simp [mWho]
  | succ k ih =>
    have e : now + ((j + k : Nat) : Int) = now + (j : Int) + (k : Int) := by push_cast; omega
    rw [← Nat.add_assoc, mWho_succ, ih, mWho_succ, List.append_assoc, mAt_add, e]

/-- A run that can be done. -/
def runOkM (ps : List Shr) (ns : List Int) (q now n : Int) : Bool := manyOk ps ns q now && within n 0 3000 && decide (now + n ≤ 1000000)

theorem parts_all {ps : List Shr} : ∀ (o : Option (Int × Int)), ps.foldl partStep o ≠ none → ∀ p ∈ ps, shareOk p.1 p.2 = true := by
  induction ps with
  | nil => intro o _ p hp; cases hp
  | cons x ps ih =>
    intro o h p hp
    rw [List.foldl_cons] at h
    rcases List.mem_cons.1 hp with rfl | hp
    · cases hs : shareOk p.1 p.2
      · exfalso
        apply h
        have : partStep o p = none := by
          cases o with
          | none => rfl
          | some q => exact step_bad hs
        rw [this, fold_none]
      · rfl
    · exact ih _ h p hp

theorem fits_share {ps : List Shr} {q : Int} (h : fitsOn ps q = true) {i : Nat} (hi : i < ps.length) : shareOk (ps.getD i (0, 0)).1 (ps.getD i (0, 0)).2 = true := by
  have h1 : parts ps ≠ none := by
    intro e
    rw [fits_none e] at h
    cases h
  have e : ps.getD i (0, 0) = ps[i] := by simp [List.getD, hi]
  rw [e]
  exact parts_all _ h1 _ (List.getElem_mem _)

theorem fits_proc {ps : List Shr} {q : Int} (h : fitsOn ps q = true) : 1 ≤ q ∧ q ≤ 8 := by
  cases hp : procsOk q
  · rw [fits_procs hp] at h; cases h
  · exact procs_yes hp

theorem cnts_get {ns : List Int} (h : cnts ns = true) (i : Nat) : 0 ≤ ns.getD i 0 ∧ ns.getD i 0 ≤ 1000000 := by
  by_cases hi : i < ns.length
  · rw [cnts, List.all_eq_true] at h
    have := within_yes (h ns[i] (List.getElem_mem _))
    have e : ns.getD i 0 = ns[i] := by simp [List.getD, hi]
    rw [e]
    omega
  · have e : ns.getD i 0 = 0 := by simp [List.getD, show ns.length ≤ i by omega]
    rw [e]
    decide

theorem turn_mk {n d j : Int} (h : shareOk n d = true) (h1 : 1 ≤ j) (h2 : j ≤ 1000000) : turnOk n d j = true := by
  rw [turnOk, h, within, decide_eq_true ⟨h1, h2⟩]
  rfl

theorem turn_over {n d j : Int} (h : ¬ j ≤ 1000000) : turnOk n d j = false := by
  rw [turnOk, show within j 1 1000000 = false by simp [within]; omega, Bool.and_false]

end Go.Proofs.YtjhenfdmbagaiaaGreat.Crew

/-
  The line of spec.ManyNext: who can be taken, the first ones first, laid in one by one; its first ones are those that mList takes.
-/
namespace Go.Proofs.YtjhenfdmbagaiaaGreat.Crew

theorem posOf_from {f : Int → Bool} {out : List Int} : ∀ {k t : Nat}, posOf f out k ≤ t → t < k → f (out.getD t 0) = true
  | 0, _, _, h => absurd h (Nat.not_lt_zero _)
  | k + 1, t, h1, h2 => by
    unfold posOf at h1
    split at h1
    · rename_i hf
      by_cases e : t = k
      · subst e; exact hf
      · exact posOf_from h1 (by omega)
    · omega

theorem posOf_at {f : Int → Bool} {out : List Int} : ∀ {k : Nat}, 0 < posOf f out k → f (out.getD (posOf f out k - 1) 0) = false
  | 0, h => by simp [posOf] at h
  | k + 1, h => by
    unfold posOf at h ⊢
    split at h
    · rename_i hf
      rw [if_pos hf]
      exact posOf_at h
    · rename_i hf
      rw [if_neg hf]
      simpa using hf

theorem mem_insert {f : Int → Bool} {x y : Int} {out : List Int} : y ∈ insertBy f x out ↔ y = x ∨ y ∈ out := by
  constructor
  · exact mem_insertBy
  · intro h
    rw [insertBy, List.mem_append, List.mem_cons]
    rcases h with h | h
    · exact .inr (.inl h)
    · rw [← List.take_append_drop (posOf f out out.length) out, List.mem_append] at h
      rcases h with h | h
      · exact .inl h
      · exact .inr (.inr h)

/-- Laid in at its place, the line stays one. -/
theorem insert_line {R : Int → Int → Prop} {f : Int → Bool} {x : Int} {out : List Int} (ht : ∀ a b c, R a b → R b c → R a c) (hp : out.Pairwise R) (h1 : ∀ y ∈ out, f y = true → R x y) (h2 : ∀ y ∈ out, f y = false → R y x) : (insertBy f x out).Pairwise R := by
  have hle := posOf_le f out out.length
  have hg : ∀ {t : Nat}, t < out.length → out.getD t 0 ∈ out := fun {t} h => by
    rw [List.getD_eq_getElem?_getD, List.getElem?_eq_getElem h]
    exact List.getElem_mem h
  rw [insertBy, List.pairwise_append, List.pairwise_cons]
  have hp' := hp
  rw [← List.take_append_drop (posOf f out out.length) out, List.pairwise_append] at hp'
  refine ⟨hp'.1, ⟨?_, hp'.2.1⟩, ?_⟩
  · intro y hy
    obtain ⟨t, ht', he⟩ := List.mem_iff_getElem.1 hy
    rw [List.getElem_drop] at he
    rw [List.length_drop] at ht'
    have hlt : posOf f out out.length + t < out.length := by omega
    have hf := posOf_from (f := f) (out := out) (k := out.length) (t := posOf f out out.length + t) (by omega) hlt
    have e2 : out.getD (posOf f out out.length + t) 0 = y := by rw [List.getD_eq_getElem?_getD, List.getElem?_eq_getElem hlt]; exact he
    rw [e2] at hf
    exact h1 y (by rw [← e2]; exact hg hlt) hf
  · intro y hy z hz
    have hyx : R y x := by
      obtain ⟨t, ht', he⟩ := List.mem_iff_getElem.1 hy
      rw [List.length_take] at ht'
      rw [List.getElem_take] at he
      have hpos : 0 < posOf f out out.length := by omega
      have hlt : posOf f out out.length - 1 < out.length := by omega
      have hf := posOf_at (f := f) (out := out) hpos
      have hl := h2 _ (hg hlt) hf
      by_cases e : t = posOf f out out.length - 1
      · subst e
        rw [List.getD_eq_getElem?_getD, List.getElem?_eq_getElem hlt] at hl
        rw [← he]
        exact hl
      · have h3 := List.pairwise_iff_getElem.1 hp t (posOf f out out.length - 1) (by omega) hlt (by omega)
        rw [List.getD_eq_getElem?_getD, List.getElem?_eq_getElem hlt] at hl
        rw [← he]
        exact ht _ _ _ h3 hl
    rcases List.mem_cons.1 hz with e | hz'
    · rw [e]; exact hyx
    · exact hp'.2.2 y hy z hz'

/-- Whether the next turn of the n-th goes ahead of another's. -/
def lnF (ps : List Shr) (ns : List Int) (n : Nat) (y : Int) : Bool := decide (ahM ps ns n y.toNat = 1)

/-- The line of those among the first k that can be taken. -/
def lnM (ps : List Shr) (ns : List Int) (now : Int) : Nat → List Int
  | 0 => []
  | n + 1 => if tnR ps ns now n then insertBy (lnF ps ns n) n (lnM ps ns now n) else lnM ps ns now n

theorem mem_lnM {ps : List Shr} {ns : List Int} {now : Int} {y : Int} : ∀ {k : Nat}, y ∈ lnM ps ns now k ↔ ∃ j : Nat, j < k ∧ y = j ∧ tnR ps ns now j = true
  | 0 => by simp [lnM]
  | k + 1 => by
    rw [lnM]
    split
    · rename_i ht
      rw [mem_insert, mem_lnM (k := k)]
      constructor
      · rintro (h | ⟨j, h1, h2, h3⟩)
        · exact ⟨k, by omega, h, ht⟩
        · exact ⟨j, by omega, h2, h3⟩
      · rintro ⟨j, h1, h2, h3⟩
        by_cases e : j = k
        · subst e; exact .inl h2
        · exact .inr ⟨j, by omega, h2, h3⟩
    · rename_i ht
      rw [mem_lnM (k := k)]
      constructor
      · rintro ⟨j, h1, h2, h3⟩
        exact ⟨j, by omega, h2, h3⟩
      · rintro ⟨j, h1, h2, h3⟩
        refine ⟨j, ?_, h2, h3⟩
        by_cases e : j = k
        · subst e; exact absurd h3 ht
        · omega

theorem lnM_len {ps : List Shr} {ns : List Int} {now : Int} : ∀ (k : Nat), (lnM ps ns now k).length ≤ k
  | 0 => Nat.le_refl _
  | k + 1 => by
    have := lnM_len (ps := ps) (ns := ns) (now := now) k
    rw [lnM]
    split
    · rw [insertBy_length]; omega
    · omega

theorem lnM_line {ps : List Shr} {ns : List Int} {now : Int} : ∀ (k : Nat), (lnM ps ns now k).Pairwise (fun x y => goM ps ns x.toNat y.toNat = true)
  | 0 => List.Pairwise.nil
  | k + 1 => by
    have S := goM_strict ps ns
    rw [lnM]
    split
    · refine insert_line (fun a b c h1 h2 => S.tr _ _ _ h1 h2) (lnM_line k) ?_ ?_
      · intro y hy hf
        rw [Int.toNat_natCast]
        exact goM_iff.2 (.inl (by simpa [lnF] using hf))
      · intro y hy hf
        obtain ⟨j, h1, h2, _⟩ := mem_lnM.1 hy
        subst h2
        rw [Int.toNat_natCast, Int.toNat_natCast]
        rw [lnF, Int.toNat_natCast] at hf
        refine S.not (by omega) ?_
        cases hg : goM ps ns k j
        · rfl
        · rcases goM_iff.1 hg with h | h
          · simp [h] at hf
          · omega
    · exact lnM_line k

/-- The first ones of the line are those that are taken. -/
theorem lnM_take {ps : List Shr} {ns : List Int} {now q : Int} {k i : Nat} : (i : Int) ∈ (lnM ps ns now k).take q.toNat ↔ mTop ps ns q now k i = true := by
  have h := Top.line_place (goM_strict ps ns) (r := tnR ps ns now) (k := k) (l := (lnM ps ns now k).map Int.toNat) (by rw [List.pairwise_map]; exact lnM_line k) (fun i => by
    rw [List.mem_map]
    constructor
    · rintro ⟨y, hy, e⟩
      obtain ⟨j, h1, h2, h3⟩ := mem_lnM.1 hy
      subst h2
      rw [Int.toNat_natCast] at e
      subst e
      exact ⟨h1, h3⟩
    · rintro ⟨h1, h2⟩
      exact ⟨(i : Int), mem_lnM.2 ⟨i, h1, rfl, h2⟩, Int.toNat_natCast i⟩) q.toNat i
  rw [mTop, ← h, ← List.map_take, List.mem_map]
  constructor
  · intro hi
    exact ⟨(i : Int), hi, Int.toNat_natCast i⟩
  · rintro ⟨y, hy, e⟩
    obtain ⟨j, _, h2, _⟩ := mem_lnM.1 (List.mem_of_mem_take hy)
    subst h2
    rw [Int.toNat_natCast] at e
    subst e
    exact hy

/-- Nobody stands twice in a line. -/
theorem lnM_nodup {ps : List Shr} {ns : List Int} {now : Int} (k : Nat) : (lnM ps ns now k).Nodup := by
  have S := goM_strict ps ns
  refine List.Pairwise.imp ?_ (lnM_line (ps := ps) (ns := ns) (now := now) k)
  intro x y h e
  subst e
  rw [S.asym h] at h
  cases h

end Go.Proofs.YtjhenfdmbagaiaaGreat.Crew
