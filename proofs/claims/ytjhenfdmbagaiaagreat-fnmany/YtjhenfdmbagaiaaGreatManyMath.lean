/-
  Several processors: who is ready, who goes first, who is taken, and what a run comes to (no code here).
-/
import Derived.Test.YtjhenfdmbagaiaaGreatRankMath
import Derived.Test.YtjhenfdmbagaiaaGreatManyBase
import Derived.Test.YtjhenfdmbagaiaaGreatTopPure
import Derived.Test.YtjhenfdmbagaiaaGreatSortMath
import Derived.Test.YtjhenfdmbagaiaaGreatRankSpec
import Derived.Test.YtjhenfdmbagaiaaGreatCrewSort
namespace Go.Proofs.YtjhenfdmbagaiaaGreat.Crew
open Go.Proofs.YtjhenfdmbagaiaaGreat.Win

/-- Whose next turn is ready, and has a number. -/
def tnR (ps : List Shr) (ns : List Int) (now : Int) (i : Nat) : Bool := decide (ns.getD i 0 < 1000000) && decide (readyV (ps.getD i (0, 0)).1 (ps.getD i (0, 0)).2 (ns.getD i 0 + 1) ≤ now)

def rkA (ps : List Shr) (ns : List Int) (i : Nat) : Int := dueV (ps.getD i (0, 0)).1 (ps.getD i (0, 0)).2 (ns.getD i 0 + 1)
def rkO (ps : List Shr) (ns : List Int) (i : Nat) : Bool := overB (ps.getD i (0, 0)).1 (ps.getD i (0, 0)).2 (ns.getD i 0 + 1)
def rkC (ps : List Shr) (ns : List Int) (i : Nat) : Int := rankC (ps.getD i (0, 0)).1 (ps.getD i (0, 0)).2 (ns.getD i 0 + 1)

def ahM (ps : List Shr) (ns : List Int) (i j : Nat) : Int := cmpR (rkA ps ns i) (rkO ps ns i) (rkC ps ns i) (rkA ps ns j) (rkO ps ns j) (rkC ps ns j)

/-- Whose next turn goes first; the lesser number's, where neither goes ahead. -/
def goM (ps : List Shr) (ns : List Int) (i j : Nat) : Bool := decide (ahM ps ns i j = 1) || (decide (ahM ps ns i j = 0) && decide (i < j))

theorem goM_iff {ps : List Shr} {ns : List Int} {i j : Nat} : goM ps ns i j = true ↔ ahM ps ns i j = 1 ∨ (ahM ps ns i j = 0 ∧ i < j) := by
  simp [goM]

theorem ahM_neg (ps : List Shr) (ns : List Int) (i j : Nat) : ahM ps ns j i = - ahM ps ns i j := cmp_neg _ _ _ _ _ _

theorem ahM_bd (ps : List Shr) (ns : List Int) (i j : Nat) : -1 ≤ ahM ps ns i j ∧ ahM ps ns i j ≤ 1 := cmp_bd _ _ _ _ _ _

theorem ahM_tr {ps : List Shr} {ns : List Int} {i j k : Nat} (h : 0 ≤ ahM ps ns i j) (h' : 0 ≤ ahM ps ns j k) : 0 ≤ ahM ps ns i k := cmp_trans _ _ _ _ _ _ _ _ _ h h'

theorem goM_strict (ps : List Shr) (ns : List Int) : Top.Strict (goM ps ns) := by
  refine ⟨fun i => ?_, fun i j k h1 h2 => ?_, fun i j hij => ?_⟩
  · have h0 : ahM ps ns i i = 0 := cmp_self _ _ _
    cases h : goM ps ns i i
    · rfl
    · rw [goM_iff, h0] at h; omega
  · rw [goM_iff] at *
    have b1 := ahM_bd ps ns i k
    have n1 := ahM_neg ps ns i j
    have n2 := ahM_neg ps ns j k
    have n3 := ahM_neg ps ns i k
    have t1 : 0 ≤ ahM ps ns i k := ahM_tr (j := j) (by omega) (by omega)
    have t2 : 0 ≤ ahM ps ns k i → 0 ≤ ahM ps ns j i := fun h => ahM_tr (j := k) (by omega) h
    have t3 : 0 ≤ ahM ps ns k i → 0 ≤ ahM ps ns k j := fun h => ahM_tr (j := i) h (by omega)
    have b2 := ahM_bd ps ns i j
    have b3 := ahM_bd ps ns j k
    omega
  · rw [goM_iff, goM_iff]
    have b1 := ahM_bd ps ns i j
    have n1 := ahM_neg ps ns i j
    omega

/-- Who of the first k is among the first q. -/
def mTop (ps : List Shr) (ns : List Int) (q now : Int) (k i : Nat) : Bool := Top.topB (goM ps ns) (tnR ps ns now) q.toNat k i

/-- Who is taken, rising. -/
def mList (ps : List Shr) (ns : List Int) (q now : Int) : List Nat := Top.listB (mTop ps ns q now ps.length) ps.length

/-- One turn more for each of some. -/
def bump (l : List Nat) (ns : List Int) : List Int := l.foldl (fun ns i => ns.set i (ns.getD i 0 + 1)) ns

theorem bump_len (l : List Nat) (ns : List Int) : (bump l ns).length = ns.length := by
  induction l generalizing ns with
  | nil => rfl
  | cons a l ih => rw [bump, List.foldl_cons, ← bump, ih, List.length_set]

theorem bump_snoc (l : List Nat) (i : Nat) (ns : List Int) : bump (l ++ [i]) ns = (bump l ns).set i ((bump l ns).getD i 0 + 1) := by
  rw [bump, List.foldl_append]
  rfl

theorem bump_nil (ns : List Int) : bump [] ns = ns := rfl

theorem bump_get {l : List Nat} (hl : l.Nodup) {ns : List Int} {i : Nat} (hi : i < ns.length) : (bump l ns).getD i 0 = ns.getD i 0 + (if i ∈ l then 1 else 0) := by
  induction l generalizing ns with
  | nil => simp [bump]
  | cons a l ih =>
    have h1 := List.nodup_cons.1 hl
    have e : bump (a :: l) ns = bump l (ns.set a (ns.getD a 0 + 1)) := rfl
    rw [e, ih h1.2 (by simpa using hi)]
    by_cases h : i = a
    · subst h
      have : (ns.set i (ns.getD i 0 + 1)).getD i 0 = ns.getD i 0 + 1 := by simp [List.getD, hi]
      rw [this]
      simp [h1.1]
    · have : (ns.set a (ns.getD a 0 + 1)).getD i 0 = ns.getD i 0 := by simp [List.getD, Ne.symm h]
      rw [this]
      simp [h]

theorem mList_nodup (ps : List Shr) (ns : List Int) (q now : Int) : (mList ps ns q now).Nodup := List.Pairwise.imp (fun h => Nat.ne_of_lt h) (Top.listB_asc (mTop ps ns q now ps.length) ps.length)

theorem mem_mList {ps : List Shr} {ns : List Int} {q now : Int} {i : Nat} : i ∈ mList ps ns q now ↔ mTop ps ns q now ps.length i = true := by
  unfold mList
  rw [Top.mem_listB]
  constructor
  · exact fun h => h.2
  · exact fun h => ⟨(Top.topB_iff.1 h).2.1, h⟩

theorem mList_lt {ps : List Shr} {ns : List Int} {q now : Int} {i : Nat} (h : i ∈ mList ps ns q now) : i < ps.length := (Top.mem_listB.1 h).1

theorem mList_rdy {ps : List Shr} {ns : List Int} {q now : Int} {i : Nat} (h : i ∈ mList ps ns q now) : tnR ps ns now i = true := (Top.topB_iff.1 (mem_mList.1 h)).1

theorem mList_len {ps : List Shr} {ns : List Int} {q now : Int} : (mList ps ns q now).length ≤ ps.length := by
  unfold mList Top.listB
  exact Nat.le_trans (List.length_filter_le _ _) (by simp)

theorem mList_procs {ps : List Shr} {ns : List Int} {q now : Int} : (mList ps ns q now).length ≤ q.toNat := by
  unfold mList
  rw [Top.listB_len]
  exact Top.top_le (goM_strict ps ns)

/-- The counts behind one time. -/
def mNext (ps : List Shr) (ns : List Int) (q now : Int) : List Int := bump (mList ps ns q now) ns

theorem mNext_len (ps : List Shr) (ns : List Int) (q now : Int) : (mNext ps ns q now).length = ns.length := bump_len _ _

theorem mNext_cnts {ps : List Shr} {ns : List Int} {q now : Int} (h : cnts ns = true) : cnts (mNext ps ns q now) = true := by
  rw [cnts, List.all_eq_true] at h ⊢
  intro x hx
  obtain ⟨i, hi, rfl⟩ := List.getElem_of_mem hx
  have hi' : i < ns.length := by rw [mNext_len] at hi; exact hi
  have e := bump_get (mList_nodup ps ns q now) hi'
  have e2 : (mNext ps ns q now)[i] = (mNext ps ns q now).getD i 0 := by simp [List.getD, hi]
  rw [e2]
  have h0 := within_yes (h (ns[i]) (List.getElem_mem _))
  have e3 : ns[i] = ns.getD i 0 := by simp [List.getD, hi']
  rw [e3] at h0
  unfold mNext
  rw [e]
  by_cases hm : i ∈ mList ps ns q now
  · have hr := mList_rdy hm
    simp only [tnR, Bool.and_eq_true, decide_eq_true_eq] at hr
    simp only [hm, if_true, within, decide_eq_true_eq]
    omega
  · simp only [hm, if_false, within, decide_eq_true_eq]
    omega

/-- The counts behind k times. -/
def mAt (ps : List Shr) (ns : List Int) (q now : Int) : Nat → List Int
  | 0 => ns
  | k + 1 => mNext ps (mAt ps ns q now k) q (now + k)

/-- Who was taken at each of k times. -/
def mWho (ps : List Shr) (ns : List Int) (q now : Int) (k : Nat) : List (List Nat) := (List.range k).map fun j => mList ps (mAt ps ns q now j) q (now + j)

theorem mWho_len (ps : List Shr) (ns : List Int) (q now : Int) (k : Nat) : (mWho ps ns q now k).length = k := by simp [mWho]

theorem mWho_succ (ps : List Shr) (ns : List Int) (q now : Int) (k : Nat) : mWho ps ns q now (k + 1) = mWho ps ns q now k ++ [mList ps (mAt ps ns q now k) q (now + k)] := by
  unfold mWho
  rw [List.range_succ, List.map_append]
  rfl

theorem mAt_len (ps : List Shr) (ns : List Int) (q now : Int) (k : Nat) : (mAt ps ns q now k).length = ns.length := by
  induction k with
  | zero => rfl
  | succ k ih => rw [mAt, mNext_len, ih]

theorem mAt_cnts {ps : List Shr} {ns : List Int} {q now : Int} (h : cnts ns = true) (k : Nat) : cnts (mAt ps ns q now k) = true := by
  induction k with
  | zero => exact h
  | succ k ih => exact mNext_cnts ih

theorem mAt_add (ps : List Shr) (ns : List Int) (q now : Int) (j k : Nat) : mAt ps ns q now (j + k) = mAt ps (mAt ps ns q now j) q (now + j) k := by
  induction k with
  | zero => rfl
  | succ k ih =>
    rw [← Nat.add_assoc, mAt, ih, mAt]
    congr 1
    push_cast
    omega

theorem mWho_add (ps : List Shr) (ns : List Int) (q now : Int) (j k : Nat) : mWho ps ns q now (j + k) = mWho ps ns q now j ++ mWho ps (mAt ps ns q now j) q (now + j) k := by
  induction k with
  | zero => simp [mWho]
  | succ k ih =>
    have e : now + ((j + k : Nat) : Int) = now + (j : Int) + (k : Int) := by push_cast; omega
    rw [← Nat.add_assoc, mWho_succ, ih, mWho_succ, List.append_assoc, mAt_add, e]

/-- A run that can be done. -/
def runOkM (ps : List Shr) (ns : List Int) (q now n : Int) : Bool := manyOk ps ns q now && within n 0 3000 && decide (now + n ≤ 1000000)

theorem parts_all {ps : List Shr} : ∀ (o : Option (Int × Int)), ps.foldl partStep o ≠ none → ∀ p ∈ ps, shareOk p.1 p.2 = true := by
  induction ps with
  | nil => intro o _ p hp; cases hp
  | cons x ps ih =>
    intro o h p hp
    rw [List.foldl_cons] at h
    rcases List.mem_cons.1 hp with rfl | hp
    · cases hs : shareOk p.1 p.2
      · exfalso
        apply h
        have : partStep o p = none := by
          cases o with
          | none => rfl
          | some q => exact step_bad hs
        rw [this, fold_none]
      · rfl
    · exact ih _ h p hp

theorem fits_share {ps : List Shr} {q : Int} (h : fitsOn ps q = true) {i : Nat} (hi : i < ps.length) : shareOk (ps.getD i (0, 0)).1 (ps.getD i (0, 0)).2 = true := by
  have h1 : parts ps ≠ none := by
    intro e
    rw [fits_none e] at h
    cases h
  have e : ps.getD i (0, 0) = ps[i] := by simp [List.getD, hi]
  rw [e]
  exact parts_all _ h1 _ (List.getElem_mem _)

theorem fits_proc {ps : List Shr} {q : Int} (h : fitsOn ps q = true) : 1 ≤ q ∧ q ≤ 8 := by
  cases hp : procsOk q
  · rw [fits_procs hp] at h; cases h
  · exact procs_yes hp

theorem cnts_get {ns : List Int} (h : cnts ns = true) (i : Nat) : 0 ≤ ns.getD i 0 ∧ ns.getD i 0 ≤ 1000000 := by
  by_cases hi : i < ns.length
  · rw [cnts, List.all_eq_true] at h
    have := within_yes (h ns[i] (List.getElem_mem _))
    have e : ns.getD i 0 = ns[i] := by simp [List.getD, hi]
    rw [e]
    omega
  · have e : ns.getD i 0 = 0 := by simp [List.getD, show ns.length ≤ i by omega]
    rw [e]
    decide

theorem turn_mk {n d j : Int} (h : shareOk n d = true) (h1 : 1 ≤ j) (h2 : j ≤ 1000000) : turnOk n d j = true := by
  rw [turnOk, h, within, decide_eq_true ⟨h1, h2⟩]
  rfl

theorem turn_over {n d j : Int} (h : ¬ j ≤ 1000000) : turnOk n d j = false := by
  rw [turnOk, show within j 1 1000000 = false by simp [within]; omega, Bool.and_false]

end Go.Proofs.YtjhenfdmbagaiaaGreat.Crew

/-
  The line of spec.ManyNext: who can be taken, the first ones first, laid in one by one; its first ones are those that mList takes.
-/
namespace Go.Proofs.YtjhenfdmbagaiaaGreat.Crew

theorem posOf_from {f : Int → Bool} {out : List Int} : ∀ {k t : Nat}, posOf f out k ≤ t → t < k → f (out.getD t 0) = true
  | 0, _, _, h => absurd h (Nat.not_lt_zero _)
  | k + 1, t, h1, h2 => by
    unfold posOf at h1
    split at h1
    · rename_i hf
      by_cases e : t = k
      · subst e; exact hf
      · exact posOf_from h1 (by omega)
    · omega

theorem posOf_end {f : Int → Bool} {out : List Int} : ∀ {k : Nat}, 0 < posOf f out k → f (out.getD (posOf f out k - 1) 0) = false
  | 0, h => by simp [posOf] at h
  | k + 1, h => by
    unfold posOf at h ⊢
    split at h
    · rename_i hf
      rw [if_pos hf]
      exact posOf_end h
    · rename_i hf
      rw [if_neg hf]
      simpa using hf

theorem mem_insert {f : Int → Bool} {x y : Int} {out : List Int} : y ∈ insertBy f x out ↔ y = x ∨ y ∈ out := by
  constructor
  · exact mem_insertBy
  · intro h
    rw [insertBy, List.mem_append, List.mem_cons]
    rcases h with h | h
    · exact .inr (.inl h)
    · rw [← List.take_append_drop (posOf f out out.length) out, List.mem_append] at h
      rcases h with h | h
      · exact .inl h
      · exact .inr (.inr h)

/-- Laid in at its place, the line stays one. -/
theorem insert_line {R : Int → Int → Prop} {f : Int → Bool} {x : Int} {out : List Int} (ht : ∀ a b c, R a b → R b c → R a c) (hp : out.Pairwise R) (h1 : ∀ y ∈ out, f y = true → R x y) (h2 : ∀ y ∈ out, f y = false → R y x) : (insertBy f x out).Pairwise R := by
  have hle := posOf_le f out out.length
  have hg : ∀ {t : Nat}, t < out.length → out.getD t 0 ∈ out := fun {t} h => by
    rw [List.getD_eq_getElem?_getD, List.getElem?_eq_getElem h]
    exact List.getElem_mem h
  rw [insertBy, List.pairwise_append, List.pairwise_cons]
  have hp' := hp
  rw [← List.take_append_drop (posOf f out out.length) out, List.pairwise_append] at hp'
  refine ⟨hp'.1, ⟨?_, hp'.2.1⟩, ?_⟩
  · intro y hy
    obtain ⟨t, ht', he⟩ := List.mem_iff_getElem.1 hy
    rw [List.getElem_drop] at he
    rw [List.length_drop] at ht'
    have hlt : posOf f out out.length + t < out.length := by omega
    have hf := posOf_from (f := f) (out := out) (k := out.length) (t := posOf f out out.length + t) (by omega) hlt
    have e2 : out.getD (posOf f out out.length + t) 0 = y := by rw [List.getD_eq_getElem?_getD, List.getElem?_eq_getElem hlt]; exact he
    rw [e2] at hf
    exact h1 y (by rw [← e2]; exact hg hlt) hf
  · intro y hy z hz
    have hyx : R y x := by
      obtain ⟨t, ht', he⟩ := List.mem_iff_getElem.1 hy
      rw [List.length_take] at ht'
      rw [List.getElem_take] at he
      have hpos : 0 < posOf f out out.length := by omega
      have hlt : posOf f out out.length - 1 < out.length := by omega
      have hf := posOf_end (f := f) (out := out) hpos
      have hl := h2 _ (hg hlt) hf
      by_cases e : t = posOf f out out.length - 1
      · subst e
        rw [List.getD_eq_getElem?_getD, List.getElem?_eq_getElem hlt] at hl
        rw [← he]
        exact hl
      · have h3 := List.pairwise_iff_getElem.1 hp t (posOf f out out.length - 1) (by omega) hlt (by omega)
        rw [List.getD_eq_getElem?_getD, List.getElem?_eq_getElem hlt] at hl
        rw [← he]
        exact ht _ _ _ h3 hl
    rcases List.mem_cons.1 hz with e | hz'
    · rw [e]; exact hyx
    · exact hp'.2.2 y hy z hz'

/-- Whether the next turn of the n-th goes ahead of another's. -/
def lnF (ps : List Shr) (ns : List Int) (n : Nat) (y : Int) : Bool := decide (ahM ps ns n y.toNat = 1)

/-- The line of those among the first k that can be taken. -/
def lnM (ps : List Shr) (ns : List Int) (now : Int) : Nat → List Int
  | 0 => []
  | n + 1 => if tnR ps ns now n then insertBy (lnF ps ns n) n (lnM ps ns now n) else lnM ps ns now n

theorem mem_lnM {ps : List Shr} {ns : List Int} {now : Int} {y : Int} : ∀ {k : Nat}, y ∈ lnM ps ns now k ↔ ∃ j : Nat, j < k ∧ y = j ∧ tnR ps ns now j = true
  | 0 => by simp [lnM]
  | k + 1 => by
    rw [lnM]
    split
    · rename_i ht
      rw [mem_insert, mem_lnM (k := k)]
      constructor
      · rintro (h | ⟨j, h1, h2, h3⟩)
        · exact ⟨k, by omega, h, ht⟩
        · exact ⟨j, by omega, h2, h3⟩
      · rintro ⟨j, h1, h2, h3⟩
        by_cases e : j = k
        · subst e; exact .inl h2
        · exact .inr ⟨j, by omega, h2, h3⟩
    · rename_i ht
      rw [mem_lnM (k := k)]
      constructor
      · rintro ⟨j, h1, h2, h3⟩
        exact ⟨j, by omega, h2, h3⟩
      · rintro ⟨j, h1, h2, h3⟩
        refine ⟨j, ?_, h2, h3⟩
        by_cases e : j = k
        · subst e; exact absurd h3 ht
        · omega

theorem lnM_len {ps : List Shr} {ns : List Int} {now : Int} : ∀ (k : Nat), (lnM ps ns now k).length ≤ k
  | 0 => Nat.le_refl _
  | k + 1 => by
    have := lnM_len (ps := ps) (ns := ns) (now := now) k
    rw [lnM]
    split
    · rw [insertBy_length]; omega
    · omega

theorem lnM_line {ps : List Shr} {ns : List Int} {now : Int} : ∀ (k : Nat), (lnM ps ns now k).Pairwise (fun x y => goM ps ns x.toNat y.toNat = true)
  | 0 => List.Pairwise.nil
  | k + 1 => by
    have S := goM_strict ps ns
    rw [lnM]
    split
    · refine insert_line (fun a b c h1 h2 => S.tr _ _ _ h1 h2) (lnM_line k) ?_ ?_
      · intro y hy hf
        rw [Int.toNat_natCast]
        exact goM_iff.2 (.inl (by simpa [lnF] using hf))
      · intro y hy hf
        obtain ⟨j, h1, h2, _⟩ := mem_lnM.1 hy
        subst h2
        rw [Int.toNat_natCast, Int.toNat_natCast]
        rw [lnF, Int.toNat_natCast] at hf
        refine S.not (by omega) ?_
        cases hg : goM ps ns k j
        · rfl
        · rcases goM_iff.1 hg with h | h
          · simp [h] at hf
          · omega
    · exact lnM_line k

/-- The first ones of the line are those that are taken. -/
theorem lnM_take {ps : List Shr} {ns : List Int} {now q : Int} {k i : Nat} : (i : Int) ∈ (lnM ps ns now k).take q.toNat ↔ mTop ps ns q now k i = true := by
  have h := Top.line_place (goM_strict ps ns) (r := tnR ps ns now) (k := k) (l := (lnM ps ns now k).map Int.toNat) (by rw [List.pairwise_map]; exact lnM_line k) (fun i => by
    rw [List.mem_map]
    constructor
    · rintro ⟨y, hy, e⟩
      obtain ⟨j, h1, h2, h3⟩ := mem_lnM.1 hy
      subst h2
      rw [Int.toNat_natCast] at e
      subst e
      exact ⟨h1, h3⟩
    · rintro ⟨h1, h2⟩
      exact ⟨(i : Int), mem_lnM.2 ⟨i, h1, rfl, h2⟩, Int.toNat_natCast i⟩) q.toNat i
  rw [mTop, ← h, ← List.map_take, List.mem_map]
  constructor
  · intro hi
    exact ⟨(i : Int), hi, Int.toNat_natCast i⟩
  · rintro ⟨y, hy, e⟩
    obtain ⟨j, _, h2, _⟩ := mem_lnM.1 (List.mem_of_mem_take hy)
    subst h2
    rw [Int.toNat_natCast] at e
    subst e
    exact hy

/-- Nobody stands twice in a line. -/
theorem lnM_nodup {ps : List Shr} {ns : List Int} {now : Int} (k : Nat) : (lnM ps ns now k).Nodup := by
  have S := goM_strict ps ns
  refine List.Pairwise.imp ?_ (lnM_line (ps := ps) (ns := ns) (now := now) k)
  intro x y h e
  subst e
  rw [S.asym h] at h
  cases h

end Go.Proofs.YtjhenfdmbagaiaaGreat.Crew

/-
  spec.l12Line at every right Many .
-/
namespace Go.Proofs.YtjhenfdmbagaiaaGreat.Crew
open Go.ChangeShapes Go.WideShapes Go.ChangeAt Go.RowKit Go.Proofs.YtjhenfdmbagaiaaGreat.Win

/-- Behind 'append(.., rest...)', where the line grows. -/
theorem line_done {w w3 w4 : World} {ps : List Shr} {ns : List Int} {now : Int} {n t g2 g3 c3 : Nat} (hr : tnR ps ns now n = true) (P : posOf (lnF ps ns n) (lnM ps ns now n) (lnM ps ns now n).length = t) (B : Below w.heap.size w w3) (hg : w.heap.size ≤ g2) (R4 : Row w4 g3 c3 ((lnM ps ns now n).take t ++ (n : Int) :: (lnM ps ns now n).drop t)) (G : w3.grownBy w4 (some g2)) (D : g3 = g2 ∨ g3 = w3.heap.size) :
    Row w4 g3 c3 (lnM ps ns now (n + 1)) ∧ w.heap.size ≤ g3 ∧ Below w.heap.size w w4 := by
  have hs := B.size
  refine ⟨?_, by omega, B.grown G (by omega) (fun k hk => by cases hk; omega)⟩
  rw [lnM, if_pos hr, insertBy, P]
  exact R4

set_option maxRecDepth 100000 in
set_option maxHeartbeats 4000000 in
theorem specLine (a : Option Addr) (len cap : Nat) (ps : List Shr) (a' : Option Addr) (len' cap' : Nat) (ns : List Int) (t p : Int) (w : World) (I : Shs w a len ps) (J : Ints w a' len' ns) (hk : manyOk ps ns t p = true) :
    Calls Tryz.prog 44 #[mv (.slice a len cap) (.slice a' len' cap') t p] w fun e w' => ∃ g cp, e = .returned (.slice (some ⟨g, 0, none⟩) (lnM ps ns p len).length cp) ∧ Row w' g cp (lnM ps ns p len) ∧ w.heap.size ≤ g ∧ Below w.heap.size w w' := by
  obtain ⟨i0, hi, hz0, hz1, hz2⟩ := info_parts info_int
  have h24 : len ≤ 24 := by have := fits_len (many_parts hk).1; have := I.1; omega
  have hlen : len' = len := by have := (many_parts hk).2.1; have := I.1; have := J.1; omega
  have HK : Hid (manyOk ps ns t p = true ∧ ps.length = len) := ⟨hk, I.1⟩
  have HI : Hid (Shs (w.alloc (.cells (mc (.slice a len cap) (.slice a' len' cap') t p) 27)) a len ps) := I.alloc _
  have HJ : Hid (Ints (w.alloc (.cells (mc (.slice a len cap) (.slice a' len' cap') t p) 27)) a' len' ns) := J.alloc _
  have HQ : Hid (Mny (w.alloc (.cells (mc (.slice a len cap) (.slice a' len' cap') t p) 27)) w.heap.size (.slice a len cap) (.slice a' len' cap') t p) := mny_new _ _ _ _ _
  have HB : Hid (Below w.heap.size w (w.alloc (.cells (mc (.slice a len cap) (.slice a' len' cap') t p) 27))) := below_new _ _
  clear I J hk
  go_enter Tryz.func44, Tryz.ntmps44
  go_wp2_with fail
  obtain ⟨w1, hw1⟩ : ∃ w1, w1 = w.alloc (.cells (mc (.slice a len cap) (.slice a' len' cap') t p) 27) := ⟨_, rfl⟩
  rw [← hw1] at HI HJ HQ HB
  have hz : w1.heap.size = w.heap.size + 1 := by rw [hw1]; simp
  have R0 : Hid (Row ((w.alloc (.cells (mc (.slice a len cap) (.slice a' len' cap') t p) 27)).alloc (.cells #[] 2)) (w.heap.size + 1) 0 [] ∧ Below w1.heap.size w1 ((w.alloc (.cells (mc (.slice a len cap) (.slice a' len' cap') t p) 27)).alloc (.cells #[] 2))) := by
    rw [← hw1, ← hz]
    exact ⟨row_nil w1, below_new _ _⟩
  clear hw1
  subst hlen
  go_loopw [3, 4, 5, 6, 7] (fun v i _ _ _ wr => ∃ n m g cp : Nat, n ≤ len' ∧ i = .int .i64 n ∧ v = .slice (some ⟨g, 0, none⟩) m cp ∧ Hid ((lnM ps ns p n).length = m) ∧ Hid (Row wr g cp (lnM ps ns p n) ∧ w1.heap.size ≤ g ∧ Below w1.heap.size w1 wr)) (fun _ i _ _ _ _ => len' - (intOf i).toNat)
  case atStart => exact ⟨0, 0, w.heap.size + 1, 0, Nat.zero_le _, rfl, rfl, rfl, R0.out.1, by omega, R0.out.2⟩
  case round =>
    obtain ⟨n, m, g, cp, hn, rfl, rfl, LM, R⟩ := hrel
    have t0 := (HQ.out.all R.out.2.2).c0
    have t1 := (HQ.out.all R.out.2.2).c1
    have t3 := (HQ.out.all R.out.2.2).c3
    by_cases hlt : n < len'
    · have hlt' : (n : Int) < (len' : Int) := by omega
      obtain ⟨_, h0 | ⟨bs, os, rfl, hbs, hcs⟩⟩ := HI.out.kept R.out.2.2
      · omega
      obtain ⟨_, h0 | ⟨bn, on, rfl, hbn, hcn⟩⟩ := HJ.out.kept R.out.2.2
      · omega
      have HS : Hid (∀ i, i < len' → wr.cell? ⟨bs, os + i * 2, none⟩ = some (.int .i64 (ps.getD i (0, 0)).1) ∧ wr.cell? ⟨bs, os + i * 2 + 1, none⟩ = some (.int .i64 (ps.getD i (0, 0)).2)) := hcs
      have HN : Hid (∀ i, i < len' → wr.cell? ⟨bn, on + i, none⟩ = some (.int .i64 (ns.getD i 0))) := hcn
      have s0 := (hcs n hlt).1
      have s1 := (hcs n hlt).2
      have d0 := hcn n hlt
      clear hcs hcn
      obtain ⟨c, hc⟩ : ∃ c, c = ns.getD n 0 := ⟨_, rfl⟩
      obtain ⟨N, hN⟩ : ∃ N, N = (ps.getD n (0, 0)).1 := ⟨_, rfl⟩
      obtain ⟨D, hD⟩ : ∃ D, D = (ps.getD n (0, 0)).2 := ⟨_, rfl⟩
      rw [← hN] at s0
      rw [← hD] at s1
      rw [← hc] at d0
      have hok := many_parts HK.out.1
      have hsh := fits_share hok.1 (i := n) (by rw [HK.out.2]; exact hlt)
      have hcb : 0 ≤ c ∧ c ≤ 1000000 := by rw [hc]; exact cnts_get hok.2.2.2 n
      have HV : Hid (c = ns.getD n 0 ∧ N = (ps.getD n (0, 0)).1 ∧ D = (ps.getD n (0, 0)).2 ∧ shareOk N D = true) := ⟨hc, hN, hD, by rw [hN, hD]; exact hsh⟩
      clear hc hN hD hsh hok
      have hbx : w.heap.size < wr.heap.size := (HQ.out.all R.out.2.2).lt
      have k0 : ∀ x : Kin wr, x.u.cell? ⟨w.heap.size, 0, none⟩ = some (.slice (some ⟨bs, os, none⟩) len' cap) := fun x => x.cell hbx t0
      have k1 : ∀ x : Kin wr, x.u.cell? ⟨w.heap.size, 1, none⟩ = some (.slice (some ⟨bn, on, none⟩) len' cap') := fun x => x.cell hbx t1
      have k3 : ∀ x : Kin wr, x.u.cell? ⟨w.heap.size, 3, none⟩ = some (.int .i64 p) := fun x => x.cell hbx t3
      have e0 : ∀ x : Kin wr, x.u.cell? ⟨bs, os + n * 2, none⟩ = some (.int .i64 N) := fun x => x.cell hbs s0
      have e1 : ∀ x : Kin wr, x.u.cell? ⟨bs, os + n * 2 + 1, none⟩ = some (.int .i64 D) := fun x => x.cell hbs s1
      have e2 : ∀ x : Kin wr, x.u.cell? ⟨bn, on + n, none⟩ = some (.int .i64 c) := fun x => x.cell hbn d0
      by_cases hc6 : c < 1000000
      · have hc6' : ¬ (1000000 : Int) ≤ c := by omega
        have hd6 : decide ((1000000 : Int) ≤ c) = false := decide_eq_false hc6'
        obtain ⟨v, hv⟩ : ∃ v, v = readyV N D (c + 1) := ⟨_, rfl⟩
        have SR : Hid (∀ w, Calls Tryz.prog 64 #[sh N D, .int .i64 (c + 1)] w fun e w' => e = .returned (.int .i64 v) ∧ Below w.heap.size w w') := by rw [hv]; exact specReadyIn N D (c + 1) (turn_mk HV.out.2.2.2 (by omega) (by omega))
        have HVV : Hid (v = readyV N D (c + 1)) := hv
        clear hv
        go_wp2_with fail
        refine wp_region_kin (by kernel_rfl) (by kernel_rfl) (fun hne => ?_)
        repeat (go_big_quiet_step ((first | (go_at_call 64; exact kin_calls (SR.out _)))))
        refine wpQuiet_nil ?_
        rintro _ ⟨x, rfl⟩
        have RX : Hid (Row x.u g cp (lnM ps ns p n) ∧ w1.heap.size ≤ g ∧ Below w1.heap.size w1 x.u) := ⟨R.out.1.all x.b, R.out.2.1, below_call R.out.2.2 R.out.2.2.size x.b⟩
        clear k0 k1 k3 e0 e1 e2 hne SR t0 t1 t3 s0 s1 d0 R HS HN
        generalize x.u = wx at *
        by_cases hvp : v ≤ p
        · have hr : tnR ps ns p n = true := by
            rw [tnR, ← HV.out.1, ← HV.out.2.1, ← HV.out.2.2.1, ← HVV.out, decide_eq_true hc6, decide_eq_true hvp]
            rfl
          have HR : Hid (tnR ps ns p n = true) := hr
          have hvp' : ¬ p < v := by omega
          clear hr
          go_wp2_with fail
          have RH : Hid (Row wx g cp (lnM ps ns p n) ∧ w1.heap.size ≤ g ∧ Below w1.heap.size w1 wx) := RX.out
          clear R0 RX HVV
          go_loopw [6] (fun k wr => ∃ t : Nat, t ≤ m ∧ k = .int .i64 t ∧ Hid (Row wr g cp (lnM ps ns p n) ∧ w1.heap.size ≤ g ∧ Below w1.heap.size w1 wr) ∧ Hid (posOf (lnF ps ns n) (lnM ps ns p n) m = posOf (lnF ps ns n) (lnM ps ns p n) t)) (fun k _ => (intOf k).toNat)
          case atStart => exact ⟨m, Nat.le_refl _, rfl, RH.out, rfl⟩
          case round =>
            obtain ⟨t, ht, rfl, RQ, PQ⟩ := hrel
            have hm24 : m ≤ 24 := by have := LM.out; have := lnM_len (ps := ps) (ns := ns) (now := p) n; omega
            by_cases ht0 : t = 0
            · have hd : decide ((0 : Int) < (t : Int)) = false := by simp; omega
              have hdn : decide (0 < t) = false := by simp; omega
              have PT : Hid (posOf (lnF ps ns n) (lnM ps ns p n) m = t) := by show _ = _; rw [PQ.out, ht0]; rfl
              clear ht0
              go_wp2_with fail
              refine wp_region_kin (by kernel_rfl) (by kernel_rfl) (fun hne => ?_)
              repeat (go_big_quiet_step (fail))
              refine wpQuiet_nil ?_
              rintro _ ⟨x, rfl⟩
              have RX : Hid (Row x.u g cp (lnM ps ns p n) ∧ w1.heap.size ≤ g ∧ Below w1.heap.size w1 x.u) := ⟨RQ.out.1.all x.b, RQ.out.2.1, below_call RQ.out.2.2 RQ.out.2.2.size x.b⟩
              clear hne RQ
              generalize x.u = wx at RX ⊢
              have hcp : t ≤ cp := by obtain ⟨_, _, hl, _⟩ := RX.out.1; rw [LM.out] at hl; omega
              have hgx : g < wx.heap.size := RX.out.1.lt
              go_wp2_with (at_builtin; refine wpList_append_ints rfl (.tmp 75) (.tmp 78) 25 rfl i0 Tryz.underlying25 hi hz0 hz1 hz2 _ _ _ [] rfl rfl (row_nil wx) _ _ _ ((lnM ps ns p n).drop t) rfl ((RX.out.1.alloc _).tail LM.out t ht _ (by intro h; first | rfl | simp [h])) (by simp; omega) ?_)
              all_goals
                intro g1 c1 w2 R2 G2 D2
                have K2 : Hid (Row w2 g1 c1 ((lnM ps ns p n).drop t) ∧ wx.heap.size ≤ g1 ∧ Row w2 g cp ((lnM ps ns p n).take t) ∧ Below w1.heap.size w1 w2) := rest_done RX.out.1 RX.out.2.2 (by simpa using R2) G2 D2
                have hg1 : g1 < w2.heap.size := K2.out.1.lt
                clear R2 G2 D2
                go_wp2_with (at_builtin; refine wpList_append_ints rfl (.tmp 82) (.tmp 84) 25 rfl i0 Tryz.underlying25 hi hz0 hz1 hz2 _ _ _ ((lnM ps ns p n).take t) rfl (by rw [List.length_take, LM.out]; omega) (by first | exact K2.out.2.2.1.alloc _ | (have hct : cp = t := (by assumption); rw [hct] at K2; exact K2.out.2.2.1.alloc _)) _ _ _ [(n : Int)] rfl (ints_one _ _ _) (by rw [List.length_take, LM.out]; omega) ?_)
                intro g2 c2 w3 R3 G3 D3
                have K3 : Hid (Row w3 g2 c2 ((lnM ps ns p n).take t ++ [(n : Int)]) ∧ g ≤ g2 ∧ Row w3 g1 c1 ((lnM ps ns p n).drop t) ∧ Below w1.heap.size w1 w3) := one_done K2.out.1 K2.out.2.2.2 RX.out.2.1 (by have := K2.out.2.1; omega) R3 G3 D3
                have hg2 : g2 < w3.heap.size := K3.out.1.lt
                clear R3 G3 D3
                go_wp2_with (at_builtin; refine wpList_append_ints rfl (.tmp 85) (.tmp 86) 25 rfl i0 Tryz.underlying25 hi hz0 hz1 hz2 _ _ _ ((lnM ps ns p n).take t ++ [(n : Int)]) rfl (by rw [List.length_append, List.length_take, LM.out, List.length_singleton]; omega) K3.out.1 _ _ _ ((lnM ps ns p n).drop t) rfl (by have := K3.out.2.2.1.ints; rw [List.length_drop, LM.out] at this; exact this) (by rw [List.length_append, List.length_take, LM.out, List.length_singleton]; omega) ?_)
                intro g3 c3 w4 R4 G4 D4
                have K4 : Hid (Row w4 g3 c3 (lnM ps ns p (n + 1)) ∧ w1.heap.size ≤ g3 ∧ Below w1.heap.size w1 w4) := line_done (t := t) HR.out (by rw [LM.out]; exact PT.out) K3.out.2.2.2 (by have := K3.out.2.1; have := RX.out.2.1; omega) (by simpa using R4) G4 D4
                clear R4 G4 D4
                go_wp2_with fail
                go_roundw
                case rel => exact ⟨n + 1, m + 1, g3, c3, by omega, by go_num, by rw [show t + 1 + (m - t) = m + 1 by omega], by show _ = _; rw [lnM, if_pos HR.out, insertBy_length, LM.out], K4⟩
                case measure => simp [intOf]; omega
            · have htl : t - 1 < (lnM ps ns p n).length := by rw [LM.out]; omega
              obtain ⟨y, hy⟩ : ∃ y, y = (lnM ps ns p n).getD (t - 1) 0 := ⟨_, rfl⟩
              obtain ⟨j, hj, hyj, hrj⟩ : ∃ j : Nat, j < n ∧ y = j ∧ tnR ps ns p j = true := by
                refine mem_lnM.1 ?_
                rw [hy, List.getD_eq_getElem?_getD, List.getElem?_eq_getElem htl]
                exact List.getElem_mem htl
              have r0 := RQ.out.1.cell (j := t - 1) htl
              rw [← hy, hyj] at r0
              have HY : Hid ((lnM ps ns p n).getD (t - 1) 0 = (j : Int)) := by show _ = _; rw [← hy, hyj]
              clear hy hyj htl
              have t0 := (HQ.out.all RQ.out.2.2).c0
              have t1 := (HQ.out.all RQ.out.2.2).c1
              obtain ⟨_, h0 | ⟨bs', os', he, hbs', hcs'⟩⟩ := HI.out.kept RQ.out.2.2
              · omega
              cases he
              obtain ⟨_, h0 | ⟨bn', on', he, hbn', hcn'⟩⟩ := HJ.out.kept RQ.out.2.2
              · omega
              cases he
              have hjl : j < len' := by omega
              have s0 := (hcs' n hlt).1
              have s1 := (hcs' n hlt).2
              have u0 := (hcs' j hjl).1
              have u1 := (hcs' j hjl).2
              have u2 := hcn' j hjl
              clear hcs' hcn'
              rw [← HV.out.2.1] at s0
              rw [← HV.out.2.2.1] at s1
              obtain ⟨c', hc'⟩ : ∃ c', c' = ns.getD j 0 := ⟨_, rfl⟩
              obtain ⟨N', hN'⟩ : ∃ N', N' = (ps.getD j (0, 0)).1 := ⟨_, rfl⟩
              obtain ⟨D', hD'⟩ : ∃ D', D' = (ps.getD j (0, 0)).2 := ⟨_, rfl⟩
              rw [← hN'] at u0
              rw [← hD'] at u1
              rw [← hc'] at u2
              have hsj : shareOk N' D' = true := by rw [hN', hD']; exact fits_share (many_parts HK.out.1).1 (i := j) (by rw [HK.out.2]; exact hjl)
              have hcj : 0 ≤ c' ∧ c' < 1000000 := by
                have h1 := cnts_get (many_parts HK.out.1).2.2.2 j
                rw [tnR, Bool.and_eq_true, decide_eq_true_eq] at hrj
                rw [hc']
                exact ⟨h1.1, hrj.1⟩
              have HF : Hid (lnF ps ns n j = decide (aheadIn N D (c + 1) N' D' (c' + 1) = 1)) := by
                show _ = _
                rw [HV.out.1, HV.out.2.1, HV.out.2.2.1, hN', hD', hc']
                rfl
              clear hN' hD' hc' hrj
              have SA : Hid (∀ w, Calls Tryz.prog 65 #[sh N D, .int .i64 (c + 1), sh N' D', .int .i64 (c' + 1)] w fun r w' => r = .returned (.int .i64 (aheadIn N D (c + 1) N' D' (c' + 1))) ∧ Below w.heap.size w w') := specAheadIn N D (c + 1) N' D' (c' + 1) (turn_mk HV.out.2.2.2 (by omega) (by omega)) (turn_mk hsj (by omega) (by omega))
              have hgr : g < wr.heap.size := RQ.out.1.lt
              have hbx : w.heap.size < wr.heap.size := (HQ.out.all RQ.out.2.2).lt
              have k0 : ∀ x : Kin wr, x.u.cell? ⟨w.heap.size, 0, none⟩ = some (.slice (some ⟨bs, os, none⟩) len' cap) := fun x => x.cell hbx t0
              have k1 : ∀ x : Kin wr, x.u.cell? ⟨w.heap.size, 1, none⟩ = some (.slice (some ⟨bn, on, none⟩) len' cap') := fun x => x.cell hbx t1
              have e0 : ∀ x : Kin wr, x.u.cell? ⟨bs, os + n * 2, none⟩ = some (.int .i64 N) := fun x => x.cell hbs' s0
              have e1 : ∀ x : Kin wr, x.u.cell? ⟨bs, os + n * 2 + 1, none⟩ = some (.int .i64 D) := fun x => x.cell hbs' s1
              have f0 : ∀ x : Kin wr, x.u.cell? ⟨bs, os + j * 2, none⟩ = some (.int .i64 N') := fun x => x.cell hbs' u0
              have f1 : ∀ x : Kin wr, x.u.cell? ⟨bs, os + j * 2 + 1, none⟩ = some (.int .i64 D') := fun x => x.cell hbs' u1
              have f2 : ∀ x : Kin wr, x.u.cell? ⟨bn, on + j, none⟩ = some (.int .i64 c') := fun x => x.cell hbn' u2
              have r1 : ∀ x : Kin wr, x.u.cell? ⟨g, t - 1, none⟩ = some (.int .i64 j) := fun x => x.cell hgr r0
              clear t0 t1 s0 s1 u0 u1 u2 r0 hsj
              obtain ⟨v, hv⟩ : ∃ v, v = aheadIn N D (c + 1) N' D' (c' + 1) := ⟨_, rfl⟩
              rw [← hv] at SA HF
              clear hv
              have hti : (0 : Int) < (t : Int) := by omega
              have htn : 0 < t := by omega
              have htj : (j : Int) < (len' : Int) := by omega
              by_cases hv1 : v = 1
              · subst hv1
                go_wp2_with fail
                refine wp_region_kin (by kernel_rfl) (by kernel_rfl) (fun hne => ?_)
                repeat (go_big_quiet_step ((first | (go_at_call 65; exact kin_calls (SA.out _)))))
                refine wpQuiet_nil ?_
                rintro _ ⟨x, rfl⟩
                have RX : Hid (Row x.u g cp (lnM ps ns p n) ∧ w1.heap.size ≤ g ∧ Below w1.heap.size w1 x.u) := ⟨RQ.out.1.all x.b, RQ.out.2.1, below_call RQ.out.2.2 RQ.out.2.2.size x.b⟩
                clear k0 k1 e0 e1 f0 f1 f2 r1 hne RQ SA
                generalize x.u = wx at RX ⊢
                go_wp2_with fail
                go_roundw
                case rel =>
                  refine ⟨t - 1, by omega, by go_num, RX, ?_⟩
                  show _ = _
                  rw [PQ.out]
                  exact posOf_down (by omega) (by rw [HY.out, HF.out]; rfl)
                case measure => simp [intOf]; omega
              · have hvd : decide (v = 1) = false := decide_eq_false hv1
                have hve : (v == 1) = false := by simpa using hv1
                have PT : Hid (posOf (lnF ps ns n) (lnM ps ns p n) m = t) := by show _ = _; rw [PQ.out]; exact posOf_stop (.inr (by rw [HY.out, HF.out]; exact hvd))
                go_wp2_with fail
                refine wp_region_kin (by kernel_rfl) (by kernel_rfl) (fun hne => ?_)
                repeat (go_big_quiet_step ((first | (go_at_call 65; exact kin_calls (SA.out _)))))
                refine wpQuiet_nil ?_
                rintro _ ⟨x, rfl⟩
                have RX : Hid (Row x.u g cp (lnM ps ns p n) ∧ w1.heap.size ≤ g ∧ Below w1.heap.size w1 x.u) := ⟨RQ.out.1.all x.b, RQ.out.2.1, below_call RQ.out.2.2 RQ.out.2.2.size x.b⟩
                clear k0 k1 e0 e1 f0 f1 f2 r1 hne RQ SA
                generalize x.u = wx at RX ⊢
                have hcp : t ≤ cp := by obtain ⟨_, _, hl, _⟩ := RX.out.1; rw [LM.out] at hl; omega
                have hgx : g < wx.heap.size := RX.out.1.lt
                go_wp2_with (at_builtin; refine wpList_append_ints rfl (.tmp 75) (.tmp 78) 25 rfl i0 Tryz.underlying25 hi hz0 hz1 hz2 _ _ _ [] rfl rfl (row_nil wx) _ _ _ ((lnM ps ns p n).drop t) rfl ((RX.out.1.alloc _).tail LM.out t ht _ (by intro h; first | rfl | simp [h])) (by simp; omega) ?_)
                all_goals
                  intro g1 c1 w2 R2 G2 D2
                  have K2 : Hid (Row w2 g1 c1 ((lnM ps ns p n).drop t) ∧ wx.heap.size ≤ g1 ∧ Row w2 g cp ((lnM ps ns p n).take t) ∧ Below w1.heap.size w1 w2) := rest_done RX.out.1 RX.out.2.2 (by simpa using R2) G2 D2
                  have hg1 : g1 < w2.heap.size := K2.out.1.lt
                  clear R2 G2 D2
                  go_wp2_with (at_builtin; refine wpList_append_ints rfl (.tmp 82) (.tmp 84) 25 rfl i0 Tryz.underlying25 hi hz0 hz1 hz2 _ _ _ ((lnM ps ns p n).take t) rfl (by rw [List.length_take, LM.out]; omega) (by first | exact K2.out.2.2.1.alloc _ | (have hct : cp = t := (by assumption); rw [hct] at K2; exact K2.out.2.2.1.alloc _)) _ _ _ [(n : Int)] rfl (ints_one _ _ _) (by rw [List.length_take, LM.out]; omega) ?_)
                  intro g2 c2 w3 R3 G3 D3
                  have K3 : Hid (Row w3 g2 c2 ((lnM ps ns p n).take t ++ [(n : Int)]) ∧ g ≤ g2 ∧ Row w3 g1 c1 ((lnM ps ns p n).drop t) ∧ Below w1.heap.size w1 w3) := one_done K2.out.1 K2.out.2.2.2 RX.out.2.1 (by have := K2.out.2.1; omega) R3 G3 D3
                  have hg2 : g2 < w3.heap.size := K3.out.1.lt
                  clear R3 G3 D3
                  go_wp2_with (at_builtin; refine wpList_append_ints rfl (.tmp 85) (.tmp 86) 25 rfl i0 Tryz.underlying25 hi hz0 hz1 hz2 _ _ _ ((lnM ps ns p n).take t ++ [(n : Int)]) rfl (by rw [List.length_append, List.length_take, LM.out, List.length_singleton]; omega) K3.out.1 _ _ _ ((lnM ps ns p n).drop t) rfl (by have := K3.out.2.2.1.ints; rw [List.length_drop, LM.out] at this; exact this) (by rw [List.length_append, List.length_take, LM.out, List.length_singleton]; omega) ?_)
                  intro g3 c3 w4 R4 G4 D4
                  have K4 : Hid (Row w4 g3 c3 (lnM ps ns p (n + 1)) ∧ w1.heap.size ≤ g3 ∧ Below w1.heap.size w1 w4) := line_done (t := t) HR.out (by rw [LM.out]; exact PT.out) K3.out.2.2.2 (by have := K3.out.2.1; have := RX.out.2.1; omega) (by simpa using R4) G4 D4
                  clear R4 G4 D4
                  go_wp2_with fail
                  go_roundw
                  case rel => exact ⟨n + 1, m + 1, g3, c3, by omega, by go_num, by rw [show t + 1 + (m - t) = m + 1 by omega], by show _ = _; rw [lnM, if_pos HR.out, insertBy_length, LM.out], K4⟩
                  case measure => simp [intOf]; omega
        · have hr : tnR ps ns p n = false := by
            rw [tnR, ← HV.out.1, ← HV.out.2.1, ← HV.out.2.2.1, ← HVV.out, decide_eq_false hvp, Bool.and_false]
          have HL1 : Hid (lnM ps ns p (n + 1) = lnM ps ns p n) := by
            show _ = _
            rw [lnM, hr]
            rfl
          have hvp' : p < v := by omega
          clear hr
          go_wp2_with fail
          go_roundw
          case rel => exact ⟨n + 1, m, g, cp, by omega, by go_num, rfl, by show _ = _; rw [HL1.out]; exact LM.out, by rw [HL1.out]; exact RX.out.1, RX.out.2⟩
          case measure => simp [intOf]; omega
      · have hc6' : (1000000 : Int) ≤ c := by omega
        have hd6 : decide ((1000000 : Int) ≤ c) = true := decide_eq_true hc6'
        have hr : tnR ps ns p n = false := by
          rw [tnR, ← HV.out.1, decide_eq_false hc6, Bool.false_and]
        have HL1 : Hid (lnM ps ns p (n + 1) = lnM ps ns p n) := by
          show _ = _
          rw [lnM, hr]
          rfl
        clear hr
        go_wp2_with fail
        refine wp_region_kin (by kernel_rfl) (by kernel_rfl) (fun hne => ?_)
        repeat (go_big_quiet_step (fail))
        refine wpQuiet_nil ?_
        rintro _ ⟨x, rfl⟩
        have RX : Hid (Row x.u g cp (lnM ps ns p n) ∧ w1.heap.size ≤ g ∧ Below w1.heap.size w1 x.u) := ⟨R.out.1.all x.b, R.out.2.1, below_call R.out.2.2 R.out.2.2.size x.b⟩
        clear k0 k1 k3 e0 e1 e2 hne t0 t1 t3 s0 s1 d0 R HS HN
        generalize x.u = wx at *
        go_wp2_with fail
        go_roundw
        case rel => exact ⟨n + 1, m, g, cp, by omega, by go_num, rfl, by show _ = _; rw [HL1.out]; exact LM.out, by rw [HL1.out]; exact RX.out.1, RX.out.2⟩
        case measure => simp [intOf]; omega
    · have hlt' : ¬ (n : Int) < (len' : Int) := by omega
      have e : n = len' := by omega
      subst e
      have hm := LM.out
      subst hm
      go_wp2_with fail
      go_ret
      exact ⟨g, cp, rfl, R.out.1, by have := HB.out.size; have := R.out.2.1; omega, HB.out.trans (R.out.2.2.mono HB.out.size)⟩

end Go.Proofs.YtjhenfdmbagaiaaGreat.Crew
