/-
  Several processors, in numbers: tasks with some of their turns, run by an order of turns; who is among the first; what marking one turn as done does to a run; nobody is ever late (no code here).
-/
import Derived.Test.YtjhenfdmbagaiaaGreatInBase
namespace Go.Proofs.YtjhenfdmbagaiaaGreat.Top

/-- How many of the first n. -/
def cntB (f : Nat → Bool) : Nat → Nat
  | 0 => 0
  | k + 1 => cntB f k + (if f k then 1 else 0)

theorem cnt_le {f g : Nat → Bool} {n : Nat} (h : ∀ i, i < n → f i = true → g i = true) : cntB f n ≤ cntB g n := by
  induction n with
  | zero => exact Nat.le_refl _
  | succ n ih =>
    have h1 := ih (fun i hi => h i (by omega))
    have h2 := h n (by omega)
    simp only [cntB]
    cases hf : f n
    · simp; omega
    · rw [h2 hf]; simp; omega

theorem cnt_less {f g : Nat → Bool} {n : Nat} (h : ∀ i, i < n → f i = true → g i = true) {j : Nat} (hj : j < n) (h1 : f j = false) (h2 : g j = true) : cntB f n + 1 ≤ cntB g n := by
  induction n with
  | zero => omega
  | succ n ih =>
    simp only [cntB]
    by_cases e : j = n
    · subst e
      have := cnt_le (f := f) (g := g) (n := j) (fun i hi => h i (by omega))
      rw [h1, h2]; simp; omega
    · have h3 := ih (fun i hi => h i (by omega)) (by omega)
      have h4 := h n (by omega)
      cases hf : f n
      · simp; omega
      · rw [h4 hf]; simp; omega

theorem cnt_one {f g : Nat → Bool} {n y : Nat} (h : ∀ i, i < n → i ≠ y → g i = true → f i = true) : cntB g n ≤ cntB f n + 1 := by
  have key : ∀ k, k ≤ n → (y < k → cntB g k ≤ cntB f k + 1) ∧ (k ≤ y → cntB g k ≤ cntB f k) := by
    intro k
    induction k with
    | zero => intro _; exact ⟨fun h => by omega, fun _ => Nat.le_refl _⟩
    | succ k ih =>
      intro hk
      obtain ⟨h1, h2⟩ := ih (by omega)
      have h3 := h k (by omega)
      simp only [cntB]
      refine ⟨fun hy => ?_, fun hy => ?_⟩
      · by_cases e : k = y
        · subst e
          have := h2 (Nat.le_refl _)
          cases g k <;> cases f k <;> simp <;> omega
        · have := h1 (by omega)
          have h4 := h3 e
          cases hg : g k
          · simp; omega
          · rw [h4 hg]; simp; omega
      · have := h2 (by omega)
        have h4 := h3 (by omega)
        cases hg : g k
        · simp; omega
        · rw [h4 hg]; simp; omega
  obtain ⟨h1, h2⟩ := key n (Nat.le_refl _)
  by_cases hy : y < n
  · exact h1 hy
  · have := h2 (by omega); omega

/-- Tasks: n of them, each one's weight e of D; m processors; which of two turns goes ahead. -/
structure Sys where
  n : Nat
  m : Nat
  D : Nat
  e : Nat → Nat
  pr : Nat → Nat → Nat → Nat → Bool

/-- A slot in which a task's turn is due and its next one is ready already. -/
def Sys.WN (Z : Sys) (i k : Nat) : Prop := ∃ p, p * Z.D ≤ Z.e i * k ∧ Z.e i * k < (p + 1) * Z.D ∧ (p + 1) * Z.D < Z.e i * (k + 1)

/-- An order of turns: by when they are due; then by how long windows go on overlapping. -/
structure Sys.Fine (Z : Sys) : Prop where
  irr : ∀ i p, Z.pr i p i p = false
  tr : ∀ a p b q c r, Z.pr a p b q = true → Z.pr b q c r = true → Z.pr a p c r = true
  tot : ∀ a p b q, a ≠ b → Z.pr a p b q = true ∨ Z.pr b q a p = true
  own : ∀ a p q, p < q → Z.pr a p a q = true
  due : ∀ a p b q, a < Z.n → b < Z.n → Z.pr a p b q = true → ∀ t, (q + 1) * Z.D ≤ Z.e b * t → (p + 1) * Z.D ≤ Z.e a * t
  chain : ∀ a p b q, a < Z.n → b < Z.n → Z.pr a p b q = true → ∀ k v, k < v → Z.e a * k < (p + 1) * Z.D → (p + 1) * Z.D ≤ Z.e a * (k + 1) → Z.e b * k < (q + 1) * Z.D → (q + 1) * Z.D ≤ Z.e b * (k + 1) → (∀ s, k ≤ s → s < v → Z.WN b s) → ∀ s, k ≤ s → s < v → Z.WN a s
  pos : 0 < Z.D
  wt : ∀ i, i < Z.n → 0 < Z.e i ∧ Z.e i ≤ Z.D

theorem Sys.Fine.asym {Z : Sys} (F : Z.Fine) {a p b q : Nat} (h : Z.pr a p b q = true) : Z.pr b q a p = false := by
  cases h2 : Z.pr b q a p
  · rfl
  · have := F.tr _ _ _ _ _ _ h h2
    rw [F.irr] at this; cases this

/-- What is left of each: its turns that were not taken yet, in order. -/
abbrev Left := Nat → List Nat

def hd (U : Left) (i : Nat) : Nat := (U i).headD 0

def Sys.rdy (Z : Sys) (U : Left) (k i : Nat) : Bool := match U i with
  | [] => false
  | p :: _ => decide (p * Z.D < Z.e i * (k + 1))

def Sys.tk (Z : Sys) (U : Left) (k i : Nat) : Bool := Z.rdy U k i && decide (cntB (fun j => Z.rdy U k j && Z.pr j (hd U j) i (hd U i)) Z.n < Z.m)

def Sys.stp (Z : Sys) (U : Left) (k : Nat) : Left := fun i => if Z.tk U k i then (U i).tail else U i

def Sys.run (Z : Sys) (S : Left) : Nat → Left
  | 0 => S
  | k + 1 => Z.stp (Z.run S k) k

def Asc (l : List Nat) : Prop := l.Pairwise (· < ·)

theorem Asc.tail {l : List Nat} (h : Asc l) : Asc l.tail := by
  cases l with
  | nil => exact h
  | cons _ _ => exact (List.pairwise_cons.1 h).2

theorem run_asc {Z : Sys} {S : Left} (h : ∀ i, Asc (S i)) (k : Nat) : ∀ i, Asc (Z.run S k i) := by
  induction k with
  | zero => exact h
  | succ k ih =>
    intro i
    show Asc (Z.stp (Z.run S k) k i)
    unfold Sys.stp
    split
    · exact (ih i).tail
    · exact ih i

theorem rdy_cons {Z : Sys} {U : Left} {k i p : Nat} {l : List Nat} (h : U i = p :: l) : Z.rdy U k i = decide (p * Z.D < Z.e i * (k + 1)) := by
  unfold Sys.rdy
  rw [h]

theorem rdy_some {Z : Sys} {U : Left} {k i : Nat} (h : Z.rdy U k i = true) : ∃ p l, U i = p :: l ∧ hd U i = p ∧ p * Z.D < Z.e i * (k + 1) := by
  unfold Sys.rdy at h
  cases hl : U i with
  | nil => rw [hl] at h; cases h
  | cons p l => rw [hl] at h; exact ⟨p, l, rfl, by simp [hd, hl], of_decide_eq_true h⟩

theorem hd_cons {U : Left} {i p : Nat} {l : List Nat} (h : U i = p :: l) : hd U i = p := by simp [hd, h]

theorem tk_rdy {Z : Sys} {U : Left} {k i : Nat} (h : Z.tk U k i = true) : Z.rdy U k i = true := by
  unfold Sys.tk at h
  exact (Bool.and_eq_true_iff.1 h).1

/-- Two that leave the same but one turn of one task. -/
structure Dif (U V : Left) (y p : Nat) : Prop where
  same : ∀ i, i ≠ y → V i = U i
  has : p ∈ U y
  less : V y = (U y).erase p

/-- How many are ready and ahead. -/
def Sys.ah (Z : Sys) (U : Left) (k i : Nat) : Nat := cntB (fun j => Z.rdy U k j && Z.pr j (hd U j) i (hd U i)) Z.n

theorem tk_iff {Z : Sys} {U : Left} {k i : Nat} : Z.tk U k i = true ↔ Z.rdy U k i = true ∧ Z.ah U k i < Z.m := by
  unfold Sys.tk Sys.ah
  rw [Bool.and_eq_true, decide_eq_true_eq]

/-- The heads that count are the same: the same ones are taken. -/
theorem tk_same {Z : Sys} {U V : Left} {k : Nat} (hr : ∀ i, i < Z.n → Z.rdy V k i = Z.rdy U k i) (hh : ∀ i, i < Z.n → Z.rdy U k i = true → hd V i = hd U i) {i : Nat} (hi : i < Z.n) : Z.tk V k i = Z.tk U k i := by
  have e : ∀ x, x < Z.n → Z.rdy U k x = true → Z.ah V k x = Z.ah U k x := by
    intro x hx hrx
    unfold Sys.ah
    apply Nat.le_antisymm
    · apply cnt_le
      intro j hj h
      rw [Bool.and_eq_true] at h ⊢
      rw [hr j hj] at h
      rw [hh j hj h.1, hh x hx hrx] at h
      exact h
    · apply cnt_le
      intro j hj h
      rw [Bool.and_eq_true] at h ⊢
      rw [hr j hj, hh j hj h.1, hh x hx hrx]
      exact h
  cases h1 : Z.rdy U k i
  · unfold Sys.tk; rw [hr i hi, h1]; rfl
  · have h2 := e i hi h1
    unfold Sys.ah at h2
    unfold Sys.tk
    rw [hr i hi, h2]

end Go.Proofs.YtjhenfdmbagaiaaGreat.Top

namespace Go.Proofs.YtjhenfdmbagaiaaGreat.Top

/-- A strict total order on numbers. -/
structure Strict (lt : Nat → Nat → Bool) : Prop where
  irr : ∀ i, lt i i = false
  tr : ∀ i j k, lt i j = true → lt j k = true → lt i k = true
  tot : ∀ i j, i ≠ j → lt i j = true ∨ lt j i = true

theorem Strict.asym {lt : Nat → Nat → Bool} (S : Strict lt) {i j : Nat} (h : lt i j = true) : lt j i = false := by
  cases h2 : lt j i
  · rfl
  · have := S.tr _ _ _ h h2
    rw [S.irr] at this
    cases this

theorem Strict.not {lt : Nat → Nat → Bool} (S : Strict lt) {i j : Nat} (hij : i ≠ j) (h : lt i j = false) : lt j i = true := by
  rcases S.tot i j hij with h2 | h2
  · rw [h] at h2; cases h2
  · exact h2

/-- How many of the first k are ready and ahead of i. -/
def place (lt : Nat → Nat → Bool) (r : Nat → Bool) (k i : Nat) : Nat := cntB (fun j => r j && lt j i) k

/-- Who of the first k is among the first q. -/
def topB (lt : Nat → Nat → Bool) (r : Nat → Bool) (q k i : Nat) : Bool := r i && decide (i < k) && decide (place lt r k i < q)

theorem topB_iff {lt : Nat → Nat → Bool} {r : Nat → Bool} {q k i : Nat} : topB lt r q k i = true ↔ r i = true ∧ i < k ∧ place lt r k i < q := by
  simp [topB, and_assoc]

theorem cnt_ext {f g : Nat → Bool} {n : Nat} (h : ∀ i, i < n → f i = g i) : cntB f n = cntB g n := by
  apply Nat.le_antisymm
  · exact cnt_le fun i hi hf => by rw [← h i hi]; exact hf
  · exact cnt_le fun i hi hf => by rw [h i hi]; exact hf

theorem cnt_none {f : Nat → Bool} {n : Nat} (h : ∀ i, i < n → f i = false) : cntB f n = 0 := by
  induction n with
  | zero => rfl
  | succ n ih => simp only [cntB, h n (by omega), ih (fun i hi => h i (by omega))]; simp

theorem place_succ (lt : Nat → Nat → Bool) (r : Nat → Bool) (k i : Nat) : place lt r (k + 1) i = place lt r k i + (if r k && lt k i then 1 else 0) := rfl

theorem place_lt {lt : Nat → Nat → Bool} (S : Strict lt) {r : Nat → Bool} {k i j : Nat} (hi : i < k) (hr : r i = true) (h : lt i j = true) : place lt r k i < place lt r k j := by
  refine cnt_less (j := i) ?_ hi ?_ ?_
  · intro x hx hh
    rw [Bool.and_eq_true] at hh ⊢
    exact ⟨hh.1, S.tr _ _ _ hh.2 h⟩
  · rw [S.irr]; simp
  · rw [hr, h]; rfl

/-- Where fewer than q are among the first q, all that are ready are. -/
theorem top_few {lt : Nat → Nat → Bool} (S : Strict lt) {r : Nat → Bool} {q k : Nat} (h : cntB (topB lt r q k) k < q) {i : Nat} (hi : i < k) (hr : r i = true) : topB lt r q k i = true := by
  have key : ∀ a i, place lt r k i = a → i < k → r i = true → topB lt r q k i = true := by
    intro a
    induction a using Nat.strongRecOn with
    | _ a ih =>
      intro i ha hi hr
      rw [topB_iff]
      refine ⟨hr, hi, ?_⟩
      have : place lt r k i ≤ cntB (topB lt r q k) k := by
        apply cnt_le
        intro j hj hh
        rw [Bool.and_eq_true] at hh
        have := place_lt S hj hh.1 hh.2
        exact ih (place lt r k j) (by omega) j rfl hj hh.1
      omega
  exact key _ i rfl hi hr

/-- Never more than q. -/
theorem top_le {lt : Nat → Nat → Bool} (S : Strict lt) {r : Nat → Bool} {q k : Nat} : cntB (topB lt r q k) k ≤ q := by
  by_cases hc : cntB (topB lt r q k) k ≤ q
  · exact hc
  · exfalso
    -- the last of them has all others ahead
    have key : ∀ n, n ≤ k → (∃ i, i < n ∧ topB lt r q k i = true) → ∃ z, z < n ∧ topB lt r q k z = true ∧ ∀ j, j < n → topB lt r q k j = true → j ≠ z → lt j z = true := by
      intro n
      induction n with
      | zero => rintro _ ⟨i, hi, _⟩; omega
      | succ n ih =>
        intro hn hx
        by_cases hy : ∃ i, i < n ∧ topB lt r q k i = true
        · obtain ⟨z, z1, z2, z3⟩ := ih (by omega) hy
          cases ht : topB lt r q k n
          · refine ⟨z, by omega, z2, fun j hj hjt hjz => ?_⟩
            by_cases e : j = n
            · subst e; rw [ht] at hjt; cases hjt
            · exact z3 j (by omega) hjt hjz
          · cases hl : lt n z
            · have hzn := S.not (show n ≠ z by omega) hl
              refine ⟨n, by omega, ht, fun j hj hjt hjz => ?_⟩
              by_cases e : j = z
              · subst e; exact hzn
              · exact S.tr _ _ _ (z3 j (by omega) hjt e) hzn
            · refine ⟨z, by omega, z2, fun j hj hjt hjz => ?_⟩
              by_cases e : j = n
              · subst e; exact hl
              · exact z3 j (by omega) hjt hjz
        · obtain ⟨i, i1, i2⟩ := hx
          have : i = n := by
            by_cases e : i = n
            · exact e
            · exact absurd ⟨i, by omega, i2⟩ hy
          subst this
          exact ⟨i, by omega, i2, fun j hj hjt hjz => absurd ⟨j, by omega, hjt⟩ hy⟩
    have hpos : ∃ i, i < k ∧ topB lt r q k i = true := by
      by_cases hy : ∃ i, i < k ∧ topB lt r q k i = true
      · exact hy
      · have := cnt_none (f := topB lt r q k) (n := k) (fun i hi => by
          cases h : topB lt r q k i
          · rfl
          · exact absurd ⟨i, hi, h⟩ hy)
        omega
    obtain ⟨z, z1, z2, z3⟩ := key k (Nat.le_refl _) hpos
    have hz := topB_iff.1 z2
    have : cntB (topB lt r q k) k ≤ place lt r k z + 1 := by
      apply cnt_one (y := z)
      intro j hj hjz hjt
      rw [(topB_iff.1 hjt).1, z3 j hj hjt hjz]
      rfl
    omega

theorem top_out {lt : Nat → Nat → Bool} {r : Nat → Bool} {q k i : Nat} (h : k ≤ i) : topB lt r q k i = false := by
  cases e : topB lt r q k i
  · rfl
  · have := (topB_iff.1 e).2.1; omega

/-- One that is not ready changes nothing. -/
theorem top_not {lt : Nat → Nat → Bool} {r : Nat → Bool} {q k : Nat} (h : r k = false) (i : Nat) : topB lt r q (k + 1) i = topB lt r q k i := by
  have hp : place lt r (k + 1) i = place lt r k i := by rw [place_succ, h]; rfl
  by_cases e : i = k
  · subst e
    rw [top_out (Nat.le_refl _)]
    unfold topB
    rw [h]; rfl
  · unfold topB
    rw [hp]
    have : decide (i < k + 1) = decide (i < k) := by
      by_cases hh : i < k
      · simp [hh]; omega
      · simp [hh]; omega
    rw [this]

/-- One more that is ready, where there is room. -/
theorem top_room {lt : Nat → Nat → Bool} (S : Strict lt) {r : Nat → Bool} {q k : Nat} (h : r k = true) (hc : cntB (topB lt r q k) k < q) (i : Nat) : topB lt r q (k + 1) i = (topB lt r q k i || decide (i = k)) := by
  have hall : ∀ j, j < k → r j = true → topB lt r q k j = true := fun j hj hr => top_few S hc hj hr
  have hcnt : ∀ i, place lt r k i ≤ cntB (topB lt r q k) k := by
    intro i
    apply cnt_le
    intro j hj hh
    rw [Bool.and_eq_true] at hh
    exact hall j hj hh.1
  by_cases e : i = k
  · subst e
    have h1 : topB lt r q (i + 1) i = true := by
      rw [topB_iff]
      refine ⟨h, by omega, ?_⟩
      rw [place_succ, S.irr]
      have := hcnt i
      simp
      omega
    rw [h1]
    simp
  · have hne : decide (i = k) = false := by simp [e]
    rw [hne, Bool.or_false]
    cases h1 : topB lt r q k i
    · cases h2 : topB lt r q (k + 1) i
      · rfl
      · have := topB_iff.1 h2
        rw [hall i (by omega) this.1] at h1
        cases h1
    · obtain ⟨a, b, c⟩ := topB_iff.1 h1
      rw [topB_iff]
      refine ⟨a, by omega, ?_⟩
      rw [place_succ]
      have h3 : place lt r k i + 1 ≤ cntB (topB lt r q k) k := by
        refine cnt_less (j := i) ?_ b ?_ h1
        · intro j hj hh
          rw [Bool.and_eq_true] at hh
          exact hall j hj hh.1
        · rw [S.irr]; simp
      split <;> omega

/-- One more that is ready, where there is no room: the hindmost of them all goes. -/
theorem top_full {lt : Nat → Nat → Bool} (S : Strict lt) {r : Nat → Bool} {q k : Nat} (h : r k = true) (hc : cntB (topB lt r q k) k = q) {z : Nat} (hz : topB lt r q k z = true ∨ z = k) (hl : ∀ j, topB lt r q k j = true ∨ j = k → j ≠ z → lt j z = true) (i : Nat) :
    topB lt r q (k + 1) i = ((topB lt r q k i || decide (i = k)) && !decide (i = z)) := by
  -- whoever is not among them has all of them ahead
  have hout : ∀ y, y < k → r y = true → topB lt r q k y = false → ∀ j, topB lt r q k j = true → lt j y = true := by
    intro y hy hr ht j hj
    by_cases e : j = y
    · subst e; rw [ht] at hj; cases hj
    · cases hx : lt j y
      · exfalso
        have h1 := S.not e hx
        have h2 := place_lt S hy hr h1
        have h3 := topB_iff.1 hj
        have : topB lt r q k y = true := topB_iff.2 ⟨hr, hy, by omega⟩
        rw [ht] at this; cases this
      · rfl
  -- how many are ahead of z
  have hzq : q ≤ place lt r (k + 1) z := by
    rw [place_succ]
    rcases hz with hz | rfl
    · have h1 : cntB (topB lt r q k) k ≤ place lt r k z + 1 := by
        apply cnt_one (y := z)
        intro j hj hjz hjt
        rw [(topB_iff.1 hjt).1, hl j (.inl hjt) hjz]
        rfl
      have h2 := hl k (.inr rfl) (by have := (topB_iff.1 hz).2.1; omega)
      rw [h, h2]
      simp
      omega
    · have h1 : cntB (topB lt r q z) z ≤ place lt r z z := by
        apply cnt_le
        intro j hj hjt
        rw [(topB_iff.1 hjt).1, hl j (.inl hjt) (by omega)]
        rfl
      omega
  by_cases e : i = z
  · subst e
    have : topB lt r q (k + 1) i = false := by
      cases h1 : topB lt r q (k + 1) i
      · rfl
      · have := (topB_iff.1 h1).2.2; omega
    rw [this]
    simp
  have hne : decide (i = z) = false := by simp [e]
  rw [hne, Bool.not_false, Bool.and_true]
  by_cases ek : i = k
  · subst ek
    have h1 : topB lt r q (i + 1) i = true := by
      rw [topB_iff]
      refine ⟨h, by omega, ?_⟩
      have hzt : topB lt r q i z = true := by
        rcases hz with hz | hz
        · exact hz
        · exact absurd hz.symm e
      have hiz := hl i (.inr rfl) e
      have h2 : place lt r i i + 1 ≤ cntB (topB lt r q i) i := by
        refine cnt_less (j := z) ?_ (topB_iff.1 hzt).2.1 ?_ hzt
        · intro j hj hh
          rw [Bool.and_eq_true] at hh
          cases hjt : topB lt r q i j
          · have h3 := hout j hj hh.1 hjt z hzt
            have h4 := S.tr _ _ _ h3 hh.2
            rw [S.asym hiz] at h4
            cases h4
          · rfl
        · rw [S.asym hiz]; simp
      rw [place_succ, S.irr]
      simp
      omega
    rw [h1]
    simp
  · have hne : decide (i = k) = false := by simp [ek]
    rw [hne, Bool.or_false]
    cases h1 : topB lt r q k i
    · cases h2 : topB lt r q (k + 1) i
      · rfl
      · obtain ⟨a, b, c⟩ := topB_iff.1 h2
        rw [place_succ] at c
        have : topB lt r q k i = true := topB_iff.2 ⟨a, by omega, by omega⟩
        rw [h1] at this; cases this
    · obtain ⟨a, b, c⟩ := topB_iff.1 h1
      rw [topB_iff]
      refine ⟨a, by omega, ?_⟩
      have hiz := hl i (.inl h1) e
      -- all ahead of i are among them, neither i nor z
      rw [place_succ]
      by_cases hk : lt k i = true
      · have hzt : topB lt r q k z = true := by
          rcases hz with hz | hz
          · exact hz
          · subst hz
            rw [S.asym hiz] at hk
            cases hk
        have h2 : place lt r k i + 1 ≤ cntB (fun j => topB lt r q k j && !decide (j = z)) k := by
          refine cnt_less (j := i) ?_ b ?_ ?_
          · intro j hj hh
            rw [Bool.and_eq_true] at hh
            have h3 : topB lt r q k j = true := by
              have h4 := place_lt S hj hh.1 hh.2
              exact topB_iff.2 ⟨hh.1, hj, by omega⟩
            have h5 : j ≠ z := by
              intro e2
              subst e2
              rw [S.asym hiz] at hh
              cases hh.2
            simp [h3, h5]
          · rw [S.irr]; simp
          · simp [h1, e]
        have h3 : cntB (fun j => topB lt r q k j && !decide (j = z)) k + 1 ≤ cntB (topB lt r q k) k := by
          refine cnt_less (j := z) ?_ (topB_iff.1 hzt).2.1 ?_ hzt
          · intro j hj hh
            rw [Bool.and_eq_true] at hh
            exact hh.1
          · simp
        rw [h, hk]
        simp
        omega
      · have : lt k i = false := by simpa using hk
        rw [this, Bool.and_false]
        simp
        omega

/-- A line: all that are ready, each one ahead of those behind it. -/
theorem line_place {lt : Nat → Nat → Bool} (S : Strict lt) {r : Nat → Bool} {k : Nat} {l : List Nat} (hl : l.Pairwise (fun x y => lt x y = true)) (hm : ∀ i, i ∈ l ↔ i < k ∧ r i = true) (q : Nat) (i : Nat) : i ∈ l.take q ↔ topB lt r q k i = true := by
  -- how many are ahead of one in a line is where it stands
  have key : ∀ (l : List Nat) (f : Nat → Bool), l.Pairwise (fun x y => lt x y = true) → (∀ i, f i = true → i < k) → (∀ i, i ∈ l ↔ f i = true) → ∀ q i, i ∈ l.take q ↔ f i = true ∧ cntB (fun j => f j && lt j i) k < q := by
    intro l
    induction l with
    | nil =>
      intro f _ hf hm q i
      simp only [List.take_nil, List.not_mem_nil, false_iff, not_and]
      intro h
      exact absurd ((hm i).2 h) (by simp)
    | cons a l ih =>
      intro f hp hf hm q i
      have hp2 := List.pairwise_cons.1 hp
      have ha : f a = true := (hm a).1 (by simp)
      have hal : a ∉ l := fun h => by have := hp2.1 a h; rw [S.irr] at this; cases this
      cases q with
      | zero => simp
      | succ q =>
        rw [List.take_succ_cons, List.mem_cons]
        have ih2 := ih (fun j => f j && !decide (j = a)) hp2.2 (fun i h => hf i (by rw [Bool.and_eq_true] at h; exact h.1)) (fun i => by
          rw [Bool.and_eq_true]
          constructor
          · intro h
            refine ⟨(hm i).1 (by simp [h]), ?_⟩
            have : i ≠ a := fun e => hal (e ▸ h)
            simp [this]
          · rintro ⟨h1, h2⟩
            rcases List.mem_cons.1 ((hm i).2 h1) with h | h
            · simp [h] at h2
            · exact h) q i
        rw [ih2]
        by_cases e : i = a
        · subst e
          have h0 : cntB (fun j => f j && lt j i) k = 0 := cnt_none fun j hj => by
            cases h : f j && lt j i
            · rfl
            · rw [Bool.and_eq_true] at h
              rcases List.mem_cons.1 ((hm j).2 h.1) with e2 | h2
              · subst e2; rw [S.irr] at h; cases h.2
              · have := S.asym (hp2.1 j h2); rw [h.2] at this; cases this
          simp [ha, h0]
        · have e2 : (f i && !decide (i = a)) = f i := by simp [e]
          rw [e2]
          by_cases hfi : f i = true
          · have hai : lt a i = true := by
              rcases List.mem_cons.1 ((hm i).2 hfi) with h | h
              · exact absurd h e
              · exact hp2.1 i h
            have h1 : cntB (fun j => f j && lt j i) k = cntB (fun j => (f j && !decide (j = a)) && lt j i) k + 1 := by
              apply Nat.le_antisymm
              · apply cnt_one (y := a)
                intro j hj hja hh
                rw [Bool.and_eq_true] at hh
                simp [hh.1, hh.2, hja]
              · refine cnt_less (j := a) ?_ (hf a ha) ?_ ?_
                · intro j hj hh
                  simp only [Bool.and_eq_true] at hh ⊢
                  exact ⟨hh.1.1, hh.2⟩
                · simp
                · rw [ha, hai]; rfl
            rw [h1]
            simp [e, hfi]
          · simp [e, hfi]
  have := key l (fun i => decide (i < k) && r i) hl (fun i h => by rw [Bool.and_eq_true] at h; exact of_decide_eq_true h.1) (fun i => by rw [hm]; simp) q i
  rw [this, topB_iff]
  have h2 : cntB (fun j => (decide (j < k) && r j) && lt j i) k = place lt r k i := cnt_ext fun j hj => by simp [hj]
  rw [h2]
  simp only [Bool.and_eq_true, decide_eq_true_eq]
  constructor
  · rintro ⟨⟨a, b⟩, c⟩; exact ⟨b, a, c⟩
  · rintro ⟨a, b, c⟩; exact ⟨⟨b, a⟩, c⟩

/-- Those of the first k, in their order. -/
def listB (f : Nat → Bool) (k : Nat) : List Nat := (List.range k).filter f

theorem listB_len (f : Nat → Bool) (k : Nat) : (listB f k).length = cntB f k := by
  induction k with
  | zero => rfl
  | succ k ih =>
    unfold listB at *
    rw [List.range_succ, List.filter_append, List.length_append, ih]
    simp only [cntB]
    cases h : f k <;> simp [h]

theorem mem_listB {f : Nat → Bool} {k i : Nat} : i ∈ listB f k ↔ i < k ∧ f i = true := by
  unfold listB
  rw [List.mem_filter, List.mem_range]

theorem listB_succ (f : Nat → Bool) (k : Nat) : listB f (k + 1) = listB f k ++ (if f k then [k] else []) := by
  unfold listB
  rw [List.range_succ, List.filter_append]
  cases h : f k <;> simp [h]

theorem listB_asc (f : Nat → Bool) (k : Nat) : (listB f k).Pairwise (· < ·) := List.Pairwise.filter _ List.pairwise_lt_range

end Go.Proofs.YtjhenfdmbagaiaaGreat.Top

namespace Go.Proofs.YtjhenfdmbagaiaaGreat.Top

theorem dif_cases {U V : Left} {y p : Nat} (h : Dif U V y p) : (∃ l, U y = p :: l ∧ V y = l) ∨ (∃ a l, U y = a :: l ∧ a ≠ p ∧ p ∈ l ∧ V y = a :: l.erase p) := by
  have h1 := h.has
  have h2 := h.less
  cases hU : U y with
  | nil => rw [hU] at h1; cases h1
  | cons a l =>
    rw [hU] at h1 h2
    by_cases e : a = p
    · subst e
      left
      exact ⟨l, rfl, by rw [h2]; simp⟩
    · right
      have h3 : p ∈ l := by
        rcases List.mem_cons.1 h1 with h | h
        · exact absurd h.symm e
        · exact h
      exact ⟨a, l, rfl, e, h3, by rw [h2, List.erase_cons_tail (by simpa using e)]⟩

theorem tk_none {Z : Sys} {U : Left} {k i : Nat} (h : U i = []) : Z.tk U k i = false := by
  unfold Sys.tk Sys.rdy
  rw [h]
  rfl

theorem stp_same {Z : Sys} {U V : Left} {k : Nat} (ht : ∀ i, Z.tk V k i = Z.tk U k i) {y p : Nat} (h : Dif U V y p) (hk : (∃ l, U y = p :: l ∧ V y = l ∧ Z.tk U k y = false) ∨ (∃ a l, U y = a :: l ∧ a ≠ p ∧ p ∈ l ∧ V y = a :: l.erase p)) : Dif (Z.stp U k) (Z.stp V k) y p := by
  refine ⟨fun i hi => ?_, ?_, ?_⟩
  · unfold Sys.stp
    rw [ht i, h.same i hi]
  · unfold Sys.stp
    rcases hk with ⟨l, h1, h2, h3⟩ | ⟨a, l, h1, h2, h3, h4⟩
    · rw [h3, h1]; simp
    · rw [h1]
      split
      · exact h3
      · exact List.mem_cons_of_mem _ h3
  · unfold Sys.stp
    rw [ht y]
    rcases hk with ⟨l, h1, h2, h3⟩ | ⟨a, l, h1, h2, h3, h4⟩
    · rw [h3, h1, h2]; simp
    · rw [h1, h4]
      split
      · rfl
      · rw [List.erase_cons_tail (by simpa using h2)]

/-- What is known where a turn that is done in one run is done in the other one, too, and another one in its stead. -/
structure Mv (Z : Sys) (U V : Left) (k y p y' p' : Nat) : Prop where
  dif : Dif (Z.stp U k) (Z.stp V k) y' p'
  first : ∃ l, Z.stp U k y' = p' :: l
  ahead : Z.pr y p y' p' = true
  ready : p' * Z.D < Z.e y' * (k + 1)
  took : Z.tk U k y = true
  one : y' < Z.n
  same : y' = y ∨ (Z.tk U k y' = false ∧ Z.rdy U k y' = true)

theorem ah_le {Z : Sys} {U : Left} {k i : Nat} {g : Nat → Bool} (h : ∀ j, j < Z.n → Z.rdy U k j = true → Z.pr j (hd U j) i (hd U i) = true → g j = true) : Z.ah U k i ≤ cntB g Z.n := by
  unfold Sys.ah
  apply cnt_le
  intro j hj hh
  rw [Bool.and_eq_true] at hh
  exact h j hj hh.1 hh.2

theorem le_ah {Z : Sys} {U : Left} {k i : Nat} {g : Nat → Bool} (h : ∀ j, j < Z.n → g j = true → Z.rdy U k j = true ∧ Z.pr j (hd U j) i (hd U i) = true) : cntB g Z.n ≤ Z.ah U k i := by
  unfold Sys.ah
  apply cnt_le
  intro j hj hh
  rw [Bool.and_eq_true]
  exact h j hj hh

theorem step_dif {Z : Sys} (F : Z.Fine) {U V : Left} (hU : ∀ i, Asc (U i)) (ho : ∀ i, Z.n ≤ i → U i = []) {k y p : Nat} (h : Dif U V y p) :
    Z.stp V k = Z.stp U k ∨ (Dif (Z.stp U k) (Z.stp V k) y p ∧ ((∃ l, U y = p :: l) → Z.tk U k y = false)) ∨ ((∃ l, U y = p :: l) ∧ ∃ y' p', Mv Z U V k y p y' p') := by
  have hyn : y < Z.n := by
    by_cases hh : y < Z.n
    · exact hh
    · have := h.has
      rw [ho y (by omega)] at this
      cases this
  have hVo : ∀ i, Z.n ≤ i → V i = [] := fun i hi => by rw [h.same i (by omega), ho i hi]
  rcases dif_cases h with ⟨l, hl, hv⟩ | ⟨a, l, h1, h2, h3, h4⟩
  case inr =>
    right; left
    have hr : ∀ i, Z.rdy V k i = Z.rdy U k i := by
      intro i
      by_cases e : i = y
      · subst e; rw [rdy_cons h1, rdy_cons h4]
      · unfold Sys.rdy; rw [h.same i e]
    have hh : ∀ i, hd V i = hd U i := by
      intro i
      by_cases e : i = y
      · subst e; rw [hd_cons h1, hd_cons h4]
      · unfold hd; rw [h.same i e]
    have ht : ∀ i, Z.tk V k i = Z.tk U k i := by
      intro i
      by_cases e : i < Z.n
      · exact tk_same (fun i _ => hr i) (fun i _ _ => hh i) e
      · rw [tk_none (ho i (by omega)), tk_none (hVo i (by omega))]
    refine ⟨stp_same ht h (.inr ⟨a, l, h1, h2, h3, h4⟩), ?_⟩
    rintro ⟨l', hl'⟩
    rw [h1] at hl'
    exact absurd (List.cons.inj hl').1 h2
  -- the turn is the first one of its task
  have hdy : hd U y = p := hd_cons hl
  have hrs : ∀ i, i ≠ y → Z.rdy V k i = Z.rdy U k i := by
    intro i e
    unfold Sys.rdy
    rw [h.same i e]
  have hhs : ∀ i, i ≠ y → hd V i = hd U i := by
    intro i e
    unfold hd
    rw [h.same i e]
  have hry : Z.rdy U k y = true ↔ p * Z.D < Z.e y * (k + 1) := by rw [rdy_cons hl, decide_eq_true_eq]
  -- what comes behind it in its task
  have hnx : Z.rdy V k y = true → ∃ q l', l = q :: l' ∧ hd V y = q ∧ p < q ∧ q * Z.D < Z.e y * (k + 1) ∧ Z.rdy U k y = true ∧ Z.pr y p y q = true := by
    intro hr
    obtain ⟨q, l', e1, e2, e3⟩ := rdy_some hr
    rw [hv] at e1
    have ha := hU y
    rw [hl, e1] at ha
    have hpq : p < q := (List.pairwise_cons.1 ha).1 q (by simp)
    refine ⟨q, l', e1, e2, hpq, e3, hry.2 ?_, F.own _ _ _ hpq⟩
    exact Nat.lt_of_le_of_lt (Nat.mul_le_mul_right _ (by omega)) e3
  have hle : ∀ i, i ≠ y → Z.ah V k i ≤ Z.ah U k i := by
    intro i hi
    unfold Sys.ah
    apply cnt_le
    intro j hj hh
    rw [Bool.and_eq_true] at hh ⊢
    rw [hhs i hi] at hh
    by_cases e : j = y
    · subst e
      obtain ⟨q, l', e1, e2, e3, e4, e5, e6⟩ := hnx hh.1
      rw [e2] at hh
      exact ⟨e5, by rw [hdy]; exact F.tr _ _ _ _ _ _ e6 hh.2⟩
    · rw [hrs j e, hhs j e] at hh
      exact hh
  have hge : ∀ i, i ≠ y → Z.ah U k i ≤ Z.ah V k i + 1 := by
    intro i hi
    unfold Sys.ah
    apply cnt_one (y := y)
    intro j hj e hh
    rw [hrs j e, hhs j e, hhs i hi]
    exact hh
  -- who is taken in the one run is in the other one
  have hkeep : ∀ i, i ≠ y → Z.tk U k i = true → Z.tk V k i = true := by
    intro i hi ht
    rw [tk_iff] at ht ⊢
    have := hle i hi
    exact ⟨by rw [hrs i hi]; exact ht.1, by omega⟩
  -- who is taken besides
  have hmore : ∀ i, i ≠ y → Z.tk V k i = true → Z.tk U k i = false → Z.rdy U k i = true ∧ Z.ah U k i = Z.m ∧ Z.ah V k i + 1 = Z.m ∧ Z.rdy U k y = true ∧ Z.pr y p i (hd U i) = true ∧ (Z.rdy V k y = true → Z.pr y (hd V y) i (hd U i) = false) := by
    intro i hi h1 h2
    rw [tk_iff] at h1
    have h3 : Z.rdy U k i = true := by rw [← hrs i hi]; exact h1.1
    have h4 : ¬ Z.ah U k i < Z.m := by
      intro h5
      have := tk_iff.2 ⟨h3, h5⟩
      rw [h2] at this
      cases this
    have h5 := hge i hi
    have h6 : Z.rdy U k y = true ∧ Z.pr y p i (hd U i) = true := by
      by_cases h7 : Z.rdy U k y = true ∧ Z.pr y p i (hd U i) = true
      · exact h7
      · exfalso
        have : Z.ah U k i ≤ Z.ah V k i := by
          apply ah_le
          intro j hj e1 e2
          rw [Bool.and_eq_true]
          by_cases e : j = y
          · subst e
            rw [hdy] at e2
            exact absurd ⟨e1, e2⟩ h7
          · rw [hrs j e, hhs j e, hhs i hi]; exact ⟨e1, e2⟩
        omega
    refine ⟨h3, by omega, by omega, h6.1, h6.2, ?_⟩
    intro h7
    cases h8 : Z.pr y (hd V y) i (hd U i)
    · rfl
    · exfalso
      have : Z.ah U k i ≤ Z.ah V k i := by
        apply ah_le
        intro j hj e1 e2
        rw [Bool.and_eq_true]
        by_cases e : j = y
        · subst e
          rw [hhs i hi]
          exact ⟨h7, h8⟩
        · rw [hrs j e, hhs j e, hhs i hi]; exact ⟨e1, e2⟩
      omega
  cases hty : Z.tk U k y
  · -- it is not taken
    right; left
    have ht : ∀ i, Z.tk V k i = Z.tk U k i := by
      intro i
      by_cases e : i = y
      · subst e
        rw [hty]
        cases h5 : Z.tk V k i
        · rfl
        · exfalso
          rw [tk_iff] at h5
          obtain ⟨q, l', e1, e2, e3, e4, e5, e6⟩ := hnx h5.1
          have h6 : ¬ Z.ah U k i < Z.m := by
            intro h7
            have := tk_iff.2 ⟨e5, h7⟩
            rw [hty] at this
            cases this
          have : Z.ah U k i ≤ Z.ah V k i := by
            apply ah_le
            intro j hj e7 e8
            rw [Bool.and_eq_true]
            rw [hdy] at e8
            have hne : j ≠ i := by
              intro e9
              subst e9
              rw [hdy, F.irr] at e8
              cases e8
            rw [hrs j hne, hhs j hne, e2]
            exact ⟨e7, F.tr _ _ _ _ _ _ e8 e6⟩
          omega
      · cases h5 : Z.tk U k i
        · cases h6 : Z.tk V k i
          · rfl
          · exfalso
            obtain ⟨e1, e2, e3, e4, e5, e6⟩ := hmore i e h6 h5
            have h7 : ¬ Z.ah U k y < Z.m := by
              intro h7
              have := tk_iff.2 ⟨e4, h7⟩
              rw [hty] at this
              cases this
            have : Z.ah U k y ≤ Z.ah V k i := by
              apply ah_le
              intro j hj e7 e8
              rw [Bool.and_eq_true]
              rw [hdy] at e8
              have hne : j ≠ y := by
                intro e9
                subst e9
                rw [hdy, F.irr] at e8
                cases e8
              rw [hrs j hne, hhs j hne, hhs i e]
              exact ⟨e7, F.tr _ _ _ _ _ _ e8 e5⟩
            omega
        · exact hkeep i e h5
    exact ⟨stp_same ht h (.inl ⟨l, hl, hv, hty⟩), fun _ => rfl⟩
  · -- it is taken
    have hUy : Z.stp U k y = l := by
      unfold Sys.stp
      rw [hty, hl]
      rfl
    have hnone : ∀ i, i ≠ y → Z.n ≤ i → Z.tk V k i = Z.tk U k i := fun i _ hi => by rw [tk_none (ho i hi), tk_none (hVo i hi)]
    cases htv : Z.tk V k y
    · have hVy : Z.stp V k y = l := by
        unfold Sys.stp
        rw [htv, hv]
        rfl
      by_cases hz : ∃ z, z ≠ y ∧ Z.tk V k z = true ∧ Z.tk U k z = false
      · -- another task's turn in its stead
        obtain ⟨z, hzy, z1, z2⟩ := hz
        right; right
        refine ⟨⟨l, hl⟩, z, hd U z, ?_⟩
        obtain ⟨e1, e2, e3, e4, e5, e6⟩ := hmore z hzy z1 z2
        obtain ⟨r, lz, f1, f2, f3⟩ := rdy_some e1
        have hzn : z < Z.n := by
          by_cases hh : z < Z.n
          · exact hh
          · rw [ho z (by omega)] at f1; cases f1
        have hother : ∀ i, i ≠ y → i ≠ z → Z.tk V k i = Z.tk U k i := by
          intro i hi hiz
          cases h5 : Z.tk U k i
          · cases h6 : Z.tk V k i
            · rfl
            · exfalso
              obtain ⟨g1, g2, g3, g4, g5, g6⟩ := hmore i hi h6 h5
              have hin : i < Z.n := by
                by_cases hh : i < Z.n
                · exact hh
                · rw [tk_none (ho i (by omega))] at h5
                  rw [tk_none (hVo i (by omega))] at h6
                  cases h6
              have two : ∀ c d, c < Z.n → Z.rdy U k c = true → Z.pr c (hd U c) d (hd U d) = true → Z.ah U k c + 1 ≤ Z.ah U k d := by
                intro c d hc hr hp
                unfold Sys.ah
                refine cnt_less (j := c) ?_ hc ?_ ?_
                · intro j hj hh
                  rw [Bool.and_eq_true] at hh ⊢
                  exact ⟨hh.1, F.tr _ _ _ _ _ _ hh.2 hp⟩
                · rw [F.irr]; simp
                · rw [hr, hp]; rfl
              rcases F.tot i (hd U i) z (hd U z) hiz with t | t
              · have := two i z hin g1 t; omega
              · have := two z i hzn e1 t; omega
          · exact hkeep i hi h5
        have hUz : Z.stp U k z = U z := by
          unfold Sys.stp
          rw [z2]
          rfl
        have hVz : Z.stp V k z = (U z).tail := by
          unfold Sys.stp
          rw [z1, h.same z hzy]
          rfl
        refine ⟨⟨fun i hi => ?_, ?_, ?_⟩, ?_, ?_, ?_, rfl.trans (by first | rfl | exact hty), hzn, .inr ⟨z2, e1⟩⟩
        · by_cases e : i = y
          · subst e; rw [hUy, hVy]
          · unfold Sys.stp
            rw [hother i e hi, h.same i e]
        · rw [hUz, f1, hd_cons f1]; simp
        · rw [hUz, hVz, f1, hd_cons f1]; simp
        · exact ⟨lz, by rw [hUz, f1, hd_cons f1]⟩
        · exact e5
        · rw [f2]; exact f3
      · left
        funext i
        by_cases e : i = y
        · subst e; rw [hUy, hVy]
        · have : Z.tk V k i = Z.tk U k i := by
            cases h5 : Z.tk U k i
            · cases h6 : Z.tk V k i
              · rfl
              · exact absurd ⟨i, e, h6, h5⟩ hz
            · exact hkeep i e h5
          unfold Sys.stp
          rw [this, h.same i e]
    · -- its own next one in its stead
      right; right
      have hrv := tk_rdy htv
      obtain ⟨q, l', e1, e2, e3, e4, e5, e6⟩ := hnx hrv
      refine ⟨⟨l, hl⟩, y, q, ?_⟩
      have hother : ∀ i, i ≠ y → Z.tk V k i = Z.tk U k i := by
        intro i hi
        cases h5 : Z.tk U k i
        · cases h6 : Z.tk V k i
          · rfl
          · exfalso
            obtain ⟨g1, g2, g3, g4, g5, g6⟩ := hmore i hi h6 h5
            have hin : i < Z.n := by
              by_cases hh : i < Z.n
              · exact hh
              · rw [tk_none (hVo i (by omega))] at h6
                cases h6
            have g7 := g6 hrv
            rw [e2] at g7
            have g8 : Z.pr i (hd U i) y q = true := by
              rcases F.tot i (hd U i) y q hi with t | t
              · exact t
              · rw [g7] at t; cases t
            have g9 : Z.ah V k i + 1 ≤ Z.ah V k y := by
              unfold Sys.ah
              refine cnt_less (j := i) ?_ hin ?_ ?_
              · intro j hj hh
                rw [Bool.and_eq_true] at hh ⊢
                rw [hhs i hi] at hh
                rw [e2]
                exact ⟨hh.1, F.tr _ _ _ _ _ _ hh.2 g8⟩
              · rw [F.irr]; simp
              · rw [hrs i hi, g1, hhs i hi, e2, g8]; rfl
            have := (tk_iff.1 htv).2
            omega
        · exact hkeep i hi h5
      refine ⟨⟨fun i hi => ?_, ?_, ?_⟩, ⟨l', by rw [hUy, e1]⟩, e6, e4, by first | exact hty, hyn, .inl rfl⟩
      · unfold Sys.stp
        rw [hother i hi, h.same i hi]
      · rw [hUy, e1]; simp
      · have hVy : Z.stp V k y = l' := by
          unfold Sys.stp
          rw [htv, hv, e1]
          rfl
        rw [hUy, hVy, e1]; simp

end Go.Proofs.YtjhenfdmbagaiaaGreat.Top

namespace Go.Proofs.YtjhenfdmbagaiaaGreat.Top

def Less (S : Left) (y p : Nat) : Left := fun i => if i = y then (S y).erase p else S i

theorem less_dif {S : Left} {y p : Nat} (h : p ∈ S y) : Dif S (Less S y p) y p := ⟨fun i hi => by simp [Less, hi], h, by simp [Less]⟩

theorem mem_stp {Z : Sys} {U : Left} {k i p : Nat} (h : p ∈ Z.stp U k i) : p ∈ U i := by
  unfold Sys.stp at h
  split at h
  · exact List.mem_of_mem_tail h
  · exact h

theorem run_out {Z : Sys} {S : Left} (ho : ∀ i, Z.n ≤ i → S i = []) (k : Nat) : ∀ i, Z.n ≤ i → Z.run S k i = [] := by
  induction k with
  | zero => exact ho
  | succ k ih =>
    intro i hi
    show Z.stp (Z.run S k) k i = []
    unfold Sys.stp
    rw [ih i hi]
    split <;> rfl

theorem run_mem {Z : Sys} {S : Left} {k i p : Nat} (h : p ∈ Z.run S k i) : p ∈ S i := by
  induction k with
  | zero => exact h
  | succ k ih => exact ih (mem_stp h)

theorem run_same {Z : Sys} {S T : Left} {k : Nat} (h : Z.run T k = Z.run S k) {l : Nat} (hl : k ≤ l) : Z.run T l = Z.run S l := by
  induction l with
  | zero =>
    have : k = 0 := by omega
    subst this
    exact h
  | succ l ih =>
    by_cases e : k = l + 1
    · rw [← e]; exact h
    · show Z.stp (Z.run T l) l = Z.stp (Z.run S l) l
      rw [ih (by omega)]

/-- What the two runs differ by. -/
def AtK (Z : Sys) (U V : Left) (k z0 p0 : Nat) : Prop :=
  V = U ∨ ∃ y p, Dif U V y p ∧ ((y = z0 ∧ p = p0) ∨ (Z.pr z0 p0 y p = true ∧ p0 ∉ U z0 ∧ (∃ l, U y = p :: l) ∧ p * Z.D < Z.e y * k))

theorem lt_next {Z : Sys} {p i k : Nat} (h : p * Z.D < Z.e i * k) : p * Z.D < Z.e i * (k + 1) := Nat.lt_of_lt_of_le h (Nat.mul_le_mul_left _ (by omega))

theorem at_all {Z : Sys} (F : Z.Fine) {S : Left} (hS : ∀ i, Asc (S i)) (ho : ∀ i, Z.n ≤ i → S i = []) {z0 p0 : Nat} (h0 : p0 ∈ S z0) (k : Nat) : AtK Z (Z.run S k) (Z.run (Less S z0 p0) k) k z0 p0 := by
  induction k with
  | zero => exact .inr ⟨z0, p0, less_dif h0, .inl ⟨rfl, rfl⟩⟩
  | succ k ih =>
    have hA := run_asc (Z := Z) hS k
    have hO := run_out (Z := Z) ho k
    show AtK Z (Z.stp (Z.run S k) k) (Z.stp (Z.run (Less S z0 p0) k) k) (k + 1) z0 p0
    generalize Z.run S k = U at *
    generalize Z.run (Less S z0 p0) k = V at *
    rcases ih with rfl | ⟨y, p, hd, hc⟩
    · exact .inl rfl
    · rcases step_dif F hA hO hd (k := k) with e | ⟨hd', hk⟩ | ⟨⟨l, hl⟩, y', p', M⟩
      · exact .inl e
      · right
        refine ⟨y, p, hd', ?_⟩
        rcases hc with c | ⟨c1, c2, c3, c4⟩
        · exact .inl c
        · right
          refine ⟨c1, fun h => c2 (mem_stp h), ?_, lt_next c4⟩
          have := hk c3
          obtain ⟨l, hl⟩ := c3
          exact ⟨l, by unfold Sys.stp; rw [this]; exact hl⟩
      · right
        refine ⟨y', p', M.dif, .inr ⟨?_, ?_, M.first, M.ready⟩⟩
        · rcases hc with ⟨rfl, rfl⟩ | ⟨c1, _⟩
          · exact M.ahead
          · exact F.tr _ _ _ _ _ _ c1 M.ahead
        · rcases hc with ⟨rfl, rfl⟩ | ⟨_, c2, _⟩
          · have ha := hA y
            unfold Sys.stp
            rw [M.took, hl]
            rw [hl] at ha
            intro hm
            exact Nat.lt_irrefl _ ((List.pairwise_cons.1 ha).1 p hm)
          · exact fun h => c2 (mem_stp h)

/-- A slot in which all that are ready are taken. -/
def Sys.hole (Z : Sys) (U : Left) (k : Nat) : Prop := ∀ i, Z.rdy U k i = true → Z.tk U k i = true

theorem le_of_mul {a b D : Nat} (h : a * D < (b + 1) * D) : a ≤ b := by
  have := Nat.lt_of_mul_lt_mul_right h
  omega

theorem hole_chain {Z : Sys} (F : Z.Fine) {S : Left} (hS : ∀ i, Asc (S i)) (ho : ∀ i, Z.n ≤ i → S i = []) {z0 p0 N k v : Nat} (h0 : p0 ∈ S z0) (hlast : Z.run (Less S z0 p0) N ≠ Z.run S N)
    (hkv : k < v) (hvN : v ≤ N) (hh : ∀ s, k ≤ s → s < v → Z.hole (Z.run S s) s) (hm : ∀ s, s < N → ∀ i p, p ∈ Z.run S s i → Z.e i * s < (p + 1) * Z.D) (hd : p0 ∉ Z.run S k z0) (hl : Z.e z0 * k < (p0 + 1) * Z.D) :
    (p0 + 1) * Z.D ≤ Z.e z0 * (k + 1) ∧ ∀ s, k ≤ s → s < v → Z.WN z0 s := by
  have hz : z0 < Z.n := by
    by_cases h : z0 < Z.n
    · exact h
    · rw [ho z0 (by omega)] at h0; cases h0
  have hne : ∀ s, s ≤ N → Z.run (Less S z0 p0) s ≠ Z.run S s := fun s hs e => hlast (run_same e hs)
  have hk := at_all F hS ho h0 k
  rcases hk with e | ⟨y, p, hdf, ⟨rfl, rfl⟩ | ⟨c1, c2, c3, c4⟩⟩
  · exact absurd e (hne k (by omega))
  · exact absurd hdf.has hd
  have hyn : y < Z.n := by
    by_cases h : y < Z.n
    · exact h
    · obtain ⟨l, hl⟩ := c3
      rw [run_out ho k y (by omega)] at hl
      cases hl
  have key : ∀ s, k ≤ s → s ≤ v → ∃ q, Dif (Z.run S s) (Z.run (Less S z0 p0) s) y q ∧ (∃ l, Z.run S s y = q :: l) ∧ q * Z.D < Z.e y * s ∧ (∀ s', k ≤ s' → s' < s → Z.WN y s') := by
    intro s
    induction s with
    | zero =>
      intro h1 _
      have : k = 0 := by omega
      subst this
      exact ⟨p, hdf, c3, c4, fun s' _ h => by omega⟩
    | succ s ih =>
      intro h1 h2
      by_cases e : k = s + 1
      · subst e
        exact ⟨p, hdf, c3, c4, fun s' h h' => by omega⟩
      · obtain ⟨q, d1, ⟨l, d2⟩, d3, d4⟩ := ih (by omega) (by omega)
        have hr : Z.rdy (Z.run S s) s y = true := by
          rw [rdy_cons d2, decide_eq_true_eq]
          exact lt_next d3
        have ht := hh s (by omega) (by omega) y hr
        rcases step_dif F (run_asc hS s) (run_out ho s) d1 (k := s) with e | ⟨_, hk⟩ | ⟨_, y', p', M⟩
        · exact absurd (show Z.run (Less S z0 p0) (s + 1) = Z.run S (s + 1) from e) (hne (s + 1) (by omega))
        · rw [hk ⟨l, d2⟩] at ht; cases ht
        · have hy : y' = y := by
            rcases M.same with e | ⟨e1, e2⟩
            · exact e
            · rw [hh s (by omega) (by omega) y' e2] at e1; cases e1
          subst hy
          obtain ⟨l', f1⟩ := M.first
          have f2 : Z.stp (Z.run S s) s y' = l := by
            unfold Sys.stp
            rw [ht, d2]
            rfl
          rw [f2] at f1
          have ha := run_asc (Z := Z) hS s y'
          rw [d2, f1] at ha
          have hq : q < p' := (List.pairwise_cons.1 ha).1 p' (by simp)
          refine ⟨p', M.dif, M.first, M.ready, fun s' g1 g2 => ?_⟩
          by_cases e : s' = s
          · subst e
            refine ⟨q, by omega, hm s' (by omega) y' q (by rw [d2]; simp), ?_⟩
            exact Nat.lt_of_le_of_lt (Nat.mul_le_mul_right _ (by omega)) M.ready
          · exact d4 s' g1 (by omega)
  obtain ⟨_, _, _, _, hW⟩ := key v (by omega) (Nat.le_refl _)
  have hdue : (p0 + 1) * Z.D ≤ Z.e z0 * (k + 1) := by
    refine F.due z0 p0 y p hz hyn c1 (k + 1) ?_
    obtain ⟨p1, g1, g2, g3⟩ := hW k (Nat.le_refl _) hkv
    have e1 : p ≤ p1 := le_of_mul (Nat.lt_trans c4 g2)
    have : (p + 1) * Z.D ≤ (p1 + 1) * Z.D := Nat.mul_le_mul_right _ (by omega)
    omega
  have hdy : Z.e y * k < (p + 1) * Z.D := by
    obtain ⟨l, e⟩ := c3
    exact hm k (by omega) y p (by rw [e]; simp)
  have hdy2 : (p + 1) * Z.D ≤ Z.e y * (k + 1) := by
    obtain ⟨p1, g1, g2, g3⟩ := hW k (Nat.le_refl _) hkv
    have e1 : p ≤ p1 := le_of_mul (Nat.lt_trans c4 g2)
    have : (p + 1) * Z.D ≤ (p1 + 1) * Z.D := Nat.mul_le_mul_right _ (by omega)
    omega
  exact ⟨hdue, F.chain z0 p0 y p hz hyn c1 k v hkv hl hdue hdy hdy2 hW⟩

theorem two_ah {Z : Sys} (F : Z.Fine) {U : Left} {k c d : Nat} (hc : c < Z.n) (hr : Z.rdy U k c = true) (hp : Z.pr c (hd U c) d (hd U d) = true) : Z.ah U k c + 1 ≤ Z.ah U k d := by
  unfold Sys.ah
  refine cnt_less (j := c) ?_ hc ?_ ?_
  · intro j hj hh
    rw [Bool.and_eq_true] at hh ⊢
    exact ⟨hh.1, F.tr _ _ _ _ _ _ hh.2 hp⟩
  · rw [F.irr]; simp
  · rw [hr, hp]; rfl

/-- Either all that are ready are taken, or all processors are busy. -/
theorem hole_or_full {Z : Sys} (F : Z.Fine) (U : Left) (k : Nat) : Z.hole U k ∨ Z.m ≤ cntB (fun i => Z.tk U k i) Z.n := by
  have key : ∀ a i, Z.ah U k i = a → Z.rdy U k i = true → Z.tk U k i = false → Z.m ≤ cntB (fun i => Z.tk U k i) Z.n := by
    intro a
    induction a using Nat.strongRecOn with
    | _ a ih =>
      intro i hi hr ht
      have h4 : ¬ Z.ah U k i < Z.m := by
        intro h5
        have := tk_iff.2 ⟨hr, h5⟩
        rw [ht] at this
        cases this
      by_cases hx : ∃ j, j < Z.n ∧ Z.rdy U k j = true ∧ Z.pr j (hd U j) i (hd U i) = true ∧ Z.tk U k j = false
      · obtain ⟨j, j1, j2, j3, j4⟩ := hx
        have := two_ah F j1 j2 j3
        exact ih (Z.ah U k j) (by omega) j rfl j2 j4
      · have : Z.ah U k i ≤ cntB (fun i => Z.tk U k i) Z.n := by
          apply ah_le
          intro j hj e1 e2
          cases e3 : Z.tk U k j
          · exact absurd ⟨j, hj, e1, e2, e3⟩ hx
          · rfl
        omega
  by_cases hx : ∃ i, Z.rdy U k i = true ∧ Z.tk U k i = false
  · obtain ⟨i, h1, h2⟩ := hx
    exact .inr (key _ i rfl h1 h2)
  · left
    intro i hi
    cases e : Z.tk U k i
    · exact absurd ⟨i, hi, e⟩ hx
    · rfl

/-- Those that are due by N. -/
def Sys.by_ (Z : Sys) (N : Nat) (S : Left) : Left := fun i => (S i).filter fun p => decide ((p + 1) * Z.D ≤ Z.e i * N)

theorem by_none {Z : Sys} {N : Nat} {U : Left} {i p : Nat} {l : List Nat} (ha : Asc (U i)) (h : U i = p :: l) (hp : ¬ (p + 1) * Z.D ≤ Z.e i * N) : ∀ V : Left, (∀ q, q ∈ V i → q ∈ U i) → Z.by_ N V i = [] := by
  intro V hV
  unfold Sys.by_
  rw [List.filter_eq_nil_iff]
  intro q hq
  have hq := hV q hq
  rw [h] at hq ha
  rw [decide_eq_true_eq]
  rcases List.mem_cons.1 hq with rfl | hq
  · exact hp
  · have := (List.pairwise_cons.1 ha).1 q hq
    intro hh
    apply hp
    exact Nat.le_trans (Nat.mul_le_mul_right _ (by omega)) hh

theorem stp_by {Z : Sys} (F : Z.Fine) {U : Left} (hU : ∀ i, Asc (U i)) (ho : ∀ i, Z.n ≤ i → U i = []) (N k : Nat) : Z.stp (Z.by_ N U) k = Z.by_ N (Z.stp U k) := by
  have hA : ∀ i p l, U i = p :: l → (p + 1) * Z.D ≤ Z.e i * N → ∃ l', Z.by_ N U i = p :: l' ∧ l' = l.filter fun p => decide ((p + 1) * Z.D ≤ Z.e i * N) := by
    intro i p l h hp
    refine ⟨_, ?_, rfl⟩
    unfold Sys.by_
    rw [h, List.filter_cons_of_pos (by simpa using hp)]
  -- whoever has a turn left that is due has the same first one
  have hB : ∀ j, Z.rdy (Z.by_ N U) k j = true → Z.rdy U k j = true ∧ hd (Z.by_ N U) j = hd U j := by
    intro j hj
    cases h : U j with
    | nil =>
      have : Z.by_ N U j = [] := by unfold Sys.by_; rw [h]; rfl
      unfold Sys.rdy at hj
      rw [this] at hj
      cases hj
    | cons p l =>
      by_cases hp : (p + 1) * Z.D ≤ Z.e j * N
      · obtain ⟨l', e, _⟩ := hA j p l h hp
        rw [rdy_cons h, ← rdy_cons e, hd_cons h, hd_cons e]
        exact ⟨hj, rfl⟩
      · have := by_none (hU j) h hp U (fun q hq => hq)
        unfold Sys.rdy at hj
        rw [this] at hj
        cases hj
  funext i
  cases h : U i with
  | nil =>
    have h1 : Z.by_ N U i = [] := by unfold Sys.by_; rw [h]; rfl
    have h2 : Z.stp U k i = [] := by unfold Sys.stp; rw [h]; split <;> rfl
    have h3 : Z.by_ N (Z.stp U k) i = [] := by unfold Sys.by_; rw [h2]; rfl
    rw [h3]
    unfold Sys.stp
    rw [h1]
    split <;> rfl
  | cons p l =>
    by_cases hp : (p + 1) * Z.D ≤ Z.e i * N
    · obtain ⟨l', e, e'⟩ := hA i p l h hp
      have hin : i < Z.n := by
        by_cases hh : i < Z.n
        · exact hh
        · rw [ho i (by omega)] at h; cases h
      have hr : Z.rdy (Z.by_ N U) k i = Z.rdy U k i := by rw [rdy_cons h, rdy_cons e]
      have hah : Z.ah (Z.by_ N U) k i = Z.ah U k i := by
        apply Nat.le_antisymm
        · apply ah_le
          intro j hj e1 e2
          obtain ⟨g1, g2⟩ := hB j e1
          rw [g2, hd_cons e] at e2
          rw [Bool.and_eq_true, hd_cons h]
          exact ⟨g1, e2⟩
        · apply ah_le
          intro j hj e1 e2
          rw [hd_cons h] at e2
          obtain ⟨pj, lj, f1, f2, f3⟩ := rdy_some e1
          rw [f2] at e2
          obtain ⟨l2, f4, _⟩ := hA j pj lj f1 (F.due j pj i p hj hin e2 N hp)
          rw [Bool.and_eq_true, hd_cons e, hd_cons f4]
          exact ⟨by rw [rdy_cons f4, ← rdy_cons f1]; exact e1, e2⟩
      have ht : Z.tk (Z.by_ N U) k i = Z.tk U k i := by
        cases h1 : Z.tk U k i
        · cases h2 : Z.tk (Z.by_ N U) k i
          · rfl
          · rw [tk_iff, hr, hah] at h2
            rw [tk_iff.2 h2] at h1
            cases h1
        · rw [tk_iff] at h1
          rw [tk_iff, hr, hah]
          exact h1
      have h5 : Z.stp (Z.by_ N U) k i = if Z.tk U k i = true then l' else p :: l' := by
        unfold Sys.stp
        rw [ht, e]
        rfl
      have h6 : Z.by_ N (Z.stp U k) i = (if Z.tk U k i = true then l else p :: l).filter fun p => decide ((p + 1) * Z.D ≤ Z.e i * N) := by
        unfold Sys.by_ Sys.stp
        rw [h]
        rfl
      rw [h5, h6, e']
      cases Z.tk U k i
      · simp [hp]
      · rfl
    · have h1 := by_none (hU i) h hp U (fun q hq => hq)
      have h2 := by_none (hU i) h hp (Z.stp U k) (fun q hq => mem_stp hq)
      rw [h2]
      unfold Sys.stp
      rw [h1]
      split <;> rfl

theorem run_by {Z : Sys} (F : Z.Fine) {S : Left} (hS : ∀ i, Asc (S i)) (ho : ∀ i, Z.n ≤ i → S i = []) (N k : Nat) : Z.run (Z.by_ N S) k = Z.by_ N (Z.run S k) := by
  induction k with
  | zero => rfl
  | succ k ih =>
    show Z.stp (Z.run (Z.by_ N S) k) k = Z.by_ N (Z.stp (Z.run S k) k)
    rw [ih]
    exact stp_by F (run_asc hS k) (run_out ho k) N k

theorem by_asc {Z : Sys} {S : Left} (hS : ∀ i, Asc (S i)) (N : Nat) : ∀ i, Asc (Z.by_ N S i) := fun i => List.Pairwise.filter _ (hS i)

theorem by_out {Z : Sys} {S : Left} (ho : ∀ i, Z.n ≤ i → S i = []) (N : Nat) : ∀ i, Z.n ≤ i → Z.by_ N S i = [] := fun i hi => by unfold Sys.by_; rw [ho i hi]; rfl

end Go.Proofs.YtjhenfdmbagaiaaGreat.Top

namespace Go.Proofs.YtjhenfdmbagaiaaGreat.Top

/-- What an even flow would have given task i by time t, D a turn. -/
def Sys.flow (Z : Sys) (S : Left) (i t : Nat) : Nat :=
  Z.D * cntB (fun p => decide (p ∈ S i)) (Z.e i * t / Z.D) + (if Z.e i * t / Z.D ∈ S i then Z.e i * t % Z.D else 0)

theorem flow_at {Z : Sys} {S : Left} {i t q : Nat} (h1 : q * Z.D ≤ Z.e i * t) (h2 : Z.e i * t < (q + 1) * Z.D) :
    Z.flow S i t = Z.D * cntB (fun p => decide (p ∈ S i)) q + (if q ∈ S i then Z.e i * t - q * Z.D else 0) := by
  have hq : Z.e i * t / Z.D = q := by
    apply Nat.div_eq_of_lt_le
    · exact h1
    · exact h2
  have hr : Z.e i * t % Z.D = Z.e i * t - q * Z.D := by
    have := Nat.div_add_mod (Z.e i * t) Z.D
    rw [hq, Nat.mul_comm Z.D q] at this
    omega
  unfold Sys.flow
  rw [hq, hr]

theorem cnt_succ (f : Nat → Bool) (q : Nat) : cntB f (q + 1) = cntB f q + (if f q then 1 else 0) := rfl

theorem quo_at (x D : Nat) (hD : 0 < D) : (x / D) * D ≤ x ∧ x < (x / D + 1) * D := by
  refine ⟨Nat.div_mul_le_self x D, ?_⟩
  rw [Nat.mul_comm]
  exact Nat.lt_mul_div_succ x hD

/-- From one slot to the next. -/
theorem flow_next {Z : Sys} (F : Z.Fine) (S : Left) {i t q : Nat} (hi : i < Z.n) (h1 : q * Z.D ≤ Z.e i * t) (h2 : Z.e i * t < (q + 1) * Z.D) :
    (Z.e i * (t + 1) < (q + 1) * Z.D ∧ Z.flow S i (t + 1) = Z.flow S i t + (if q ∈ S i then Z.e i else 0)) ∨
    ((q + 1) * Z.D ≤ Z.e i * (t + 1) ∧ Z.e i * (t + 1) < (q + 1 + 1) * Z.D ∧ Z.flow S i (t + 1) + (if q ∈ S i then Z.e i * t - q * Z.D else 0) = Z.flow S i t + (if q ∈ S i then Z.D else 0) + (if q + 1 ∈ S i then Z.e i * (t + 1) - (q + 1) * Z.D else 0)) := by
  have hw := F.wt i hi
  have hx : Z.e i * (t + 1) = Z.e i * t + Z.e i := by rw [Nat.mul_add, Nat.mul_one]
  have hb1 : (q + 1) * Z.D = q * Z.D + Z.D := by rw [Nat.add_mul, Nat.one_mul]
  have hb2 : (q + 1 + 1) * Z.D = q * Z.D + Z.D + Z.D := by rw [Nat.add_mul, hb1, Nat.one_mul]
  have f0 := flow_at (S := S) h1 h2
  by_cases h : Z.e i * (t + 1) < (q + 1) * Z.D
  · left
    have f1 := flow_at (Z := Z) (S := S) (i := i) (t := t + 1) (q := q) (by omega) h
    refine ⟨h, ?_⟩
    rw [f1, f0]
    split
    · omega
    · omega
  · right
    have f1 := flow_at (Z := Z) (S := S) (i := i) (t := t + 1) (q := q + 1) (by omega) (by omega)
    refine ⟨by omega, by omega, ?_⟩
    rw [f1, f0, cnt_succ, Nat.mul_add]
    by_cases hs : q ∈ S i
    · simp only [hs, if_true, decide_true, Nat.mul_one]
      omega
    · simp only [hs, if_false, decide_false, Nat.add_zero, Bool.false_eq_true, Nat.mul_zero]

theorem flow_le {Z : Sys} (F : Z.Fine) (S : Left) {i t : Nat} (hi : i < Z.n) : Z.flow S i (t + 1) ≤ Z.flow S i t + Z.e i := by
  obtain ⟨h1, h2⟩ := quo_at (Z.e i * t) Z.D F.pos
  have hx : Z.e i * (t + 1) = Z.e i * t + Z.e i := by rw [Nat.mul_add, Nat.mul_one]
  have hb1 : (Z.e i * t / Z.D + 1) * Z.D = Z.e i * t / Z.D * Z.D + Z.D := by rw [Nat.add_mul, Nat.one_mul]
  rcases flow_next F S hi h1 h2 with ⟨_, h⟩ | ⟨_, _, h⟩
  · rw [h]; split <;> omega
  · revert h
    split <;> split <;> intro h <;> omega

/-- How long what is left is. -/
abbrev len (Z : Sys) (S : Left) (i t : Nat) : Nat := (Z.run S t i).length

theorem len_take {Z : Sys} {S : Left} {i t : Nat} (h : Z.tk (Z.run S t) t i = true) : len Z S i (t + 1) + 1 = len Z S i t := by
  obtain ⟨p, l, e, _⟩ := rdy_some (tk_rdy h)
  show (Z.stp (Z.run S t) t i).length + 1 = (Z.run S t i).length
  unfold Sys.stp
  rw [h, e]
  rfl

theorem len_stay {Z : Sys} {S : Left} {i t : Nat} (h : Z.tk (Z.run S t) t i = false) : len Z S i (t + 1) = len Z S i t := by
  show (Z.stp (Z.run S t) t i).length = (Z.run S t i).length
  unfold Sys.stp
  rw [h]
  rfl

/-- What is known of one task over a stretch of slots in which nobody who is ready waits. -/
structure Stretch (Z : Sys) (S : Left) (i t0 v : Nat) : Prop where
  one : i < Z.n
  asc : ∀ i, Asc (S i)
  hole : ∀ s, t0 ≤ s → s < v → Z.hole (Z.run S s) s
  early : ∀ k p, t0 ≤ k → k < v → p ∈ S i → p ∉ Z.run S k i → Z.e i * k < (p + 1) * Z.D → (p + 1) * Z.D ≤ Z.e i * (k + 1) ∧ ∀ s, k ≤ s → s < v → Z.WN i s

/-- What a task may have done ahead of its time. -/
def Ahead (Z : Sys) (S : Left) (i v s base : Nat) : Prop :=
  ∃ q, q * Z.D ≤ Z.e i * s ∧ Z.e i * s < (q + 1) * Z.D ∧ q ∉ S i ∧ (∀ p, p ∈ Z.run S s i → q < p) ∧ (∀ s', s ≤ s' → s' < v → Z.WN i s') ∧
    Z.flow S i s + Z.D * len Z S i s + (Z.e i * s - q * Z.D) ≤ base + Z.e i

theorem stretch_step {Z : Sys} (F : Z.Fine) {S : Left} {i t0 v : Nat} (H : Stretch Z S i t0 v) {s base : Nat} (h1 : t0 ≤ s) (h2 : s < v)
    (h : Z.flow S i s + Z.D * len Z S i s ≤ base ∨ Ahead Z S i v s base) :
    Z.flow S i (s + 1) + Z.D * len Z S i (s + 1) ≤ base ∨ Ahead Z S i v (s + 1) base := by
  have hw := F.wt i H.one
  have hx : Z.e i * (s + 1) = Z.e i * s + Z.e i := by rw [Nat.mul_add, Nat.mul_one]
  have hbb : ∀ q, (q + 1) * Z.D = q * Z.D + Z.D := fun q => by rw [Nat.add_mul, Nat.one_mul]
  have hasc := run_asc (Z := Z) H.asc s i
  rcases h with h | ⟨q, q1, q2, q3, q4, q5, q6⟩
  · -- nothing ahead of its time
    cases ht : Z.tk (Z.run S s) s i
    · have hl := len_stay ht
      have hr : Z.rdy (Z.run S s) s i = false := by
        cases e : Z.rdy (Z.run S s) s i
        · rfl
        · rw [H.hole s h1 h2 i e] at ht; cases ht
      -- whatever is left is not ready
      have hn : ∀ p, p ∈ Z.run S s i → Z.e i * (s + 1) ≤ p * Z.D := by
        intro p hp
        cases e : Z.run S s i with
        | nil => rw [e] at hp; cases hp
        | cons a l =>
          rw [rdy_cons e, decide_eq_false_iff_not] at hr
          rw [e] at hp hasc
          have : a ≤ p := by
            rcases List.mem_cons.1 hp with rfl | hp
            · exact Nat.le_refl _
            · have := (List.pairwise_cons.1 hasc).1 p hp; omega
          have := Nat.mul_le_mul_right Z.D this
          omega
      obtain ⟨q1, q2⟩ := quo_at (Z.e i * s) Z.D F.pos
      generalize Z.e i * s / Z.D = q at q1 q2
      have b1 := hbb q
      have b2 := hbb (q + 1)
      -- the turn behind has not begun, or it is none of his
      have hq1 : q + 1 ∈ S i → Z.e i * (s + 1) ≤ (q + 1) * Z.D := by
        intro hm
        by_cases hc : Z.e i * (s + 1) ≤ (q + 1) * Z.D
        · exact hc
        · exfalso
          have hnot : q + 1 ∉ Z.run S s i := fun hh => hc (hn _ hh)
          have := (H.early s (q + 1) h1 h2 hm hnot (by omega)).1
          omega
      by_cases hs : q ∈ S i
      · -- it was done ahead of its time
        have hnot : q ∉ Z.run S s i := fun hh => by have := hn _ hh; omega
        obtain ⟨e1, e2⟩ := H.early s q h1 h2 hs hnot q2
        obtain ⟨p1, g1, g2, g3⟩ := e2 s (Nat.le_refl _) h2
        have hp1 : p1 = q := by
          have := le_of_mul (Nat.lt_of_le_of_lt g1 q2)
          have := le_of_mul (Nat.lt_of_le_of_lt q1 g2)
          omega
        subst hp1
        have hno : p1 + 1 ∉ S i := fun hm => by have := hq1 hm; omega
        right
        refine ⟨p1 + 1, by omega, by omega, hno, ?_, fun s' k1 k2 => e2 s' (by omega) k2, ?_⟩
        · intro p hp
          have hp' := mem_stp (Z := Z) (U := Z.run S s) (k := s) hp
          have hx1 := hn p hp'
          by_cases hc : p1 + 1 < p
          · exact hc
          · exfalso
            have : p ≤ p1 + 1 := by omega
            rcases Nat.lt_or_ge p (p1 + 1) with hlt | hge
            · have := Nat.mul_le_mul_right Z.D (show p ≤ p1 by omega)
              omega
            · have : p = p1 + 1 := by omega
              subst this
              exact hno (run_mem hp')
        · rcases flow_next F S H.one q1 q2 with ⟨k1, _⟩ | ⟨k1, k2, k3⟩
          · omega
          · simp only [hs, hno, if_true, if_false] at k3
            rw [hl]
            omega
      · left
        rw [hl]
        rcases flow_next F S H.one q1 q2 with ⟨k1, k2⟩ | ⟨k1, k2, k3⟩
        · simp only [hs, if_false] at k2
          omega
        · simp only [hs, if_false] at k3
          by_cases hm : q + 1 ∈ S i
          · have := hq1 hm
            simp only [hm, if_true] at k3
            omega
          · simp only [hm, if_false] at k3
            omega
    · left
      have hl := len_take ht
      have := flow_le F S (t := s) H.one
      have h3 : Z.D * len Z S i s = Z.D * len Z S i (s + 1) + Z.D := by rw [← hl, Nat.mul_add, Nat.mul_one]
      omega
  · -- something was done ahead of its time
    have b1 := hbb q
    have b2 := hbb (q + 1)
    obtain ⟨p1, g1, g2, g3⟩ := q5 s (Nat.le_refl _) h2
    have hp1 : p1 = q := by
      have := le_of_mul (Nat.lt_of_le_of_lt g1 q2)
      have := le_of_mul (Nat.lt_of_le_of_lt q1 g2)
      omega
    subst hp1
    rcases flow_next F S H.one q1 q2 with ⟨k1, _⟩ | ⟨k1, k2, k3⟩
    · omega
    · simp only [q3, if_false] at k3
      by_cases hm : p1 + 1 ∈ S i
      · -- the next one is taken
        left
        have hin : p1 + 1 ∈ Z.run S s i := by
          by_cases hc : p1 + 1 ∈ Z.run S s i
          · exact hc
          · exfalso
            have := (H.early s (p1 + 1) h1 h2 hm hc (by omega)).1
            omega
        have hr : Z.rdy (Z.run S s) s i = true := by
          cases e : Z.run S s i with
          | nil => rw [e] at hin; cases hin
          | cons a l =>
            rw [rdy_cons e, decide_eq_true_eq]
            rw [e] at hin hasc
            have : a ≤ p1 + 1 := by
              rcases List.mem_cons.1 hin with e' | hp
              · omega
              · have := (List.pairwise_cons.1 hasc).1 _ hp; omega
            have := Nat.mul_le_mul_right Z.D this
            omega
        have ht := H.hole s h1 h2 i hr
        have hl := len_take ht
        have h3 : Z.D * len Z S i s = Z.D * len Z S i (s + 1) + Z.D := by rw [← hl, Nat.mul_add, Nat.mul_one]
        simp only [hm, if_true] at k3
        omega
      · right
        simp only [hm, if_false] at k3
        have hl : len Z S i (s + 1) ≤ len Z S i s := by
          cases ht : Z.tk (Z.run S s) s i
          · exact Nat.le_of_eq (len_stay ht)
          · have := len_take ht; omega
        have h3 := Nat.mul_le_mul_left Z.D hl
        refine ⟨p1 + 1, k1, k2, hm, ?_, fun s' j1 j2 => q5 s' (by omega) j2, by omega⟩
        intro p hp
        have hp' := mem_stp (Z := Z) (U := Z.run S s) (k := s) hp
        have h4 := q4 p hp'
        by_cases hc : p = p1 + 1
        · subst hc
          exact absurd (run_mem hp') hm
        · omega

theorem stretch_end {Z : Sys} (F : Z.Fine) {S : Left} {i t0 v : Nat} (H : Stretch Z S i t0 v) (htv : t0 ≤ v) :
    Z.flow S i (v + 1) + Z.D * len Z S i v ≤ Z.flow S i t0 + Z.D * len Z S i t0 + Z.e i := by
  have hw := F.wt i H.one
  have key : ∀ s, t0 ≤ s → s ≤ v → (Z.flow S i s + Z.D * len Z S i s ≤ Z.flow S i t0 + Z.D * len Z S i t0 ∨ Ahead Z S i v s (Z.flow S i t0 + Z.D * len Z S i t0)) := by
    intro s
    induction s with
    | zero =>
      intro h1 _
      have : t0 = 0 := by omega
      subst this
      exact .inl (Nat.le_refl _)
    | succ s ih =>
      intro h1 h2
      by_cases e : t0 = s + 1
      · subst e; exact .inl (Nat.le_refl _)
      · exact stretch_step F H (by omega) (by omega) (ih (by omega) (by omega))
  have hx : Z.e i * (v + 1) = Z.e i * v + Z.e i := by rw [Nat.mul_add, Nat.mul_one]
  rcases key v htv (Nat.le_refl _) with h | ⟨q, q1, q2, q3, q4, q5, q6⟩
  · have := flow_le F S (t := v) H.one
    omega
  · have b1 : (q + 1) * Z.D = q * Z.D + Z.D := by rw [Nat.add_mul, Nat.one_mul]
    rcases flow_next F S H.one q1 q2 with ⟨k1, k2⟩ | ⟨k1, k2, k3⟩
    · simp only [q3, if_false] at k2
      omega
    · simp only [q3, if_false] at k3
      revert k3
      split <;> intro k3 <;> omega

/-- The first n together. -/
def sumN (f : Nat → Nat) : Nat → Nat
  | 0 => 0
  | k + 1 => sumN f k + f k

theorem sumN_le {f g : Nat → Nat} {n : Nat} (h : ∀ i, i < n → f i ≤ g i) : sumN f n ≤ sumN g n := by
  induction n with
  | zero => exact Nat.le_refl _
  | succ n ih =>
    have h1 := ih (fun i hi => h i (by omega))
    have h2 := h n (by omega)
    simp only [sumN]
    omega

theorem sumN_add (f g : Nat → Nat) (n : Nat) : sumN (fun i => f i + g i) n = sumN f n + sumN g n := by
  induction n with
  | zero => rfl
  | succ n ih => simp only [sumN, ih]; omega

theorem sumN_mul (c : Nat) (f : Nat → Nat) (n : Nat) : sumN (fun i => c * f i) n = c * sumN f n := by
  induction n with
  | zero => rfl
  | succ n ih => simp only [sumN, ih, Nat.mul_add]

theorem sumN_one {f : Nat → Nat} {n j : Nat} (h : j < n) : f j ≤ sumN f n := by
  induction n with
  | zero => omega
  | succ n ih =>
    simp only [sumN]
    by_cases e : j = n
    · subst e; omega
    · have := ih (by omega); omega

theorem len_sum (Z : Sys) (S : Left) (t : Nat) : sumN (fun i => len Z S i (t + 1)) Z.n + cntB (fun i => Z.tk (Z.run S t) t i) Z.n = sumN (fun i => len Z S i t) Z.n := by
  have : ∀ n, sumN (fun i => len Z S i (t + 1)) n + cntB (fun i => Z.tk (Z.run S t) t i) n = sumN (fun i => len Z S i t) n := by
    intro n
    induction n with
    | zero => rfl
    | succ n ih =>
      simp only [sumN, cntB]
      by_cases ht : Z.tk (Z.run S t) t n = true
      · have := len_take ht
        simp only [ht, if_true]
        omega
      · have := len_stay (Bool.eq_false_iff.2 ht)
        simp only [ht, Bool.false_eq_true, if_false]
        omega
  exact this Z.n

theorem asc_count {l : List Nat} (h : Asc l) {q : Nat} (hq : ∀ p, p ∈ l → p < q) : l.length ≤ cntB (fun p => decide (p ∈ l)) q := by
  induction l with
  | nil => exact Nat.zero_le _
  | cons a l ih =>
    have h1 := List.pairwise_cons.1 h
    have h2 := ih h1.2 (fun p hp => hq p (List.mem_cons_of_mem _ hp))
    have h3 : cntB (fun p => decide (p ∈ l)) q + 1 ≤ cntB (fun p => decide (p ∈ a :: l)) q := by
      refine cnt_less (j := a) ?_ (hq a (by simp)) ?_ ?_
      · intro p _ hp
        have hp := of_decide_eq_true hp
        exact decide_eq_true (List.mem_cons_of_mem _ hp)
      · apply decide_eq_false
        intro hm
        exact Nat.lt_irrefl _ (h1.1 a hm)
      · exact decide_eq_true (by simp)
    simp only [List.length_cons]
    omega

/-- All of the flow and all that is left. -/
def Sys.pot (Z : Sys) (S : Left) (t : Nat) : Nat := sumN (fun i => Z.flow S i t) Z.n + Z.D * sumN (fun i => len Z S i t) Z.n

theorem pot_stretch {Z : Sys} (F : Z.Fine) (hw : sumN Z.e Z.n ≤ Z.m * Z.D) {S : Left} {t0 v : Nat} (H : ∀ i, i < Z.n → Stretch Z S i t0 v) (htv : t0 ≤ v) (hf : Z.m ≤ cntB (fun i => Z.tk (Z.run S v) v i) Z.n) : Z.pot S (v + 1) ≤ Z.pot S t0 := by
  have h1 : sumN (fun i => Z.flow S i (v + 1) + Z.D * len Z S i v) Z.n ≤ sumN (fun i => Z.flow S i t0 + Z.D * len Z S i t0 + Z.e i) Z.n := sumN_le fun i hi => stretch_end F (H i hi) htv
  rw [sumN_add, sumN_add, sumN_add, sumN_mul, sumN_mul] at h1
  have h2 := len_sum Z S v
  have h3 : Z.m * Z.D ≤ Z.D * cntB (fun i => Z.tk (Z.run S v) v i) Z.n := by rw [Nat.mul_comm]; exact Nat.mul_le_mul_left _ hf
  have h4 : Z.D * sumN (fun i => len Z S i v) Z.n = Z.D * sumN (fun i => len Z S i (v + 1)) Z.n + Z.D * cntB (fun i => Z.tk (Z.run S v) v i) Z.n := by rw [← h2, Nat.mul_add]
  have h5 : sumN (fun i => Z.e i) Z.n = sumN Z.e Z.n := rfl
  unfold Sys.pot
  omega

theorem flow_zero (Z : Sys) (F : Z.Fine) (S : Left) (i : Nat) : Z.flow S i 0 = 0 := by
  have h := flow_at (S := S) (i := i) (t := 0) (q := 0) (by omega) (by have := F.pos; simp; omega)
  rw [h]
  simp [cntB]

theorem flow_end {Z : Sys} (F : Z.Fine) {S : Left} (hS : ∀ i, Asc (S i)) {i N : Nat} (h : ∀ p, p ∈ S i → (p + 1) * Z.D ≤ Z.e i * N) : Z.D * (S i).length ≤ Z.flow S i N := by
  have hq : ∀ p, p ∈ S i → p < Z.e i * N / Z.D := by
    intro p hp
    have h1 := h p hp
    obtain ⟨_, h2⟩ := quo_at (Z.e i * N) Z.D F.pos
    have := le_of_mul (Nat.lt_of_le_of_lt h1 h2)
    omega
  have := Nat.mul_le_mul_left Z.D (asc_count (hS i) hq)
  unfold Sys.flow
  omega

theorem last_true {P : Nat → Prop} {N : Nat} (h0 : P 0) (hN : ¬ P N) : ∃ t, t < N ∧ P t ∧ ∀ s, t < s → s ≤ N → ¬ P s := by
  induction N with
  | zero => exact absurd h0 hN
  | succ N ih =>
    by_cases h : P N
    · exact ⟨N, by omega, h, fun s h1 h2 => (show s = N + 1 by omega) ▸ hN⟩
    · obtain ⟨t, h1, h2, h3⟩ := ih h
      refine ⟨t, by omega, h2, fun s h4 h5 => ?_⟩
      by_cases e : s = N + 1
      · subst e; exact hN
      · exact h3 s h4 (by omega)

theorem first_true {P : Nat → Prop} {t N : Nat} (ht : t ≤ N) (hN : P N) : ∃ v, t ≤ v ∧ v ≤ N ∧ P v ∧ ∀ s, t ≤ s → s < v → ¬ P s := by
  induction N with
  | zero =>
    have : t = 0 := by omega
    subst this
    exact ⟨0, Nat.le_refl _, Nat.le_refl _, hN, fun s _ h => by omega⟩
  | succ N ih =>
    by_cases hx : ∃ s, t ≤ s ∧ s ≤ N ∧ P s
    · obtain ⟨s, h1, h2, h3⟩ := hx
      have : ∀ M, t ≤ M → P M → ∃ v, t ≤ v ∧ v ≤ M ∧ P v ∧ ∀ s, t ≤ s → s < v → ¬ P s := by
        intro M
        induction M using Nat.strongRecOn with
        | _ M ihM =>
          intro a b
          by_cases hy : ∃ s, t ≤ s ∧ s < M ∧ P s
          · obtain ⟨s, c1, c2, c3⟩ := hy
            obtain ⟨v, d1, d2, d3⟩ := ihM s c2 c1 c3
            exact ⟨v, d1, by omega, d3⟩
          · exact ⟨M, a, Nat.le_refl _, b, fun s c1 c2 c3 => hy ⟨s, c1, c2, c3⟩⟩
      obtain ⟨v, d1, d2, d3⟩ := this s h1 h3
      exact ⟨v, d1, by omega, d3⟩
    · exact ⟨N + 1, ht, Nat.le_refl _, hN, fun s a b c => hx ⟨s, a, by omega, c⟩⟩

theorem less_asc {S : Left} (hS : ∀ i, Asc (S i)) (y p : Nat) : ∀ i, Asc (Less S y p i) := by
  intro i
  unfold Less
  split
  · exact List.Pairwise.sublist List.erase_sublist (hS y)
  · exact hS i

/-- Nobody is late, where all that there is is due by N. -/
theorem never_late_by {Z : Sys} (F : Z.Fine) (hw : sumN Z.e Z.n ≤ Z.m * Z.D) (N : Nat) : ∀ (c : Nat) (S : Left), (∀ i, Asc (S i)) → (∀ i, Z.n ≤ i → S i = []) → sumN (fun i => (S i).length) Z.n = c → (∀ i p, p ∈ S i → (p + 1) * Z.D ≤ Z.e i * N) → ∀ i, Z.run S N i = [] := by
  induction N using Nat.strongRecOn with
  | _ N ihN =>
  intro c
  induction c using Nat.strongRecOn with
  | _ c ihc =>
  intro S hS ho hc hdue i
  -- nobody is late ahead of N
  have hm : ∀ s, s < N → ∀ i p, p ∈ Z.run S s i → Z.e i * s < (p + 1) * Z.D := by
    intro s hs i p hp
    by_cases h : Z.e i * s < (p + 1) * Z.D
    · exact h
    · exfalso
      have h1 := ihN s hs _ (Z.by_ s S) (by_asc hS s) (by_out ho s) rfl (fun i p hp => of_decide_eq_true (List.mem_filter.1 hp).2) i
      rw [run_by F hS ho] at h1
      have : p ∈ Z.by_ s (Z.run S s) i := List.mem_filter.2 ⟨hp, decide_eq_true (by omega)⟩
      rw [h1] at this
      cases this
  cases hlast : Z.run S N i with
  | nil => rfl
  | cons p l =>
  exfalso
  have hp : p ∈ Z.run S N i := by rw [hlast]; simp
  have hin : i < Z.n := by
    by_cases h : i < Z.n
    · exact h
    · rw [run_out ho N i (by omega)] at hp; cases hp
  -- with one less nobody is
  have hless : ∀ z p0, p0 ∈ S z → Z.run (Less S z p0) N ≠ Z.run S N := by
    intro z p0 h0 e
    have hz : z < Z.n := by
      by_cases h : z < Z.n
      · exact h
      · rw [ho z (by omega)] at h0; cases h0
    have hlen : sumN (fun i => (Less S z p0 i).length) Z.n < c := by
      have h1 : ∀ n, sumN (fun i => (Less S z p0 i).length) n + (if z < n then 1 else 0) = sumN (fun i => (S i).length) n := by
        intro n
        induction n with
        | zero => simp [sumN]
        | succ n ih =>
          simp only [sumN]
          by_cases e : n = z
          · subst e
            have : (Less S n p0 n).length + 1 = (S n).length := by
              simp only [Less, if_true]
              rw [List.length_erase_of_mem h0]
              have := List.length_pos_of_mem h0
              omega
            simp only [Nat.lt_irrefl, if_false, Nat.lt_succ_self, if_true] at ih ⊢
            omega
          · have : (Less S z p0 n).length = (S n).length := by simp [Less, e]
            by_cases h : z < n
            · have : z < n + 1 := by omega
              simp only [h, this, if_true] at ih ⊢
              omega
            · have : ¬ z < n + 1 := by omega
              simp only [h, this, if_false] at ih ⊢
              omega
      have := h1 Z.n
      simp only [hz, if_true] at this
      omega
    have h2 := ihc _ hlen (Less S z p0) (less_asc hS z p0) (fun i hi => by
      unfold Less
      split
      · subst_vars; rw [ho _ hi] at h0; cases h0
      · exact ho i hi) rfl (fun i q hq => hdue i q (by
      unfold Less at hq
      split at hq
      · subst_vars; exact List.mem_of_mem_erase hq
      · exact hq)) i
    rw [e] at h2
    rw [h2] at hp
    cases hp
  have hN : N ≠ 0 := by
    intro e
    subst e
    have := hdue i p (run_mem hp)
    have h2 := F.pos
    rw [Nat.mul_zero, Nat.add_mul] at this
    omega
  obtain ⟨M, rfl⟩ : ∃ M, N = M + 1 := ⟨N - 1, by omega⟩
  have hxx : ∀ i t, Z.e i * (t + 1) = Z.e i * t + Z.e i := fun i t => by rw [Nat.mul_add, Nat.mul_one]
  have hbb : ∀ q, (q + 1) * Z.D = q * Z.D + Z.D := fun q => by rw [Nat.add_mul, Nat.one_mul]
  -- the last slot is busy
  have hfull : Z.m ≤ cntB (fun i => Z.tk (Z.run S M) M i) Z.n := by
    rcases hole_or_full F (Z.run S M) M with h | h
    · exfalso
      have hpM : p ∈ Z.run S M i := mem_stp (Z := Z) (U := Z.run S M) (k := M) hp
      have hd := hdue i p (run_mem hp)
      have hwi := F.wt i hin
      have b1 := hbb p
      have x1 := hxx i M
      cases e : Z.run S M i with
      | nil => rw [e] at hpM; cases hpM
      | cons a l' =>
        have ha := run_asc (Z := Z) hS M i
        have h1 := hm M (by omega) i a (by rw [e]; simp)
        rw [e] at hpM ha
        have b2 := hbb a
        have hap : a = p := by
          rcases List.mem_cons.1 hpM with e' | hpl
          · exact e'.symm
          · exfalso
            have h2 := (List.pairwise_cons.1 ha).1 p hpl
            have := Nat.mul_le_mul_right Z.D (show a + 1 ≤ p by omega)
            omega
        subst hap
        have hr : Z.rdy (Z.run S M) M i = true := by
          rw [rdy_cons e, decide_eq_true_eq]
          have := F.pos
          omega
        have ht := h i hr
        have hst : Z.run S (M + 1) i = l' := by
          show Z.stp (Z.run S M) M i = l'
          unfold Sys.stp
          rw [ht, e]
          rfl
        rw [hst] at hp
        exact Nat.lt_irrefl _ ((List.pairwise_cons.1 ha).1 a hp)
    · exact h
  -- the last time at which less than a turn lacks
  have hpot0 : Z.pot S 0 = Z.D * c := by
    have h1 : sumN (fun i => Z.flow S i 0) Z.n = 0 := by
      have : ∀ n, sumN (fun i => Z.flow S i 0) n = 0 := by
        intro n
        induction n with
        | zero => rfl
        | succ n ih => simp only [sumN, ih, flow_zero Z F S n]
      exact this _
    unfold Sys.pot
    rw [h1, Nat.zero_add, ← hc]
    rfl
  have hpotN : Z.D * c + Z.D ≤ Z.pot S (M + 1) := by
    have h1 : sumN (fun i => Z.D * (S i).length) Z.n ≤ sumN (fun i => Z.flow S i (M + 1)) Z.n := sumN_le fun i hi => flow_end F hS (fun p hp => hdue i p hp)
    rw [sumN_mul, hc] at h1
    have h2 : 1 ≤ sumN (fun i => len Z S i (M + 1)) Z.n := by
      refine Nat.le_trans ?_ (sumN_one (f := fun i => len Z S i (M + 1)) hin)
      show 1 ≤ (Z.run S (M + 1) i).length
      rw [hlast]
      simp
    have h3 := Nat.mul_le_mul_left Z.D h2
    unfold Sys.pot
    omega
  obtain ⟨t, t1, t2, t3⟩ := last_true (P := fun t => Z.pot S t < Z.D * c + Z.D) (N := M + 1) (by show Z.pot S 0 < _; have := F.pos; omega) (by show ¬ Z.pot S (M + 1) < _; omega)
  obtain ⟨v, v1, v2, v3, v4⟩ := first_true (P := fun v => Z.m ≤ cntB (fun i => Z.tk (Z.run S v) v i) Z.n) (t := t) (N := M) (by omega) hfull
  have hH : ∀ s, t ≤ s → s < v → Z.hole (Z.run S s) s := fun s h1 h2 => (hole_or_full F (Z.run S s) s).resolve_right (v4 s h1 h2)
  have := pot_stretch F hw (S := S) (t0 := t) (v := v) (fun j hj => ⟨hj, hS, hH, fun k p h1 h2 hp hd hl => hole_chain F hS ho hp (hless j p hp) h2 (by omega) (fun s g1 g2 => hH s (by omega) g2) hm hd hl⟩) v1 v3
  have h9 := t3 (v + 1) (by omega) (by omega)
  have t2' : Z.pot S t < Z.D * c + Z.D := t2
  have h9' : ¬ Z.pot S (v + 1) < Z.D * c + Z.D := h9
  omega

/-- NOBODY IS EVER LATE, whatever turns there are. -/
theorem never_late {Z : Sys} (F : Z.Fine) (hw : sumN Z.e Z.n ≤ Z.m * Z.D) {S : Left} (hS : ∀ i, Asc (S i)) (ho : ∀ i, Z.n ≤ i → S i = []) {N i p : Nat} (hp : p ∈ Z.run S N i) : Z.e i * N < (p + 1) * Z.D := by
  by_cases h : Z.e i * N < (p + 1) * Z.D
  · exact h
  · exfalso
    have h1 := never_late_by F hw N _ (Z.by_ N S) (by_asc hS N) (by_out ho N) rfl (fun i p hp => of_decide_eq_true (List.mem_filter.1 hp).2) i
    rw [run_by F hS ho] at h1
    have : p ∈ Z.by_ N (Z.run S N) i := List.mem_filter.2 ⟨hp, decide_eq_true (by omega)⟩
    rw [h1] at this
    cases this

end Go.Proofs.YtjhenfdmbagaiaaGreat.Top
