/-
  Several processors: the order by chains is as it must be; what the program takes is what the order in numbers takes; Shares that fit are parts of one whole. So nobody is ever a whole turn ahead or behind, and where all shares are all processors nobody is idle.
-/
import Derived.Test.YtjhenfdmbagaiaaTopPure
import Derived.Test.YtjhenfdmbagaiaaRankMath
import Derived.Test.YtjhenfdmbagaiaaManyMath
import Derived.Test.YtjhenfdmbagaiaaAdjFair
namespace Go.Proofs.Ytjhenfdmbagaiaa.Top
open Go.Proofs.Ytjhenfdmbagaiaa.Win

/-- x over c, rounded up. -/
def upN (x c : Nat) : Nat := (x + c - 1) / c

theorem upN_ge {x c : Nat} (hc : 0 < c) : x ≤ c * upN x c := by
  unfold upN
  have h := Nat.div_add_mod (x + c - 1) c
  have h2 := Nat.mod_lt (x + c - 1) hc
  omega

theorem upN_lt {x c : Nat} (hc : 0 < c) : c * upN x c < x + c := by
  unfold upN
  have h := Nat.div_mul_le_self (x + c - 1) c
  rw [Nat.mul_comm] at h
  omega

theorem upN_le {x c k : Nat} (hc : 0 < c) (h : x ≤ c * k) : upN x c ≤ k := by
  have h2 := upN_lt (x := x) hc
  have : c * upN x c < c * (k + 1) := by rw [Nat.mul_add, Nat.mul_one]; omega
  have := Nat.lt_of_mul_lt_mul_left this
  omega

/-- When turn p is due. -/
def dueT (e D p : Nat) : Nat := upN ((p + 1) * D) e

def overT (e D p : Nat) : Bool := decide ((p + 1) * D % e ≠ 0)

def chainT (e D p : Nat) : Nat := if overT e D p = true ∧ D ≤ 2 * e ∧ e < D then upN (upN (dueT e D p * (D - e)) D * D) (D - e) else 0

theorem due_at_iff {e D p k : Nat} (he : 0 < e) : (dueT e D p = k + 1 ↔ e * k < (p + 1) * D ∧ (p + 1) * D ≤ e * (k + 1)) := by
  constructor
  · intro h
    have h1 := upN_ge (x := (p + 1) * D) he
    have h2 := upN_lt (x := (p + 1) * D) he
    unfold dueT at h
    rw [h] at h1 h2
    have : e * (k + 1) = e * k + e := by rw [Nat.mul_add, Nat.mul_one]
    omega
  · rintro ⟨h1, h2⟩
    have h3 := upN_le (k := k + 1) he h2
    have h4 := upN_ge (x := (p + 1) * D) he
    unfold dueT
    by_cases hh : upN ((p + 1) * D) e ≤ k
    · have := Nat.mul_le_mul_left e hh
      omega
    · omega

theorem due_le_iff {e D p t : Nat} (he : 0 < e) : dueT e D p ≤ t ↔ (p + 1) * D ≤ e * t := by
  constructor
  · intro h
    have h1 := upN_ge (x := (p + 1) * D) he
    have := Nat.mul_le_mul_left e h
    unfold dueT at this
    omega
  · exact upN_le he

theorem over_iff {e D p k : Nat} (_he : 0 < e) (h1 : e * k < (p + 1) * D) (h2 : (p + 1) * D ≤ e * (k + 1)) : overT e D p = true ↔ (p + 1) * D < e * (k + 1) := by
  unfold overT
  rw [decide_eq_true_eq]
  have hx : e * (k + 1) = e * k + e := by rw [Nat.mul_add, Nat.mul_one]
  constructor
  · intro h
    by_cases hh : (p + 1) * D < e * (k + 1)
    · exact hh
    · exfalso
      apply h
      have : (p + 1) * D = e * (k + 1) := by omega
      rw [this, Nat.mul_mod_right]
  · intro h e0
    have h3 := Nat.div_add_mod ((p + 1) * D) e
    rw [e0, Nat.add_zero] at h3
    have h4 : e * k < e * ((p + 1) * D / e) := by omega
    have h5 : e * ((p + 1) * D / e) < e * (k + 1) := by omega
    have := Nat.lt_of_mul_lt_mul_left h4
    have := Nat.lt_of_mul_lt_mul_left h5
    omega

/-- A slot in which a turn is due and the next one ready, by its numbers. -/
def WNn (e D k : Nat) : Prop := ∃ p, p * D ≤ e * k ∧ e * k < (p + 1) * D ∧ (p + 1) * D < e * (k + 1)

/-- So long as windows overlap the next ones, the chain goes on. -/
theorem chain_runs {e D p k v x : Nat} (heD : e < D) (hd1 : e * k < (p + 1) * D) (hd2 : (p + 1) * D ≤ e * (k + 1)) (hx1 : (D - e) * (k + 1) ≤ D * x) (hx2 : D * x < (D - e) * (k + 1) + D) (hkv : k < v) (hW : ∀ s, k ≤ s → s < v → WNn e D s) : (D - e) * v < D * x := by
  obtain ⟨w, hw⟩ : ∃ w, D = e + w := ⟨D - e, by omega⟩
  have hwe : D - e = w := by omega
  rw [hwe] at hx1 hx2 ⊢
  have hsum : ∀ s, e * s + w * s = D * s := fun s => by rw [hw, Nat.add_mul]
  have key : ∀ s, k ≤ s → s < v → w * (s + 1) < D * x := by
    intro s
    induction s with
    | zero =>
      intro h1 h2
      have : k = 0 := by omega
      subst this
      obtain ⟨q, q1, q2, q3⟩ := hW 0 (Nat.le_refl _) hkv
      rw [Nat.mul_zero] at q1
      have : q = 0 := by
        by_cases hq : q = 0
        · exact hq
        · have := Nat.mul_le_mul_right D (show 1 ≤ q by omega); omega
      subst this
      have h5 := hsum (0 + 1)
      omega
    | succ s ih =>
      intro h1 h2
      obtain ⟨q, q1, q2, q3⟩ := hW (s + 1) h1 h2
      have s1 := hsum (s + 1)
      have s2 := hsum (s + 1 + 1)
      have e1 : D * (s + 1 + 1) = D * (s + 1) + D := by rw [Nat.mul_add D (s + 1) 1, Nat.mul_one]
      have e2 : w * (s + 1 + 1) = w * (s + 1) + w := by rw [Nat.mul_add w (s + 1) 1, Nat.mul_one]
      have e3 : e * (s + 1 + 1) = e * (s + 1) + e := by rw [Nat.mul_add e (s + 1) 1, Nat.mul_one]
      have qd : (q + 1) * D = q * D + D := by rw [Nat.add_mul, Nat.one_mul]
      by_cases hk : k = s + 1
      · subst hk
        -- the first slot: x is s + 1 less q
        have hq : q ≤ s + 1 := by
          have h3 : q * D ≤ D * (s + 1) := by omega
          rw [Nat.mul_comm D] at h3
          exact Nat.le_of_mul_le_mul_right h3 (by omega)
        obtain ⟨y, hy⟩ : ∃ y, s + 1 = q + y := ⟨s + 1 - q, by omega⟩
        have hD : D * (s + 1) = q * D + D * y := by rw [hy, Nat.mul_add, Nat.mul_comm D q]
        -- D (y - 1) < w (k + 1) < D y
        have hb1 : w * (s + 1 + 1) < D * y := by omega
        have hxy : y ≤ x := by
          by_cases h : y ≤ x
          · exact h
          · exfalso
            have h9 := Nat.mul_le_mul_left D (show x + 1 ≤ y by omega)
            rw [Nat.mul_add, Nat.mul_one] at h9
            omega
        have := Nat.mul_le_mul_left D hxy
        omega
      · have hi := ih (by omega) (by omega)
        -- here D (x - 1) < w (s + 1) < D x
        have hm : w * (k + 1) ≤ w * (s + 1) := Nat.mul_le_mul_left _ (by omega)
        have hlt : D * x < w * (s + 1) + D := by omega
        have hxs : x ≤ s + 1 := by
          have h3 : D * x < D * (s + 1) + D := by omega
          have h4 : D * x < D * (s + 1 + 1) := by omega
          have := Nat.lt_of_mul_lt_mul_left h4
          omega
        obtain ⟨y, hy⟩ : ∃ y, s + 1 = x + y := ⟨s + 1 - x, by omega⟩
        have hD : D * (s + 1) = D * x + y * D := by rw [hy, Nat.mul_add, Nat.mul_comm D y]
        have hqy : q = y := by
          have h5 : y * D < (q + 1) * D := by omega
          have h6 : q * D < (y + 1) * D := by rw [Nat.add_mul, Nat.one_mul]; omega
          have := Nat.lt_of_mul_lt_mul_right h5
          have := Nat.lt_of_mul_lt_mul_right h6
          omega
        subst hqy
        omega
  obtain ⟨u, rfl⟩ : ∃ u, v = u + 1 := ⟨v - 1, by omega⟩
  exact key u (by omega) (by omega)

/-- As far as the chain goes on, windows overlap the next ones. -/
theorem runs_chain {e D p k v x : Nat} (heD : e < D) (hd1 : e * k < (p + 1) * D) (hd2 : (p + 1) * D < e * (k + 1)) (hx2 : D * x < (D - e) * (k + 1) + D) (hv : (D - e) * v < D * x) : ∀ s, k ≤ s → s < v → WNn e D s := by
  obtain ⟨w, hw⟩ : ∃ w, D = e + w := ⟨D - e, by omega⟩
  have hwe : D - e = w := by omega
  rw [hwe] at hx2 hv
  have hsum : ∀ s, e * s + w * s = D * s := fun s => by rw [hw, Nat.add_mul]
  intro s h1 h2
  have s1 := hsum s
  have s2 := hsum (s + 1)
  have e1 : D * (s + 1) = D * s + D := by rw [Nat.mul_add, Nat.mul_one]
  have e3 : e * (s + 1) = e * s + e := by rw [Nat.mul_add, Nat.mul_one]
  by_cases hk : k = s
  · subst hk
    refine ⟨p, ?_, hd1, hd2⟩
    have : (p + 1) * D = p * D + D := by rw [Nat.add_mul, Nat.one_mul]
    omega
  · have hm : w * (k + 1) ≤ w * s := Nat.mul_le_mul_left _ (by omega)
    have hv2 : w * (s + 1) ≤ w * v := Nat.mul_le_mul_left _ (by omega)
    have e2 : w * (s + 1) = w * s + w := by rw [Nat.mul_add, Nat.mul_one]
    have hxs : x ≤ s := by
      have h4 : D * x < D * (s + 1) := by omega
      have := Nat.lt_of_mul_lt_mul_left h4
      omega
    obtain ⟨y, hy⟩ : ∃ y, s = x + y := ⟨s - x, by omega⟩
    have hD : D * s = D * x + y * D := by rw [hy, Nat.mul_add, Nat.mul_comm D y]
    have hy1 : (y + 1) * D = y * D + D := by rw [Nat.add_mul, Nat.one_mul]
    exact ⟨y, by omega, by omega, by omega⟩

/-- What a turn goes by. -/
def cmpT (D ea p eb q : Nat) : Int := cmpR (dueT ea D p) (overT ea D p) (chainT ea D p) (dueT eb D q) (overT eb D q) (chainT eb D q)

/-- The order of turns of some tasks. -/
def prT (D : Nat) (e : Nat → Nat) (a p b q : Nat) : Bool := decide (cmpT D (e a) p (e b) q = 1) || (decide (cmpT D (e a) p (e b) q = 0) && decide (a < b))

theorem prT_iff {D : Nat} {e : Nat → Nat} {a p b q : Nat} : prT D e a p b q = true ↔ cmpT D (e a) p (e b) q = 1 ∨ (cmpT D (e a) p (e b) q = 0 ∧ a < b) := by
  simp [prT]

theorem cmp_ge {a a' : Int} {o o' : Bool} {c c' : Int} (h : 0 ≤ cmpR a o c a' o' c') : a ≤ a' ∧ (a = a' → (o' = true → o = true) ∧ (o' = o → c' ≤ c)) := by
  unfold cmpR at h
  cases o <;> cases o' <;> simp at h ⊢ <;> grind

theorem due_lt_next {e D p q : Nat} (he : 0 < e) (heD : e ≤ D) (h : p < q) : dueT e D p < dueT e D q := by
  have h1 : dueT e D p ≤ dueT e D q - 1 := by
    rw [due_le_iff he]
    have h2 := upN_ge (x := (q + 1) * D) he
    have h3 : (p + 1) * D + D ≤ (q + 1) * D := by
      have := Nat.mul_le_mul_right D (show p + 1 + 1 ≤ q + 1 by omega)
      rw [Nat.add_mul (p + 1) 1, Nat.one_mul] at this
      exact this
    have hd : 0 < dueT e D q := by
      by_cases h0 : dueT e D q = 0
      · have h4 : e * upN ((q + 1) * D) e = 0 := by
          have : upN ((q + 1) * D) e = 0 := h0
          rw [this, Nat.mul_zero]
        have h5 : 0 < (q + 1) * D := Nat.mul_pos (by omega) (by omega)
        omega
      · omega
    have h6 : e * dueT e D q = e * (dueT e D q - 1) + e := by
      obtain ⟨z, hz⟩ : ∃ z, dueT e D q = z + 1 := ⟨dueT e D q - 1, by omega⟩
      rw [hz, Nat.mul_add, Nat.mul_one]
      rfl
    have h7 : e * dueT e D q = e * upN ((q + 1) * D) e := rfl
    omega
  have h2 : 0 < dueT e D q := by
    by_cases h0 : dueT e D q = 0
    · have h4 := (due_le_iff (D := D) (p := q) (t := 0) he).1 (by omega)
      have h5 : 0 < (q + 1) * D := Nat.mul_pos (by omega) (by omega)
      omega
    · omega
  omega

theorem fineT {n m D : Nat} {e : Nat → Nat} (hD : 0 < D) (he : ∀ i, i < n → 0 < e i ∧ e i ≤ D) (he2 : ∀ i, 0 < e i ∧ e i ≤ D) : Sys.Fine ⟨n, m, D, e, prT D e⟩ := by
  refine ⟨fun i p => ?_, fun a p b q c r h1 h2 => ?_, fun a p b q hab => ?_, fun a p q hpq => ?_, fun a p b q ha hb h t ht => ?_, fun a p b q ha hb h k v hkv h1 h2 h3 h4 hW => ?_, hD, he⟩
  · show prT D e i p i p = false
    have h0 : cmpT D (e i) p (e i) p = 0 := cmp_self _ _ _
    cases h : prT D e i p i p
    · rfl
    · rw [prT_iff, h0] at h; omega
  · show prT D e a p c r = true
    have h1 : prT D e a p b q = true := h1
    have h2 : prT D e b q c r = true := h2
    rw [prT_iff] at *
    have b1 : -1 ≤ cmpT D (e a) p (e c) r ∧ cmpT D (e a) p (e c) r ≤ 1 := cmp_bd _ _ _ _ _ _
    have b2 : -1 ≤ cmpT D (e a) p (e b) q ∧ cmpT D (e a) p (e b) q ≤ 1 := cmp_bd _ _ _ _ _ _
    have b3 : -1 ≤ cmpT D (e b) q (e c) r ∧ cmpT D (e b) q (e c) r ≤ 1 := cmp_bd _ _ _ _ _ _
    have n1 : cmpT D (e b) q (e a) p = - cmpT D (e a) p (e b) q := cmp_neg _ _ _ _ _ _
    have n2 : cmpT D (e c) r (e b) q = - cmpT D (e b) q (e c) r := cmp_neg _ _ _ _ _ _
    have n3 : cmpT D (e c) r (e a) p = - cmpT D (e a) p (e c) r := cmp_neg _ _ _ _ _ _
    have t1 : 0 ≤ cmpT D (e a) p (e b) q → 0 ≤ cmpT D (e b) q (e c) r → 0 ≤ cmpT D (e a) p (e c) r := cmp_trans _ _ _ _ _ _ _ _ _
    have t2 : 0 ≤ cmpT D (e b) q (e c) r → 0 ≤ cmpT D (e c) r (e a) p → 0 ≤ cmpT D (e b) q (e a) p := cmp_trans _ _ _ _ _ _ _ _ _
    have t3 : 0 ≤ cmpT D (e c) r (e a) p → 0 ≤ cmpT D (e a) p (e b) q → 0 ≤ cmpT D (e c) r (e b) q := cmp_trans _ _ _ _ _ _ _ _ _
    omega
  · show prT D e a p b q = true ∨ prT D e b q a p = true
    rw [prT_iff, prT_iff]
    have b2 : -1 ≤ cmpT D (e a) p (e b) q ∧ cmpT D (e a) p (e b) q ≤ 1 := cmp_bd _ _ _ _ _ _
    have n1 : cmpT D (e b) q (e a) p = - cmpT D (e a) p (e b) q := cmp_neg _ _ _ _ _ _
    omega
  · show prT D e a p a q = true
    rw [prT_iff]
    left
    have := due_lt_next (he2 a).1 (he2 a).2 hpq
    exact cmp_due _ _ _ _ (by omega)
  · have h : prT D e a p b q = true := h
    rw [prT_iff] at h
    have hc : 0 ≤ cmpT D (e a) p (e b) q := by omega
    have h1 : (dueT (e a) D p : Int) ≤ (dueT (e b) D q : Int) := (cmp_ge hc).1
    have h2 := (due_le_iff (D := D) (p := q) (he2 b).1).2 ht
    exact (due_le_iff (e := e a) (D := D) (p := p) (t := t) (he2 a).1).1 (by omega)
  · have h : prT D e a p b q = true := h
    rw [prT_iff] at h
    have hc : 0 ≤ cmpT D (e a) p (e b) q := by omega
    have hea := he2 a
    have heb := he2 b
    have h1 : e a * k < (p + 1) * D := h1
    have h2 : (p + 1) * D ≤ e a * (k + 1) := h2
    have h3 : e b * k < (q + 1) * D := h3
    have h4 : (q + 1) * D ≤ e b * (k + 1) := h4
    have hW : ∀ s, k ≤ s → s < v → WNn (e b) D s := hW
    have d1 := (due_at_iff (e := e a) (D := D) (p := p) hea.1).2 ⟨h1, h2⟩
    have d2 := (due_at_iff (e := e b) (D := D) (p := q) heb.1).2 ⟨h3, h4⟩
    have hg := (cmp_ge hc).2 (by rw [d1, d2])
    -- b overlaps, so a does
    have hbo : overT (e b) D q = true := by
      rw [over_iff heb.1 h3 h4]
      obtain ⟨r, r1, r2, r3⟩ := hW k (Nat.le_refl _) hkv
      have hqr : q ≤ r := by
        have h5 : q * D < (r + 1) * D := by
          have : (q + 1) * D = q * D + D := by rw [Nat.add_mul, Nat.one_mul]
          have hx : e b * (k + 1) = e b * k + e b := by rw [Nat.mul_add, Nat.mul_one]
          omega
        have := Nat.lt_of_mul_lt_mul_right h5
        omega
      have := Nat.mul_le_mul_right D (show q + 1 ≤ r + 1 by omega)
      omega
    have hao := hg.1 hbo
    have hlt := (over_iff hea.1 h1 h2).1 hao
    have haD : e a < D := by
      by_cases hh : e a < D
      · exact hh
      · exfalso
        have hE : e a = D := by omega
        rw [hE] at h1 hlt
        rw [Nat.mul_comm (p + 1)] at h1 hlt
        have := Nat.lt_of_mul_lt_mul_left h1
        have := Nat.lt_of_mul_lt_mul_left hlt
        omega
    by_cases hv : v = k + 1
    · subst hv
      intro s s1 s2
      have : s = k := by omega
      subst this
      refine ⟨p, ?_, h1, hlt⟩
      show p * D ≤ e a * s
      have : (p + 1) * D = p * D + D := by rw [Nat.add_mul, Nat.one_mul]
      have hx : e a * (s + 1) = e a * s + e a := by rw [Nat.mul_add, Nat.mul_one]
      omega
    · -- b is heavy
      have hbD : e b < D := by
        have h5 := (over_iff heb.1 h3 h4).1 hbo
        by_cases hh : e b < D
        · exact hh
        · exfalso
          have hE : e b = D := by omega
          rw [hE] at h3 h5
          rw [Nat.mul_comm (q + 1)] at h3 h5
          have := Nat.lt_of_mul_lt_mul_left h3
          have := Nat.lt_of_mul_lt_mul_left h5
          omega
      have hbh : D ≤ 2 * e b := by
        obtain ⟨r, r1, r2, r3⟩ := hW k (Nat.le_refl _) hkv
        obtain ⟨r', q1, q2, q3⟩ := hW (k + 1) (by omega) (by omega)
        have x1 : e b * (k + 1) = e b * k + e b := by rw [Nat.mul_add, Nat.mul_one]
        have x2 : e b * (k + 1 + 1) = e b * (k + 1) + e b := by rw [Nat.mul_add _ (k + 1) 1, Nat.mul_one]
        have hrr : r + 1 ≤ r' := by
          have h5 : (r + 1) * D < (r' + 1) * D := by omega
          have := Nat.lt_of_mul_lt_mul_right h5
          omega
        have h6 := Nat.mul_le_mul_right D (show r + 1 + 1 ≤ r' + 1 by omega)
        rw [Nat.add_mul (r + 1) 1, Nat.one_mul] at h6
        omega
      have hwb : 0 < D - e b := by omega
      have hwa : 0 < D - e a := by omega
      have cb : chainT (e b) D q = upN (upN ((k + 1) * (D - e b)) D * D) (D - e b) := by rw [chainT, if_pos ⟨hbo, hbh, hbD⟩, d2]
      have xb1 := upN_ge (x := (k + 1) * (D - e b)) hD
      have xb2 := upN_lt (x := (k + 1) * (D - e b)) hD
      have rb := chain_runs (x := upN ((k + 1) * (D - e b)) D) hbD h3 h4 (by rw [Nat.mul_comm]; exact xb1) (by rw [Nat.mul_comm (D - e b)]; exact xb2) hkv hW
      -- the chain of b ends behind v
      have eb : v < chainT (e b) D q := by
        rw [cb]
        have g1 := upN_ge (x := upN ((k + 1) * (D - e b)) D * D) hwb
        have : (D - e b) * v < (D - e b) * upN (upN ((k + 1) * (D - e b)) D * D) (D - e b) := by
          rw [Nat.mul_comm D] at rb
          omega
        exact Nat.lt_of_mul_lt_mul_left this
      have hca := hg.2 (by rw [hbo, hao])
      have ea : v < chainT (e a) D p := by omega
      have hah : overT (e a) D p = true ∧ D ≤ 2 * e a ∧ e a < D := by
        by_cases hh : overT (e a) D p = true ∧ D ≤ 2 * e a ∧ e a < D
        · exact hh
        · rw [chainT, if_neg hh] at ea; omega
      rw [chainT, if_pos hah, d1] at ea
      have xa2 := upN_lt (x := (k + 1) * (D - e a)) hD
      have va : (D - e a) * v < D * upN ((k + 1) * (D - e a)) D := by
        have g2 := upN_lt (x := upN ((k + 1) * (D - e a)) D * D) hwa
        have g3 := Nat.mul_le_mul_left (D - e a) (show v + 1 ≤ upN (upN ((k + 1) * (D - e a)) D * D) (D - e a) by omega)
        rw [Nat.mul_add, Nat.mul_one] at g3
        rw [Nat.mul_comm D]
        omega
      exact runs_chain (x := upN ((k + 1) * (D - e a)) D) haD h1 hlt (by rw [Nat.mul_comm (D - e a)]; exact xa2) va

end Go.Proofs.Ytjhenfdmbagaiaa.Top

namespace Go.Proofs.Ytjhenfdmbagaiaa.Top
open Go.Proofs.Ytjhenfdmbagaiaa.Win Go.Proofs.Ytjhenfdmbagaiaa.Crew

/-- Shares as parts e of one D. -/
structure EvenS (ps : List Shr) (D : Nat) (e : Nat → Nat) : Prop where
  pos : 0 < D
  all : ∀ i, 0 < e i ∧ e i ≤ D
  shr : ∀ i, i < ps.length → shareOk (ps.getD i (0, 0)).1 (ps.getD i (0, 0)).2 = true ∧ (((ps.getD i (0, 0)).1 = (e i : Int) ∧ (ps.getD i (0, 0)).2 = (D : Int)) ∨ ((ps.getD i (0, 0)).1 = (ps.getD i (0, 0)).2 ∧ e i = D))

theorem upN_int {x c : Nat} (hc : 0 < c) : ((x : Int) + (c : Int) - 1) / (c : Int) = (upN x c : Int) := by
  unfold upN
  have h : (x : Int) + (c : Int) - 1 = ((x + c - 1 : Nat) : Int) := by omega
  rw [h, Int.natCast_ediv]

theorem upQ_int {x c : Nat} (hc : 0 < c) : upQ (x : Int) (c : Int) = (upN x c : Int) := upN_int hc

theorem dueT_whole {D p : Nat} (hD : 0 < D) : dueT D D p = p + 1 := by
  rw [due_at_iff hD]
  have : D * (p + 1) = (p + 1) * D := Nat.mul_comm _ _
  have h2 : (p + 1) * D = p * D + D := by rw [Nat.add_mul, Nat.one_mul]
  have h3 : D * p = p * D := Nat.mul_comm _ _
  omega

theorem overT_whole {D p : Nat} : overT D D p = false := by
  unfold overT
  rw [Nat.mul_mod_left]
  rfl

theorem due_is {n d : Int} {D e c : Nat} (hs : shareOk n d = true) (he : 0 < e) (h : (n = (e : Int) ∧ d = (D : Int)) ∨ (n = d ∧ e = D)) (hc : c + 1 ≤ 1000000) : dueV n d ((c : Int) + 1) = (dueT e D c : Int) := by
  rw [dueV_yes (turn_mk hs (by omega) (by omega))]
  obtain ⟨n1, n2, d2⟩ := share_yes hs
  rcases h with ⟨rfl, rfl⟩ | ⟨rfl, rfl⟩
  · have e1 : ((c : Int) + 1) * (D : Int) = (((c + 1) * D : Nat) : Int) := by push_cast; rfl
    rw [e1, upN_int he]
    rfl
  · rw [dueT_whole he]
    have e1 : ((c : Int) + 1) * n + n - 1 = (n - 1) + ((c : Int) + 1) * n := by omega
    rw [e1, Int.add_mul_ediv_right _ _ (by omega), Int.ediv_eq_zero_of_lt (by omega) (by omega)]
    push_cast
    omega

theorem over_is {n d : Int} {D e c : Nat} (h : (n = (e : Int) ∧ d = (D : Int)) ∨ (n = d ∧ e = D)) : overB n d ((c : Int) + 1) = overT e D c := by
  unfold overB
  rcases h with ⟨rfl, rfl⟩ | ⟨rfl, rfl⟩
  · unfold overT
    have e1 : ((c : Int) + 1) * (D : Int) = (((c + 1) * D : Nat) : Int) := by push_cast; rfl
    have e2 : ((c : Int) + 1) * (D : Int) % (e : Int) = (((c + 1) * D % e : Nat) : Int) := by rw [e1]; rfl
    rw [e2]
    by_cases h : (c + 1) * D % e = 0
    · rw [h]; rfl
    · have h2 : ¬ (((c + 1) * D % e : Nat) : Int) = 0 := by omega
      rw [decide_eq_true h2, decide_eq_true h]
  · rw [overT_whole]
    have : ((c : Int) + 1) * n % n = 0 := by rw [Int.mul_emod_left]
    simp [this]

theorem chain_is' {n d : Int} {D e c : Nat} (hs : shareOk n d = true) (he : 0 < e) (hD : 0 < D) (heD : e ≤ D) (h : (n = (e : Int) ∧ d = (D : Int)) ∨ (n = d ∧ e = D)) (hc : c + 1 ≤ 1000000) : rankC n d ((c : Int) + 1) = (chainT e D c : Int) := by
  have ho := over_is (c := c) h
  have ht := turn_mk (j := (c : Int) + 1) hs (by omega) (by omega)
  cases hov : overT e D c
  · rw [rankC_no (by rw [ho, hov]), chainT, if_neg (by rw [hov]; simp)]
    rfl
  · rw [rankC_yes (by rw [ho, hov])]
    rcases h with ⟨rfl, rfl⟩ | ⟨rfl, rfl⟩
    · by_cases hh : D ≤ 2 * e ∧ e < D
      · have hv : heavyOk (e : Int) (D : Int) = true := heavy_mk hs (by omega) (by omega)
        have h1 := chain_is _ _ _ ht hv
        rw [chainV_yes ht] at h1
        rw [h1, due_is hs he (.inl ⟨rfl, rfl⟩) hc, chainT, if_pos ⟨hov, hh.1, hh.2⟩]
        have e1 : (D : Int) - (e : Int) = ((D - e : Nat) : Int) := by omega
        rw [e1]
        have e2 : (dueT e D c : Int) * ((D - e : Nat) : Int) = ((dueT e D c * (D - e) : Nat) : Int) := by push_cast; rfl
        rw [e2, upQ_int hD]
        have e3 : (upN (dueT e D c * (D - e)) D : Int) * (D : Int) = ((upN (dueT e D c * (D - e)) D * D : Nat) : Int) := by push_cast; rfl
        rw [e3, upQ_int (by omega)]
      · have hv : heavyOk (e : Int) (D : Int) = false := by
          by_cases h2 : D ≤ 2 * e
          · exact heavy_whole (by omega)
          · exact heavy_light (by omega)
        rw [chainIn_no hv, chainT, if_neg (fun x => hh x.2)]
        rfl
    · rw [overT_whole] at hov
      cases hov

theorem EvenS.ranks {ps : List Shr} {D : Nat} {e : Nat → Nat} (E : EvenS ps D e) {ns : List Int} {i c : Nat} (hi : i < ps.length) (hn : ns.getD i 0 = (c : Int)) (hc : c + 1 ≤ 1000000) : rkA ps ns i = (dueT (e i) D c : Int) ∧ rkO ps ns i = overT (e i) D c ∧ rkC ps ns i = (chainT (e i) D c : Int) := by
  obtain ⟨hs, h⟩ := E.shr i hi
  unfold rkA rkO rkC
  rw [hn]
  exact ⟨due_is hs (E.all i).1 h hc, over_is h, chain_is' hs (E.all i).1 E.pos (E.all i).2 h hc⟩

theorem EvenS.goes {ps : List Shr} {D : Nat} {e : Nat → Nat} (E : EvenS ps D e) {ns : List Int} {i c j b : Nat} (hi : i < ps.length) (hn : ns.getD i 0 = (c : Int)) (hc : c + 1 ≤ 1000000) (hj : j < ps.length) (hm : ns.getD j 0 = (b : Int)) (hb : b + 1 ≤ 1000000) : goM ps ns i j = prT D e i c j b := by
  obtain ⟨a1, a2, a3⟩ := E.ranks hi hn hc
  obtain ⟨b1, b2, b3⟩ := E.ranks hj hm hb
  unfold goM prT cmpT ahM
  rw [a1, a2, a3, b1, b2, b3]

theorem EvenS.rdy {ps : List Shr} {D : Nat} {e : Nat → Nat} (E : EvenS ps D e) {ns : List Int} {i c k : Nat} (hi : i < ps.length) (hn : ns.getD i 0 = (c : Int)) (hc : c + 1 ≤ 1000000) : tnR ps ns (k : Int) i = decide (c * D < e i * (k + 1)) := by
  obtain ⟨hs, h⟩ := E.shr i hi
  unfold tnR
  rw [hn, decide_eq_true (show (c : Int) < 1000000 by omega), Bool.true_and]
  rw [readyV_yes (turn_mk hs (by omega) (by omega))]
  obtain ⟨n1, n2, d2⟩ := share_yes hs
  have e0 : (c : Int) + 1 - 1 = (c : Int) := by omega
  rw [e0]
  have key : ((c : Int) * (ps.getD i (0, 0)).2 / (ps.getD i (0, 0)).1 ≤ (k : Int)) ↔ (c * D < e i * (k + 1)) := by
    generalize (ps.getD i (0, 0)).1 = n at *
    generalize (ps.getD i (0, 0)).2 = d at *
    have h1 : ((c : Int) * d / n ≤ (k : Int)) ↔ ((c : Int) * d / n < (k : Int) + 1) := by omega
    rw [h1, Int.ediv_lt_iff_lt_mul (by omega)]
    rcases h with ⟨rfl, rfl⟩ | ⟨rfl, he⟩
    · have e1 : (c : Int) * (D : Int) = ((c * D : Nat) : Int) := by push_cast; rfl
      have e2 : ((k : Int) + 1) * (e i : Int) = ((e i * (k + 1) : Nat) : Int) := by push_cast; rw [Int.mul_comm]
      rw [e1, e2]
      omega
    · rw [he]
      constructor
      · intro hh
        have := Int.lt_of_mul_lt_mul_right hh (by omega)
        rw [Nat.mul_comm D]
        exact Nat.mul_lt_mul_of_pos_right (by omega) E.pos
      · intro hh
        rw [Nat.mul_comm D] at hh
        have := Nat.lt_of_mul_lt_mul_right hh
        exact Int.mul_lt_mul_of_pos_right (by omega) (by omega)
  by_cases hh : c * D < e i * (k + 1)
  · rw [decide_eq_true hh, decide_eq_true (key.2 hh)]
  · rw [decide_eq_false hh, decide_eq_false (fun x => hh (key.1 x))]

/-- The tasks of some Shares. -/
def sysOf (ps : List Shr) (q : Int) (D : Nat) (e : Nat → Nat) : Sys := ⟨ps.length, q.toNat, D, e, prT D e⟩

theorem EvenS.fine {ps : List Shr} {D : Nat} {e : Nat → Nat} (E : EvenS ps D e) (q : Int) : (sysOf ps q D e).Fine := fineT E.pos (fun i _ => E.all i) E.all

/-- All turns up to M. -/
def allTo (n M : Nat) : Left := fun i => if i < n then List.range' 0 M else []

theorem asc_range' (s n : Nat) : Asc (List.range' s n) := List.pairwise_lt_range'

theorem allTo_asc (n M : Nat) : ∀ i, Asc (allTo n M i) := by
  intro i
  unfold allTo
  split
  · exact asc_range' 0 M
  · exact List.Pairwise.nil

theorem allTo_out (n M : Nat) : ∀ i, n ≤ i → allTo n M i = [] := by
  intro i hi
  unfold allTo
  rw [if_neg (by omega)]

theorem run_range {Z : Sys} {M : Nat} : ∀ k, k ≤ M → ∀ i, i < Z.n → ∃ c, c ≤ k ∧ Z.run (allTo Z.n M) k i = List.range' c (M - c) := by
  intro k
  induction k with
  | zero =>
    intro _ i hi
    refine ⟨0, Nat.le_refl _, ?_⟩
    show allTo Z.n M i = _
    unfold allTo
    rw [if_pos hi]
    rfl
  | succ k ih =>
    intro hk i hi
    obtain ⟨c, hc, h⟩ := ih (by omega) i hi
    show ∃ c, c ≤ k + 1 ∧ Z.stp (Z.run (allTo Z.n M) k) k i = _
    unfold Sys.stp
    rw [h]
    split
    · refine ⟨c + 1, by omega, ?_⟩
      rw [show M - c = (M - (c + 1)) + 1 by omega, List.range'_succ]
      rfl
    · exact ⟨c, by omega, rfl⟩

/-- The program's run is that of the order in numbers. -/
theorem follows {ps : List Shr} {q : Int} {D : Nat} {e : Nat → Nat} (E : EvenS ps D e) {M : Nat} : ∀ k, k < M → k < 1000000 → ∀ i, i < ps.length →
    ∃ c : Nat, c ≤ k ∧ (mAt ps (List.replicate ps.length 0) q 0 k).getD i 0 = (c : Int) ∧ (sysOf ps q D e).run (allTo ps.length M) k i = List.range' c (M - c) ∧ c * D < e i * k + D := by
  intro k
  induction k with
  | zero =>
    intro hM _ i hi
    refine ⟨0, Nat.le_refl _, ?_, ?_, ?_⟩
    · show (List.replicate ps.length (0 : Int)).getD i 0 = _
      simp [List.getD, hi]
    · show allTo ps.length M i = _
      unfold allTo
      rw [if_pos hi]
      rfl
    · have := E.pos; simp; exact this
  | succ k ih =>
    intro hM hk i hi
    have ih := ih (by omega) (by omega)
    -- who is taken is who is taken
    have hr : ∀ j, j < ps.length → ∃ c : Nat, c ≤ k ∧ (mAt ps (List.replicate ps.length 0) q 0 k).getD j 0 = (c : Int) ∧ hd ((sysOf ps q D e).run (allTo ps.length M) k) j = c ∧ (sysOf ps q D e).rdy ((sysOf ps q D e).run (allTo ps.length M) k) k j = tnR ps (mAt ps (List.replicate ps.length 0) q 0 k) (k : Int) j := by
      intro j hj
      obtain ⟨c, c1, c2, c3, c4⟩ := ih j hj
      have h : (sysOf ps q D e).run (allTo ps.length M) k j = c :: List.range' (c + 1) (M - (c + 1)) := by
        rw [c3, show M - c = (M - (c + 1)) + 1 by omega, List.range'_succ]
      refine ⟨c, c1, c2, hd_cons h, ?_⟩
      rw [rdy_cons h, E.rdy hj c2 (by omega)]
      rfl
    have htk : ∀ j, j < ps.length → (sysOf ps q D e).tk ((sysOf ps q D e).run (allTo ps.length M) k) k j = mTop ps (mAt ps (List.replicate ps.length 0) q 0 k) q (k : Int) ps.length j := by
      intro j hj
      obtain ⟨c, c1, c2, c3, c4⟩ := hr j hj
      have hp : (sysOf ps q D e).ah ((sysOf ps q D e).run (allTo ps.length M) k) k j = place (goM ps (mAt ps (List.replicate ps.length 0) q 0 k)) (tnR ps (mAt ps (List.replicate ps.length 0) q 0 k) (k : Int)) ps.length j := by
        unfold Sys.ah place
        apply cnt_ext
        intro x hx
        obtain ⟨b, b1, b2, b3, b4⟩ := hr x hx
        rw [b3, b4, c3, E.goes hx b2 (by omega) hj c2 (by omega)]
        rfl
      unfold mTop topB
      have : (sysOf ps q D e).tk ((sysOf ps q D e).run (allTo ps.length M) k) k j = ((sysOf ps q D e).rdy ((sysOf ps q D e).run (allTo ps.length M) k) k j && decide ((sysOf ps q D e).ah ((sysOf ps q D e).run (allTo ps.length M) k) k j < q.toNat)) := rfl
      rw [this, hp, c4, decide_eq_true hj, Bool.and_true]
    obtain ⟨c, c1, c2, c3, c4⟩ := ih i hi
    have hnow : (0 : Int) + (k : Int) = (k : Int) := by omega
    have hat : (mAt ps (List.replicate ps.length 0) q 0 (k + 1)).getD i 0 = (c : Int) + (if i ∈ mList ps (mAt ps (List.replicate ps.length 0) q 0 k) q (k : Int) then 1 else 0) := by
      show (mNext ps (mAt ps (List.replicate ps.length 0) q 0 k) q (0 + (k : Int))).getD i 0 = _
      rw [hnow]
      unfold mNext
      rw [bump_get (mList_nodup _ _ _ _) (by rw [mAt_len]; simpa using hi), c2]
    have hst : (sysOf ps q D e).run (allTo ps.length M) (k + 1) i = if (sysOf ps q D e).tk ((sysOf ps q D e).run (allTo ps.length M) k) k i = true then ((sysOf ps q D e).run (allTo ps.length M) k i).tail else (sysOf ps q D e).run (allTo ps.length M) k i := rfl
    rw [hat, hst, htk i hi, c3]
    have hx : e i * (k + 1) = e i * k + e i := by rw [Nat.mul_add, Nat.mul_one]
    cases hm : mTop ps (mAt ps (List.replicate ps.length 0) q 0 k) q (k : Int) ps.length i
    · have hni : i ∉ mList ps (mAt ps (List.replicate ps.length 0) q 0 k) q (k : Int) := fun h => by rw [mem_mList, hm] at h; cases h
      refine ⟨c, by omega, by simp [hni], by simp, by omega⟩
    · have hi2 : i ∈ mList ps (mAt ps (List.replicate ps.length 0) q 0 k) q (k : Int) := mem_mList.2 hm
      have hrd := mList_rdy hi2
      rw [E.rdy hi c2 (by omega), decide_eq_true_eq] at hrd
      refine ⟨c + 1, by omega, by simp [hi2], ?_, ?_⟩
      · rw [if_pos rfl, show M - c = (M - (c + 1)) + 1 by omega, List.range'_succ]
        rfl
      · rw [Nat.add_mul, Nat.one_mul]
        omega

/-- NOBODY IS EVER A WHOLE TURN AHEAD OR BEHIND, on several processors. -/
theorem never_whole {ps : List Shr} {q : Int} {D : Nat} {e : Nat → Nat} (E : EvenS ps D e) (hw : sumN e ps.length ≤ q.toNat * D) {k : Nat} (hk : k < 1000000) {i : Nat} (hi : i < ps.length) :
    (ps.getD i (0, 0)).1 * (k : Int) - (ps.getD i (0, 0)).2 * (mAt ps (List.replicate ps.length 0) q 0 k).getD i 0 < (ps.getD i (0, 0)).2 ∧ - (ps.getD i (0, 0)).2 < (ps.getD i (0, 0)).1 * (k : Int) - (ps.getD i (0, 0)).2 * (mAt ps (List.replicate ps.length 0) q 0 k).getD i 0 := by
  obtain ⟨c, c1, c2, c3, c4⟩ := follows (q := q) (M := k + 1) E k (by omega) hk i hi
  have hin : c ∈ (sysOf ps q D e).run (allTo ps.length (k + 1)) k i := by
    rw [c3]
    simp
    omega
  have hl := never_late (E.fine q) hw (allTo_asc _ _) (allTo_out _ _) hin
  have hl : e i * k < (c + 1) * D := hl
  obtain ⟨hs, h⟩ := E.shr i hi
  obtain ⟨n1, n2, d2⟩ := share_yes hs
  rw [c2]
  generalize (ps.getD i (0, 0)).1 = n at *
  generalize (ps.getD i (0, 0)).2 = d at *
  have hq : (c + 1) * D = c * D + D := by rw [Nat.add_mul, Nat.one_mul]
  rcases h with ⟨rfl, rfl⟩ | ⟨rfl, he⟩
  · have e1 : (e i : Int) * (k : Int) = ((e i * k : Nat) : Int) := by push_cast; rfl
    have e2 : (D : Int) * (c : Int) = ((c * D : Nat) : Int) := by push_cast; rw [Int.mul_comm]
    rw [e1, e2]
    omega
  · rw [he] at hl c4
    have h1 : k < c + 1 := by
      rw [Nat.mul_comm] at hl
      exact Nat.lt_of_mul_lt_mul_right hl
    have h2 : c < k + 1 := by
      have : c * D < (k + 1) * D := by rw [Nat.add_mul, Nat.one_mul, Nat.mul_comm k]; exact c4
      exact Nat.lt_of_mul_lt_mul_right this
    have : c = k := by omega
    subst this
    omega

theorem tk_le {Z : Sys} (F : Z.Fine) (U : Left) (k : Nat) : cntB (fun i => Z.tk U k i) Z.n ≤ Z.m := by
  have S : Strict (fun i j => Z.pr i (hd U i) j (hd U j)) := ⟨fun i => F.irr _ _, fun i j l h1 h2 => F.tr _ _ _ _ _ _ h1 h2, fun i j h => F.tot _ _ _ _ h⟩
  have h := top_le S (r := fun j => Z.rdy U k j) (q := Z.m) (k := Z.n)
  refine Nat.le_trans (Nat.le_of_eq ?_) h
  apply cnt_ext
  intro i hi
  unfold topB place Sys.tk
  rw [decide_eq_true hi, Bool.and_true]

/-- Where all shares together are all processors, none is idle. -/
theorem never_idle {ps : List Shr} {q : Int} {D : Nat} {e : Nat → Nat} (E : EvenS ps D e) (hw : sumN e ps.length = q.toNat * D) {k B : Nat} (hk : k < B) (hB : B < 1000000) : (mList ps (mAt ps (List.replicate ps.length 0) q 0 k) q (k : Int)).length = q.toNat := by
  have F := E.fine q
  have hD := E.pos
  have hND : B ≤ B * D := by
    have := Nat.mul_le_mul_left B hD
    omega
  -- the whole run, all of whose counts are even at the end
  have hlen0 : sumN (fun i => len (sysOf ps q D e) (allTo ps.length (B * D + 1)) i 0) ps.length = ps.length * (B * D + 1) := by
    have : ∀ n, n ≤ ps.length → sumN (fun i => len (sysOf ps q D e) (allTo ps.length (B * D + 1)) i 0) n = n * (B * D + 1) := by
      intro n
      induction n with
      | zero => intro _; simp [sumN]
      | succ n ih =>
        intro hn
        have e0 : len (sysOf ps q D e) (allTo ps.length (B * D + 1)) n 0 = B * D + 1 := by
          show (allTo ps.length (B * D + 1) n).length = _
          unfold allTo
          rw [if_pos (by omega)]
          simp
        simp only [sumN, ih (by omega), e0]
        rw [Nat.add_mul, Nat.one_mul]
    exact this _ (Nat.le_refl _)
  have hlenN : sumN (fun i => len (sysOf ps q D e) (allTo ps.length (B * D + 1)) i (B * D)) ps.length + B * (q.toNat * D) ≤ ps.length * (B * D + 1) := by
    rw [← hw]
    have : ∀ n, n ≤ ps.length → sumN (fun i => len (sysOf ps q D e) (allTo ps.length (B * D + 1)) i (B * D)) n + B * sumN e n ≤ n * (B * D + 1) := by
      intro n
      induction n with
      | zero => intro _; simp [sumN]
      | succ n ih =>
        intro hn
        have h1 := ih (by omega)
        obtain ⟨c, c1, c2⟩ := run_range (Z := sysOf ps q D e) (M := B * D + 1) (B * D) (by omega) n (by show n < ps.length; omega)
        have c2 : (sysOf ps q D e).run (allTo ps.length (B * D + 1)) (B * D) n = List.range' c (B * D + 1 - c) := c2
        have hl : len (sysOf ps q D e) (allTo ps.length (B * D + 1)) n (B * D) = B * D + 1 - c := by
          show ((sysOf ps q D e).run (allTo ps.length (B * D + 1)) (B * D) n).length = _
          rw [c2]
          simp
        have hin : c ∈ (sysOf ps q D e).run (allTo ps.length (B * D + 1)) (B * D) n := by
          rw [c2]
          simp
          omega
        have hlate := never_late F (Nat.le_of_eq hw) (allTo_asc _ _) (allTo_out _ _) hin
        have hlate : e n * (B * D) < (c + 1) * D := hlate
        have hc : e n * B < c + 1 := by
          rw [← Nat.mul_assoc] at hlate
          exact Nat.lt_of_mul_lt_mul_right hlate
        have hb : B * e n = e n * B := Nat.mul_comm _ _
        simp only [sumN]
        rw [hl, Nat.mul_add, Nat.add_mul n 1, Nat.one_mul]
        omega
    exact this _ (Nat.le_refl _)
  -- each slot takes as many as there are processors
  have hstep : ∀ t, sumN (fun i => len (sysOf ps q D e) (allTo ps.length (B * D + 1)) i (t + 1)) ps.length + cntB (fun i => (sysOf ps q D e).tk ((sysOf ps q D e).run (allTo ps.length (B * D + 1)) t) t i) ps.length = sumN (fun i => len (sysOf ps q D e) (allTo ps.length (B * D + 1)) i t) ps.length := fun t => len_sum (sysOf ps q D e) (allTo ps.length (B * D + 1)) t
  have hmost : ∀ t, cntB (fun i => (sysOf ps q D e).tk ((sysOf ps q D e).run (allTo ps.length (B * D + 1)) t) t i) ps.length ≤ q.toNat := fun t => tk_le F _ t
  have hfall : ∀ t, sumN (fun i => len (sysOf ps q D e) (allTo ps.length (B * D + 1)) i 0) ps.length ≤ sumN (fun i => len (sysOf ps q D e) (allTo ps.length (B * D + 1)) i t) ps.length + t * q.toNat := by
    intro t
    induction t with
    | zero => omega
    | succ t ih =>
      have h1 := hstep t
      have h2 := hmost t
      rw [Nat.add_mul, Nat.one_mul]
      omega
  have hrest : ∀ t, t ≤ B * D → sumN (fun i => len (sysOf ps q D e) (allTo ps.length (B * D + 1)) i t) ps.length ≤ sumN (fun i => len (sysOf ps q D e) (allTo ps.length (B * D + 1)) i (B * D)) ps.length + (B * D - t) * q.toNat := by
    intro t ht
    obtain ⟨r, hr⟩ : ∃ r, B * D - t = r := ⟨_, rfl⟩
    induction r generalizing t with
    | zero =>
      have : t = B * D := by omega
      subst this
      omega
    | succ r ih =>
      have h1 := hstep t
      have h2 := hmost t
      have h3 := ih (t + 1) (by omega) (by omega)
      have e1 : B * D - (t + 1) = r := by omega
      rw [e1] at h3
      rw [hr, Nat.add_mul, Nat.one_mul]
      omega
  have hexact : cntB (fun i => (sysOf ps q D e).tk ((sysOf ps q D e).run (allTo ps.length (B * D + 1)) k) k i) ps.length = q.toNat := by
    have h1 := hstep k
    have h2 := hmost k
    have h3 := hfall k
    have h4 := hrest (k + 1) (by omega)
    have e1 : (B * D - (k + 1)) * q.toNat + (k + 1) * q.toNat = B * (q.toNat * D) := by
      rw [← Nat.add_mul, show B * D - (k + 1) + (k + 1) = B * D by omega, Nat.mul_assoc, Nat.mul_comm D]
    have e2 : (k + 1) * q.toNat = k * q.toNat + q.toNat := by rw [Nat.add_mul, Nat.one_mul]
    omega
  -- and these are the ones that the program takes
  unfold mList
  rw [listB_len, ← hexact]
  apply cnt_ext
  intro j hj
  have hr : ∀ j, j < ps.length → ∃ c : Nat, c ≤ k ∧ (mAt ps (List.replicate ps.length 0) q 0 k).getD j 0 = (c : Int) ∧ hd ((sysOf ps q D e).run (allTo ps.length (B * D + 1)) k) j = c ∧ (sysOf ps q D e).rdy ((sysOf ps q D e).run (allTo ps.length (B * D + 1)) k) k j = tnR ps (mAt ps (List.replicate ps.length 0) q 0 k) (k : Int) j := by
    intro j hj
    obtain ⟨c, c1, c2, c3, c4⟩ := follows (q := q) (M := B * D + 1) E k (by omega) (by omega) j hj
    have h : (sysOf ps q D e).run (allTo ps.length (B * D + 1)) k j = c :: List.range' (c + 1) (B * D + 1 - (c + 1)) := by
      rw [c3, show B * D + 1 - c = (B * D + 1 - (c + 1)) + 1 by omega, List.range'_succ]
    refine ⟨c, c1, c2, hd_cons h, ?_⟩
    rw [rdy_cons h, E.rdy hj c2 (by omega)]
    rfl
  obtain ⟨c, c1, c2, c3, c4⟩ := hr j hj
  have hp : (sysOf ps q D e).ah ((sysOf ps q D e).run (allTo ps.length (B * D + 1)) k) k j = place (goM ps (mAt ps (List.replicate ps.length 0) q 0 k)) (tnR ps (mAt ps (List.replicate ps.length 0) q 0 k) (k : Int)) ps.length j := by
    unfold Sys.ah place
    apply cnt_ext
    intro x hx
    obtain ⟨b, b1, b2, b3, b4⟩ := hr x hx
    rw [b3, b4, c3, E.goes hx b2 (by omega) hj c2 (by omega)]
    rfl
  unfold mTop topB
  have : (sysOf ps q D e).tk ((sysOf ps q D e).run (allTo ps.length (B * D + 1)) k) k j = ((sysOf ps q D e).rdy ((sysOf ps q D e).run (allTo ps.length (B * D + 1)) k) k j && decide ((sysOf ps q D e).ah ((sysOf ps q D e).run (allTo ps.length (B * D + 1)) k) k j < q.toNat)) := rfl
  rw [this, hp, c4, decide_eq_true hj, Bool.and_true]

end Go.Proofs.Ytjhenfdmbagaiaa.Top

namespace Go.Proofs.Ytjhenfdmbagaiaa.Top
open Go.Proofs.Ytjhenfdmbagaiaa.Win Go.Proofs.Ytjhenfdmbagaiaa.Crew

/-- The Nums together of those that are not whole. -/
def numS : List Shr → Nat
  | [] => 0
  | p :: ps => (if p.1 = p.2 then 0 else p.1.toNat) + numS ps

theorem parts_kind : ∀ (ps : List Shr) (d s d' s' : Int), ps.foldl partStep (some (d, s)) = some (d', s') → (∀ p ∈ ps, shareOk p.1 p.2 = true ∧ (p.1 = p.2 ∨ (p.1 < p.2 ∧ p.2 = d'))) ∧ (d ≠ 0 → d' = d) ∧ s' = s + numS ps := by
  intro ps
  induction ps with
  | nil =>
    intro d s d' s' h
    simp at h
    obtain ⟨rfl, rfl⟩ := h
    exact ⟨fun p hp => by (cases hp), fun _ => rfl, by simp [numS]⟩
  | cons x ps ih =>
    intro d s d' s' h
    rw [List.foldl_cons] at h
    cases hs : shareOk x.1 x.2
    · rw [step_bad hs, fold_none] at h; cases h
    · obtain ⟨x1, x2, x3⟩ := share_yes hs
      by_cases he : x.1 = x.2
      · rw [step_whole hs he] at h
        obtain ⟨h1, h2, h3⟩ := ih d s d' s' h
        refine ⟨fun p hp => ?_, h2, ?_⟩
        · rcases List.mem_cons.1 hp with rfl | hp
          · exact ⟨hs, .inl he⟩
          · exact h1 p hp
        · rw [h3, numS, if_pos he, Nat.zero_add]
      · by_cases h0 : d = 0 ∨ x.2 = d
        · rw [step_more hs he h0] at h
          obtain ⟨h1, h2, h3⟩ := ih x.2 (s + x.1) d' s' h
          have hd : d' = x.2 := h2 (by omega)
          refine ⟨fun p hp => ?_, fun hd0 => ?_, ?_⟩
          · rcases List.mem_cons.1 hp with rfl | hp
            · exact ⟨hs, .inr ⟨by omega, hd.symm⟩⟩
            · exact h1 p hp
          · omega
          · rw [h3, numS, if_neg he]
            push_cast
            omega
        · rw [step_two hs he (fun h => h0 (.inl h)) (fun h => h0 (.inr h)), fold_none] at h
          cases h

/-- Each one's part of D. -/
def parE (D : Nat) (ps : List Shr) (i : Nat) : Nat := (ps.map fun p => if p.1 = p.2 then D else p.1.toNat).getD i D

theorem sumN_snoc (f : Nat → Nat) (n : Nat) : sumN f (n + 1) = f 0 + sumN (fun i => f (i + 1)) n := by
  induction n with
  | zero => simp [sumN]
  | succ n ih =>
    rw [sumN, ih, sumN]
    omega

theorem parE_sum (D : Nat) (ps : List Shr) : sumN (parE D ps) ps.length = wholeN ps * D + numS ps := by
  induction ps with
  | nil => simp [sumN, wholeN, numS]
  | cons p ps ih =>
    rw [List.length_cons, sumN_snoc]
    have e : (fun i => parE D (p :: ps) (i + 1)) = parE D ps := by
      funext i
      simp [parE]
    rw [e, ih]
    have e0 : parE D (p :: ps) 0 = if p.1 = p.2 then D else p.1.toNat := by simp [parE]
    rw [e0, numS]
    by_cases h : p.1 = p.2
    · have hw : wholeN (p :: ps) = wholeN ps + 1 := by simp [wholeN, h]
      rw [if_pos h, if_pos h, hw, Nat.add_mul, Nat.one_mul]
      omega
    · have hw : wholeN (p :: ps) = wholeN ps := by simp [wholeN, h]
      rw [if_neg h, if_neg h, hw]
      omega

theorem parE_get {D : Nat} {ps : List Shr} {i : Nat} (hi : i < ps.length) : parE D ps i = if (ps.getD i (0, 0)).1 = (ps.getD i (0, 0)).2 then D else (ps.getD i (0, 0)).1.toNat := by
  simp [parE, List.getD, hi]

/-- Shares that fit are parts of one D, together at most as many as processors. -/
theorem fits_even {ps : List Shr} {q : Int} (h : fitsOn ps q = true) : ∃ (D : Nat) (e : Nat → Nat), EvenS ps D e ∧ sumN e ps.length ≤ q.toNat * D ∧ ∀ den sum, parts ps = some (den, sum) → sumN e ps.length = wholeN ps * D + sum.toNat ∧ (den ≠ 0 → (D : Int) = den) := by
  have hq := fits_proc h
  cases hp : parts ps with
  | none => rw [fits_none hp] at h; cases h
  | some r =>
    obtain ⟨den, sum⟩ := r
    obtain ⟨h1, h2, h3⟩ := parts_kind ps 0 0 den sum hp
    have hb := parts_bd ps _ hp
    simp only at hb
    have hwh : (wholeN ps : Int) ≤ q := by
      by_cases hh : (wholeN ps : Int) ≤ q
      · exact hh
      · rw [fits_many hh] at h; cases h
    have hpr : procsOk q = true := by
      cases hx : procsOk q
      · rw [fits_procs hx] at h; cases h
      · rfl
    rw [fits_is hpr (fits_len h) hp hwh, decide_eq_true_eq] at h
    obtain ⟨D, hD⟩ : ∃ D : Nat, D = if den = 0 then 1 else den.toNat := ⟨_, rfl⟩
    have hDp : 0 < D := by rw [hD]; split <;> omega
    have hDd : den ≠ 0 → (D : Int) = den := fun h0 => by rw [hD, if_neg h0]; omega
    have hsum : sumN (parE D ps) ps.length = wholeN ps * D + numS ps := parE_sum D ps
    have hs2 : sum = (numS ps : Int) := by rw [h3]; omega
    refine ⟨D, parE D ps, ⟨hDp, fun i => ?_, fun i hi => ?_⟩, ?_, fun den' sum' hx => ?_⟩
    · by_cases hi : i < ps.length
      · rw [parE_get hi]
        have hm := h1 (ps.getD i (0, 0)) (by simp [List.getD, hi])
        obtain ⟨n1, n2, n3⟩ := share_yes hm.1
        split
        · omega
        · rcases hm.2 with h5 | ⟨h5, h6⟩
          · omega
          · have := hDd (by omega)
            omega
      · have : parE D ps i = D := by simp [parE, List.getD, show ps.length ≤ i by omega]
        rw [this]
        omega
    · have hm := h1 (ps.getD i (0, 0)) (by simp [List.getD, hi])
      obtain ⟨n1, n2, n3⟩ := share_yes hm.1
      refine ⟨hm.1, ?_⟩
      rw [parE_get hi]
      by_cases h5 : (ps.getD i (0, 0)).1 = (ps.getD i (0, 0)).2
      · right
        exact ⟨h5, by rw [if_pos h5]⟩
      · left
        rw [if_neg h5]
        rcases hm.2 with h6 | ⟨h6, h7⟩
        · exact absurd h6 h5
        · have := hDd (by omega)
          omega
    · rw [hsum]
      obtain ⟨Q, hQ⟩ : ∃ Q : Nat, q = Q := ⟨q.toNat, by omega⟩
      subst hQ
      rw [Int.toNat_natCast]
      have hle : wholeN ps ≤ Q := by omega
      obtain ⟨R, rfl⟩ : ∃ R, Q = wholeN ps + R := ⟨Q - wholeN ps, by omega⟩
      rw [Nat.add_mul]
      by_cases h0 : den = 0
      · rw [h0] at h
        have : numS ps = 0 := by
          rw [hs2] at h
          simp at h
          omega
        omega
      · have hDen := hDd h0
        rw [← hDen, hs2] at h
        have e1 : (D : Int) * (((wholeN ps + R : Nat) : Int) - (wholeN ps : Int)) = ((D * R : Nat) : Int) := by
          push_cast
          rw [show (wholeN ps : Int) + (R : Int) - (wholeN ps : Int) = (R : Int) by omega]
        rw [e1] at h
        have : R * D = D * R := Nat.mul_comm _ _
        omega
    · rw [Option.some.injEq, Prod.mk.injEq] at hx
      obtain ⟨rfl, rfl⟩ := hx
      exact ⟨by rw [hsum, hs2, Int.toNat_natCast], hDd⟩

/-- A crew of more than processors has all of them. -/
theorem fair_even {ws : List Int} {q : Int} (hc : crewOk ws = true) (hp : procsOk q = true) (hl : q < (ws.length : Int)) : ∃ (D : Nat) (e : Nat → Nat), EvenS (adjusted ws q) D e ∧ sumN e (adjusted ws q).length = q.toNat * D := by
  obtain ⟨c, P, W, F⟩ := fairly hc hp
  obtain ⟨D, e, E, _, h2⟩ := fits_even (F.fits hc hp)
  refine ⟨D, e, E, ?_⟩
  have hq := procs_yes hp
  obtain ⟨h3, h4⟩ := h2 _ _ (F.parts hc)
  rw [h3, F.wholes hc, F.nums hc]
  have hle := F.le
  have hleft := F.left
  have hcl : c < ws.length := by
    by_cases hh : c < ws.length
    · exact hh
    · have := F.nonneg; omega
  rcases F.den hc with ⟨_, hd⟩ | ⟨hh, _⟩
  · have hr := F.rest hcl
    rw [hd] at h4
    have hW := h4 (by omega)
    obtain ⟨Q, hQ⟩ : ∃ Q : Nat, q = Q := ⟨q.toNat, by omega⟩
    obtain ⟨R, hR⟩ : ∃ R : Nat, P = R := ⟨P.toNat, by omega⟩
    subst hQ hR
    rw [← hW, Int.toNat_natCast]
    have e1 : ((D : Int) * (R : Int)).toNat = D * R := by
      rw [show (D : Int) * (R : Int) = ((D * R : Nat) : Int) by push_cast; rfl, Int.toNat_natCast]
    rw [e1]
    have : Q = c + R := by omega
    rw [this, Nat.add_mul, Nat.mul_comm D]
  · omega

end Go.Proofs.Ytjhenfdmbagaiaa.Top
