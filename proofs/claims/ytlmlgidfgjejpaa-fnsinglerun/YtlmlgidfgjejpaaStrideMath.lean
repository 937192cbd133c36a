/-
  Heaps in numbers: what a sift up and a sift down leave of the order, whatever the order is.
  Who has come least far, in numbers: an order of those that wait, the first of the least, a run.
-/
import Derived.Test.YtlmlgidfgjejpaaCrewBase
import Derived.Test.YtlmlgidfgjejpaaRatioBase
import Derived.Test.YtlmlgidfgjejpaaSmoothMath
import Derived.Test.YtlmlgidfgjejpaaSmoothFair
namespace Go.Proofs.Ytlmlgidfgjejpaa.Crew
open Go.ChangeShapes Go.WideShapes Go.ChangeAt Go.RowKit

/-- A total order, told by which one is strictly ahead. -/
structure Ordered (lt : Int → Int → Bool) : Prop where
  asym : ∀ a b, lt a b = true → lt b a = false
  trans : ∀ a b c, lt b a = false → lt c b = false → lt c a = false

/-- Nobody of the first n is ahead of whom it waits under. -/
def Heaped (lt : Int → Int → Bool) (f : Nat → Int) (n : Nat) : Prop := ∀ k, 0 < k → k < n → lt (f k) (f ((k - 1) / 2)) = false

/-- The same but at j, which may be ahead of whom it waits under. -/
structure Rising (lt : Int → Int → Bool) (f : Nat → Int) (n j : Nat) : Prop where
  rest : ∀ k, 0 < k → k < n → k ≠ j → lt (f k) (f ((k - 1) / 2)) = false
  over : ∀ k, 0 < k → k < n → (k - 1) / 2 = j → 0 < j → lt (f k) (f ((j - 1) / 2)) = false

/-- The same but under i: who waits there may be ahead of it. -/
structure Sinking (lt : Int → Int → Bool) (f : Nat → Int) (n i : Nat) : Prop where
  rest : ∀ k, 0 < k → k < n → (k - 1) / 2 ≠ i → lt (f k) (f ((k - 1) / 2)) = false
  over : ∀ k, 0 < k → k < n → (k - 1) / 2 = i → 0 < i → lt (f k) (f ((i - 1) / 2)) = false

/-- Two change places. -/
def swapF (f : Nat → Int) (i j : Nat) : Nat → Int := fun k => if k = j then f i else if k = i then f j else f k

theorem swapF_j (f : Nat → Int) (i j : Nat) : swapF f i j j = f i := by simp [swapF]

theorem swapF_i (f : Nat → Int) (i j : Nat) : swapF f i j i = f j := by
  by_cases h : i = j
  · simp [swapF, h]
  · simp [swapF, h]

theorem swapF_k (f : Nat → Int) {i j k : Nat} (h1 : k ≠ i) (h2 : k ≠ j) : swapF f i j k = f k := by simp [swapF, h1, h2]

theorem Heaped.rising {lt : Int → Int → Bool} {f : Nat → Int} {n : Nat} (h : Heaped lt f n) : Rising lt f (n + 1) n :=
  ⟨fun k h0 hk hne => h k h0 (by omega), fun k h0 hk hp _ => by omega⟩

theorem rising_root {lt : Int → Int → Bool} {f : Nat → Int} {n : Nat} (h : Rising lt f n 0) : Heaped lt f n := fun k h0 hk => h.rest k h0 hk (by omega)

theorem rising_end {lt : Int → Int → Bool} {f : Nat → Int} {n j : Nat} (h : Rising lt f n j) (hj : lt (f j) (f ((j - 1) / 2)) = false) : Heaped lt f n := fun k h0 hk => by
  by_cases e : k = j
  · rw [e]; exact hj
  · exact h.rest k h0 hk e

theorem rising_step {lt : Int → Int → Bool} (O : Ordered lt) {f : Nat → Int} {n j i : Nat} (h : Rising lt f n j) (hi : i = (j - 1) / 2) (h0 : 0 < j) (hn : j < n) (hj : lt (f j) (f i) = true) : Rising lt (swapF f i j) n i := by
  have hij : i ≠ j := by omega
  have hle := O.asym _ _ hj
  refine ⟨fun k k0 kn ki => ?_, fun k k0 kn kp i0 => ?_⟩
  · by_cases e : k = j
    · subst e
      rw [← hi, swapF_j, swapF_i]
      exact hle
    by_cases e2 : (k - 1) / 2 = j
    · rw [e2, swapF_j, swapF_k f ki e]
      have := h.over k k0 kn e2 h0
      rwa [← hi] at this
    by_cases e3 : (k - 1) / 2 = i
    · rw [e3, swapF_i, swapF_k f ki e]
      have := h.rest k k0 kn e
      rw [e3] at this
      exact O.trans _ _ _ hle this
    · rw [swapF_k f ki e, swapF_k f e3 e2]
      exact h.rest k k0 kn e
  · have hr := h.rest i i0 (by omega) hij
    rw [swapF_k f (show (i - 1) / 2 ≠ i by omega) (show (i - 1) / 2 ≠ j by omega)]
    by_cases e : k = j
    · rw [e, swapF_j]; exact hr
    · rw [swapF_k f (by omega) e]
      have := h.rest k k0 kn e
      rw [kp] at this
      exact O.trans _ _ _ hr this

theorem sinking_leaf {lt : Int → Int → Bool} {f : Nat → Int} {n i : Nat} (h : Sinking lt f n i) (hn : n ≤ 2 * i + 1) : Heaped lt f n := fun k h0 hk => h.rest k h0 hk (by omega)

/-- The lesser one of who waits under i is at j. -/
def LeastUnder (lt : Int → Int → Bool) (f : Nat → Int) (n i j : Nat) : Prop := 0 < j ∧ j < n ∧ (j - 1) / 2 = i ∧ ∀ k, 0 < k → k < n → (k - 1) / 2 = i → lt (f k) (f j) = false

theorem sinking_end {lt : Int → Int → Bool} (O : Ordered lt) {f : Nat → Int} {n i j : Nat} (h : Sinking lt f n i) (L : LeastUnder lt f n i j) (hj : lt (f j) (f i) = false) : Heaped lt f n := fun k h0 hk => by
  by_cases e : (k - 1) / 2 = i
  · rw [e]; exact O.trans _ _ _ hj (L.2.2.2 k h0 hk e)
  · exact h.rest k h0 hk e

theorem sinking_step {lt : Int → Int → Bool} (O : Ordered lt) {f : Nat → Int} {n i j : Nat} (h : Sinking lt f n i) (L : LeastUnder lt f n i j) (hj : lt (f j) (f i) = true) : Sinking lt (swapF f i j) n j := by
  obtain ⟨j0, jn, jp, jl⟩ := L
  have hij : i ≠ j := by omega
  have hle := O.asym _ _ hj
  refine ⟨fun k k0 kn kp => ?_, fun k k0 kn kp _ => ?_⟩
  · by_cases e : k = j
    · subst e
      rw [jp, swapF_j, swapF_i]
      exact hle
    by_cases e2 : (k - 1) / 2 = i
    · rw [e2, swapF_i, swapF_k f (by omega) e]
      exact jl k k0 kn e2
    by_cases e3 : k = i
    · subst e3
      rw [swapF_i, swapF_k f e2 kp]
      exact h.over j j0 jn jp k0
    · rw [swapF_k f e3 e, swapF_k f e2 kp]
      exact h.rest k k0 kn e2
  · rw [jp, swapF_i, swapF_k f (by omega) (by omega)]
    have := h.rest k k0 kn (by omega)
    rwa [kp] at this

theorem sinking_root {lt : Int → Int → Bool} {f : Nat → Int} {n : Nat} (h : ∀ k, 0 < k → k < n → (k - 1) / 2 ≠ 0 → lt (f k) (f ((k - 1) / 2)) = false) : Sinking lt f n 0 := ⟨h, fun _ _ _ _ h0 => by omega⟩

/-- Nobody is ahead of who waits on top. -/
theorem heaped_top {lt : Int → Int → Bool} (O : Ordered lt) {f : Nat → Int} {n : Nat} (h : Heaped lt f n) (hr : ∀ a, lt a a = false) : ∀ k, k < n → lt (f k) (f 0) = false := by
  intro k
  induction k using Nat.strongRecOn with
  | ind k ih =>
    intro hk
    by_cases h0 : k = 0
    · rw [h0]; exact hr _
    · exact O.trans _ _ _ (ih ((k - 1) / 2) (by omega) (by omega)) (h k (by omega) hk)

/-- Two of a list change places. -/
def swapL (ws : List Int) (i j : Nat) : List Int := (ws.set i (ws.getD j 0)).set j (ws.getD i 0)

theorem swapL_length (ws : List Int) (i j : Nat) : (swapL ws i j).length = ws.length := by simp [swapL]

theorem swapL_get (ws : List Int) {i j : Nat} (hi : i < ws.length) (hj : j < ws.length) (k : Nat) : (swapL ws i j).getD k 0 = swapF (fun k => ws.getD k 0) i j k := by
  unfold swapL swapF
  simp only [List.getD, List.getElem?_set]
  by_cases e : k = j
  · subst e; simp [hj]
  · by_cases e2 : k = i
    · subst e2; simp [e, Ne.symm e, hi]
    · simp [e, e2, Ne.symm e, Ne.symm e2]

theorem swapL_perm (ws : List Int) {i j : Nat} (hi : i < ws.length) (hj : j < ws.length) : (swapL ws i j).Perm ws := by
  have := List.set_set_perm hi hj
  unfold swapL
  rw [show ws.getD i 0 = ws[i] by simp [List.getD, hi], show ws.getD j 0 = ws[j] by simp [List.getD, hj]]
  exact this

/-- The list as a function. -/
def gd (ws : List Int) : Nat → Int := fun k => ws.getD k 0

theorem gd_swap (ws : List Int) {i j : Nat} (hi : i < ws.length) (hj : j < ws.length) : gd (swapL ws i j) = swapF (gd ws) i j := by
  funext k
  exact swapL_get ws hi hj k

end Go.Proofs.Ytlmlgidfgjejpaa.Crew

namespace Go.Proofs.Ytlmlgidfgjejpaa.Crew
open Go.ChangeShapes Go.WideShapes Go.ChangeAt Go.RowKit

/-- A number's weight (1 beyond the crew), its count. -/
def cw (cs : List Int) (i : Int) : Int := if 1 ≤ cs.getD i.toNat 0 then cs.getD i.toNat 0 else 1

def cn (ns : List Int) (i : Int) : Int := ns.getD i.toNat 0

theorem cw_pos (cs : List Int) (i : Int) : 0 < cw cs i := by
  unfold cw
  split <;> omega

/-- i has come less far than j. -/
def early (cs ns : List Int) (i j : Int) : Bool := decide (cn ns i * cw cs j < cn ns j * cw cs i)

/-- i waits ahead of j. -/
def aheadOf (cs ns : List Int) (i j : Int) : Bool := early cs ns i j || (!early cs ns j i && decide (i < j))

theorem cross_lt {a b c d e f : Int} (hd : 0 < d) (hf : 0 < f) (hb : 0 < b) (h1 : a * d < c * b) (h2 : c * f ≤ e * d) : a * f < e * b := by
  have k1 : a * d * f < c * b * f := Int.mul_lt_mul_of_pos_right h1 hf
  have k2 : c * f * b ≤ e * d * b := Int.mul_le_mul_of_nonneg_right h2 (Int.le_of_lt hb)
  have e1 : a * d * f = a * f * d := by rw [Int.mul_right_comm]
  have e2 : c * b * f = c * f * b := by rw [Int.mul_right_comm]
  have e3 : e * d * b = e * b * d := by rw [Int.mul_right_comm]
  rw [e1, e2] at k1
  rw [e3] at k2
  exact Int.lt_of_mul_lt_mul_right (Int.lt_of_lt_of_le k1 k2) (Int.le_of_lt hd)

theorem cross_le {a b c d e f : Int} (hd : 0 < d) (hf : 0 < f) (hb : 0 < b) (h1 : a * d ≤ c * b) (h2 : c * f ≤ e * d) : a * f ≤ e * b := by
  have k1 : a * d * f ≤ c * b * f := Int.mul_le_mul_of_nonneg_right h1 (Int.le_of_lt hf)
  have k2 : c * f * b ≤ e * d * b := Int.mul_le_mul_of_nonneg_right h2 (Int.le_of_lt hb)
  have e1 : a * d * f = a * f * d := by rw [Int.mul_right_comm]
  have e2 : c * b * f = c * f * b := by rw [Int.mul_right_comm]
  have e3 : e * d * b = e * b * d := by rw [Int.mul_right_comm]
  rw [e1, e2] at k1
  rw [e3] at k2
  exact Int.le_of_mul_le_mul_right (Int.le_trans k1 k2) hd

theorem ahead_iff (cs ns : List Int) (i j : Int) : aheadOf cs ns i j = true ↔ cn ns i * cw cs j < cn ns j * cw cs i ∨ (cn ns i * cw cs j ≤ cn ns j * cw cs i ∧ i < j) := by
  simp [aheadOf, early]

theorem ahead_no (cs ns : List Int) (i j : Int) : aheadOf cs ns i j = false ↔ cn ns j * cw cs i < cn ns i * cw cs j ∨ (cn ns j * cw cs i ≤ cn ns i * cw cs j ∧ j ≤ i) := by
  rw [Bool.eq_false_iff, Ne, ahead_iff]
  omega

theorem ahead_order (cs ns : List Int) : Ordered (aheadOf cs ns) := by
  constructor
  · intro a b h
    rw [ahead_iff] at h
    rw [ahead_no]
    omega
  · intro a b c h1 h2
    rw [ahead_no] at h1 h2 ⊢
    have pa := cw_pos cs a
    have pb := cw_pos cs b
    have pc := cw_pos cs c
    rcases h1 with h1 | ⟨h1, i1⟩
    · left
      exact cross_lt pb pc pa h1 (by rcases h2 with h2 | ⟨h2, _⟩ <;> omega)
    · rcases h2 with h2 | ⟨h2, i2⟩
      · left
        have := cross_le pb pc pa h1 (Int.le_of_lt h2)
        rcases Int.lt_or_eq_of_le this with h | h
        · exact h
        · exfalso
          have hh : cn ns c * cw cs a ≤ cn ns a * cw cs c := by omega
          have := cross_le pa pb pc hh h1
          omega
      · right
        exact ⟨cross_le pb pc pa h1 h2, by omega⟩

theorem ahead_self (cs ns : List Int) (a : Int) : aheadOf cs ns a a = false := by
  rw [ahead_no]
  right
  exact ⟨Int.le_refl _, Int.le_refl _⟩

theorem ahead_one {cs ns : List Int} {a b : Int} (h1 : aheadOf cs ns a b = false) (h2 : aheadOf cs ns b a = false) : a = b := by
  rw [ahead_no] at h1 h2
  omega

/-- The first one of the first k that have come least far. -/
def lastTo (cs ns : List Int) : Nat → Nat
  | 0 => 0
  | k + 1 => if early cs ns (k : Int) ((lastTo cs ns k : Nat) : Int) then k else lastTo cs ns k

def lastOf (cs ns : List Int) : Nat := lastTo cs ns cs.length

theorem early_self (cs ns : List Int) (a : Int) : early cs ns a a = false := by simp [early]

theorem lastTo_one (cs ns : List Int) : lastTo cs ns 1 = 0 := by
  rw [lastTo]
  split <;> rfl

theorem lastTo_spec (cs ns : List Int) : ∀ k, 0 < k → lastTo cs ns k < k ∧ ∀ i : Nat, i < k → aheadOf cs ns (i : Int) ((lastTo cs ns k : Nat) : Int) = false := by
  intro k
  induction k with
  | zero => intro h; omega
  | succ k ih =>
    intro _
    by_cases h0 : k = 0
    · subst h0
      rw [lastTo_one]
      refine ⟨by omega, fun i hi => ?_⟩
      have : i = 0 := by omega
      subst this
      exact ahead_self _ _ _
    · obtain ⟨h1, h2⟩ := ih (by omega)
      rw [lastTo]
      split
      · rename_i he
        refine ⟨by omega, fun i hi => ?_⟩
        have hk : aheadOf cs ns (k : Int) ((lastTo cs ns k : Nat) : Int) = true := by rw [aheadOf, he]; rfl
        by_cases e : i = k
        · rw [e]; exact ahead_self _ _ _
        · exact (ahead_order cs ns).trans _ _ _ ((ahead_order cs ns).asym _ _ hk) (h2 i (by omega))
      · rename_i he
        refine ⟨by omega, fun i hi => ?_⟩
        by_cases e : i = k
        · rw [e, aheadOf]
          have : early cs ns (k : Int) ((lastTo cs ns k : Nat) : Int) = false := by simpa using he
          rw [this]
          have hd : decide ((k : Int) < ((lastTo cs ns k : Nat) : Int)) = false := by simp; omega
          rw [hd]
          simp
        · exact h2 i (by omega)

/-- The numbers from 0 on. -/
def idxL (n : Nat) : List Int := (List.range n).map (fun i : Nat => (i : Int))

theorem idxL_mem {n : Nat} {x : Int} : x ∈ idxL n ↔ 0 ≤ x ∧ x < n := by
  simp only [idxL, List.mem_map, List.mem_range]
  constructor
  · rintro ⟨i, hi, rfl⟩; omega
  · intro h; exact ⟨x.toNat, by omega, by omega⟩

theorem idxL_length (n : Nat) : (idxL n).length = n := by simp [idxL]

theorem idxL_succ (n : Nat) : idxL (n + 1) = idxL n ++ [(n : Int)] := by simp [idxL, List.range_succ]

theorem idxL_nodup (n : Nat) : (idxL n).Nodup := by
  unfold idxL
  exact List.Pairwise.map _ (fun a b (h : a ≠ b) => by omega) List.nodup_range

/-- Who waits on top is the first of those that have come least far. -/
theorem top_last {cs ns ws : List Int} (hn : 0 < cs.length) (hp : ws.Perm (idxL cs.length)) (hh : Heaped (aheadOf cs ns) (gd ws) cs.length) : gd ws 0 = ((lastOf cs ns : Nat) : Int) := by
  have hl : ws.length = cs.length := by rw [hp.length_eq, idxL_length]
  obtain ⟨h1, h2⟩ := lastTo_spec cs ns cs.length hn
  have ht := heaped_top (ahead_order cs ns) hh (ahead_self cs ns)
  have hm : gd ws 0 ∈ idxL cs.length := hp.mem_iff.1 (by
    have : gd ws 0 = ws[0]'(by omega) := by simp [gd, List.getD, show 0 < ws.length by omega]
    rw [this]; exact List.getElem_mem _)
  rw [idxL_mem] at hm
  have hm2 : ((lastOf cs ns : Nat) : Int) ∈ ws := hp.mem_iff.2 (by rw [idxL_mem]; unfold lastOf; omega)
  obtain ⟨k, hk, e⟩ := List.getElem_of_mem hm2
  have hk' : gd ws k = ((lastOf cs ns : Nat) : Int) := by simp [gd, List.getD, hk, e]
  have a1 := ht k (by omega)
  rw [hk'] at a1
  have a2 := h2 (gd ws 0).toNat (by omega)
  rw [show (((gd ws 0).toNat : Nat) : Int) = gd ws 0 by omega] at a2
  exact ahead_one a2 a1

/-- One turn. -/
def turnL (cs ns : List Int) : List Int := ns.set (lastOf cs ns) (ns.getD (lastOf cs ns) 0 + 1)

/-- The counts behind k turns, and who it was. -/
def countsAt (cs ns : List Int) : Nat → List Int
  | 0 => ns
  | k + 1 => turnL cs (countsAt cs ns k)

def whoTo (cs ns : List Int) : Nat → List Int
  | 0 => []
  | k + 1 => whoTo cs ns k ++ [((lastOf cs (countsAt cs ns k) : Nat) : Int)]

theorem countsAt_succ (cs ns : List Int) (k : Nat) : countsAt cs ns (k + 1) = turnL cs (countsAt cs ns k) := rfl

theorem whoTo_succ (cs ns : List Int) (k : Nat) : whoTo cs ns (k + 1) = whoTo cs ns k ++ [((lastOf cs (countsAt cs ns k) : Nat) : Int)] := rfl

theorem turnL_length (cs ns : List Int) : (turnL cs ns).length = ns.length := by simp [turnL]

theorem countsAt_length (cs ns : List Int) (k : Nat) : (countsAt cs ns k).length = ns.length := by
  induction k with
  | zero => rfl
  | succ k ih => rw [countsAt_succ, turnL_length, ih]

theorem whoTo_length (cs ns : List Int) (k : Nat) : (whoTo cs ns k).length = k := by
  induction k with
  | zero => rfl
  | succ k ih => rw [whoTo_succ]; simp [ih]

theorem whoTo_take (cs ns : List Int) {k N : Nat} (h : k ≤ N) : (whoTo cs ns N).take k = whoTo cs ns k := by
  induction N with
  | zero => have : k = 0 := by omega
            subst this; rfl
  | succ N ih =>
    by_cases e : k = N + 1
    · subst e; exact List.take_of_length_le (by rw [whoTo_length]; omega)
    · rw [whoTo_succ, List.take_append_of_le_length (by rw [whoTo_length]; omega)]
      exact ih (by omega)

theorem last_in {cs : List Int} (hc : crewOk cs = true) (ns : List Int) : lastOf cs ns < cs.length := (lastTo_spec cs ns cs.length (by have := crew_len hc; omega)).1

theorem turn_get {cs ns : List Int} (hc : crewOk cs = true) (hl : ns.length = cs.length) (i : Nat) : (turnL cs ns).getD i 0 = if i = lastOf cs ns then ns.getD (lastOf cs ns) 0 + 1 else ns.getD i 0 := by
  rw [turnL, getD_set _ _ _ _ (by have := last_in hc ns; omega)]

theorem sum_turn {cs ns : List Int} (hc : crewOk cs = true) (hl : ns.length = cs.length) : sumI (turnL cs ns) = sumI ns + 1 := by
  rw [turnL, sumI_set _ _ _ (by have := last_in hc ns; omega)]
  omega

/-- Counts that a run passes through: from 0 on, and no greater than m more than MaxTime. -/
structure Counted (cs ns : List Int) (m : Nat) : Prop where
  crew : crewOk cs = true
  len : ns.length = cs.length
  nat : ∀ i, 0 ≤ ns.getD i 0
  top : ∀ i, ns.getD i 0 ≤ 1000000 + (m : Int)

theorem Counted.turn {cs ns : List Int} {m : Nat} (h : Counted cs ns m) : Counted cs (turnL cs ns) (m + 1) := by
  refine ⟨h.crew, by rw [turnL_length, h.len], fun i => ?_, fun i => ?_⟩
  · rw [turn_get h.crew h.len]
    have h1 := h.nat i
    have h2 := h.nat (lastOf cs ns)
    split <;> omega
  · rw [turn_get h.crew h.len]
    have h1 := h.top i
    have h2 := h.top (lastOf cs ns)
    split <;> omega

theorem get_out {xs : List Int} {i : Nat} (h : xs.length ≤ i) : xs.getD i 0 = 0 := by simp [List.getD, List.getElem?_eq_none h]

theorem counted_start {cs ns : List Int} (h : countsOk cs ns = true) : Counted cs ns 0 := by
  obtain ⟨h1, h2, h3, _⟩ := counts_parts h
  have hb : ∀ i, 0 ≤ ns.getD i 0 ∧ ns.getD i 0 ≤ 1000000 := fun i => by
    by_cases hi : i < ns.length
    · have := List.all_eq_true.1 h3 ns[i] (List.getElem_mem hi)
      have := within_yes this
      simpa [List.getD, hi] using this
    · rw [get_out (by omega)]; omega
  exact ⟨h1, h2, fun i => (hb i).1, fun i => by have := (hb i).2; omega⟩

theorem counted_at {cs ns : List Int} (h : countsOk cs ns = true) (k : Nat) : Counted cs (countsAt cs ns k) k := by
  induction k with
  | zero => exact counted_start h
  | succ k ih => exact ih.turn

theorem sum_at {cs ns : List Int} (h : countsOk cs ns = true) (k : Nat) : sumI (countsAt cs ns k) = sumI ns + k := by
  induction k with
  | zero => simp [countsAt]
  | succ k ih => rw [countsAt_succ, sum_turn (counted_at h k).crew (counted_at h k).len, ih]; omega

/-- They are right counts then just if they are not too many. -/
theorem ok_at {cs ns : List Int} (h : countsOk cs ns = true) (k : Nat) : countsOk cs (countsAt cs ns k) = decide (sumI ns + k ≤ 1000000) := by
  have C := counted_at h k
  have S := sum_at h k
  by_cases hs : sumI ns + (k : Int) ≤ 1000000
  · have ha : cnts (countsAt cs ns k) = true := by
      refine List.all_eq_true.2 fun x hx => ?_
      obtain ⟨i, hi, e⟩ := List.getElem_of_mem hx
      have e' : (countsAt cs ns k).getD i 0 = x := by simp [List.getD, hi, e]
      have h1 := C.nat i
      have h2 := sum_one 0 (Int.le_refl _) (countsAt cs ns k) (fun j _ => C.nat j) i hi
      rw [e'] at h1 h2
      simp [within]
      omega
    rw [counts_end C.crew C.len ha, S]
  · rw [decide_eq_false hs]
    cases hk : countsOk cs (countsAt cs ns k)
    · rfl
    · have ha := (counts_parts hk).2.2.1
      rw [counts_end C.crew C.len ha, S] at hk
      simp at hk
      omega

/-- What LessFrac says of two of a crew. -/
theorem frac_early {cs ns : List Int} {m : Nat} (h : Counted cs ns m) (hm : m ≤ 3000) {i j : Nat} (hi : i < cs.length) (hj : j < cs.length) : Ratio.fracLess (ns.getD i 0) (cs.getD i 0) (ns.getD j 0) (cs.getD j 0) = early cs ns (i : Int) (j : Int) := by
  have g : ∀ k, k < cs.length → 1 ≤ cs.getD k 0 ∧ cs.getD k 0 ≤ 1000000 := fun k hk => by
    have := crew_mem h.crew (List.getElem_mem hk)
    simpa [List.getD, hk] using this
  have hi1 := g i hi
  have hj1 := g j hj
  have ni := h.nat i
  have nj := h.nat j
  have ti := h.top i
  have tj := h.top j
  have r1 : Ratio.inR (ns.getD i 0) = true := by unfold Ratio.inR; exact decide_eq_true (by omega)
  have r2 : Ratio.inR (cs.getD i 0) = true := by unfold Ratio.inR; exact decide_eq_true (by omega)
  have r3 : Ratio.inR (ns.getD j 0) = true := by unfold Ratio.inR; exact decide_eq_true (by omega)
  have r4 : Ratio.inR (cs.getD j 0) = true := by unfold Ratio.inR; exact decide_eq_true (by omega)
  have z1 : (cs.getD i 0 == 0) = false := by rw [beq_eq_false_iff_ne]; omega
  have z2 : (cs.getD j 0 == 0) = false := by rw [beq_eq_false_iff_ne]; omega
  rw [Ratio.fracLess, r1, r2, r3, r4, z1, z2, early, cn, cn, cw, cw]
  simp only [Int.toNat_natCast]
  rw [if_pos hi1.1, if_pos hj1.1]
  rfl

/-- From no turn on nobody is further by more than a turn of its own. -/
def Evenly (cs ns : List Int) : Prop := ∀ i j, i < cs.length → j < cs.length → (ns.getD i 0 - 1) * cs.getD j 0 ≤ ns.getD j 0 * cs.getD i 0

theorem weight_at {cs : List Int} (h : crewOk cs = true) {i : Nat} (hi : i < cs.length) : 1 ≤ cs.getD i 0 ∧ cs.getD i 0 ≤ 1000000 := by
  have := crew_mem h (List.getElem_mem hi)
  simpa [List.getD, hi] using this

theorem cw_get {cs : List Int} (h : crewOk cs = true) {i : Nat} (hi : i < cs.length) : cw cs (i : Int) = cs.getD i 0 := by
  rw [cw, Int.toNat_natCast, if_pos (weight_at h hi).1]

theorem evenly_turn {cs ns : List Int} {m : Nat} (h : Counted cs ns m) (E : Evenly cs ns) : Evenly cs (turnL cs ns) := by
  intro i j hi hj
  have ht := last_in h.crew ns
  have wi := weight_at h.crew hi
  have wj := weight_at h.crew hj
  rw [turn_get h.crew h.len, turn_get h.crew h.len]
  by_cases e1 : i = lastOf cs ns
  · rw [if_pos e1]
    have hl := (lastTo_spec cs ns cs.length (by omega)).2 j hj
    rw [ahead_no] at hl
    have hl' : cn ns ((lastOf cs ns : Nat) : Int) * cw cs (j : Int) ≤ cn ns (j : Int) * cw cs ((lastOf cs ns : Nat) : Int) := by
      unfold lastOf
      rcases hl with h | ⟨h, _⟩ <;> omega
    rw [cw_get h.crew hj, cw_get h.crew ht, cn, cn, Int.toNat_natCast, Int.toNat_natCast, ← e1] at hl'
    rw [← e1]
    have : ns.getD i 0 + 1 - 1 = ns.getD i 0 := by omega
    rw [this]
    split
    · rename_i e2
      rw [Int.add_mul, e2]
      rw [e2] at hl'
      omega
    · exact hl'
  · rw [if_neg e1]
    have hE := E i j hi hj
    split
    · rename_i e2
      rw [← e2, Int.add_mul]
      omega
    · exact hE

theorem zero_ok {cs : List Int} (hc : crewOk cs = true) : countsOk cs (zerosOf cs) = true := by
  have ha : cnts (zerosOf cs) = true := by
    refine List.all_eq_true.2 fun x hx => ?_
    have : x = 0 := (List.mem_replicate.1 hx).2
    subst this
    rfl
  rw [counts_end hc (by simp [zerosOf]) ha, zerosOf, sum_zeros]
  rfl

theorem evenly_at {cs : List Int} (hc : crewOk cs = true) (k : Nat) : Evenly cs (countsAt cs (zerosOf cs) k) := by
  induction k with
  | zero =>
    intro i j hi hj
    show ((zerosOf cs).getD i 0 - 1) * cs.getD j 0 ≤ (zerosOf cs).getD j 0 * cs.getD i 0
    rw [zerosOf, getD_zeros, getD_zeros]
    have := weight_at hc hj
    omega
  | succ k ih => exact evenly_turn (counted_at (zero_ok hc) k) ih

/-- Behind as many turns as all weights together each had its weight. -/
theorem evenly_end {cs : List Int} (hc : crewOk cs = true) : countsAt cs (zerosOf cs) (sumI cs).toNat = cs := by
  have C := counted_at (zero_ok hc) (sumI cs).toNat
  have S := sum_at (zero_ok hc) (sumI cs).toNat
  have E := evenly_at hc (sumI cs).toNat
  generalize countsAt cs (zerosOf cs) (sumI cs).toNat = ns at *
  have hT : 0 ≤ sumI cs := by
    have h1 := sum_one 0 (Int.le_refl _) cs (fun j hj => by have := weight_at hc hj; omega) 0 (by have := crew_len hc; omega)
    have h2 := weight_at hc (show 0 < cs.length by have := crew_len hc; omega)
    omega
  rw [zerosOf, sum_zeros, show ((sumI cs).toNat : Int) = sumI cs by omega] at S
  refine sum_le_eq ns cs C.len (fun i hi => ?_) (by omega)
  by_cases h : cs.getD i 0 < ns.getD i 0
  · exfalso
    have wi := weight_at hc hi
    have hall : ∀ j, j < cs.length → cs.getD j 0 ≤ ns.getD j 0 := fun j hj => by
      have wj := weight_at hc hj
      have e := E i j hi hj
      have h1 : cs.getD i 0 * cs.getD j 0 ≤ (ns.getD i 0 - 1) * cs.getD j 0 := Int.mul_le_mul_of_nonneg_right (by omega) (by omega)
      have h2 : cs.getD j 0 * cs.getD i 0 ≤ ns.getD j 0 * cs.getD i 0 := by rw [Int.mul_comm]; omega
      exact Int.le_of_mul_le_mul_right h2 (by omega)
    have := sum_le_eq cs ns C.len.symm (fun j hj => hall j (by rw [← C.len]; exact hj)) (by omega)
    rw [this] at h
    omega
  · omega

end Go.Proofs.Ytlmlgidfgjejpaa.Crew
