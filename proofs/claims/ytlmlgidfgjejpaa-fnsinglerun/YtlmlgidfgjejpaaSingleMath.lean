/-
  One processor by windows, in numbers: who is due first of those that are ready, a run, and that from no turn on nobody is ever a whole turn ahead or behind.
-/
import Derived.Test.YtlmlgidfgjejpaaStrideMath
import Derived.Test.YtlmlgidfgjejpaaWinBase
namespace Go.Proofs.Ytlmlgidfgjejpaa.Crew

/-- When the next turn of i is ready. -/
def rdyN (cs ns : List Int) (i : Nat) : Int := ns.getD i 0 * sumI cs / cs.getD i 0

/-- When the next turn of i is due. -/
def dueN (cs ns : List Int) (i : Nat) : Int := ((ns.getD i 0 + 1) * sumI cs + cs.getD i 0 - 1) / cs.getD i 0

/-- May the next turn of i be taken? -/
def mayN (cs ns : List Int) (i : Nat) : Bool := decide (ns.getD i 0 < 1000000) && decide (rdyN cs ns i ≤ sumI ns)

/-- The first one of the first k that are due earliest of those that may be taken; -1 where there is none. -/
def sgTo (cs ns : List Int) : Nat → Int
  | 0 => -1
  | k + 1 => if mayN cs ns k && (decide (sgTo cs ns k < 0) || decide (dueN cs ns k < dueN cs ns (sgTo cs ns k).toNat)) then (k : Int) else sgTo cs ns k

/-- When that one is due; 0 where there is none. -/
def sgDue (cs ns : List Int) (k : Nat) : Int := if sgTo cs ns k < 0 then 0 else dueN cs ns (sgTo cs ns k).toNat

def sgOf (cs ns : List Int) : Int := sgTo cs ns cs.length

theorem sgTo_not {cs ns : List Int} {k : Nat} (h : mayN cs ns k = false) : sgTo cs ns (k + 1) = sgTo cs ns k := by rw [sgTo, h]; simp

theorem sgTo_stay {cs ns : List Int} {k : Nat} (h1 : ¬ sgTo cs ns k < 0) (h2 : ¬ dueN cs ns k < sgDue cs ns k) : sgTo cs ns (k + 1) = sgTo cs ns k := by
  rw [sgDue, if_neg h1] at h2
  rw [sgTo, decide_eq_false h1, decide_eq_false h2]
  simp

theorem sgTo_first {cs ns : List Int} {k : Nat} (h : mayN cs ns k = true) (h1 : sgTo cs ns k < 0) : sgTo cs ns (k + 1) = (k : Int) := by
  rw [sgTo, h, decide_eq_true h1]
  simp

theorem sgTo_less {cs ns : List Int} {k : Nat} (h : mayN cs ns k = true) (h1 : ¬ sgTo cs ns k < 0) (h2 : dueN cs ns k < sgDue cs ns k) : sgTo cs ns (k + 1) = (k : Int) := by
  rw [sgDue, if_neg h1] at h2
  rw [sgTo, h, decide_eq_true h2]
  simp

theorem sgDue_take {cs ns : List Int} {k : Nat} (h : sgTo cs ns (k + 1) = (k : Int)) : sgDue cs ns (k + 1) = dueN cs ns k := by
  rw [sgDue, h, if_neg (by omega), Int.toNat_natCast]

theorem sgDue_keep {cs ns : List Int} {k : Nat} (h : sgTo cs ns (k + 1) = sgTo cs ns k) : sgDue cs ns (k + 1) = sgDue cs ns k := by
  rw [sgDue, sgDue, h]

theorem sgTo_spec (cs ns : List Int) : ∀ k : Nat, -1 ≤ sgTo cs ns k ∧ sgTo cs ns k < (k : Int) ∧ (sgTo cs ns k < 0 → ∀ i, i < k → mayN cs ns i = false) ∧ (0 ≤ sgTo cs ns k → mayN cs ns (sgTo cs ns k).toNat = true ∧ ∀ i, i < k → mayN cs ns i = true → dueN cs ns (sgTo cs ns k).toNat ≤ dueN cs ns i) := by
  intro k
  induction k with
  | zero => exact ⟨by simp [sgTo], by simp [sgTo], fun _ i hi => by omega, fun h => by simp [sgTo] at h⟩
  | succ k ih =>
    obtain ⟨h1, h2, h3, h4⟩ := ih
    cases hm : mayN cs ns k
    · rw [sgTo_not hm]
      refine ⟨h1, by omega, fun h i hi => ?_, fun h => ⟨(h4 h).1, fun i hi hmi => ?_⟩⟩
      · by_cases e : i = k
        · rw [e]; exact hm
        · exact h3 h i (by omega)
      · by_cases e : i = k
        · rw [e, hm] at hmi; cases hmi
        · exact (h4 h).2 i (by omega) hmi
    · by_cases hl : sgTo cs ns k < 0
      · rw [sgTo_first hm hl]
        refine ⟨by omega, by omega, fun h => by omega, fun _ => ?_⟩
        rw [Int.toNat_natCast]
        refine ⟨hm, fun i hi hmi => ?_⟩
        by_cases e : i = k
        · rw [e]; exact Int.le_refl _
        · rw [h3 hl i (by omega)] at hmi; cases hmi
      · by_cases hd : dueN cs ns k < sgDue cs ns k
        · rw [sgTo_less hm hl hd]
          refine ⟨by omega, by omega, fun h => by omega, fun _ => ?_⟩
          rw [Int.toNat_natCast]
          refine ⟨hm, fun i hi hmi => ?_⟩
          rw [sgDue, if_neg hl] at hd
          by_cases e : i = k
          · rw [e]; exact Int.le_refl _
          · have := (h4 (by omega)).2 i (by omega) hmi
            omega
        · rw [sgTo_stay hl hd]
          refine ⟨h1, by omega, fun h => by omega, fun h => ⟨(h4 h).1, fun i hi hmi => ?_⟩⟩
          rw [sgDue, if_neg hl] at hd
          by_cases e : i = k
          · rw [e]; omega
          · exact (h4 h).2 i (by omega) hmi

theorem sgOf_in (cs ns : List Int) : -1 ≤ sgOf cs ns ∧ sgOf cs ns < (cs.length : Int) := ⟨(sgTo_spec cs ns cs.length).1, (sgTo_spec cs ns cs.length).2.1⟩

/-- One turn; none where nobody may be taken. -/
def sgTurn (cs ns : List Int) : List Int := if sgOf cs ns < 0 then ns else ns.set (sgOf cs ns).toNat (ns.getD (sgOf cs ns).toNat 0 + 1)

/-- The counts behind k turns, whether there was somebody each time, and who it was. -/
def sgAt (cs ns : List Int) : Nat → List Int
  | 0 => ns
  | k + 1 => sgTurn cs (sgAt cs ns k)

def sgCan (cs ns : List Int) : Nat → Bool
  | 0 => true
  | k + 1 => sgCan cs ns k && decide (0 ≤ sgOf cs (sgAt cs ns k))

def sgWho (cs ns : List Int) : Nat → List Int
  | 0 => []
  | k + 1 => sgWho cs ns k ++ [sgOf cs (sgAt cs ns k)]

theorem sgAt_succ (cs ns : List Int) (k : Nat) : sgAt cs ns (k + 1) = sgTurn cs (sgAt cs ns k) := rfl

theorem sgWho_succ (cs ns : List Int) (k : Nat) : sgWho cs ns (k + 1) = sgWho cs ns k ++ [sgOf cs (sgAt cs ns k)] := rfl

theorem sgCan_step {cs ns : List Int} {k : Nat} (h : sgCan cs ns k = true) (h1 : 0 ≤ sgOf cs (sgAt cs ns k)) : sgCan cs ns (k + 1) = true := by rw [sgCan, h, decide_eq_true h1]; rfl

theorem sgCan_not {cs ns : List Int} {k : Nat} (h1 : sgOf cs (sgAt cs ns k) < 0) : sgCan cs ns (k + 1) = false := by rw [sgCan, decide_eq_false (by omega)]; simp

theorem sgCan_false {cs ns : List Int} {k N : Nat} (h : sgCan cs ns k = false) (hk : k ≤ N) : sgCan cs ns N = false := by
  induction N with
  | zero => have : k = 0 := by omega
            subst this; exact h
  | succ N ih =>
    by_cases e : k = N + 1
    · rw [← e]; exact h
    · rw [sgCan, ih (by omega)]; rfl

theorem sgTurn_length (cs ns : List Int) : (sgTurn cs ns).length = ns.length := by
  rw [sgTurn]
  split <;> simp

theorem sgAt_length (cs ns : List Int) (k : Nat) : (sgAt cs ns k).length = ns.length := by
  induction k with
  | zero => rfl
  | succ k ih => rw [sgAt_succ, sgTurn_length, ih]

theorem sgWho_length (cs ns : List Int) (k : Nat) : (sgWho cs ns k).length = k := by
  induction k with
  | zero => rfl
  | succ k ih => rw [sgWho_succ]; simp [ih]

/-- Counts that a run passes through: each one from 0 to MaxTime. -/
structure Timed (cs ns : List Int) : Prop where
  crew : crewOk cs = true
  len : ns.length = cs.length
  nat : ∀ i, 0 ≤ ns.getD i 0
  top : ∀ i, ns.getD i 0 ≤ 1000000

theorem timed_start {cs ns : List Int} (h : countsOk cs ns = true) : Timed cs ns := by
  have C := counted_start h
  exact ⟨C.crew, C.len, C.nat, fun i => by have := C.top i; omega⟩

theorem sg_get {cs ns : List Int} (hl : ns.length = cs.length) (h0 : 0 ≤ sgOf cs ns) (i : Nat) : (sgTurn cs ns).getD i 0 = if i = (sgOf cs ns).toNat then ns.getD i 0 + 1 else ns.getD i 0 := by
  have h := sgOf_in cs ns
  rw [sgTurn, if_neg (by omega), getD_set _ _ _ _ (by omega)]
  split
  · rename_i e; rw [e]
  · rfl

theorem may_top {cs ns : List Int} {i : Nat} (h : mayN cs ns i = true) : ns.getD i 0 < 1000000 ∧ rdyN cs ns i ≤ sumI ns := by
  rw [mayN, Bool.and_eq_true] at h
  exact ⟨of_decide_eq_true h.1, of_decide_eq_true h.2⟩

theorem sgOf_may {cs ns : List Int} (h0 : 0 ≤ sgOf cs ns) : mayN cs ns (sgOf cs ns).toNat = true := ((sgTo_spec cs ns cs.length).2.2.2 h0).1

theorem Timed.turn {cs ns : List Int} (h : Timed cs ns) : Timed cs (sgTurn cs ns) := by
  by_cases h0 : sgOf cs ns < 0
  · rw [sgTurn, if_pos h0]; exact h
  · refine ⟨h.crew, by rw [sgTurn_length, h.len], fun i => ?_, fun i => ?_⟩
    · rw [sg_get h.len (by omega)]
      have := h.nat i
      split <;> omega
    · rw [sg_get h.len (by omega)]
      have h1 := h.top i
      have h2 := (may_top (sgOf_may (show 0 ≤ sgOf cs ns by omega))).1
      split
      · rename_i e; rw [← e] at h2; omega
      · exact h1

theorem timed_at {cs ns : List Int} (h : Timed cs ns) (k : Nat) : Timed cs (sgAt cs ns k) := by
  induction k with
  | zero => exact h
  | succ k ih => exact ih.turn

theorem sg_sum {cs ns : List Int} (hl : ns.length = cs.length) (h0 : 0 ≤ sgOf cs ns) : sumI (sgTurn cs ns) = sumI ns + 1 := by
  have h := sgOf_in cs ns
  rw [sgTurn, if_neg (by omega), sumI_set _ _ _ (by omega)]
  omega

theorem sg_sumAt {cs ns : List Int} (h : Timed cs ns) {k : Nat} (hc : sgCan cs ns k = true) : sumI (sgAt cs ns k) = sumI ns + k := by
  induction k with
  | zero => simp [sgAt]
  | succ k ih =>
    rw [sgCan, Bool.and_eq_true] at hc
    rw [sgAt_succ, sg_sum (timed_at h k).len (of_decide_eq_true hc.2), ih hc.1]
    omega

theorem Timed.cnts {cs ns : List Int} (h : Timed cs ns) : cnts ns = true := by
  refine List.all_eq_true.2 fun x hx => ?_
  obtain ⟨i, hi, e⟩ := List.getElem_of_mem hx
  have e' : ns.getD i 0 = x := by simp [List.getD, hi, e]
  have h1 := h.nat i
  have h2 := h.top i
  rw [e'] at h1 h2
  simp [within]
  omega

/-- They are right counts then just if they are not too many. -/
theorem Timed.ok {cs ns : List Int} (h : Timed cs ns) : countsOk cs ns = decide (sumI ns ≤ 1000000) := counts_end h.crew h.len h.cnts

theorem crew_share {cs : List Int} (hc : crewOk cs = true) {i : Nat} (hi : i < cs.length) : Win.shareOk (cs.getD i 0) (sumI cs) = true ∧ 1 ≤ cs.getD i 0 ∧ cs.getD i 0 ≤ sumI cs ∧ sumI cs ≤ 24000000 := by
  have wi := weight_at hc hi
  have h1 := sum_one 0 (Int.le_refl _) cs (fun j hj => by have := weight_at hc hj; omega) i hi
  have h2 := sum_most (xs := cs) (fun n hn => (crew_mem hc hn).2)
  have h24 := crew_len hc
  refine ⟨?_, by omega, by omega, by omega⟩
  generalize cs.getD i 0 = c at *
  simp [Win.shareOk, within]
  omega

/-- Sums over numbers. -/
def sumTo (f : Nat → Int) : Nat → Int
  | 0 => 0
  | k + 1 => sumTo f k + f k

theorem sumTo_list (xs : List Int) : sumTo (fun i => xs.getD i 0) xs.length = sumI xs := by
  have : ∀ k, k ≤ xs.length → sumTo (fun i => xs.getD i 0) k = sumI (xs.take k) := by
    intro k
    induction k with
    | zero => intro _; simp [sumTo, sumI]
    | succ k ih => intro hk; rw [sumTo, ih (by omega), sumI_step (by omega)]
  rw [this _ (Nat.le_refl _), List.take_of_length_le (Nat.le_refl _)]

theorem sumTo_le {f g : Nat → Int} {n : Nat} (h : ∀ i, i < n → f i ≤ g i) : sumTo f n ≤ sumTo g n := by
  induction n with
  | zero => exact Int.le_refl _
  | succ n ih =>
    have h1 := ih (fun i hi => h i (by omega))
    have h2 := h n (by omega)
    simp only [sumTo]
    omega

theorem sumTo_less {f g : Nat → Int} {n : Nat} (h : ∀ i, i < n → f i ≤ g i) {j : Nat} (hj : j < n) (hs : f j + 1 ≤ g j) : sumTo f n + 1 ≤ sumTo g n := by
  induction n with
  | zero => omega
  | succ n ih =>
    have h2 := h n (by omega)
    simp only [sumTo]
    by_cases e : j = n
    · have h1 := sumTo_le (f := f) (g := g) (n := n) (fun i hi => h i (by omega))
      rw [e] at hs
      omega
    · have h1 := ih (fun i hi => h i (by omega)) (by omega)
      omega

theorem sumTo_mul (f : Nat → Int) (c : Int) (n : Nat) : sumTo (fun i => f i * c) n = sumTo f n * c := by
  induction n with
  | zero => simp [sumTo]
  | succ n ih => simp only [sumTo, ih, Int.add_mul]

/-- What of i has to be taken by D and was not taken yet. -/
def owed (cs ns : List Int) (D : Int) (i : Nat) : Int := if cs.getD i 0 * D / sumI cs ≤ ns.getD i 0 then 0 else cs.getD i 0 * D / sumI cs - ns.getD i 0

/-- What a run from no turn on keeps: what has to be taken by D fits into the turns up to D; nobody is a whole turn ahead. -/
structure Flow (cs ns : List Int) : Prop where
  timed : Timed cs ns
  owes : ∀ D, sumI ns ≤ D → sumTo (owed cs ns D) cs.length ≤ D - sumI ns
  ahead : ∀ i, i < cs.length → (ns.getD i 0 - 1) * sumI cs < cs.getD i 0 * sumI ns

theorem owed_nonneg (cs ns : List Int) (D : Int) (i : Nat) : 0 ≤ owed cs ns D i := by
  rw [owed]
  split <;> omega

theorem sumTo_nonneg {f : Nat → Int} {n : Nat} (h : ∀ i, i < n → 0 ≤ f i) : 0 ≤ sumTo f n := by
  induction n with
  | zero => exact Int.le_refl _
  | succ n ih =>
    have h1 := ih (fun i hi => h i (by omega))
    have h2 := h n (by omega)
    simp only [sumTo]
    omega

theorem sumTo_term {f : Nat → Int} {n : Nat} (h : ∀ i, i < n → 0 ≤ f i) {j : Nat} (hj : j < n) : f j ≤ sumTo f n := by
  induction n with
  | zero => omega
  | succ n ih =>
    simp only [sumTo]
    by_cases e : j = n
    · have := sumTo_nonneg (f := f) (n := n) (fun i hi => h i (by omega))
      rw [e]; omega
    · have h1 := ih (fun i hi => h i (by omega)) (by omega)
      have h2 := h n (by omega)
      omega

theorem total_pos {cs : List Int} (hc : crewOk cs = true) : 1 ≤ sumI cs := by
  have := crew_share hc (i := 0) (by have := crew_len hc; omega)
  omega

theorem count_le {cs ns : List Int} (h : Timed cs ns) {i : Nat} (hi : i < cs.length) : ns.getD i 0 ≤ sumI ns := by
  have := sum_one 0 (Int.le_refl _) ns (fun j _ => h.nat j) i (by rw [h.len]; exact hi)
  omega

/-- Who may not be taken is not ready yet. -/
theorem not_may {cs ns : List Int} (h : Timed cs ns) (ht : sumI ns < 1000000) {i : Nat} (hi : i < cs.length) (hm : mayN cs ns i = false) : cs.getD i 0 * (sumI ns + 1) ≤ ns.getD i 0 * sumI cs := by
  have hn := count_le h hi
  have hw := weight_at h.crew hi
  rw [mayN, decide_eq_true (by omega), Bool.true_and] at hm
  have h1 : sumI ns + 1 ≤ rdyN cs ns i := by have := of_decide_eq_false hm; omega
  rw [rdyN, Int.le_ediv_iff_mul_le (by omega)] at h1
  rw [Int.mul_comm]
  exact h1

/-- Somebody may always be taken. -/
theorem flow_can {cs ns : List Int} (h : Timed cs ns) (ht : sumI ns < 1000000) : 0 ≤ sgOf cs ns := by
  by_cases h0 : 0 ≤ sgOf cs ns
  · exact h0
  · exfalso
    have hall := (sgTo_spec cs ns cs.length).2.2.1 (by unfold sgOf at h0; omega)
    have hs := sumTo_le (f := fun i => cs.getD i 0 * (sumI ns + 1)) (g := fun i => ns.getD i 0 * sumI cs) (n := cs.length) (fun i hi => not_may h ht hi (hall i hi))
    rw [sumTo_mul (fun i => cs.getD i 0), sumTo_mul (fun i => ns.getD i 0), sumTo_list, ← h.len, sumTo_list, Int.mul_add, Int.mul_comm (sumI cs) (sumI ns)] at hs
    have := total_pos h.crew
    omega

theorem due_iff {cs ns : List Int} (hc : crewOk cs = true) {i : Nat} (hi : i < cs.length) (D : Int) : dueN cs ns i ≤ D ↔ ns.getD i 0 < cs.getD i 0 * D / sumI cs := by
  have hw := weight_at hc hi
  have hT := total_pos hc
  have h1 : dueN cs ns i ≤ D ↔ (ns.getD i 0 + 1) * sumI cs ≤ D * cs.getD i 0 := by
    rw [← Int.lt_add_one_iff, dueN, Int.ediv_lt_iff_lt_mul (by omega), Int.add_mul D 1, Int.one_mul]
    omega
  have h2 : ns.getD i 0 < cs.getD i 0 * D / sumI cs ↔ (ns.getD i 0 + 1) * sumI cs ≤ cs.getD i 0 * D := by
    rw [Int.lt_iff_add_one_le, Int.le_ediv_iff_mul_le (by omega)]
  rw [h1, h2, Int.mul_comm D]

theorem flow_step {cs ns : List Int} (F : Flow cs ns) (ht : sumI ns < 1000000) : Flow cs (sgTurn cs ns) := by
  have h := F.timed
  have h0 := flow_can h ht
  have hK := sgOf_in cs ns
  have hT := total_pos h.crew
  have hsum := sg_sum h.len h0
  have hget := sg_get h.len h0
  obtain ⟨hm, hmin⟩ := (sgTo_spec cs ns cs.length).2.2.2 h0
  change mayN cs ns (sgOf cs ns).toNat = true at hm
  change ∀ i, i < cs.length → mayN cs ns i = true → dueN cs ns (sgOf cs ns).toNat ≤ dueN cs ns i at hmin
  obtain ⟨K, hKe⟩ : ∃ K, K = (sgOf cs ns).toNat := ⟨_, rfl⟩
  have hKl : K < cs.length := by omega
  rw [← hKe] at hget hm hmin
  have hle : ∀ D i, owed cs (sgTurn cs ns) D i ≤ owed cs ns D i := by
    intro D i
    have hx : ns.getD i 0 ≤ (sgTurn cs ns).getD i 0 := by rw [hget i]; split <;> omega
    rw [owed, owed]
    split <;> split <;> omega
  refine ⟨h.turn, fun D hD => ?_, fun i hi => ?_⟩
  · rw [hsum] at hD ⊢
    by_cases hd : dueN cs ns K ≤ D
    · have hk := (due_iff h.crew hKl D).1 hd
      have hs := sumTo_less (f := owed cs (sgTurn cs ns) D) (g := owed cs ns D) (n := cs.length) (fun i _ => hle D i) hKl (by
        rw [owed, owed, hget K, if_pos rfl]
        split <;> split <;> omega)
      have := F.owes D (by omega)
      omega
    · have hterm : ∀ i, i < cs.length → owed cs (sgTurn cs ns) D i * sumI cs ≤ cs.getD i 0 * (D - (sumI ns + 1)) := by
        intro i hi
        have hw := weight_at h.crew hi
        have hle1 : owed cs (sgTurn cs ns) D i * sumI cs ≤ owed cs ns D i * sumI cs := Int.mul_le_mul_of_nonneg_right (hle D i) (by omega)
        have hnn : 0 ≤ cs.getD i 0 * (D - (sumI ns + 1)) := Int.mul_nonneg (by omega) (by omega)
        by_cases hq : cs.getD i 0 * D / sumI cs ≤ ns.getD i 0
        · rw [show owed cs ns D i = 0 by rw [owed, if_pos hq], Int.zero_mul] at hle1
          omega
        · have hdi := (due_iff (ns := ns) h.crew hi D).2 (Int.not_le.1 hq)
          have hmi : mayN cs ns i = false := by
            cases hh : mayN cs ns i
            · rfl
            · have := hmin i hi hh; omega
          have hr := not_may h ht hi hmi
          rw [show owed cs ns D i = cs.getD i 0 * D / sumI cs - ns.getD i 0 by rw [owed, if_neg hq], Int.sub_mul] at hle1
          have hdm : cs.getD i 0 * D / sumI cs * sumI cs ≤ cs.getD i 0 * D := Int.ediv_mul_le _ (by omega)
          rw [Int.mul_sub]
          omega
      have hs := sumTo_le (f := fun i => owed cs (sgTurn cs ns) D i * sumI cs) (g := fun i => cs.getD i 0 * (D - (sumI ns + 1))) (n := cs.length) hterm
      rw [sumTo_mul (owed cs (sgTurn cs ns) D), sumTo_mul (fun i => cs.getD i 0), sumTo_list, Int.mul_comm (sumI cs)] at hs
      have := Int.le_of_mul_le_mul_right hs (by omega)
      omega
  · have hw := weight_at h.crew hi
    rw [hsum, hget i, Int.mul_add]
    split
    · rename_i e
      have hr := (may_top hm).2
      rw [← e, rdyN, ← Int.lt_add_one_iff, Int.ediv_lt_iff_lt_mul (by omega)] at hr
      rw [Int.add_sub_cancel, ← Int.mul_add, Int.mul_comm (cs.getD i 0)]
      exact hr
    · have := F.ahead i hi
      omega

theorem flow_zero {cs : List Int} (hc : crewOk cs = true) : Flow cs (zerosOf cs) := by
  have hT := total_pos hc
  have h := timed_start (zero_ok hc)
  have hs : sumI (zerosOf cs) = 0 := by rw [zerosOf, sum_zeros]
  refine ⟨h, fun D hD => ?_, fun i hi => ?_⟩
  · rw [hs] at hD ⊢
    have hterm : ∀ i, i < cs.length → owed cs (zerosOf cs) D i * sumI cs ≤ cs.getD i 0 * D := by
      intro i hi
      have hw := weight_at hc hi
      have hnn : 0 ≤ cs.getD i 0 * D := Int.mul_nonneg (by omega) (by omega)
      have hdm : cs.getD i 0 * D / sumI cs * sumI cs ≤ cs.getD i 0 * D := Int.ediv_mul_le _ (by omega)
      rw [owed, zerosOf, getD_zeros]
      split
      · rw [Int.zero_mul]; exact hnn
      · rw [Int.sub_zero]; exact hdm
    have hs := sumTo_le (f := fun i => owed cs (zerosOf cs) D i * sumI cs) (g := fun i => cs.getD i 0 * D) (n := cs.length) hterm
    rw [sumTo_mul (owed cs (zerosOf cs) D), sumTo_mul (fun i => cs.getD i 0), sumTo_list, Int.mul_comm (sumI cs)] at hs
    have := Int.le_of_mul_le_mul_right hs (by omega)
    omega
  · rw [hs, zerosOf, getD_zeros]
    omega

/-- From no turn on: somebody can be taken each time, and what is kept is kept. -/
theorem flow_at {cs : List Int} (hc : crewOk cs = true) : ∀ k : Nat, (k : Int) ≤ 1000000 → Flow cs (sgAt cs (zerosOf cs) k) ∧ sgCan cs (zerosOf cs) k = true ∧ sumI (sgAt cs (zerosOf cs) k) = (k : Int) := by
  intro k
  induction k with
  | zero => intro _; exact ⟨flow_zero hc, rfl, by show sumI (zerosOf cs) = _; rw [zerosOf, sum_zeros]; rfl⟩
  | succ k ih =>
    intro hk
    obtain ⟨F, C, S⟩ := ih (by omega)
    have h0 := flow_can F.timed (by omega)
    refine ⟨flow_step F (by omega), sgCan_step C h0, ?_⟩
    rw [sgAt_succ, sg_sum F.timed.len h0, S]
    omega

/-- Nobody is a whole turn ahead or behind. -/
theorem flow_lag {cs ns : List Int} (F : Flow cs ns) {i : Nat} (hi : i < cs.length) : -(sumI cs) < lagAt cs ns i ∧ lagAt cs ns i < sumI cs := by
  have hT := total_pos F.timed.crew
  have ha := F.ahead i hi
  rw [Int.sub_mul] at ha
  refine ⟨?_, ?_⟩
  · rw [lagAt, Int.mul_comm (sumI cs)]
    omega
  · have ho := F.owes (sumI ns) (Int.le_refl _)
    have ht := sumTo_term (f := owed cs ns (sumI ns)) (n := cs.length) (fun i _ => owed_nonneg _ _ _ i) hi
    have hz : owed cs ns (sumI ns) i ≤ 0 := by omega
    have hq : cs.getD i 0 * sumI ns / sumI cs ≤ ns.getD i 0 := by
      by_cases h : cs.getD i 0 * sumI ns / sumI cs ≤ ns.getD i 0
      · exact h
      · rw [owed, if_neg h] at hz; omega
    rw [← Int.lt_add_one_iff, Int.ediv_lt_iff_lt_mul (by omega), Int.add_mul] at hq
    rw [lagAt, Int.mul_comm (sumI cs)]
    omega

/-- Behind as many turns as all weights together each had its weight. -/
theorem flow_end {cs : List Int} (hc : crewOk cs = true) (ht : sumI cs ≤ 1000000) : sgAt cs (zerosOf cs) (sumI cs).toNat = cs := by
  have hT := total_pos hc
  obtain ⟨F, _, S⟩ := flow_at hc (sumI cs).toNat (by omega)
  generalize sgAt cs (zerosOf cs) (sumI cs).toNat = ns at *
  rw [show ((sumI cs).toNat : Int) = sumI cs by omega] at S
  refine sum_le_eq ns cs F.timed.len (fun i hi => ?_) S
  have ha := F.ahead i hi
  rw [S] at ha
  have := Int.lt_of_mul_lt_mul_right ha (by omega)
  omega

end Go.Proofs.Ytlmlgidfgjejpaa.Crew
