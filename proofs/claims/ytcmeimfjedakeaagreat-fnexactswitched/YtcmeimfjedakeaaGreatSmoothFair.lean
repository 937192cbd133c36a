/-
  The richest is fair, in numbers: nobody is ever a whole turn ahead; behind as many turns as all weights each had its weight.
-/
import Derived.Test.YtcmeimfjedakeaaGreatSmoothMath
import Derived.Test.YtcmeimfjedakeaaGreatLagLags
namespace Go.Proofs.YtcmeimfjedakeaaGreat.Crew

theorem sumI_set (l : List Int) (j : Nat) (v : Int) (h : j < l.length) : sumI (l.set j v) = sumI l - l.getD j 0 + v := by
  induction l generalizing j with
  | nil => simp at h
  | cons x r ih =>
    cases j with
    | zero => simp [sumI, List.getD]; omega
    | succ j =>
      have := ih j (by simpa using h)
      simp only [List.set_cons_succ, sumI, this]
      simp [List.getD]
      omega

theorem sum_low (m : Int) (hm : m ≤ 0) : ∀ (l : List Int), (∀ j, j < l.length → m ≤ l.getD j 0) → (l.length : Int) * m ≤ sumI l
  | [], _ => by simp [sumI]
  | x :: r, h => by
    have h0 := h 0 (by simp)
    have h1 := sum_low m hm r (fun j hj => by have := h (j + 1) (by simpa using hj); simpa [List.getD] using this)
    simp only [sumI, List.length_cons]
    simp [List.getD] at h0
    have e : (((r.length + 1 : Nat) : Int)) * m = (r.length : Int) * m + m := by
      rw [Int.natCast_add, Int.add_mul]; simp
    omega

theorem sum_high (l : List Int) (h : ∀ j, j < l.length → l.getD j 0 ≤ 0) : sumI l ≤ 0 := by
  induction l with
  | nil => simp [sumI]
  | cons x r ih =>
    have h0 := h 0 (by simp)
    have h1 := ih (fun j hj => by have := h (j + 1) (by simpa using hj); simpa [List.getD] using this)
    simp [List.getD] at h0
    simp only [sumI]
    omega

theorem sum_one (m : Int) (hm : m ≤ 0) (l : List Int) (h : ∀ j, j < l.length → m ≤ l.getD j 0) (i : Nat) (hi : i < l.length) : l.getD i 0 + (l.length : Int) * m ≤ sumI l := by
  have h1 := sumI_set l i 0 hi
  have h2 := sum_low m hm (l.set i 0) (fun j hj => by
    rw [List.length_set] at hj
    by_cases e : j = i
    · subst e; simp [List.getD, hj]; exact hm
    · have := h j hj
      simpa [List.getD, List.getElem?_set, Ne.symm e] using this)
  rw [List.length_set] at h2
  omega

theorem sum_zip (rs cs : List Int) (h : rs.length = cs.length) : sumI (paidL cs rs) = sumI rs + sumI cs := by
  induction rs generalizing cs with
  | nil => cases cs with
    | nil => simp [paidL, sumI]
    | cons _ _ => simp at h
  | cons x r ih => cases cs with
    | nil => simp at h
    | cons y s =>
      have := ih s (by simpa using h)
      simp only [paidL, List.zipWith_cons_cons, sumI] at this ⊢
      omega

theorem getD_set (l : List Int) (j i : Nat) (v : Int) (hj : j < l.length) : (l.set j v).getD i 0 = if i = j then v else l.getD i 0 := by
  by_cases e : i = j
  · subst e; simp [List.getD, hj]
  · simp [List.getD, Ne.symm e, e]

structure Fair (cs rs ns : List Int) (k : Nat) : Prop where
  lr : rs.length = cs.length
  ln : ns.length = cs.length
  eq : ∀ i, i < cs.length → rs.getD i 0 = (k : Int) * cs.getD i 0 - sumI cs * ns.getD i 0
  lo : ∀ i, i < cs.length → -(sumI cs) < rs.getD i 0
  sr : sumI rs = 0
  sn : sumI ns = k
  nn : ∀ i, i < cs.length → 0 ≤ ns.getD i 0

theorem sum_zeros (n : Nat) : sumI (List.replicate n 0) = 0 := by
  induction n with
  | zero => rfl
  | succ n ih => simp [List.replicate_succ, sumI, ih]

theorem getD_zeros (n i : Nat) : (List.replicate n (0 : Int)).getD i 0 = 0 := by
  by_cases h : i < n
  · simp [List.getD, h]
  · simp [List.getD, h]

theorem fair_zero {cs : List Int} (hc : crewOk cs = true) : Fair cs (List.replicate cs.length 0) (List.replicate cs.length 0) 0 := by
  have := crew_sum hc
  refine ⟨by simp, by simp, fun i _ => by rw [getD_zeros]; simp, fun i _ => by rw [getD_zeros]; omega, sum_zeros _, by rw [sum_zeros]; rfl, fun i _ => by rw [getD_zeros]; omega⟩

theorem best_in {cs rs : List Int} (hc : crewOk cs = true) (h : rs.length = cs.length) : best cs rs < cs.length := by
  have := crew_len hc
  rw [best, h]
  exact best_lt _ (by omega)

theorem fair_step {cs rs ns : List Int} {k : Nat} (hc : crewOk cs = true) (F : Fair cs rs ns k) : Fair cs (stepR cs rs) (ns.set (best cs rs) (ns.getD (best cs rs) 0 + 1)) (k + 1) := by
  have hb := best_in hc F.lr
  have hT := crew_sum hc
  have hp : (paidL cs rs).length = cs.length := by rw [paid_length F.lr, F.lr]
  have pg : ∀ i, i < cs.length → (paidL cs rs).getD i 0 = rs.getD i 0 + cs.getD i 0 := fun i hi => paid_get F.lr (by rw [F.lr]; exact hi)
  have sp : sumI (paidL cs rs) = sumI cs := by rw [sum_zip rs cs F.lr, F.sr]; omega
  have most : 1 ≤ (paidL cs rs).getD (best cs rs) 0 := by
    by_cases h : 1 ≤ (paidL cs rs).getD (best cs rs) 0
    · exact h
    · have := sum_high (paidL cs rs) (fun j hj => by
        have := best_most (paidL cs rs) rs.length j (by rw [F.lr, ← hp]; exact hj)
        rw [best] at h
        omega)
      omega
  have sg : ∀ i, i < cs.length → (stepR cs rs).getD i 0 = if i = best cs rs then (paidL cs rs).getD (best cs rs) 0 - sumI cs else (paidL cs rs).getD i 0 := fun i _ => by
    rw [stepR, getD_set _ _ _ _ (by rw [hp]; exact hb)]
  have cg := crew_get hc
  have mul1 : ∀ c : Int, ((k + 1 : Nat) : Int) * c = (k : Int) * c + c := fun c => by rw [Int.natCast_add, Int.add_mul]; simp
  refine ⟨by rw [step_length F.lr]; exact F.lr, by rw [List.length_set]; exact F.ln, ?_, ?_, ?_, ?_, ?_⟩
  · intro i hi
    rw [sg i hi, getD_set _ _ _ _ (by rw [F.ln]; exact hb), mul1]
    by_cases e : i = best cs rs
    · rw [if_pos e, if_pos e, ← e, pg i hi, F.eq i hi, Int.mul_add]
      omega
    · rw [if_neg e, if_neg e, pg i hi, F.eq i hi]
      omega
  · intro i hi
    rw [sg i hi]
    by_cases e : i = best cs rs
    · rw [if_pos e]; omega
    · rw [if_neg e, pg i hi]
      have := F.lo i hi
      have := cg i
      omega
  · rw [stepR, sumI_set _ _ _ (by rw [hp]; exact hb), sp]; omega
  · rw [sumI_set _ _ _ (by rw [F.ln]; exact hb), F.sn]; omega
  · intro i hi
    rw [getD_set _ _ _ _ (by rw [F.ln]; exact hb)]
    by_cases e : i = best cs rs
    · rw [if_pos e]; have := F.nn _ hb; omega
    · rw [if_neg e]; exact F.nn i hi

theorem fair_ok {cs rs ns : List Int} {k : Nat} (hc : crewOk cs = true) (hT : sumI cs ≤ 3000) (F : Fair cs rs ns k) : smoothOk cs rs = true := by
  have h24 := crew_len hc
  have h1 := crew_sum hc
  have key : ∀ n ∈ rs, within n (-100000000) 100000000 = true := by
    intro n hn
    obtain ⟨i, hi, rfl⟩ := List.getElem_of_mem hn
    have hi' : i < cs.length := by rw [← F.lr]; exact hi
    have lo := F.lo i hi'
    have up := sum_one (-(sumI cs)) (by omega) rs (fun j hj => by have := F.lo j (by rw [← F.lr]; exact hj); omega) i hi
    have e : rs.getD i 0 = rs[i] := by simp [List.getD, hi]
    rw [e] at lo up
    rw [F.sr, F.lr] at up
    have m : (cs.length : Int) * -(sumI cs) = -((cs.length : Int) * sumI cs) := Int.mul_neg _ _
    have m2 : (cs.length : Int) * sumI cs ≤ 24 * 3000 := Int.mul_le_mul (by omega) hT (by omega) (by omega)
    rw [m] at up
    simp [within]
    omega
  simp only [smoothOk, Bool.and_eq_true, decide_eq_true_eq]
  exact ⟨⟨⟨hc, F.lr⟩, by simp only [richs, List.all_eq_true]; exact key⟩, F.sr⟩

/-- How often each one of n is in a list. -/
def tally1 (n : Nat) (acc : List Int) (x : Int) : List Int := if 0 ≤ x ∧ x < n then acc.set x.toNat (acc.getD x.toNat 0 + 1) else acc

def tally (n : Nat) (l : List Int) : List Int := l.foldl (tally1 n) (List.replicate n 0)

theorem tally_snoc (n : Nat) (l : List Int) (x : Int) : tally n (l ++ [x]) = tally1 n (tally n l) x := by simp [tally]

theorem tally1_length (n : Nat) (acc : List Int) (x : Int) : (tally1 n acc x).length = acc.length := by rw [tally1]; split <;> simp

theorem tally_length (n : Nat) (l : List Int) : (tally n l).length = n := by
  rw [tally]
  suffices ∀ acc : List Int, (l.foldl (tally1 n) acc).length = acc.length by rw [this]; simp
  induction l with
  | nil => intro acc; rfl
  | cons x r ih => intro acc; rw [List.foldl_cons, ih, tally1_length]

def zerosOf (cs : List Int) : List Int := List.replicate cs.length 0

theorem fair_at {cs : List Int} (hc : crewOk cs = true) (k : Nat) : Fair cs (richAt cs (zerosOf cs) k) (tally cs.length (takenTo cs (zerosOf cs) k)) k := by
  induction k with
  | zero => exact fair_zero hc
  | succ k ih =>
    have hb := best_in hc ih.lr
    rw [taken_succ, tally_snoc, tally1, if_pos ⟨by omega, by omega⟩, Int.toNat_natCast, richAt_succ]
    exact fair_step hc ih

theorem fair_okTo {cs : List Int} (hc : crewOk cs = true) (hT : sumI cs ≤ 3000) (k : Nat) : okTo cs (zerosOf cs) k = true := by
  induction k with
  | zero => exact fair_ok hc hT (fair_at hc 0)
  | succ k ih => rw [okTo, ih, Bool.true_and]; exact fair_ok hc hT (fair_at hc (k + 1))

theorem sum_le_eq : ∀ (xs ys : List Int), xs.length = ys.length → (∀ i, i < ys.length → xs.getD i 0 ≤ ys.getD i 0) → sumI xs = sumI ys → xs = ys
  | [], [], _, _, _ => rfl
  | [], _ :: _, h, _, _ => by simp at h
  | _ :: _, [], h, _, _ => by simp at h
  | x :: r, y :: s, h, k, e => by
    have h0 := k 0 (by simp)
    simp [List.getD] at h0
    have k' : ∀ i, i < s.length → r.getD i 0 ≤ s.getD i 0 := fun i hi => by have := k (i + 1) (by simpa using hi); simpa [List.getD] using this
    have hl : r.length = s.length := by simpa using h
    have le : sumI r ≤ sumI s := by
      clear e k h h0
      induction r generalizing s with
      | nil => cases s with
        | nil => exact Int.le_refl _
        | cons _ _ => simp at hl
      | cons a r ih => cases s with
        | nil => simp at hl
        | cons b s =>
          have h0 := k' 0 (by simp)
          simp [List.getD] at h0
          have := ih s (fun i hi => by have := k' (i + 1) (by simpa using hi); simpa [List.getD] using this) (by simpa using hl)
          simp only [sumI]
          omega
    simp only [sumI] at e
    have e1 : x = y := by omega
    have e2 := sum_le_eq r s hl k' (by omega)
    rw [e1, e2]

/-- Behind as many turns as all weights each had its weight. -/
theorem fair_end {cs : List Int} (hc : crewOk cs = true) : tally cs.length (takenTo cs (zerosOf cs) (sumI cs).toNat) = cs ∧ richAt cs (zerosOf cs) (sumI cs).toNat = zerosOf cs := by
  have hT := crew_sum hc
  have F := fair_at hc (sumI cs).toNat
  have eT : (((sumI cs).toNat : Nat) : Int) = sumI cs := by omega
  have le : ∀ i, i < cs.length → (tally cs.length (takenTo cs (zerosOf cs) (sumI cs).toNat)).getD i 0 ≤ cs.getD i 0 := by
    intro i hi
    have h1 := F.eq i hi
    have h2 := F.lo i hi
    rw [h1, eT, ← Int.mul_sub] at h2
    by_cases h : (tally cs.length (takenTo cs (zerosOf cs) (sumI cs).toNat)).getD i 0 ≤ cs.getD i 0
    · exact h
    · have h3 : sumI cs * (cs.getD i 0 - (tally cs.length (takenTo cs (zerosOf cs) (sumI cs).toNat)).getD i 0) ≤ sumI cs * (-1) := Int.mul_le_mul_of_nonneg_left (by omega) (by omega)
      omega
  have e := sum_le_eq _ _ F.ln le (by rw [F.sn, eT])
  refine ⟨e, ?_⟩
  apply List.ext_getElem
  · rw [F.lr]; simp [zerosOf]
  · intro i h1 h2
    have hi : i < cs.length := by rw [← F.lr]; exact h1
    have h3 := F.eq i hi
    rw [e, eT] at h3
    have e1 : (richAt cs (zerosOf cs) (sumI cs).toNat).getD i 0 = (richAt cs (zerosOf cs) (sumI cs).toNat)[i] := by simp [List.getD, h1]
    rw [e1] at h3
    rw [h3]
    simp [zerosOf]

/-- Nobody is a whole turn ahead. -/
theorem fair_lag {cs : List Int} (hc : crewOk cs = true) {k : Nat} (hk : k ≤ 1000000) {i : Nat} (hi : i < cs.length) :
    lagIs cs (tally cs.length (takenTo cs (zerosOf cs) k)) (i : Int) = true ∧ -(sumI cs) < lagOf cs (tally cs.length (takenTo cs (zerosOf cs) k)) (i : Int) := by
  have F := fair_at hc k
  have hl : lagIs cs (tally cs.length (takenTo cs (zerosOf cs) k)) (i : Int) = true := by
    have key : ∀ n ∈ tally cs.length (takenTo cs (zerosOf cs) k), within n 0 1000000 = true := by
      intro n hn
      obtain ⟨j, hj, rfl⟩ := List.getElem_of_mem hn
      have hj' : j < cs.length := by rw [← F.ln]; exact hj
      have e : (tally cs.length (takenTo cs (zerosOf cs) k)).getD j 0 = (tally cs.length (takenTo cs (zerosOf cs) k))[j] := by simp [List.getD, hj]
      have lo := F.nn j hj'
      have up := sum_one 0 (by omega) _ (fun j' hj'' => F.nn j' (by rw [← F.ln]; exact hj'')) j hj
      rw [F.sn] at up
      rw [e] at lo up
      simp [within]
      omega
    simp only [lagIs, countsOk, Bool.and_eq_true, decide_eq_true_eq]
    refine ⟨⟨⟨⟨hc, F.ln⟩, by simp only [cnts, List.all_eq_true]; exact key⟩, by rw [F.sn]; omega⟩, by simp [within]; omega⟩
  refine ⟨hl, ?_⟩
  rw [lagOf, hl, if_pos rfl, Int.toNat_natCast, lagAt, F.sn]
  have h1 := F.eq i hi
  have h2 := F.lo i hi
  rw [h1, Int.mul_comm] at h2
  exact h2

theorem taken_take (cs rs : List Int) {k N : Nat} (h : k ≤ N) : (takenTo cs rs N).take k = takenTo cs rs k := by
  obtain ⟨m, rfl⟩ := Nat.le.dest h
  rw [taken_add, List.take_append_of_le_length (by rw [taken_length]; omega), List.take_of_length_le (by rw [taken_length]; omega)]

end Go.Proofs.YtcmeimfjedakeaaGreat.Crew
