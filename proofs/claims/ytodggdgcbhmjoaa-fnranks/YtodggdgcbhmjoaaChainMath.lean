/-
  What a chain's end is: no earlier than its window is due, and not later for an earlier turn.
-/
import Derived.Test.YtodggdgcbhmjoaaChainBase
import Derived.Test.YtodggdgcbhmjoaaWinOver
namespace Go.Proofs.Ytodggdgcbhmjoaa.Win
open Go.ChangeShapes Go.WideShapes Go.ChangeAt Go.RowKit Go.Proofs.Ytodggdgcbhmjoaa.Crew

theorem ceil_mid {a b c : Int} (a0 : 0 ≤ a) (a1 : a ≤ 10000000000) (b0 : 0 ≤ b) (b1 : b ≤ 100000000) (c0 : 1 ≤ c) (c1 : c ≤ 100000000) : Ratio.ceilV a b c = (a * b + c - 1) / c := by
  obtain ⟨a, rfl⟩ := Int.eq_ofNat_of_zero_le a0
  obtain ⟨b, rfl⟩ := Int.eq_ofNat_of_zero_le b0
  obtain ⟨c, rfl⟩ := Int.eq_ofNat_of_zero_le (by omega : 0 ≤ c)
  have h1 : a * b ≤ 10000000000 * 100000000 := Nat.mul_le_mul (by omega) (by omega)
  have h2 := Nat.div_le_self (a * b) c
  obtain ⟨C1, _⟩ := Ratio.ceil_of a b c (by omega) (by omega) (by omega) (by omega)
  have hu : Ratio.up (a * b / c) (a * b % c) = (a * b + c - 1) / c := by
    rw [up_nat _ _ (by omega), Ratio.up]
    by_cases hr : 0 < a * b % c
    · rw [if_pos hr, if_pos (by omega)]
    · rw [if_neg hr, if_neg (by omega)]
  have hle : Ratio.up (a * b / c) (a * b % c) ≤ 4611686018427387904 := by
    rw [hu, up_nat _ _ (by omega)]
    split <;> omega
  rw [(C1 hle).2, hu]
  rw [Int.natCast_ediv]
  congr 1
  have : 1 ≤ c := by omega
  push_cast
  omega

/-- t over c, rounded up. -/
def upQ (t c : Int) : Int := (t + c - 1) / c

theorem upQ_ge (t c : Int) (hc : 1 ≤ c) : t ≤ c * upQ t c := by
  have h := Int.mul_ediv_add_emod (t + c - 1) c
  have h2 := Int.emod_lt_of_pos (t + c - 1) (show 0 < c by omega)
  unfold upQ
  generalize c * ((t + c - 1) / c) = q at *
  generalize (t + c - 1) % c = m at *
  omega

theorem upQ_mono {t u c : Int} (hc : 1 ≤ c) (h : t ≤ u) : upQ t c ≤ upQ u c := Int.ediv_le_ediv (by omega) (by omega)

theorem upQ_le {t c k : Int} (hc : 1 ≤ c) (h : t ≤ k * c) : upQ t c ≤ k := by
  have : (t + c - 1) / c < k + 1 := Int.ediv_lt_of_lt_mul (by omega) (by rw [Int.add_mul]; omega)
  unfold upQ
  omega

theorem upQ_nonneg {t c : Int} (hc : 1 ≤ c) (h : 0 ≤ t) : 0 ≤ upQ t c := Int.ediv_nonneg (by omega) (by omega)

theorem due_heavy (n d j : Int) (h : turnOk n d j = true) (hh : heavyOk n d = true) : dueV n d j = upQ (j * d) n ∧ 1 ≤ dueV n d j ∧ dueV n d j ≤ 2000000 := by
  obtain ⟨n1, n2, d2, j1, j2⟩ := turn_yes h
  obtain ⟨_, h1, _⟩ := heavy_yes hh
  have e : dueV n d j = upQ (j * d) n := dueV_yes h
  refine ⟨e, ?_, ?_⟩
  · rw [e]
    have a1 : n ≤ j * d := by
      have := Int.mul_le_mul j1 n2 (by omega) (by omega)
      omega
    have a2 := upQ_ge (j * d) n n1
    have a3 := upQ_nonneg n1 (show 0 ≤ j * d by omega)
    by_cases hz : upQ (j * d) n = 0
    · rw [hz] at a2; omega
    · omega
  · rw [e]
    refine Int.le_trans (upQ_le (k := 2 * j) n1 ?_) (by omega)
    have := Int.mul_le_mul_of_nonneg_left h1 (show 0 ≤ j by omega)
    rw [show 2 * j * n = j * (2 * n) by rw [Int.mul_comm 2 j, Int.mul_assoc]]
    exact this

theorem chain_is (n d j : Int) (h : turnOk n d j = true) (hh : heavyOk n d = true) :
    chainV n d j = upQ (upQ (dueV n d j * (d - n)) d * d) (d - n) := by
  obtain ⟨n1, n2, d2, j1, j2⟩ := turn_yes h
  obtain ⟨_, h1, h2⟩ := heavy_yes hh
  obtain ⟨_, u1, u2⟩ := due_heavy n d j h hh
  rw [chainV_yes h, chainIn_yes hh]
  have e1 : chainX n d j = upQ (dueV n d j * (d - n)) d := ceil_mid (by omega) (by omega) (by omega) (by omega) (by omega) d2
  rw [e1]
  have x0 : 0 ≤ upQ (dueV n d j * (d - n)) d := upQ_nonneg (by omega) (Int.mul_nonneg (by omega) (by omega))
  have x1 : upQ (dueV n d j * (d - n)) d ≤ dueV n d j := upQ_le (by omega) (Int.mul_le_mul_of_nonneg_left (by omega) (by omega))
  exact ceil_mid x0 (by omega) (by omega) d2 (by omega) (by omega)

theorem chain_due (n d j : Int) (h : turnOk n d j = true) (hh : heavyOk n d = true) : dueV n d j ≤ chainV n d j ∧ 1 ≤ dueV n d j := by
  obtain ⟨n1, n2, d2, j1, j2⟩ := turn_yes h
  obtain ⟨_, h1, h2⟩ := heavy_yes hh
  obtain ⟨_, u1, u2⟩ := due_heavy n d j h hh
  refine ⟨?_, u1⟩
  rw [chain_is n d j h hh]
  have a1 := upQ_ge (dueV n d j * (d - n)) d (by omega)
  have a2 := upQ_ge (upQ (dueV n d j * (d - n)) d * d) (d - n) (by omega)
  rw [Int.mul_comm d] at a1
  have a3 := Int.le_trans a1 a2
  generalize upQ (upQ (dueV n d j * (d - n)) d * d) (d - n) = y at *
  rw [Int.mul_comm] at a3
  exact Int.le_of_mul_le_mul_left a3 (show 0 < d - n by omega)

theorem chain_next (n d j : Int) (h : turnOk n d j = true) (hh : heavyOk n d = true) (hj : ¬ j = 1) : chainV n d (j - 1) ≤ chainV n d j := by
  obtain ⟨n1, n2, d2, j1, j2⟩ := turn_yes h
  obtain ⟨_, h1, h2⟩ := heavy_yes hh
  have h' : turnOk n d (j - 1) = true := by
    simp only [turnOk, shareOk, within, Bool.and_eq_true, decide_eq_true_eq]
    omega
  rw [chain_is n d j h hh, chain_is n d (j - 1) h' hh]
  have e : dueV n d (j - 1) ≤ dueV n d j := by
    rw [(due_heavy n d j h hh).1, (due_heavy n d (j - 1) h' hh).1]
    exact upQ_mono n1 (Int.mul_le_mul_of_nonneg_right (by omega) (by omega))
  exact upQ_mono (by omega) (Int.mul_le_mul_of_nonneg_right (upQ_mono (by omega) (Int.mul_le_mul_of_nonneg_right e (by omega))) (by omega))

end Go.Proofs.Ytodggdgcbhmjoaa.Win
