/-
  Several processors: what ManyNext and ManyRun answer, as kinds.
-/
import Derived.Test.YtjhenfdmbagaiaaGreatKindsMany
import Derived.Test.YtjhenfdmbagaiaaGreatManyNextS
import Derived.Test.YtjhenfdmbagaiaaGreatManyRunI
namespace Go.Proofs.YtjhenfdmbagaiaaGreat.Crew
open Go.ChangeShapes Go.WideShapes Go.ChangeAt Go.RowKit

def nxD (d : MnD) : MnD := ⟨rmS d.s d.c d.q d.t 1, rmC d.s d.c d.q d.t 1, rmQ d.s d.c d.q d.t 1, rmT d.s d.c d.q d.t 1⟩
def nxW (d : MnD) : List Int := nxL d.s d.c d.q d.t
def rnD (d : MnD) (n : Int) : MnD := ⟨rmS d.s d.c d.q d.t n, rmC d.s d.c d.q d.t n, rmQ d.s d.c d.q d.t n, rmT d.s d.c d.q d.t n⟩
def rnW (d : MnD) (n : Int) : List (List Int) := rmL d.s d.c d.q d.t n

theorem next_post {w w' : World} {e : Ending} {S : List Shr} {C : List Int} {q t : Int} {L : List Int} (h : NextPostM S C q t L w e w') :
    ∃ xa xl xc ya yl yc u T U, e = .returned (.tuple #[mv (.slice xa xl xc) (.slice ya yl yc) q t, u]) ∧ manyK.rep w' T (mv (.slice xa xl xc) (.slice ya yl yc) q t) ⟨S, C, q, t⟩ ∧ intsK.rep w' U u L ∧ Dj T U ∧ (∀ j, T j → w.heap.size ≤ j) ∧ (∀ j, U j → w.heap.size ≤ j) ∧ Below w.heap.size w w' := by
  obtain ⟨a, la, ca, d, ld, cd, v, n, c, rfl, F, G, V, A1, A2, A3, B⟩ := h
  refine ⟨_, _, _, _, _, _, _, _, _, rfl, many_mk F G A1, fit_ints V, ?_, ?_, fit_fresh V, B⟩
  · rintro j (h1 | h1) h2
    · exact apart_dj A2 j h1 h2
    · exact apart_dj A3 j h1 h2
  · rintro j (h1 | h1)
    · exact sfit_fresh F j h1
    · exact fit_fresh G j h1

theorem run_post {w w' : World} {e : Ending} {S : List Shr} {C : List Int} {q t : Int} {L : List (List Int)} (h : RunPostM S C q t L w e w') :
    ∃ xa xl xc ya yl yc u T U, e = .returned (.tuple #[mv (.slice xa xl xc) (.slice ya yl yc) q t, u]) ∧ manyK.rep w' T (mv (.slice xa xl xc) (.slice ya yl yc) q t) ⟨S, C, q, t⟩ ∧ listsK.rep w' U u L ∧ Dj T U ∧ (∀ j, T j → w.heap.size ≤ j) ∧ (∀ j, U j → w.heap.size ≤ j) ∧ Below w.heap.size w w' := by
  obtain ⟨a, la, ca, d, ld, cd, h, c, vs, rfl, F, G, A1, hh, ah, dh, T, l, B⟩ := h
  refine ⟨_, _, _, _, _, _, _, _, fun j => j = h ∨ (w.heap.size ≤ j ∧ j < w'.heap.size ∧ ¬ Taken a d h j), rfl, many_mk F G A1, ⟨h, c, vs, _, _, _, rfl, T, l, .inl rfl, fun _ => Iff.rfl⟩, ?_, ?_, ?_, B⟩
  · rintro j (h1 | h1) h2
    · cases a with
      | none => cases h1
      | some x =>
        rw [blk_some] at h1
        have h3 := Option.some.inj h1
        rcases h2 with h2 | ⟨_, _, h2⟩
        · exact ah x rfl (h3.trans h2)
        · exact h2 (.inr (.inl ⟨x, rfl, h3⟩))
    · cases d with
      | none => cases h1
      | some x =>
        rw [blk_some] at h1
        have h3 := Option.some.inj h1
        rcases h2 with h2 | ⟨_, _, h2⟩
        · exact dh x rfl (h3.trans h2)
        · exact h2 (.inr (.inr ⟨x, rfl, h3⟩))
  · rintro j (h1 | h1)
    · exact sfit_fresh F j h1
    · exact fit_fresh G j h1
  · rintro j (h1 | ⟨h1, _⟩)
    · omega
    · exact h1

theorem specNextK {w : World} {S : Bs} {v : Value} {d : MnD} (h : manyK.rep w S v d) (hs : (d.s.length : Int) ≤ 1048576) :
    Calls Tryz.prog 12 #[v] w fun e w' => ∃ xa xl xc ya yl yc u T U, e = .returned (.tuple #[mv (.slice xa xl xc) (.slice ya yl yc) (nxD d).q (nxD d).t, u]) ∧ manyK.rep w' T (mv (.slice xa xl xc) (.slice ya yl yc) (nxD d).q (nxD d).t) (nxD d) ∧ intsK.rep w' U u (nxW d) ∧ Dj T U ∧ (∀ j, T j → w.heap.size ≤ j) ∧ (∀ j, U j → w.heap.size ≤ j) ∧ Below w.heap.size w w' := by
  obtain ⟨a, la, ca, b, lb, cb, rfl, F, G, _, _⟩ := many_at h
  exact (specNextM a la ca d.s b lb cb d.c d.q d.t w F.shs G.ints (by have := F.1; omega)).mono (fun e w' h => next_post h)

theorem implNextK {w : World} {S : Bs} {v : Value} {d : MnD} (h : manyK.rep w S v d) (hs : (d.s.length : Int) ≤ 1048576) :
    Calls Tryz.prog 11 #[v] w fun e w' => ∃ xa xl xc ya yl yc u T U, e = .returned (.tuple #[mv (.slice xa xl xc) (.slice ya yl yc) (nxD d).q (nxD d).t, u]) ∧ manyK.rep w' T (mv (.slice xa xl xc) (.slice ya yl yc) (nxD d).q (nxD d).t) (nxD d) ∧ intsK.rep w' U u (nxW d) ∧ Dj T U ∧ (∀ j, T j → w.heap.size ≤ j) ∧ (∀ j, U j → w.heap.size ≤ j) ∧ Below w.heap.size w w' := by
  obtain ⟨a, la, ca, b, lb, cb, rfl, F, G, _, _⟩ := many_at h
  exact (implNextM a la ca d.s b lb cb d.c d.q d.t w F.shs G.ints (by have := F.1; omega)).mono (fun e w' h => next_post h)

theorem specRunK {w : World} {S : Bs} {v : Value} {d : MnD} (n : Int) (h : manyK.rep w S v d) (hs : (d.s.length : Int) ≤ 1048576) :
    Calls Tryz.prog 9 #[v, .int .i64 n] w fun e w' => ∃ xa xl xc ya yl yc u T U, e = .returned (.tuple #[mv (.slice xa xl xc) (.slice ya yl yc) (rnD d n).q (rnD d n).t, u]) ∧ manyK.rep w' T (mv (.slice xa xl xc) (.slice ya yl yc) (rnD d n).q (rnD d n).t) (rnD d n) ∧ listsK.rep w' U u (rnW d n) ∧ Dj T U ∧ (∀ j, T j → w.heap.size ≤ j) ∧ (∀ j, U j → w.heap.size ≤ j) ∧ Below w.heap.size w w' := by
  obtain ⟨a, la, ca, b, lb, cb, rfl, F, G, _, _⟩ := many_at h
  exact (specRunM a la ca d.s b lb cb d.c d.q d.t n w F.shs G.ints (by have := F.1; omega)).mono (fun e w' h => run_post h)

theorem implRunK {w : World} {S : Bs} {v : Value} {d : MnD} (n : Int) (h : manyK.rep w S v d) (hs : (d.s.length : Int) ≤ 1048576) :
    Calls Tryz.prog 8 #[v, .int .i64 n] w fun e w' => ∃ xa xl xc ya yl yc u T U, e = .returned (.tuple #[mv (.slice xa xl xc) (.slice ya yl yc) (rnD d n).q (rnD d n).t, u]) ∧ manyK.rep w' T (mv (.slice xa xl xc) (.slice ya yl yc) (rnD d n).q (rnD d n).t) (rnD d n) ∧ listsK.rep w' U u (rnW d n) ∧ Dj T U ∧ (∀ j, T j → w.heap.size ≤ j) ∧ (∀ j, U j → w.heap.size ≤ j) ∧ Below w.heap.size w w' := by
  obtain ⟨a, la, ca, b, lb, cb, rfl, F, G, _, _⟩ := many_at h
  exact (implRunM a la ca d.s b lb cb d.c d.q d.t n w F.shs G.ints (by have := F.1; omega)).mono (fun e w' h => run_post h)

theorem sumL_le {L : List (List Int)} {k : Nat} (h : ∀ xs ∈ L, xs.length ≤ k) : sumL L ≤ k * L.length := by
  induction L with
  | nil => simp [sumL]
  | cons xs L ih =>
    have h1 := h xs (List.mem_cons_self ..)
    have h2 := ih (fun ys hy => h ys (List.mem_cons_of_mem _ hy))
    rw [sumL, List.length_cons, Nat.mul_succ]
    omega

theorem nx_small (d : MnD) : ((nxD d).s.length ≤ 24 ∧ (nxD d).c.length ≤ 24 ∧ manyK.slots (nxD d) ≤ 100) ∧ (nxW d).length ≤ 24 ∧ intsK.slots (nxW d) ≤ 24 := by
  have h := rn_parts d.s d.c d.q d.t 1
  refine ⟨⟨h.1, h.2, ?_⟩, ?_⟩
  · show 2 * (rmS d.s d.c d.q d.t 1).length + (rmC d.s d.c d.q d.t 1).length ≤ 100
    omega
  · have h2 : (nxW d).length ≤ 24 := by
      show (nxL d.s d.c d.q d.t).length ≤ 24
      cases hk : runOkM d.s d.c d.q d.t 1
      · rw [nxL_no hk]; simp
      · rw [nxL_yes hk, icast, List.length_map]
        exact Nat.le_trans mList_len (run_fits hk).1
    exact ⟨h2, h2⟩

theorem rn_small (d : MnD) (n : Int) : ((rnD d n).s.length ≤ 24 ∧ (rnD d n).c.length ≤ 24 ∧ manyK.slots (rnD d n) ≤ 100) ∧ (rnW d n).length ≤ 3000 ∧ sumL (rnW d n) ≤ 72000 ∧ listsK.slots (rnW d n) ≤ 72000 := by
  have h := rn_parts d.s d.c d.q d.t n
  refine ⟨⟨h.1, h.2, ?_⟩, ?_⟩
  · show 2 * (rmS d.s d.c d.q d.t n).length + (rmC d.s d.c d.q d.t n).length ≤ 100
    omega
  · have h2 : (rnW d n).length ≤ 3000 ∧ sumL (rnW d n) ≤ 72000 := by
      show (rmL d.s d.c d.q d.t n).length ≤ 3000 ∧ sumL (rmL d.s d.c d.q d.t n) ≤ 72000
      cases hk : runOkM d.s d.c d.q d.t n
      · rw [(rm_no hk).2.2.2.2]
        exact ⟨by simp, by simp [sumL]⟩
      · have hf := run_fits hk
        rw [(rm_yes hk).2.2.2.2, mLists_len]
        have h3 : sumL (mLists d.s d.c d.q d.t n.toNat) ≤ 24 * n.toNat := by
          have := sumL_le (L := mLists d.s d.c d.q d.t n.toNat) (k := 24) (fun xs hx => by
            rw [mLists, List.mem_map] at hx
            obtain ⟨l, hl, rfl⟩ := hx
            rw [mWho, List.mem_map] at hl
            obtain ⟨j, _, rfl⟩ := hl
            rw [icast, List.length_map]
            exact Nat.le_trans mList_len hf.1)
          rwa [mLists_len] at this
        omega
    exact ⟨h2.1, h2.2, h2.2⟩

end Go.Proofs.YtjhenfdmbagaiaaGreat.Crew
