/-
  A Shop as it reads: its ten slices, its numbers, its seventeen cells; what is the same and what is not.
-/
import Derived.Test.YtcmeimfjedakeaaGreatTaskTurn
import Derived.Test.YtcmeimfjedakeaaGreatManyBase
import Derived.Test.YtcmeimfjedakeaaGreatListBase
import Derived.Test.YtcmeimfjedakeaaGreatAdjFair
namespace Go.Proofs.YtcmeimfjedakeaaGreat.Crew
open Go.ChangeShapes Go.WideShapes Go.ChangeAt Go.RowKit

/-- Where a slice lies. -/
structure SL where
  a : Option Addr
  n : Nat
  c : Nat

abbrev SL.v (s : SL) : Value := .slice s.a s.n s.c

abbrev nl : SL := ⟨none, 0, 0⟩

/-- The slices of a Shop: tasks, members, crew, counts, of Smooth crew and rich, of List crew and had, of Many shares and counts. -/
structure LT where
  t : SL
  m : SL
  c : SL
  n : SL
  s : SL
  r : SL
  l : SL
  h : SL
  y : SL
  z : SL

/-- What a Shop reads as. -/
structure SD where
  p : Int
  q : Int
  t : List Tsk
  m : List Int
  c : List Int
  n : List Int
  s : List Int
  r : List Int
  l : List Int
  h : List Int
  lt : Int
  la : Int
  y : List Shr
  z : List Int
  yq : Int
  yt : Int
  w : Int

/-- A Shop as a value. -/
abbrev sv (L : LT) (d : SD) : Value := .agg #[.int .i64 d.p, .int .i64 d.q, L.t.v, L.m.v, L.c.v, L.n.v, L.s.v, L.r.v, L.l.v, L.h.v, .int .i64 d.lt, .int .i64 d.la, L.y.v, L.z.v, .int .i64 d.yq, .int .i64 d.yt, .int .i64 d.w]

/-- Its cells. -/
abbrev sc (L : LT) (d : SD) : Array Value := #[.int .i64 d.p, .int .i64 d.q, L.t.v, L.m.v, L.c.v, L.n.v, L.s.v, L.r.v, L.l.v, L.h.v, .int .i64 d.lt, .int .i64 d.la, L.y.v, L.z.v, .int .i64 d.yq, .int .i64 d.yt, .int .i64 d.w]

/-- All its slices read as they are to. -/
structure Rd (w : World) (L : LT) (d : SD) : Prop where
  t : Tsks w L.t.a L.t.n d.t
  m : Ints w L.m.a L.m.n d.m
  c : Ints w L.c.a L.c.n d.c
  n : Ints w L.n.a L.n.n d.n
  s : Ints w L.s.a L.s.n d.s
  r : Ints w L.r.a L.r.n d.r
  l : Ints w L.l.a L.l.n d.l
  h : Ints w L.h.a L.h.n d.h
  y : Shs w L.y.a L.y.n d.y
  z : Ints w L.z.a L.z.n d.z

theorem Rd.kept {w w' : World} {L : LT} {d : SD} (h : Rd w L d) (k : Below w.heap.size w w') : Rd w' L d :=
  ⟨h.t.kept k, h.m.kept k, h.c.kept k, h.n.kept k, h.s.kept k, h.r.kept k, h.l.kept k, h.h.kept k, h.y.kept k, h.z.kept k⟩

/-- How long its slices may be. -/
def Short (L : LT) : Prop := ∀ x ∈ [L.t, L.m, L.c, L.n, L.s, L.r, L.l, L.h, L.y, L.z], ((x.n : Nat) : Int) ≤ 1048576

theorem short_parts {L : LT} (h : Short L) : (L.t.n : Int) ≤ 1048576 ∧ (L.m.n : Int) ≤ 1048576 ∧ (L.c.n : Int) ≤ 1048576 ∧ (L.n.n : Int) ≤ 1048576 ∧ (L.s.n : Int) ≤ 1048576 ∧ (L.r.n : Int) ≤ 1048576 ∧ (L.l.n : Int) ≤ 1048576 ∧ (L.h.n : Int) ≤ 1048576 ∧ (L.y.n : Int) ≤ 1048576 ∧ (L.z.n : Int) ≤ 1048576 :=
  ⟨h _ (by simp), h _ (by simp), h _ (by simp), h _ (by simp), h _ (by simp), h _ (by simp), h _ (by simp), h _ (by simp), h _ (by simp), h _ (by simp)⟩

/-- The same numbers up to k. -/
def sameTo (xs ys : List Int) (k : Nat) : Prop := ∀ j, j < k → xs.getD j 0 = ys.getD j 0

theorem same_all {xs ys : List Int} (h : xs.length = ys.length) (g : sameTo xs ys xs.length) : xs = ys := by
  refine List.ext_getElem h (fun i h1 h2 => ?_)
  have := g i h1
  simpa [List.getD, h1, h2] using this

theorem same_no {xs ys : List Int} {k : Nat} (h : ¬ xs.getD k 0 = ys.getD k 0) : ¬ xs = ys := fun e => h (by rw [e])

/-- spec.l14Same at every two slices. -/
theorem specSame (a : Option Addr) (len cap : Nat) (xs : List Int) (a' : Option Addr) (len' cap' : Nat) (ys : List Int) (w : World) (I : Ints w a len xs) (J : Ints w a' len' ys) (hs : (len : Int) ≤ 1048576) :
    Calls Tryz.prog 91 #[.slice a len cap, .slice a' len' cap'] w fun e w' => e = .returned (.bool (decide (xs = ys))) ∧ Below w.heap.size w w' := by
  have HI : Hid (Ints w a len xs) := I
  have HJ : Hid (Ints w a' len' ys) := J
  have hl := I.1
  have hl' := J.1
  clear I J
  by_cases hlen : len = len'
  · subst hlen
    have hne : ((len : Int) != (len : Int)) = false := by simp
    have HL : Hid (xs.length = len ∧ ys.length = len) := ⟨hl, hl'⟩
    clear hl hl'
    go_enter Tryz.func91, Tryz.ntmps91
    go_wp2_with fail
    go_loopw [5] (fun i wr => ∃ k : Nat, k ≤ len ∧ i = .int .i64 k ∧ Hid (sameTo xs ys k ∧ Below w.heap.size w wr)) (fun i _ => len - (intOf i).toNat)
    case atStart => exact ⟨0, Nat.zero_le _, rfl, fun j hj => by omega, Below.refl _ _⟩
    case round =>
      obtain ⟨k, hk, rfl, R⟩ := hrel
      by_cases hlt : k < len
      · obtain ⟨_, h0 | ⟨b, off, rfl, hb, hc⟩⟩ := HI.out.kept R.out.2
        · omega
        obtain ⟨_, h0 | ⟨b', off', rfl, hb', hc'⟩⟩ := HJ.out.kept R.out.2
        · omega
        have c0 := hc k hlt
        have c1 := hc' k hlt
        obtain ⟨x, hx⟩ : ∃ x, x = xs.getD k 0 := ⟨_, rfl⟩
        obtain ⟨y, hy⟩ : ∃ y, y = ys.getD k 0 := ⟨_, rfl⟩
        rw [← hx] at c0
        rw [← hy] at c1
        have hlt' : (k : Int) < (len : Int) := by omega
        have HX : Hid (x = xs.getD k 0 ∧ y = ys.getD k 0) := ⟨hx, hy⟩
        clear hc hc' hx hy
        by_cases he : x = y
        · have hb1 : (x != y) = false := by simp [he]
          have HE : Hid (sameTo xs ys (k + 1)) := fun j hj => by
            by_cases e : j = k
            · rw [e, ← HX.out.1, ← HX.out.2, he]
            · exact R.out.1 j (by omega)
          clear he
          go_wp2_with fail
          go_quiet (fail)
          have RN : Hid (Below w.heap.size w (wr.drewN nq)) := below_drewN R.out.2 _
          generalize wr.drewN nq = wx at RN ⊢
          go_wp2_with fail
          go_roundw
          case rel => exact ⟨k + 1, by omega, by go_num, HE.out, RN.out⟩
          case measure => simp [intOf]; omega
        · have hb1 : (x != y) = true := by simp [he]
          have HE : Hid (decide (xs = ys) = false) := decide_eq_false (same_no (by rw [← HX.out.1, ← HX.out.2]; exact he))
          clear he
          go_wp2_with fail
          go_quiet (fail)
          have RN : Hid (Below w.heap.size w (wr.drewN nq)) := below_drewN R.out.2 _
          generalize wr.drewN nq = wx at RN ⊢
          go_wp2_with fail
          go_ret
          exact ⟨by rw [HE.out]; rfl, RN.out⟩
      · have hlt' : ¬ (k : Int) < (len : Int) := by omega
        have e : k = len := by omega
        subst e
        have HE : Hid (decide (xs = ys) = true) := decide_eq_true (same_all (HL.out.1.trans HL.out.2.symm) (by rw [HL.out.1]; exact R.out.1))
        go_wp2_with fail
        go_ret
        exact ⟨by rw [HE.out]; rfl, R.out.2⟩
  · have hne : ((len : Int) != (len' : Int)) = true := by simp; omega
    have HE : Hid (decide (xs = ys) = false) := decide_eq_false (fun e => hlen (by rw [← hl, ← hl', e]))
    clear hl hl' hlen
    go_enter Tryz.func91, Tryz.ntmps91
    go_wp2_with fail
    go_ret
    exact ⟨by rw [HE.out]; rfl, Below.refl _ _⟩

end Go.Proofs.YtcmeimfjedakeaaGreat.Crew
