/-
  spec's parts of a right Shop: two slices of Shares alike, the weights of some tasks, what is not told of a policy.
-/
import Derived.Test.YtcmeimfjedakeaaGreatShopBase
import Derived.Deep.RegionHeld3
namespace Go.Proofs.YtcmeimfjedakeaaGreat.Crew
open Go.ChangeShapes Go.WideShapes Go.ChangeAt Go.RowKit

theorem shs_all {xs ys : List Shr} (h : xs.length = ys.length) (g : ∀ j, j < xs.length → xs.getD j (0, 0) = ys.getD j (0, 0)) : xs = ys := by
  refine List.ext_getElem h (fun i h1 h2 => ?_)
  have := g i h1
  simpa [List.getD, h1, h2] using this

/-- spec.l14Shares at every two slices. -/
theorem specSameS (a : Option Addr) (len cap : Nat) (xs : List Shr) (a' : Option Addr) (len' cap' : Nat) (ys : List Shr) (w : World) (I : Shs w a len xs) (J : Shs w a' len' ys) (hs : (len : Int) ≤ 1048576) :
    Calls Tryz.prog 141 #[.slice a len cap, .slice a' len' cap'] w fun e w' => e = .returned (.bool (decide (xs = ys))) ∧ Below w.heap.size w w' := by
  have HI : Hid (Shs w a len xs) := I
  have HJ : Hid (Shs w a' len' ys) := J
  have hl := I.1
  have hl' := J.1
  clear I J
  by_cases hlen : len = len'
  · subst hlen
    have hne : ((len : Int) != (len : Int)) = false := by simp
    have HL : Hid (xs.length = len ∧ ys.length = len) := ⟨hl, hl'⟩
    clear hl hl'
    go_enter Tryz.func141, Tryz.ntmps141
    go_wp2_with fail
    go_loopw [5] (fun i wr => ∃ k : Nat, k ≤ len ∧ i = .int .i64 k ∧ Hid ((∀ j, j < k → xs.getD j (0, 0) = ys.getD j (0, 0)) ∧ Below w.heap.size w wr)) (fun i _ => len - (intOf i).toNat)
    case atStart => exact ⟨0, Nat.zero_le _, rfl, fun j hj => by omega, Below.refl _ _⟩
    case round =>
      obtain ⟨k, hk, rfl, R⟩ := hrel
      by_cases hlt : k < len
      · obtain ⟨_, h0 | ⟨b, off, rfl, hb, hc⟩⟩ := HI.out.kept R.out.2
        · omega
        obtain ⟨_, h0 | ⟨b', off', rfl, hb', hc'⟩⟩ := HJ.out.kept R.out.2
        · omega
        obtain ⟨c0, c1⟩ := hc k hlt
        obtain ⟨d0, d1⟩ := hc' k hlt
        obtain ⟨x, hx⟩ : ∃ x, x = xs.getD k (0, 0) := ⟨_, rfl⟩
        obtain ⟨y, hy⟩ : ∃ y, y = ys.getD k (0, 0) := ⟨_, rfl⟩
        rw [← hx] at c0 c1
        rw [← hy] at d0 d1
        have hlt' : (k : Int) < (len : Int) := by omega
        have HX : Hid (x = xs.getD k (0, 0) ∧ y = ys.getD k (0, 0)) := ⟨hx, hy⟩
        clear hc hc' hx hy
        obtain ⟨x1, x2⟩ := x
        obtain ⟨y1, y2⟩ := y
        simp only at c0 c1 d0 d1
        by_cases he : x1 = y1 ∧ x2 = y2
        · obtain ⟨rfl, rfl⟩ := he
          have hb1 : (x1 == x1) = true := by simp
          have hb2 : (x2 == x2) = true := by simp
          have HE : Hid (∀ j, j < k + 1 → xs.getD j (0, 0) = ys.getD j (0, 0)) := fun j hj => by
            by_cases e : j = k
            · rw [e, ← HX.out.1, ← HX.out.2]
            · exact R.out.1 j (by omega)
          go_wp2_with fail
          go_quiet (fail)
          have RN : Hid (Below w.heap.size w (wr.drewN nq)) := below_drewN R.out.2 _
          generalize wr.drewN nq = wx at RN ⊢
          go_wp2_with fail
          go_roundw
          case rel => exact ⟨k + 1, by omega, by go_num, HE.out, RN.out⟩
          case measure => simp [intOf]; omega
        · have HE : Hid (decide (xs = ys) = false) := decide_eq_false (fun e => he (by have h1 := HX.out.1; have h2 := HX.out.2; rw [e, ← h2] at h1; exact ⟨congrArg Prod.fst h1, congrArg Prod.snd h1⟩))
          by_cases h1 : x1 = y1
          · have h2 : ¬ x2 = y2 := fun e => he ⟨h1, e⟩
            subst h1
            have hb1 : (x1 == x1) = true := by simp
            have hb2 : (x2 == y2) = false := by simpa using h2
            clear he h2
            go_wp2_with fail
            go_quiet (fail)
            have RN : Hid (Below w.heap.size w (wr.drewN nq)) := below_drewN R.out.2 _
            generalize wr.drewN nq = wx at RN ⊢
            go_wp2_with fail
            go_ret
            exact ⟨by rw [HE.out]; rfl, RN.out⟩
          · have hb1 : (x1 == y1) = false := by simpa using h1
            clear he h1
            go_wp2_with fail
            go_quiet (fail)
            have RN : Hid (Below w.heap.size w (wr.drewN nq)) := below_drewN R.out.2 _
            generalize wr.drewN nq = wx at RN ⊢
            go_wp2_with fail
            go_ret
            exact ⟨by rw [HE.out]; rfl, RN.out⟩
      · have hlt' : ¬ (k : Int) < (len : Int) := by omega
        have e : k = len := by omega
        subst e
        have HE : Hid (decide (xs = ys) = true) := decide_eq_true (shs_all (HL.out.1.trans HL.out.2.symm) (by rw [HL.out.1]; exact R.out.1))
        go_wp2_with fail
        go_ret
        exact ⟨by rw [HE.out]; rfl, R.out.2⟩
  · have hne : ((len : Int) != (len' : Int)) = true := by simp; omega
    have HE : Hid (decide (xs = ys) = false) := decide_eq_false (fun e => hlen (by rw [← hl, ← hl', e]))
    clear hl hl' hlen
    go_enter Tryz.func141, Tryz.ntmps141
    go_wp2_with fail
    go_ret
    exact ⟨by rw [HE.out]; rfl, Below.refl _ _⟩

/-- The weights of the first k of some Ids. -/
def cwTo (t : List Tsk) (ids : List Int) : Nat → List Int
  | 0 => []
  | k + 1 => cwTo t ids k ++ [(theT t (ids.getD k 0)).w]

def cw (t : List Tsk) (ids : List Int) : List Int := cwTo t ids ids.length

theorem cwTo_len (t : List Tsk) (ids : List Int) (k : Nat) : (cwTo t ids k).length = k := by
  induction k with
  | zero => rfl
  | succ k ih => rw [cwTo, List.length_append, ih]; rfl

theorem cw_len (t : List Tsk) (ids : List Int) : (cw t ids).length = ids.length := cwTo_len _ _ _

theorem int_one_at {X : World} {s : Nat} (h : X.heap.size = s) (x : Int) : Ints (X.alloc (.cells #[.int .i64 x] 2)) (some ⟨s, 0, none⟩) 1 [x] := by
  subst h
  exact ints_one X x _

set_option maxRecDepth 100000 in
/-- spec.l14Crew where each one is there. -/
theorem specCw (a : Option Addr) (len cap : Nat) (t : List Tsk) (a' : Option Addr) (len' cap' : Nat) (ids : List Int) (w : World) (I : Tsks w a len t) (J : Ints w a' len' ids) (hs : (len : Int) ≤ 1048576) (hs' : (len' : Int) ≤ 1048576) (hf : ∀ k, k < len' → 0 ≤ findT t (ids.getD k 0)) :
    Calls Tryz.prog 47 #[.slice a len cap, .slice a' len' cap'] w fun e w' => ∃ g c : Nat, e = .returned (.slice (some ⟨g, 0, none⟩) len' c) ∧ Row w' g c (cw t ids) ∧ w.heap.size ≤ g ∧ Below w.heap.size w w' := by
  obtain ⟨i0, hi, hz0, hz1, hz2⟩ := info_parts info_int
  have HI : Hid (Tsks w a len t) := I
  have HJ : Hid (Ints w a' len' ids) := J
  have HL : Hid (t.length = len ∧ ids.length = len') := ⟨I.1, J.1⟩
  have HF : Hid (∀ k, k < len' → 0 ≤ findT t (ids.getD k 0)) := hf
  have R0 : Hid (Row (w.alloc (.cells #[] 2)) w.heap.size 0 [] ∧ Below w.heap.size w (w.alloc (.cells #[] 2))) := ⟨row_nil w, below_new _ _⟩
  clear I J hf
  go_enter Tryz.func47, Tryz.ntmps47
  go_wp2_with fail
  go_loopw [5, 6] (fun q i wr => ∃ k g c : Nat, k ≤ len' ∧ i = .int .i64 k ∧ q = .slice (some ⟨g, 0, none⟩) k c ∧ Hid (Row wr g c (cwTo t ids k) ∧ w.heap.size ≤ g ∧ Below w.heap.size w wr)) (fun _ i _ => len' - (intOf i).toNat)
  case atStart => exact ⟨0, w.heap.size, 0, Nat.zero_le _, rfl, rfl, R0.out.1, Nat.le_refl _, R0.out.2⟩
  case round =>
    obtain ⟨k, g, c, hk, rfl, rfl, R⟩ := hrel
    by_cases hlt : k < len'
    · obtain ⟨_, h0 | ⟨b', off', rfl, hb', hc'⟩⟩ := HJ.out.kept R.out.2.2
      · omega
      have c1 := hc' k hlt
      obtain ⟨x, hx⟩ : ∃ x, x = ids.getD k 0 := ⟨_, rfl⟩
      rw [← hx] at c1
      have hlt' : (k : Int) < (len' : Int) := by omega
      have hfk := HF.out k hlt
      rw [← hx] at hfk
      have HX : Hid (x = ids.getD k 0) := hx
      obtain ⟨j, hj, hjl⟩ : ∃ j : Nat, findT t x = j ∧ j < t.length := by
        rcases findT_is t x with hn | h
        · omega
        · exact h
      clear hc' hx
      go_wp2_with fail
      refine (specFind a len cap t x _ (HI.out.kept R.out.2.2) hs).mono ?_
      rw [hj]
      rintro e wq ⟨rfl, rfl⟩
      obtain ⟨_, h0 | ⟨b, off, rfl, hb, hc⟩⟩ := tsks_parts (HI.out.kept R.out.2.2)
      · have := HL.out.1; omega
      have hjn : j < len := by have := HL.out.1; omega
      have hjn' : (j : Int) < (len : Int) := by omega
      have c2 := (hc j hjn).2.1
      obtain ⟨y, hy⟩ : ∃ y, y = (t.getD j tz).w := ⟨_, rfl⟩
      rw [← hy] at c2
      have HY : Hid (cwTo t ids (k + 1) = cwTo t ids k ++ [y]) := by
        show _ = _
        rw [cwTo, ← HX.out, theT, hj, Int.toNat_natCast, ← hy]
      have HK : Hid ((cwTo t ids k).length = k) := cwTo_len _ _ _
      clear hc hy hj hjl hfk
      go_wp2_with (at_builtin; refine wpList_append_ints rfl (.tmp 14) (.tmp 25) 27 rfl i0 Tryz.underlying27 hi hz0 hz1 hz2 _ _ _ (cwTo t ids k) rfl HK.out.symm (R.out.1.alloc _) _ _ _ [y] rfl (int_one_at (by simp) y) (by rw [HK.out]; omega) ?_)
      intro g4 c4 w4 R4 G4 D4
      have R5 : Hid (Row w4 g4 c4 (cwTo t ids (k + 1)) ∧ w.heap.size ≤ g4 ∧ Below w.heap.size w w4) := by
        have h1 := R.out.2.1
        have h2 := R.out.2.2.size
        rw [HY.out]
        exact ⟨R4, by first | omega | (simp at D4; omega), (R.out.2.2.alloc h2 _).grown G4 (by simp; omega) (fun i hi => by cases hi; exact h1)⟩
      clear R4 G4 D4
      go_wp2_with fail
      go_roundw
      case rel => exact ⟨k + 1, g4, c4, by omega, by go_num, rfl, R5⟩
      case measure => simp [intOf]; omega
    · have hlt' : ¬ (k : Int) < (len' : Int) := by omega
      have e : k = len' := by omega
      subst e
      go_wp2_with fail
      go_ret
      exact ⟨g, c, rfl, by rw [cw, HL.out.2]; exact R.out.1, R.out.2.1, R.out.2.2⟩

def noS (s r : List Int) : Bool := decide (s.length = 0) && decide (r.length = 0)

def noL (l h : List Int) (t p : Int) : Bool := decide (l.length = 0) && decide (h.length = 0) && decide (t = 0) && decide (p = 0)

def noM (y : List Shr) (z : List Int) (q t : Int) : Bool := decide (y.length = 0) && decide (z.length = 0) && decide (q = 0) && decide (t = 0)

theorem specNoS (a : Option Addr) (len cap : Nat) (a' : Option Addr) (len' cap' : Nat) (s r : List Int) (w : World) (hl : s.length = len) (hl' : r.length = len') :
    Calls Tryz.prog 92 #[sm (.slice a len cap) (.slice a' len' cap')] w fun e w' => e = .returned (.bool (noS s r)) ∧ Below w.heap.size w w' := by
  rw [noS, hl, hl']
  by_cases h1 : len = 0
  · subst h1
    by_cases h2 : len' = 0
    · subst h2
      go_enter Tryz.func92, Tryz.ntmps92
      go_wp2_with fail
      go_ret
      refine ⟨by simp, ?_⟩
      go_grown
    · have hb : ((len' : Int) == (0 : Int)) = false := by simp; omega
      have hd : decide (len' = 0) = false := decide_eq_false h2
      rw [hd]
      go_enter Tryz.func92, Tryz.ntmps92
      go_wp2_with fail
      go_ret
      refine ⟨by simp, ?_⟩
      go_grown
  · have hb : ((len : Int) == (0 : Int)) = false := by simp; omega
    have hd : decide (len = 0) = false := decide_eq_false h1
    rw [hd]
    go_enter Tryz.func92, Tryz.ntmps92
    go_wp2_with fail
    go_ret
    refine ⟨by simp, ?_⟩
    go_grown

end Go.Proofs.YtcmeimfjedakeaaGreat.Crew

/-
  Short forms for a region that draws its order, walked by hand: an operation that is taken, one that is not wanted; a frame made plain.
-/
namespace Go.Proofs.YtcmeimfjedakeaaGreat.Crew
open Go.ChangeShapes Go.WideShapes Go.ChangeAt Go.RowKit

section
variable {P : Program} {md : Region.Mode} {ops : Array Oper} {Q : Exit → Act → World → Prop} {S : World → Prop}

theorem tk_no (i : Nat) {oi : Oper} {fuel : Nat} {listed : Array Bool} {a : Act} {w : World} (h : wpAnyH P md ops Q S fuel (listed.setIfInBounds i true) (a.put oi.dst undef) w) (hi : ops[i]? = some oi := by rfl)
    (hs : Region.noSelect ops = true := by kernel_rfl) (hf : Region.free md ops listed i = true := by kernel_rfl) (hr : (Region.ready md ops listed).contains i = true := by kernel_rfl)
    (hQ : ∀ c a w, Q (.panic c) (a.put oi.dst undef) w → Q (.panic c) a w := by exact fun _ _ _ h => h) (hw : Region.wanted oi (yielded ops a.tmps) = false := by kernel_rfl) (hS : S w := by assumption) : wpAnyH P md ops Q S (fuel + 1) listed a w :=
  wpAnyH_take hi hs hf hr hQ (.inr ⟨hw, rfl⟩) hS h

theorem tk_go (i : Nat) {v : Value} {oi : Oper} {fuel : Nat} {listed : Array Bool} {a : Act} {w : World} (hy : ∀ w, S w → (execOp a.eval oi).run P w = .ok (.value v) w) (h : wpAnyH P md ops Q S fuel (listed.setIfInBounds i true) (a.put oi.dst v) w) (hi : ops[i]? = some oi := by rfl)
    (hs : Region.noSelect ops = true := by kernel_rfl) (hf : Region.free md ops listed i = true := by kernel_rfl) (hr : (Region.ready md ops listed).contains i = true := by kernel_rfl)
    (hQ : ∀ c a w, Q (.panic c) (a.put oi.dst v) w → Q (.panic c) a w := by exact fun _ _ _ h => h) (hw : Region.wanted oi (yielded ops a.tmps) = true := by kernel_rfl) (hS : S w := by assumption) : wpAnyH P md ops Q S (fuel + 1) listed a w :=
  wpAnyH_take hi hs hf hr hQ (.inl ⟨hw, hy⟩) hS h

/-- The frame made plain: 'simp only [nrm]'. -/
theorem nrm : (∀ (l : List Oper) (i : Nat) (h : i < l.toArray.size), l.toArray[i]'h = l[i]'(by simpa using h)) ∧ (∀ (x : Oper) (l : List Oper) (i : Nat) (h : i + 1 < (x :: l).length), (x :: l)[i + 1]'h = l[i]'(by simpa using h)) ∧ (∀ (x : Oper) (l : List Oper) (h : 0 < (x :: l).length), (x :: l)[0]'h = x)
    ∧ (∀ (l : List Value) (i : Nat) (v : Value), l.toArray.setIfInBounds i v = (l.set i v).toArray) ∧ (∀ (x v : Value) (l : List Value), (x :: l).set 0 v = v :: l) ∧ (∀ (x v : Value) (l : List Value) (i : Nat), (x :: l).set (i + 1) v = x :: l.set i v) :=
  ⟨fun _ _ _ => List.getElem_toArray .., fun _ _ _ _ => List.getElem_cons_succ .., fun _ _ _ => rfl, fun _ _ _ => List.setIfInBounds_toArray .., fun _ _ _ => rfl, fun _ _ _ _ => rfl⟩

end

end Go.Proofs.YtcmeimfjedakeaaGreat.Crew

/-
  spec's parts of a right Shop: no List, no Many, what does not hang on the epoch. (Written by wip/tools/gen_shopouter.py.)
-/
namespace Go.Proofs.YtcmeimfjedakeaaGreat.Crew
open Go.ChangeShapes Go.WideShapes Go.ChangeAt Go.RowKit

theorem specNoL (a : Option Addr) (len cap : Nat) (a' : Option Addr) (len' cap' : Nat) (l h : List Int) (t p : Int) (w : World) (hl : l.length = len) (hl' : h.length = len') :
    Calls Tryz.prog 93 #[lv (.slice a len cap) (.slice a' len' cap') t p] w fun e w' => e = .returned (.bool (noL l h t p)) ∧ Below w.heap.size w w' := by
  rw [noL, hl, hl']
  by_cases h0 : len = 0
  · subst h0
    by_cases h1 : len' = 0
    · subst h1
      by_cases h2 : t = 0
      · subst h2
        by_cases h3 : p = 0
        · subst h3
          go_enter Tryz.func93, Tryz.ntmps93
          go_wp2_with fail
          go_ret
          refine ⟨by simp, ?_⟩
          go_grown
        · have hd : decide (p = 0) = false := decide_eq_false h3
          rw [hd]
          have hb : (p == (0 : Int)) = false := by simpa using h3
          go_enter Tryz.func93, Tryz.ntmps93
          go_wp2_with fail
          go_ret
          refine ⟨by simp, ?_⟩
          go_grown
      · have hd : decide (t = 0) = false := decide_eq_false h2
        rw [hd]
        have hb : (t == (0 : Int)) = false := by simpa using h2
        go_enter Tryz.func93, Tryz.ntmps93
        go_wp2_with fail
        go_ret
        refine ⟨by simp, ?_⟩
        go_grown
    · have hd : decide (len' = 0) = false := decide_eq_false h1
      rw [hd]
      have hb : ((len' : Int) == (0 : Int)) = false := by simp; omega
      go_enter Tryz.func93, Tryz.ntmps93
      go_wp2_with fail
      go_ret
      refine ⟨by simp, ?_⟩
      go_grown
  · have hd : decide (len = 0) = false := decide_eq_false h0
    rw [hd]
    have hb : ((len : Int) == (0 : Int)) = false := by simp; omega
    go_enter Tryz.func93, Tryz.ntmps93
    go_wp2_with fail
    go_ret
    refine ⟨by simp, ?_⟩
    go_grown

theorem specNoM (a : Option Addr) (len cap : Nat) (a' : Option Addr) (len' cap' : Nat) (y : List Shr) (z : List Int) (q t : Int) (w : World) (hl : y.length = len) (hl' : z.length = len') :
    Calls Tryz.prog 94 #[mv (.slice a len cap) (.slice a' len' cap') q t] w fun e w' => e = .returned (.bool (noM y z q t)) ∧ Below w.heap.size w w' := by
  rw [noM, hl, hl']
  by_cases h0 : len = 0
  · subst h0
    by_cases h1 : len' = 0
    · subst h1
      by_cases h2 : q = 0
      · subst h2
        by_cases h3 : t = 0
        · subst h3
          go_enter Tryz.func94, Tryz.ntmps94
          go_wp2_with fail
          go_ret
          refine ⟨by simp, ?_⟩
          go_grown
        · have hd : decide (t = 0) = false := decide_eq_false h3
          rw [hd]
          have hb : (t == (0 : Int)) = false := by simpa using h3
          go_enter Tryz.func94, Tryz.ntmps94
          go_wp2_with fail
          go_ret
          refine ⟨by simp, ?_⟩
          go_grown
      · have hd : decide (q = 0) = false := decide_eq_false h2
        rw [hd]
        have hb : (q == (0 : Int)) = false := by simpa using h2
        go_enter Tryz.func94, Tryz.ntmps94
        go_wp2_with fail
        go_ret
        refine ⟨by simp, ?_⟩
        go_grown
    · have hd : decide (len' = 0) = false := decide_eq_false h1
      rw [hd]
      have hb : ((len' : Int) == (0 : Int)) = false := by simp; omega
      go_enter Tryz.func94, Tryz.ntmps94
      go_wp2_with fail
      go_ret
      refine ⟨by simp, ?_⟩
      go_grown
  · have hd : decide (len = 0) = false := decide_eq_false h0
    rw [hd]
    have hb : ((len : Int) == (0 : Int)) = false := by simp; omega
    go_enter Tryz.func94, Tryz.ntmps94
    go_wp2_with fail
    go_ret
    refine ⟨by simp, ?_⟩
    go_grown

/-- What does not hang on the epoch. -/
def outerB (d : SD) : Bool := within d.p 1 5 && procsOk d.q && (decide (d.q = 1) || decide (d.p = 5)) && tasksOk d.t && within d.w 0 1000000

theorem shop_new (w : World) (L : LT) (d : SD) : Bx (w.alloc (.cells (sc L d) 36)) w.heap.size (sc L d).toList := bx_new _ _ _

/-- The cells of a Shop in a variable. -/
theorem Bx.shop {w : World} {b : Nat} {L : LT} {d : SD} (h : Bx w b (sc L d).toList) :
    w.cell? ⟨b, 0, none⟩ = some (.int .i64 d.p) ∧ w.cell? ⟨b, 1, none⟩ = some (.int .i64 d.q) ∧ w.cell? ⟨b, 2, none⟩ = some L.t.v ∧ w.cell? ⟨b, 3, none⟩ = some L.m.v ∧ w.cell? ⟨b, 4, none⟩ = some L.c.v ∧ w.cell? ⟨b, 5, none⟩ = some L.n.v ∧ w.cell? ⟨b, 6, none⟩ = some L.s.v ∧ w.cell? ⟨b, 7, none⟩ = some L.r.v ∧ w.cell? ⟨b, 8, none⟩ = some L.l.v ∧ w.cell? ⟨b, 9, none⟩ = some L.h.v ∧ w.cell? ⟨b, 10, none⟩ = some (.int .i64 d.lt) ∧ w.cell? ⟨b, 11, none⟩ = some (.int .i64 d.la) ∧ w.cell? ⟨b, 12, none⟩ = some L.y.v ∧ w.cell? ⟨b, 13, none⟩ = some L.z.v ∧ w.cell? ⟨b, 14, none⟩ = some (.int .i64 d.yq) ∧ w.cell? ⟨b, 15, none⟩ = some (.int .i64 d.yt) ∧ w.cell? ⟨b, 16, none⟩ = some (.int .i64 d.w) :=
  ⟨h.2 0 _ rfl, h.2 1 _ rfl, h.2 2 _ rfl, h.2 3 _ rfl, h.2 4 _ rfl, h.2 5 _ rfl, h.2 6 _ rfl, h.2 7 _ rfl, h.2 8 _ rfl, h.2 9 _ rfl, h.2 10 _ rfl, h.2 11 _ rfl, h.2 12 _ rfl, h.2 13 _ rfl, h.2 14 _ rfl, h.2 15 _ rfl, h.2 16 _ rfl⟩

set_option maxRecDepth 100000 in
set_option maxHeartbeats 4000000 in
/-- spec.l14Outer at every Shop. -/
theorem specOuter (L : LT) (d : SD) (w : World) (I : Tsks w L.t.a L.t.n d.t) (hs : (L.t.n : Int) ≤ 1048576) :
    Calls Tryz.prog 44 #[sv L d] w fun e w' => e = .returned (.bool (outerB d)) ∧ Below w.heap.size w w' := by
  have HI : Hid (Tsks w L.t.a L.t.n d.t) := I
  clear I
  obtain ⟨W0, hW0⟩ : ∃ W0, W0 = w.alloc (.cells (sc L d) 36) := ⟨_, rfl⟩
  have H0 : Hid (Bx W0 w.heap.size (sc L d).toList ∧ Below w.heap.size w W0) := by rw [hW0]; exact ⟨shop_new _ _ _, below_new _ _⟩
  have HW : Hid (outerB d = (within d.p 1 5 && procsOk d.q && (decide (d.q = 1) || decide (d.p = 5)) && tasksOk d.t && within d.w 0 1000000)) := rfl
  cases hp : within d.p 1 5
  · have H1 : Hid (within d.p 1 5 = false ∧ True) := ⟨hp, trivial⟩
    have HE : Hid (outerB d = false) := by show _ = _; rw [HW.out, hp]; rfl
    clear hp
    go_enter Tryz.func44, Tryz.ntmps44
    go_wp2_with fail
    rw [← hW0]
    obtain ⟨c0, c1, c2, c3, c4, c5, c6, c7, c8, c9, c10, c11, c12, c13, c14, c15, c16⟩ := H0.out.1.shop
    clear hW0
    go_wp2_with fail
    refine (in_any d.p 1 5 _).mono ?_
    rw [H1.out.1]
    rintro e wz1 ⟨rfl, rfl⟩
    go_wp2_with fail
    go_ret
    exact ⟨by rw [HE.out]; rfl, H0.out.2⟩
  cases hq : procsOk d.q
  · have H1 : Hid (within d.p 1 5 = true ∧ procsOk d.q = false) := ⟨hp, hq⟩
    have HE : Hid (outerB d = false) := by show _ = _; rw [HW.out, hp, hq]; rfl
    clear hp hq
    go_enter Tryz.func44, Tryz.ntmps44
    go_wp2_with fail
    rw [← hW0]
    obtain ⟨c0, c1, c2, c3, c4, c5, c6, c7, c8, c9, c10, c11, c12, c13, c14, c15, c16⟩ := H0.out.1.shop
    clear hW0
    go_wp2_with fail
    refine (in_any d.p 1 5 _).mono ?_
    rw [H1.out.1]
    rintro e wz1 ⟨rfl, rfl⟩
    go_wp2_with fail
    refine (specProcs d.q _).mono ?_
    rw [H1.out.2]
    rintro e wz2 ⟨rfl, rfl⟩
    go_wp2_with fail
    go_ret
    exact ⟨by rw [HE.out]; rfl, H0.out.2⟩
  by_cases hq1 : d.q = 1
  · have hb1 : (d.q == (1 : Int)) = true := by simp [hq1]
    have HQ : Hid ((decide (d.q = 1) || decide (d.p = 5)) = true) := by show _ = _; rw [decide_eq_true hq1]; rfl
    clear hq1
    cases ht : tasksOk d.t
    · have H1 : Hid (within d.p 1 5 = true ∧ procsOk d.q = true ∧ tasksOk d.t = false ∧ True) := ⟨hp, hq, ht, trivial⟩
      have HE : Hid (outerB d = false) := by show _ = _; rw [HW.out, hp, hq, ht, Bool.and_false]; rfl
      clear hp hq ht
      go_enter Tryz.func44, Tryz.ntmps44
      go_wp2_with fail
      rw [← hW0]
      obtain ⟨c0, c1, c2, c3, c4, c5, c6, c7, c8, c9, c10, c11, c12, c13, c14, c15, c16⟩ := H0.out.1.shop
      clear hW0
      go_wp2_with fail
      refine (in_any d.p 1 5 _).mono ?_
      rw [H1.out.1]
      rintro e wz1 ⟨rfl, rfl⟩
      go_wp2_with fail
      refine (specProcs d.q _).mono ?_
      rw [H1.out.2.1]
      rintro e wz2 ⟨rfl, rfl⟩
      go_wp2_with fail
      refine (specTasksOk L.t.a L.t.n L.t.c d.t _ (HI.out.kept H0.out.2) hs).mono ?_
      rw [H1.out.2.2.1]
      rintro e wt ⟨rfl, BT⟩
      have HB : Hid (Below w.heap.size w wt ∧ Bx wt w.heap.size (sc L d).toList) := ⟨below_call H0.out.2 H0.out.2.size BT, H0.out.1.all BT⟩
      clear BT
      go_wp2_with fail
      go_ret
      exact ⟨by rw [HE.out]; rfl, HB.out.1⟩
    cases hw : within d.w 0 1000000
    · have H1 : Hid (within d.p 1 5 = true ∧ procsOk d.q = true ∧ tasksOk d.t = true ∧ within d.w 0 1000000 = false) := ⟨hp, hq, ht, hw⟩
      have HE : Hid (outerB d = false) := by show _ = _; rw [HW.out, hp, hq, ht, hw, HQ.out]; rfl
      clear hp hq ht hw
      go_enter Tryz.func44, Tryz.ntmps44
      go_wp2_with fail
      rw [← hW0]
      obtain ⟨c0, c1, c2, c3, c4, c5, c6, c7, c8, c9, c10, c11, c12, c13, c14, c15, c16⟩ := H0.out.1.shop
      clear hW0
      go_wp2_with fail
      refine (in_any d.p 1 5 _).mono ?_
      rw [H1.out.1]
      rintro e wz1 ⟨rfl, rfl⟩
      go_wp2_with fail
      refine (specProcs d.q _).mono ?_
      rw [H1.out.2.1]
      rintro e wz2 ⟨rfl, rfl⟩
      go_wp2_with fail
      refine (specTasksOk L.t.a L.t.n L.t.c d.t _ (HI.out.kept H0.out.2) hs).mono ?_
      rw [H1.out.2.2.1]
      rintro e wt ⟨rfl, BT⟩
      have HB : Hid (Below w.heap.size w wt ∧ Bx wt w.heap.size (sc L d).toList) := ⟨below_call H0.out.2 H0.out.2.size BT, H0.out.1.all BT⟩
      clear BT
      clear c0 c1 c2 c3 c4 c5 c6 c7 c8 c9 c10 c11 c12 c13 c14 c15 c16
      have c16 := HB.out.2.2 16 _ rfl
      go_wp2_with fail
      refine (in_any d.w 0 1000000 _).mono ?_
      rw [H1.out.2.2.2]
      rintro e wz3 ⟨rfl, rfl⟩
      go_wp2_with fail
      go_ret
      exact ⟨by rw [HE.out]; rfl, HB.out.1⟩
    · have H1 : Hid (within d.p 1 5 = true ∧ procsOk d.q = true ∧ tasksOk d.t = true ∧ within d.w 0 1000000 = true) := ⟨hp, hq, ht, hw⟩
      have HE : Hid (outerB d = true) := by show _ = _; rw [HW.out, hp, hq, ht, hw, HQ.out]; rfl
      clear hp hq ht hw
      go_enter Tryz.func44, Tryz.ntmps44
      go_wp2_with fail
      rw [← hW0]
      obtain ⟨c0, c1, c2, c3, c4, c5, c6, c7, c8, c9, c10, c11, c12, c13, c14, c15, c16⟩ := H0.out.1.shop
      clear hW0
      go_wp2_with fail
      refine (in_any d.p 1 5 _).mono ?_
      rw [H1.out.1]
      rintro e wz1 ⟨rfl, rfl⟩
      go_wp2_with fail
      refine (specProcs d.q _).mono ?_
      rw [H1.out.2.1]
      rintro e wz2 ⟨rfl, rfl⟩
      go_wp2_with fail
      refine (specTasksOk L.t.a L.t.n L.t.c d.t _ (HI.out.kept H0.out.2) hs).mono ?_
      rw [H1.out.2.2.1]
      rintro e wt ⟨rfl, BT⟩
      have HB : Hid (Below w.heap.size w wt ∧ Bx wt w.heap.size (sc L d).toList) := ⟨below_call H0.out.2 H0.out.2.size BT, H0.out.1.all BT⟩
      clear BT
      clear c0 c1 c2 c3 c4 c5 c6 c7 c8 c9 c10 c11 c12 c13 c14 c15 c16
      have c16 := HB.out.2.2 16 _ rfl
      go_wp2_with fail
      refine (in_any d.w 0 1000000 _).mono ?_
      rw [H1.out.2.2.2]
      rintro e wz3 ⟨rfl, rfl⟩
      go_wp2_with fail
      go_ret
      exact ⟨by rw [HE.out]; rfl, HB.out.1⟩
  have hb1 : (d.q == (1 : Int)) = false := by simpa using hq1
  by_cases hp5 : d.p = 5
  · have hb2 : (d.p == (5 : Int)) = true := by simp [hp5]
    have HQ : Hid ((decide (d.q = 1) || decide (d.p = 5)) = true) := by show _ = _; rw [decide_eq_true hp5, Bool.or_true]
    clear hq1 hp5
    cases ht : tasksOk d.t
    · have H1 : Hid (within d.p 1 5 = true ∧ procsOk d.q = true ∧ tasksOk d.t = false ∧ True) := ⟨hp, hq, ht, trivial⟩
      have HE : Hid (outerB d = false) := by show _ = _; rw [HW.out, hp, hq, ht, Bool.and_false]; rfl
      clear hp hq ht
      go_enter Tryz.func44, Tryz.ntmps44
      go_wp2_with fail
      rw [← hW0]
      obtain ⟨c0, c1, c2, c3, c4, c5, c6, c7, c8, c9, c10, c11, c12, c13, c14, c15, c16⟩ := H0.out.1.shop
      clear hW0
      go_wp2_with fail
      refine (in_any d.p 1 5 _).mono ?_
      rw [H1.out.1]
      rintro e wz1 ⟨rfl, rfl⟩
      go_wp2_with fail
      refine (specProcs d.q _).mono ?_
      rw [H1.out.2.1]
      rintro e wz2 ⟨rfl, rfl⟩
      go_wp2_with fail
      refine (specTasksOk L.t.a L.t.n L.t.c d.t _ (HI.out.kept H0.out.2) hs).mono ?_
      rw [H1.out.2.2.1]
      rintro e wt ⟨rfl, BT⟩
      have HB : Hid (Below w.heap.size w wt ∧ Bx wt w.heap.size (sc L d).toList) := ⟨below_call H0.out.2 H0.out.2.size BT, H0.out.1.all BT⟩
      clear BT
      go_wp2_with fail
      go_ret
      exact ⟨by rw [HE.out]; rfl, HB.out.1⟩
    cases hw : within d.w 0 1000000
    · have H1 : Hid (within d.p 1 5 = true ∧ procsOk d.q = true ∧ tasksOk d.t = true ∧ within d.w 0 1000000 = false) := ⟨hp, hq, ht, hw⟩
      have HE : Hid (outerB d = false) := by show _ = _; rw [HW.out, hp, hq, ht, hw, HQ.out]; rfl
      clear hp hq ht hw
      go_enter Tryz.func44, Tryz.ntmps44
      go_wp2_with fail
      rw [← hW0]
      obtain ⟨c0, c1, c2, c3, c4, c5, c6, c7, c8, c9, c10, c11, c12, c13, c14, c15, c16⟩ := H0.out.1.shop
      clear hW0
      go_wp2_with fail
      refine (in_any d.p 1 5 _).mono ?_
      rw [H1.out.1]
      rintro e wz1 ⟨rfl, rfl⟩
      go_wp2_with fail
      refine (specProcs d.q _).mono ?_
      rw [H1.out.2.1]
      rintro e wz2 ⟨rfl, rfl⟩
      go_wp2_with fail
      refine (specTasksOk L.t.a L.t.n L.t.c d.t _ (HI.out.kept H0.out.2) hs).mono ?_
      rw [H1.out.2.2.1]
      rintro e wt ⟨rfl, BT⟩
      have HB : Hid (Below w.heap.size w wt ∧ Bx wt w.heap.size (sc L d).toList) := ⟨below_call H0.out.2 H0.out.2.size BT, H0.out.1.all BT⟩
      clear BT
      clear c0 c1 c2 c3 c4 c5 c6 c7 c8 c9 c10 c11 c12 c13 c14 c15 c16
      have c16 := HB.out.2.2 16 _ rfl
      go_wp2_with fail
      refine (in_any d.w 0 1000000 _).mono ?_
      rw [H1.out.2.2.2]
      rintro e wz3 ⟨rfl, rfl⟩
      go_wp2_with fail
      go_ret
      exact ⟨by rw [HE.out]; rfl, HB.out.1⟩
    · have H1 : Hid (within d.p 1 5 = true ∧ procsOk d.q = true ∧ tasksOk d.t = true ∧ within d.w 0 1000000 = true) := ⟨hp, hq, ht, hw⟩
      have HE : Hid (outerB d = true) := by show _ = _; rw [HW.out, hp, hq, ht, hw, HQ.out]; rfl
      clear hp hq ht hw
      go_enter Tryz.func44, Tryz.ntmps44
      go_wp2_with fail
      rw [← hW0]
      obtain ⟨c0, c1, c2, c3, c4, c5, c6, c7, c8, c9, c10, c11, c12, c13, c14, c15, c16⟩ := H0.out.1.shop
      clear hW0
      go_wp2_with fail
      refine (in_any d.p 1 5 _).mono ?_
      rw [H1.out.1]
      rintro e wz1 ⟨rfl, rfl⟩
      go_wp2_with fail
      refine (specProcs d.q _).mono ?_
      rw [H1.out.2.1]
      rintro e wz2 ⟨rfl, rfl⟩
      go_wp2_with fail
      refine (specTasksOk L.t.a L.t.n L.t.c d.t _ (HI.out.kept H0.out.2) hs).mono ?_
      rw [H1.out.2.2.1]
      rintro e wt ⟨rfl, BT⟩
      have HB : Hid (Below w.heap.size w wt ∧ Bx wt w.heap.size (sc L d).toList) := ⟨below_call H0.out.2 H0.out.2.size BT, H0.out.1.all BT⟩
      clear BT
      clear c0 c1 c2 c3 c4 c5 c6 c7 c8 c9 c10 c11 c12 c13 c14 c15 c16
      have c16 := HB.out.2.2 16 _ rfl
      go_wp2_with fail
      refine (in_any d.w 0 1000000 _).mono ?_
      rw [H1.out.2.2.2]
      rintro e wz3 ⟨rfl, rfl⟩
      go_wp2_with fail
      go_ret
      exact ⟨by rw [HE.out]; rfl, HB.out.1⟩
  have hb2 : (d.p == (5 : Int)) = false := by simpa using hp5
  have H1 : Hid (within d.p 1 5 = true ∧ procsOk d.q = true) := ⟨hp, hq⟩
  have HE : Hid (outerB d = false) := by show _ = _; rw [HW.out, hp, hq, decide_eq_false hq1, decide_eq_false hp5]; rfl
  clear hp hq hq1 hp5
  go_enter Tryz.func44, Tryz.ntmps44
  go_wp2_with fail
  rw [← hW0]
  obtain ⟨c0, c1, c2, c3, c4, c5, c6, c7, c8, c9, c10, c11, c12, c13, c14, c15, c16⟩ := H0.out.1.shop
  clear hW0
  go_wp2_with fail
  refine (in_any d.p 1 5 _).mono ?_
  rw [H1.out.1]
  rintro e wz1 ⟨rfl, rfl⟩
  go_wp2_with fail
  refine (specProcs d.q _).mono ?_
  rw [H1.out.2]
  rintro e wz2 ⟨rfl, rfl⟩
  go_wp2_with fail
  go_ret
  exact ⟨by rw [HE.out]; rfl, H0.out.2⟩

end Go.Proofs.YtcmeimfjedakeaaGreat.Crew
