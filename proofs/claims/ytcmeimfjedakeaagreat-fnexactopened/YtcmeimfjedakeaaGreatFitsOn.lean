/-
  How many of some Shares are whole: impl.WholeOf and spec.WholeOf at every slice, and the law FnExactWholeOf.
-/
import Derived.Test.YtcmeimfjedakeaaGreatShsLaws
namespace Go.Proofs.YtcmeimfjedakeaaGreat.Crew
open Go.ChangeShapes Go.WideShapes Go.ChangeAt Go.RowKit Go.Proofs.YtcmeimfjedakeaaGreat.Win

/-- How many have Num as Den. -/
def wholeN (ps : List Shr) : Nat := ps.countP fun p => p.1 == p.2

theorem wholeN_le (ps : List Shr) : wholeN ps ≤ ps.length := List.countP_le_length

theorem wholeN_yes {ps : List Shr} {k : Nat} (h : k < ps.length) (he : (ps.getD k (0, 0)).1 = (ps.getD k (0, 0)).2) : wholeN (ps.take (k + 1)) = wholeN (ps.take k) + 1 := by
  rw [show ps.getD k (0, 0) = ps[k] by simp [List.getD, h]] at he
  rw [wholeN, List.take_succ_eq_append_getElem h, List.countP_append, List.countP_singleton, if_pos (by rw [he]; simp)]
  rfl

theorem wholeN_no {ps : List Shr} {k : Nat} (h : k < ps.length) (he : ¬ (ps.getD k (0, 0)).1 = (ps.getD k (0, 0)).2) : wholeN (ps.take (k + 1)) = wholeN (ps.take k) := by
  rw [show ps.getD k (0, 0) = ps[k] by simp [List.getD, h]] at he
  rw [wholeN, List.take_succ_eq_append_getElem h, List.countP_append, List.countP_singleton, if_neg (by simpa using he)]
  rfl

theorem wholeN_take (ps : List Shr) (k : Nat) : wholeN (ps.take k) ≤ k := Nat.le_trans (wholeN_le _) (by simp; omega)

theorem specWhole (a : Option Addr) (len cap : Nat) (ps : List Shr) (w : World) (I : Shs w a len ps) (hs : (len : Int) ≤ 1048576) :
    Calls Tryz.prog 168 #[.slice a len cap] w fun e w' => e = .returned (.int .i64 (wholeN ps)) ∧ Below w.heap.size w w' := by
  have HI : Hid (Shs w a len ps) := I
  clear I
  go_enter Tryz.func168, Tryz.ntmps168
  go_wp2_with fail
  go_loopw [3, 4] (fun q i wr => ∃ k c : Nat, k ≤ len ∧ i = .int .i64 k ∧ q = .int .i64 c ∧ c ≤ k ∧ Hid (c = wholeN (ps.take k)) ∧ Hid (Below w.heap.size w wr)) (fun _ i _ => len - (intOf i).toNat)
  case atStart => exact ⟨0, 0, Nat.zero_le _, rfl, rfl, Nat.le_refl _, by show _ = _; simp [wholeN], Below.refl _ _⟩
  case round =>
    obtain ⟨k, c, hk, rfl, rfl, hck, E, B⟩ := hrel
    by_cases hlt : k < len
    · obtain ⟨hl1, h0 | ⟨b1, off1, rfl, hb1, hc1⟩⟩ := HI.out.kept B.out
      · omega
      obtain ⟨x, hx⟩ : ∃ x, x = (ps.getD k (0, 0)).1 := ⟨_, rfl⟩
      obtain ⟨y, hy⟩ : ∃ y, y = (ps.getD k (0, 0)).2 := ⟨_, rfl⟩
      obtain ⟨p0, p1⟩ := hc1 k hlt
      rw [← hx] at p0
      rw [← hy] at p1
      have hlt' : (k : Int) < (len : Int) := by omega
      by_cases hxy : x = y
      · have E1 : Hid (c + 1 = wholeN (ps.take (k + 1))) := by rw [wholeN_yes (by omega) (by rw [← hx, ← hy]; exact hxy), ← E.out]; exact rfl
        have hn : (x == y) = true := by simp [hxy]
        clear hc1 hx hy hxy
        go_wp2_with fail
        go_quiet (fail)
        go_wp2_with fail
        go_roundw
        case rel => exact ⟨k + 1, c + 1, by omega, by go_num, by go_num, by omega, E1, below_drewN B.out _⟩
        case measure => simp [intOf]; omega
      · have E1 : Hid (c = wholeN (ps.take (k + 1))) := by rw [wholeN_no (by omega) (by rw [← hx, ← hy]; exact hxy)]; exact E
        have hn : (x == y) = false := by simp [hxy]
        clear hc1 hx hy hxy
        go_wp2_with fail
        go_quiet (fail)
        go_wp2_with fail
        go_roundw
        case rel => exact ⟨k + 1, c, by omega, by go_num, rfl, by omega, E1, below_drewN B.out _⟩
        case measure => simp [intOf]; omega
    · have hlt' : ¬ (k : Int) < (len : Int) := by omega
      have EF : Hid (c = wholeN ps) := by
        have := E.out
        rw [List.take_of_length_le (by have := HI.out.1; omega)] at this
        exact this
      go_wp2_with fail
      go_ret
      exact ⟨by rw [EF.out]; rfl, B.out⟩

theorem isWhole_any (n d : Int) (w : World) :
    Calls Tryz.prog 240 #[sh n d] w fun e w' => e = .returned (.bool (n == d)) ∧ w' = w.alloc (.cells #[.int .i64 n, .int .i64 d] 122) := by
  go_enter Tryz.func240, Tryz.ntmps240
  go_wp2_with fail
  go_ret
  exact ⟨rfl, rfl⟩

theorem implWhole (a : Option Addr) (len cap : Nat) (ps : List Shr) (w : World) (I : Shs w a len ps) (hs : (len : Int) ≤ 1048576) :
    Calls Tryz.prog 235 #[.slice a len cap] w fun e w' => e = .returned (.int .i64 (wholeN ps)) ∧ Below w.heap.size w w' := by
  have HI : Hid (Shs w a len ps) := I
  clear I
  go_enter Tryz.func235, Tryz.ntmps235
  go_wp2_with fail
  go_loopw [3, 8] (fun q i wr => ∃ k c : Nat, k ≤ len ∧ i = .int .i64 k ∧ q = .int .i64 c ∧ c ≤ k ∧ Hid (c = wholeN (ps.take k)) ∧ Hid (Below w.heap.size w wr)) (fun _ i _ => len - (intOf i).toNat)
  case atStart => exact ⟨0, 0, Nat.zero_le _, rfl, rfl, Nat.le_refl _, by show _ = _; simp [wholeN], Below.refl _ _⟩
  case round =>
    obtain ⟨k, c, hk, rfl, rfl, hck, E, B⟩ := hrel
    by_cases hlt : k < len
    · obtain ⟨hl1, h0 | ⟨b1, off1, rfl, hb1, hc1⟩⟩ := HI.out.kept B.out
      · omega
      obtain ⟨x, hx⟩ : ∃ x, x = (ps.getD k (0, 0)).1 := ⟨_, rfl⟩
      obtain ⟨y, hy⟩ : ∃ y, y = (ps.getD k (0, 0)).2 := ⟨_, rfl⟩
      obtain ⟨p0, p1⟩ := hc1 k hlt
      rw [← hx] at p0
      rw [← hy] at p1
      have hlt' : (k : Int) < (len : Int) := by omega
      have BZ : Hid (∀ t, Below w.heap.size w ((wr.alloc (.cells #[.int .i64 x, .int .i64 y] t)).alloc (.cells #[.int .i64 x, .int .i64 y] 122))) := fun t => (B.out.alloc B.out.size _).alloc (by have := B.out.size; simp; omega) _
      by_cases hxy : x = y
      · have E1 : Hid (c + 1 = wholeN (ps.take (k + 1))) := by rw [wholeN_yes (by omega) (by rw [← hx, ← hy]; exact hxy), ← E.out]; exact rfl
        have hn : (x == y) = true := by simp [hxy]
        clear hc1 hx hy hxy
        go_wp2_with fail
        refine (isWhole_any _ _ _).mono ?_
        rintro e w2 ⟨rfl, rfl⟩
        rw [hn]
        go_wp2_with fail
        go_roundw
        case rel => exact ⟨k + 1, c + 1, by omega, by go_num, by go_num, by omega, E1, BZ.out _⟩
        case measure => simp [intOf]; omega
      · have E1 : Hid (c = wholeN (ps.take (k + 1))) := by rw [wholeN_no (by omega) (by rw [← hx, ← hy]; exact hxy)]; exact E
        have hn : (x == y) = false := by simp [hxy]
        clear hc1 hx hy hxy
        go_wp2_with fail
        refine (isWhole_any _ _ _).mono ?_
        rintro e w2 ⟨rfl, rfl⟩
        rw [hn]
        go_wp2_with fail
        go_roundw
        case rel => exact ⟨k + 1, c, by omega, by go_num, rfl, by omega, E1, BZ.out _⟩
        case measure => simp [intOf]; omega
    · have hlt' : ¬ (k : Int) < (len : Int) := by omega
      have EF : Hid (c = wholeN ps) := by
        have := E.out
        rw [List.take_of_length_le (by have := HI.out.1; omega)] at this
        exact this
      go_wp2_with fail
      go_ret
      exact ⟨by rw [EF.out]; rfl, B.out⟩

end Go.Proofs.YtcmeimfjedakeaaGreat.Crew

/-
  Whether Shares fit on some processors: the one Den and the Nums together of those that are not whole (no code here).
-/
namespace Go.Proofs.YtcmeimfjedakeaaGreat.Crew
open Go.Proofs.YtcmeimfjedakeaaGreat.Win

/-- One more of the Shares. -/
def partStep (s : Option (Int × Int)) (p : Shr) : Option (Int × Int) :=
  match s with
  | none => none
  | some q => if shareOk p.1 p.2 then (if p.1 = p.2 then some q else if q.1 ≠ 0 ∧ p.2 ≠ q.1 then none else some (p.2, q.2 + p.1)) else none

/-- The one Den and all Nums of those that are not whole; nothing where there are two Dens or one is not right. -/
def parts (ps : List Shr) : Option (Int × Int) := ps.foldl partStep (some (0, 0))

def procsOk (n : Int) : Bool := within n 1 8

def fitsOn (ps : List Shr) (n : Int) : Bool :=
  procsOk n && decide (ps.length ≤ 24) && (match parts ps with
    | none => false
    | some q => decide ((wholeN ps : Int) ≤ n) && decide (q.2 ≤ q.1 * (n - wholeN ps)))

theorem parts_step {ps : List Shr} {k : Nat} (h : k < ps.length) : parts (ps.take (k + 1)) = partStep (parts (ps.take k)) (ps.getD k (0, 0)) := by
  rw [show ps.getD k (0, 0) = ps[k] by simp [List.getD, h], parts, List.take_succ_eq_append_getElem h, List.foldl_append]
  rfl

theorem fold_none (ps : List Shr) : ps.foldl partStep none = none := by
  induction ps with
  | nil => rfl
  | cons p ps ih => exact ih

theorem parts_dead {ps : List Shr} {k : Nat} (h : parts (ps.take k) = none) : parts ps = none := by
  have e : parts ps = (ps.drop k).foldl partStep (parts (ps.take k)) := by
    rw [parts, parts, ← List.foldl_append, List.take_append_drop]
  rw [e, h, fold_none]

theorem step_bad {q : Int × Int} {p : Shr} (h : shareOk p.1 p.2 = false) : partStep (some q) p = none := by
  simp [partStep, h]

theorem step_whole {q : Int × Int} {p : Shr} (h : shareOk p.1 p.2 = true) (he : p.1 = p.2) : partStep (some q) p = some q := by
  rw [partStep, if_pos h, if_pos he]

theorem step_two {q : Int × Int} {p : Shr} (h : shareOk p.1 p.2 = true) (he : ¬ p.1 = p.2) (h0 : ¬ q.1 = 0) (h1 : ¬ p.2 = q.1) : partStep (some q) p = none := by
  rw [partStep, if_pos h, if_neg he, if_pos ⟨h0, h1⟩]

theorem step_more {q : Int × Int} {p : Shr} (h : shareOk p.1 p.2 = true) (he : ¬ p.1 = p.2) (h0 : q.1 = 0 ∨ p.2 = q.1) : partStep (some q) p = some (p.2, q.2 + p.1) := by
  rw [partStep, if_pos h, if_neg he, if_neg (fun x => by rcases h0 with h | h; exact x.1 h; exact x.2 h)]

theorem fits_none {ps : List Shr} {n : Int} (h : parts ps = none) : fitsOn ps n = false := by
  simp [fitsOn, h]

theorem fits_procs {ps : List Shr} {n : Int} (h : procsOk n = false) : fitsOn ps n = false := by
  simp [fitsOn, h]

theorem fits_long {ps : List Shr} {n : Int} (h : ¬ ps.length ≤ 24) : fitsOn ps n = false := by
  have : decide (ps.length ≤ 24) = false := decide_eq_false h
  simp [fitsOn, this]

theorem fits_many {ps : List Shr} {n : Int} (h : ¬ (wholeN ps : Int) ≤ n) : fitsOn ps n = false := by
  unfold fitsOn
  rw [Bool.and_eq_false_iff]
  right
  cases parts ps with
  | none => rfl
  | some q => simp [h]

theorem fits_is {ps : List Shr} {n : Int} {den sum : Int} (h0 : procsOk n = true) (h1 : ps.length ≤ 24) (h : parts ps = some (den, sum)) (hw : (wholeN ps : Int) ≤ n) : fitsOn ps n = decide (sum ≤ den * (n - wholeN ps)) := by
  unfold fitsOn
  rw [h0, h, decide_eq_true h1, decide_eq_true hw]
  simp

theorem procs_yes {n : Int} (h : procsOk n = true) : 1 ≤ n ∧ n ≤ 8 := by
  have := within_yes h
  omega

theorem den_mul {den d : Int} (h0 : 0 ≤ den) (h1 : den ≤ 100000000) (d0 : -24 ≤ d) (d1 : d ≤ 8) : -2400000000 ≤ den * d ∧ den * d ≤ 800000000 := by
  constructor
  · have := Int.mul_le_mul_of_nonneg_left d0 h0
    omega
  · have := Int.mul_le_mul_of_nonneg_left d1 h0
    omega

theorem fold_bd : ∀ (ps : List Shr) (o : Option (Int × Int)) (K : Int), (∀ q, o = some q → 0 ≤ q.1 ∧ q.1 ≤ 100000000 ∧ 0 ≤ q.2 ∧ q.2 ≤ 100000000 * K) → 0 ≤ K →
    ∀ q, ps.foldl partStep o = some q → 0 ≤ q.1 ∧ q.1 ≤ 100000000 ∧ 0 ≤ q.2 ∧ q.2 ≤ 100000000 * (K + ps.length) := by
  intro ps
  induction ps with
  | nil =>
    intro o K h hK q hq
    obtain ⟨h1, h2, h3, h4⟩ := h q hq
    refine ⟨h1, h2, h3, ?_⟩
    simpa using h4
  | cons p ps ih =>
    intro o K h hK q hq
    have := ih (partStep o p) (K + 1) ?_ (by omega) q hq
    · obtain ⟨h1, h2, h3, h4⟩ := this
      refine ⟨h1, h2, h3, ?_⟩
      simp only [List.length_cons]
      omega
    · intro r hr
      cases o with
      | none => simp [partStep] at hr
      | some t =>
        obtain ⟨h1, h2, h3, h4⟩ := h t rfl
        unfold partStep at hr
        simp only at hr
        split at hr
        · rename_i hok
          obtain ⟨x1, x2, y2⟩ := share_yes hok
          split at hr
          · cases hr
            exact ⟨h1, h2, h3, by omega⟩
          · split at hr
            · cases hr
            · cases hr
              simp only
              omega
        · cases hr

theorem parts_bd (ps : List Shr) (q : Int × Int) (h : parts ps = some q) : 0 ≤ q.1 ∧ q.1 ≤ 100000000 ∧ 0 ≤ q.2 ∧ q.2 ≤ 100000000 * (ps.length : Int) := by
  have := fold_bd ps (some (0, 0)) 0 (by intro q hq; cases hq; simp) (by omega) q h
  simpa using this

end Go.Proofs.YtcmeimfjedakeaaGreat.Crew

/-
  Whether Shares fit: impl.FitsOn, spec.FitsOn.
-/
namespace Go.Proofs.YtcmeimfjedakeaaGreat.Crew
open Go.ChangeShapes Go.WideShapes Go.ChangeAt Go.RowKit Go.Proofs.YtcmeimfjedakeaaGreat.Win

theorem specProcs (n : Int) (w : World) : Calls Tryz.prog 108 #[.int .i64 n] w fun e w' => e = .returned (.bool (procsOk n)) ∧ w' = w := by
  go_enter Tryz.func108, Tryz.ntmps108
  go_wp2_with fail
  refine (in_any _ _ _ _).mono ?_
  rintro e w1 ⟨rfl, rfl⟩
  go_wp2_with fail
  go_ret
  exact ⟨rfl, rfl⟩

theorem implProcs (n : Int) (w : World) : Calls Tryz.prog 230 #[.int .i64 n] w fun e w' => e = .returned (.bool (procsOk n)) ∧ w' = w := by
  by_cases h1 : 1 ≤ n
  · by_cases h2 : n ≤ 8
    · have e : procsOk n = true := by simp [procsOk, within]; omega
      rw [e]
      clear e
      have hd : decide (n ≤ 8) = true := by simp; omega
      go_enter Tryz.func230, Tryz.ntmps230
      go_wp2_with fail
      go_ret
      exact ⟨rfl, rfl⟩
    · have e : procsOk n = false := by simp [procsOk, within]; omega
      rw [e]
      clear e
      have hd : decide (n ≤ 8) = false := by simp; omega
      go_enter Tryz.func230, Tryz.ntmps230
      go_wp2_with fail
      go_ret
      exact ⟨rfl, rfl⟩
  · have e : procsOk n = false := by simp [procsOk, within]; omega
    rw [e]
    clear e
    have hd : decide (1 ≤ n) = false := by simp; omega
    go_enter Tryz.func230, Tryz.ntmps230
    go_wp2_with fail
    go_ret
    exact ⟨rfl, rfl⟩

/-- What impl.partsOf answers. -/
def partsV (o : Option (Int × Int)) : Value :=
  match o with
  | none => .tuple #[.int .i64 0, .int .i64 0, .bool false]
  | some q => .tuple #[.int .i64 q.1, .int .i64 q.2, .bool true]

theorem below_two {w wr : World} {B : Nat} (h : Below B w wr) (hB : B ≤ wr.heap.size) (o p : Obj) : Below B w ((wr.alloc o).alloc p) := (h.alloc hB _).alloc (by simp; omega) _

theorem partsOf_any (a : Option Addr) (len cap : Nat) (ps : List Shr) (w : World) (I : Shs w a len ps) (hs : (len : Int) ≤ 24) :
    Calls Tryz.prog 234 #[.slice a len cap] w fun e w' => e = .returned (partsV (parts ps)) ∧ Below w.heap.size w w' := by
  have HI : Hid (Shs w a len ps) := I
  clear I
  go_enter Tryz.func234, Tryz.ntmps234
  go_wp2_with fail
  go_loopw [5, 6, 11] (fun u v i wr => ∃ (k : Nat) (den sum : Int), k ≤ len ∧ i = .int .i64 k ∧ u = .int .i64 den ∧ v = .int .i64 sum ∧ 0 ≤ den ∧ den ≤ 100000000 ∧ 0 ≤ sum ∧ sum ≤ 100000000 * (k : Int) ∧ Hid (parts (ps.take k) = some (den, sum)) ∧ Hid (Below w.heap.size w wr)) (fun _ _ i _ => len - (intOf i).toNat)
  case atStart => exact ⟨0, 0, 0, Nat.zero_le _, rfl, rfl, rfl, by omega, by omega, by omega, by omega, by show _ = _; simp [parts], Below.refl _ _⟩
  case round =>
    obtain ⟨k, den, sum, hk, rfl, rfl, rfl, d0, d1, s0, s1, E, B⟩ := hrel
    by_cases hlt : k < len
    · obtain ⟨hl1, h0 | ⟨b1, off1, rfl, hb1, hc1⟩⟩ := HI.out.kept B.out
      · omega
      obtain ⟨x, hx⟩ : ∃ x, x = (ps.getD k (0, 0)).1 := ⟨_, rfl⟩
      obtain ⟨y, hy⟩ : ∃ y, y = (ps.getD k (0, 0)).2 := ⟨_, rfl⟩
      obtain ⟨p0, p1⟩ := hc1 k hlt
      rw [← hx] at p0
      rw [← hy] at p1
      have hlt' : (k : Int) < (len : Int) := by omega
      have S : Hid (parts (ps.take (k + 1)) = partStep (some (den, sum)) (x, y)) := by
        rw [parts_step (by omega), E.out, hx, hy]
        exact rfl
      have bs := B.out.size
      clear hc1 hx hy
      cases hok : shareOk x y
      · have D : Hid (parts ps = none) := parts_dead (k := k + 1) (by rw [S.out]; exact step_bad hok)
        go_wp2_with fail
        refine (implShareOkX x y _).mono ?_
        rintro e w2 ⟨rfl, rfl⟩
        rw [hok]
        go_wp2_with fail
        go_ret3
        exact ⟨by rw [D.out]; rfl, below_two B.out bs _ _⟩
      · obtain ⟨x1, x2, y2⟩ := share_yes hok
        by_cases hxy : x = y
        · have D : Hid (parts (ps.take (k + 1)) = some (den, sum)) := by rw [S.out]; exact step_whole hok hxy
          have hn : (x == y) = true := by simp [hxy]
          have BZ : Hid (∀ o p q, Below w.heap.size w (((wr.alloc o).alloc p).alloc q)) := fun o p q => (below_two B.out bs o p).alloc (by simp; omega) _
          clear hxy
          go_wp2_with fail
          refine (implShareOkX x y _).mono ?_
          rintro e w2 ⟨rfl, rfl⟩
          rw [hok]
          go_wp2_with fail
          refine (isWhole_any x y _).mono ?_
          rintro e w3 ⟨rfl, rfl⟩
          rw [hn]
          go_wp2_with fail
          go_roundw
          case rel => exact ⟨k + 1, den, sum, by omega, by go_num, rfl, rfl, d0, d1, s0, by omega, D, BZ.out _ _ _⟩
          case measure => simp [intOf]; omega
        · have hn : (x == y) = false := by simp [hxy]
          have BZ : Hid (∀ o p q, Below w.heap.size w (((wr.alloc o).alloc p).alloc q)) := fun o p q => (below_two B.out bs o p).alloc (by simp; omega) _
          by_cases hd : den = 0
          · have D : Hid (parts (ps.take (k + 1)) = some (y, sum + x)) := by rw [S.out]; exact step_more hok hxy (.inl hd)
            have hm : (den != 0) = false := by simp [hd]
            clear hxy hd
            go_wp2_with fail
            refine (implShareOkX x y _).mono ?_
            rintro e w2 ⟨rfl, rfl⟩
            rw [hok]
            go_wp2_with fail
            refine (isWhole_any x y _).mono ?_
            rintro e w3 ⟨rfl, rfl⟩
            rw [hn]
            go_wp2_with fail
            go_roundw
            case rel => exact ⟨k + 1, y, sum + x, by omega, by go_num, rfl, by go_num, by omega, by omega, by omega, by omega, D, BZ.out _ _ _⟩
            case measure => simp [intOf]; omega
          · have hm : (den != 0) = true := by simp [hd]
            by_cases hy : y = den
            · have D : Hid (parts (ps.take (k + 1)) = some (y, sum + x)) := by rw [S.out]; exact step_more hok hxy (.inr hy)
              have hq : (y != den) = false := by simp [hy]
              clear hxy hd hy
              go_wp2_with fail
              refine (implShareOkX x y _).mono ?_
              rintro e w2 ⟨rfl, rfl⟩
              rw [hok]
              go_wp2_with fail
              refine (isWhole_any x y _).mono ?_
              rintro e w3 ⟨rfl, rfl⟩
              rw [hn]
              go_wp2_with fail
              go_roundw
              case rel => exact ⟨k + 1, y, sum + x, by omega, by go_num, rfl, by go_num, by omega, by omega, by omega, by omega, D, BZ.out _ _ _⟩
              case measure => simp [intOf]; omega
            · have D : Hid (parts ps = none) := parts_dead (k := k + 1) (by rw [S.out]; exact step_two hok hxy hd hy)
              have hq : (y != den) = true := by simp [hy]
              clear hxy hd hy
              go_wp2_with fail
              refine (implShareOkX x y _).mono ?_
              rintro e w2 ⟨rfl, rfl⟩
              rw [hok]
              go_wp2_with fail
              refine (isWhole_any x y _).mono ?_
              rintro e w3 ⟨rfl, rfl⟩
              rw [hn]
              go_wp2_with fail
              go_ret3
              exact ⟨by rw [D.out]; rfl, BZ.out _ _ _⟩
    · have hlt' : ¬ (k : Int) < (len : Int) := by omega
      have EF : Hid (parts ps = some (den, sum)) := by
        have := E.out
        rw [List.take_of_length_le (by have := HI.out.1; omega)] at this
        exact this
      go_wp2_with fail
      go_ret3
      exact ⟨by rw [EF.out]; rfl, B.out⟩

theorem implFits (a : Option Addr) (len cap : Nat) (ps : List Shr) (n : Int) (w : World) (I : Shs w a len ps) (hs : (len : Int) ≤ 1048576) :
    Calls Tryz.prog 231 #[.slice a len cap, .int .i64 n] w fun e w' => e = .returned (.bool (fitsOn ps n)) ∧ Below w.heap.size w w' := by
  have HI : Hid (Shs w a len ps) := I
  have hl := I.1
  clear I
  by_cases h24 : (24 : Int) < (len : Int)
  · have F : Hid (fitsOn ps n = false) := fits_long (by omega)
    have hd : decide ((24 : Int) < (len : Int)) = true := by simp; omega
    clear hl
    go_enter Tryz.func231, Tryz.ntmps231
    go_wp2_with fail
    go_ret
    exact ⟨by rw [F.out]; rfl, Below.refl _ _⟩
  · have hd : decide ((24 : Int) < (len : Int)) = false := by simp; omega
    have hl24 : (len : Int) ≤ 24 := by omega
    cases hp : procsOk n
    · have F : Hid (fitsOn ps n = false) := fits_procs hp
      clear hl
      go_enter Tryz.func231, Tryz.ntmps231
      go_wp2_with fail
      refine (implProcs n _).mono ?_
      rintro e wq ⟨rfl, rfl⟩
      rw [hp]
      go_wp2_with fail
      go_ret
      exact ⟨by rw [F.out]; rfl, Below.refl _ _⟩
    · obtain ⟨n1, n8⟩ := procs_yes hp
      obtain ⟨m, hm⟩ : ∃ m : Int, m = (wholeN ps : Int) := ⟨_, rfl⟩
      have m1 : 0 ≤ m ∧ m ≤ 24 := by have := wholeN_le ps; omega
      obtain ⟨m0, m24⟩ := m1
      have HM : Hid (m = (wholeN ps : Int)) := hm
      have HL : Hid (ps.length ≤ 24) := by show ps.length ≤ 24; omega
      have PB : Hid (∀ q, parts ps = some q → 0 ≤ q.1 ∧ q.1 ≤ 100000000 ∧ 0 ≤ q.2 ∧ q.2 ≤ 100000000 * (ps.length : Int)) := fun q h => parts_bd ps q h
      clear hl hm
      cases hpt : parts ps with
      | none =>
        have F : Hid (fitsOn ps n = false) := fits_none hpt
        go_enter Tryz.func231, Tryz.ntmps231
        go_wp2_with fail
        refine (implProcs n _).mono ?_
        rintro e wq ⟨rfl, rfl⟩
        rw [hp]
        go_wp2_with fail
        refine (partsOf_any a len cap ps _ HI.out hl24).mono ?_
        rw [hpt]
        rintro e w1 ⟨rfl, B1⟩
        unfold partsV
        go_wp2_with fail
        refine (implWhole a len cap ps _ (HI.out.kept B1) (by omega)).mono ?_
        rw [← HM.out]
        rintro e w2 ⟨rfl, B2⟩
        have C2 := B1.trans (B2.mono B1.size)
        go_wp2_with fail
        go_ret
        exact ⟨by rw [F.out]; rfl, C2⟩
      | some q =>
        obtain ⟨den, sum⟩ := q
        obtain ⟨d0, d1, s0, s1⟩ := PB.out _ hpt
        simp only at d0 d1 s0 s1
        have s2 : sum ≤ 2400000000 := by have := HL.out; omega
        clear s1
        have HP : Hid (parts ps = some (den, sum)) := hpt
        by_cases hw : m ≤ n
        · have F : Hid (fitsOn ps n = decide (sum ≤ den * (n - m))) := by rw [HM.out]; exact fits_is hp HL.out hpt (by rw [← HM.out]; exact hw)
          obtain ⟨t0, t1⟩ := den_mul (d := n - m) d0 d1 (by omega) (by omega)
          have hge : decide (0 ≤ n - m) = true := by simp; omega
          go_enter Tryz.func231, Tryz.ntmps231
          go_wp2_with fail
          refine (implProcs n _).mono ?_
          rintro e wq ⟨rfl, rfl⟩
          rw [hp]
          go_wp2_with fail
          refine (partsOf_any a len cap ps _ HI.out hl24).mono ?_
          rw [hpt]
          rintro e w1 ⟨rfl, B1⟩
          unfold partsV
          go_wp2_with fail
          refine (implWhole a len cap ps _ (HI.out.kept B1) (by omega)).mono ?_
          rw [← HM.out]
          rintro e w2 ⟨rfl, B2⟩
          have C2 := B1.trans (B2.mono B1.size)
          go_wp2_with fail
          go_ret
          exact ⟨by rw [F.out]; rfl, C2⟩
        · have F : Hid (fitsOn ps n = false) := fits_many (by rw [← HM.out]; exact hw)
          have hge : decide (0 ≤ n - m) = false := by simp; omega
          go_enter Tryz.func231, Tryz.ntmps231
          go_wp2_with fail
          refine (implProcs n _).mono ?_
          rintro e wq ⟨rfl, rfl⟩
          rw [hp]
          go_wp2_with fail
          refine (partsOf_any a len cap ps _ HI.out hl24).mono ?_
          rw [hpt]
          rintro e w1 ⟨rfl, B1⟩
          unfold partsV
          go_wp2_with fail
          refine (implWhole a len cap ps _ (HI.out.kept B1) (by omega)).mono ?_
          rw [← HM.out]
          rintro e w2 ⟨rfl, B2⟩
          have C2 := B1.trans (B2.mono B1.size)
          go_wp2_with fail
          go_ret
          exact ⟨by rw [F.out]; rfl, C2⟩

end Go.Proofs.YtcmeimfjedakeaaGreat.Crew

namespace Go.Proofs.YtcmeimfjedakeaaGreat.Crew
open Go.ChangeShapes Go.WideShapes Go.ChangeAt Go.RowKit Go.Proofs.YtcmeimfjedakeaaGreat.Win

theorem specFits_in (a : Option Addr) (len cap : Nat) (ps : List Shr) (n : Int) (w : World) (I : Shs w a len ps) (hs : (len : Int) ≤ 24) (hp : procsOk n = true) :
    Calls Tryz.prog 154 #[.slice a len cap, .int .i64 n] w fun e w' => e = .returned (.bool (fitsOn ps n)) ∧ Below w.heap.size w w' := by
  have HI : Hid (Shs w a len ps) := I
  have hl := I.1
  obtain ⟨n1, n8⟩ := procs_yes hp
  obtain ⟨m, hm⟩ : ∃ m : Int, m = (wholeN ps : Int) := ⟨_, rfl⟩
  have m1 : 0 ≤ m ∧ m ≤ 24 := by have := wholeN_le ps; omega
  obtain ⟨m0, m24⟩ := m1
  have HM : Hid (m = (wholeN ps : Int)) := hm
  have HL : Hid (ps.length = len) := hl
  have HP : Hid (procsOk n = true) := hp
  have hd : decide ((24 : Int) < (len : Int)) = false := by simp; omega
  clear I hl hm
  go_enter Tryz.func154, Tryz.ntmps154
  go_wp2_with fail
  refine (specProcs n _).mono ?_
  rintro e wq ⟨rfl, rfl⟩
  rw [hp]
  clear hp
  go_wp2_with fail
  go_loopw [5, 6, 7] (fun u v i wr => ∃ (k : Nat) (den sum : Int), k ≤ len ∧ i = .int .i64 k ∧ u = .int .i64 den ∧ v = .int .i64 sum ∧ 0 ≤ den ∧ den ≤ 100000000 ∧ 0 ≤ sum ∧ sum ≤ 100000000 * (k : Int) ∧ Hid (parts (ps.take k) = some (den, sum)) ∧ Hid (Below wq.heap.size wq wr)) (fun _ _ i _ => len - (intOf i).toNat)
  case atStart => exact ⟨0, 0, 0, Nat.zero_le _, rfl, rfl, rfl, by omega, by omega, by omega, by omega, by show _ = _; simp [parts], Below.refl _ _⟩
  case round =>
    obtain ⟨k, den, sum, hk, rfl, rfl, rfl, d0, d1, s0, s1, E, B⟩ := hrel
    by_cases hlt : k < len
    · obtain ⟨hl1, h0 | ⟨b1, off1, rfl, hb1, hc1⟩⟩ := HI.out.kept B.out
      · omega
      obtain ⟨x, hx⟩ : ∃ x, x = (ps.getD k (0, 0)).1 := ⟨_, rfl⟩
      obtain ⟨y, hy⟩ : ∃ y, y = (ps.getD k (0, 0)).2 := ⟨_, rfl⟩
      obtain ⟨p0, p1⟩ := hc1 k hlt
      rw [← hx] at p0
      rw [← hy] at p1
      have hlt' : (k : Int) < (len : Int) := by omega
      have S : Hid (parts (ps.take (k + 1)) = partStep (some (den, sum)) (x, y)) := by
        rw [parts_step (by omega), E.out, hx, hy]
        exact rfl
      have bs := B.out.size
      have BC : Hid (∀ w1, Below (wr.alloc (.cells #[.int .i64 x, .int .i64 y] 122)).heap.size (wr.alloc (.cells #[.int .i64 x, .int .i64 y] 122)) w1 → Below wq.heap.size wq w1) := fun w1 b => (B.out.alloc bs _).trans (b.mono (by simp; omega))
      clear hc1 hx hy
      cases hok : shareOk x y
      · have D : Hid (parts ps = none) := parts_dead (k := k + 1) (by rw [S.out]; exact step_bad hok)
        go_wp2_with fail
        refine (specShareOk x y _).mono ?_
        rintro e w2 ⟨rfl, b2⟩
        rw [hok]
        have B2 := BC.out _ b2
        go_wp2_with fail
        go_ret
        exact ⟨by rw [fits_none D.out]; rfl, B2⟩
      · obtain ⟨x1, x2, y2⟩ := share_yes hok
        by_cases hxy : x = y
        · have D : Hid (parts (ps.take (k + 1)) = some (den, sum)) := by rw [S.out]; exact step_whole hok hxy
          have hn : (x == y) = true := by simp [hxy]
          clear hxy
          go_wp2_with fail
          refine (specShareOk x y _).mono ?_
          rintro e w2 ⟨rfl, b2⟩
          rw [hok]
          obtain ⟨k0, k1, k2⟩ := box_call b2
          have B2 : Hid (Below wq.heap.size wq w2) := BC.out _ b2
          clear b2
          go_wp2_with fail
          go_roundw
          case rel => exact ⟨k + 1, den, sum, by omega, by go_num, rfl, rfl, d0, d1, s0, by omega, D, B2⟩
          case measure => simp [intOf]; omega
        · have hn : (x == y) = false := by simp [hxy]
          by_cases hd : den = 0
          · have D : Hid (parts (ps.take (k + 1)) = some (y, sum + x)) := by rw [S.out]; exact step_more hok hxy (.inl hd)
            have hm : (den != 0) = false := by simp [hd]
            clear hxy hd
            go_wp2_with fail
            refine (specShareOk x y _).mono ?_
            rintro e w2 ⟨rfl, b2⟩
            rw [hok]
            obtain ⟨k0, k1, k2⟩ := box_call b2
            have B2 : Hid (Below wq.heap.size wq w2) := BC.out _ b2
            clear b2
            go_wp2_with fail
            go_roundw
            case rel => exact ⟨k + 1, y, sum + x, by omega, by go_num, rfl, by go_num, by omega, by omega, by omega, by omega, D, B2⟩
            case measure => simp [intOf]; omega
          · have hm : (den != 0) = true := by simp [hd]
            by_cases hy : y = den
            · have D : Hid (parts (ps.take (k + 1)) = some (y, sum + x)) := by rw [S.out]; exact step_more hok hxy (.inr hy)
              have hq : (den != y) = false := by simp [hy]
              clear hxy hd hy
              go_wp2_with fail
              refine (specShareOk x y _).mono ?_
              rintro e w2 ⟨rfl, b2⟩
              rw [hok]
              obtain ⟨k0, k1, k2⟩ := box_call b2
              have B2 : Hid (Below wq.heap.size wq w2) := BC.out _ b2
              clear b2
              go_wp2_with fail
              go_roundw
              case rel => exact ⟨k + 1, y, sum + x, by omega, by go_num, rfl, by go_num, by omega, by omega, by omega, by omega, D, B2⟩
              case measure => simp [intOf]; omega
            · have D : Hid (parts ps = none) := parts_dead (k := k + 1) (by rw [S.out]; exact step_two hok hxy hd hy)
              have hq : (den != y) = true := by simp; omega
              clear hxy hd hy
              go_wp2_with fail
              refine (specShareOk x y _).mono ?_
              rintro e w2 ⟨rfl, b2⟩
              rw [hok]
              obtain ⟨k0, k1, k2⟩ := box_call b2
              have B2 : Hid (Below wq.heap.size wq w2) := BC.out _ b2
              clear b2
              go_wp2_with fail
              go_ret
              exact ⟨by rw [fits_none D.out]; rfl, B2.out⟩
    · have hlt' : ¬ (k : Int) < (len : Int) := by omega
      have EF : Hid (parts ps = some (den, sum)) := by
        have := E.out
        rw [List.take_of_length_le (by have := HI.out.1; omega)] at this
        exact this
      have s2 : sum ≤ 2400000000 := by omega
      clear s1
      by_cases hw : m ≤ n
      · have F : Hid (fitsOn ps n = decide (sum ≤ den * (n - m))) := by rw [HM.out]; exact fits_is HP.out (by have := HL.out; omega) EF.out (by rw [← HM.out]; exact hw)
        obtain ⟨t0, t1⟩ := den_mul (d := n - m) d0 d1 (by omega) (by omega)
        have hge : decide (m ≤ n) = true := by simp; omega
        go_wp2_with fail
        refine (specWhole a len cap ps _ (HI.out.kept B.out) (by omega)).mono ?_
        rw [← HM.out]
        rintro e w2 ⟨rfl, B2⟩
        have C2 : Hid (Below wq.heap.size wq w2) := B.out.trans (B2.mono B.out.size)
        clear B2
        go_wp2_with fail
        refine (specWhole a len cap ps _ (HI.out.kept C2.out) (by omega)).mono ?_
        rw [← HM.out]
        rintro e w3 ⟨rfl, B3⟩
        have C3 : Hid (Below wq.heap.size wq w3) := C2.out.trans (B3.mono C2.out.size)
        clear B3
        go_wp2_with fail
        go_ret
        exact ⟨by rw [F.out]; rfl, C3.out⟩
      · have F : Hid (fitsOn ps n = false) := fits_many (by rw [← HM.out]; exact hw)
        have hge : decide (m ≤ n) = false := by simp; omega
        go_wp2_with fail
        refine (specWhole a len cap ps _ (HI.out.kept B.out) (by omega)).mono ?_
        rw [← HM.out]
        rintro e w2 ⟨rfl, B2⟩
        have C2 : Hid (Below wq.heap.size wq w2) := B.out.trans (B2.mono B.out.size)
        clear B2
        go_wp2_with fail
        go_ret
        exact ⟨by rw [F.out]; rfl, C2.out⟩

theorem specFits (a : Option Addr) (len cap : Nat) (ps : List Shr) (n : Int) (w : World) (I : Shs w a len ps) (hs : (len : Int) ≤ 1048576) :
    Calls Tryz.prog 154 #[.slice a len cap, .int .i64 n] w fun e w' => e = .returned (.bool (fitsOn ps n)) ∧ Below w.heap.size w w' := by
  have hl := I.1
  cases hp : procsOk n
  · have F : Hid (fitsOn ps n = false) := fits_procs hp
    clear hl I
    go_enter Tryz.func154, Tryz.ntmps154
    go_wp2_with fail
    refine (specProcs n _).mono ?_
    rintro e wq ⟨rfl, rfl⟩
    rw [hp]
    go_wp2_with fail
    go_ret
    exact ⟨by rw [F.out]; rfl, Below.refl _ _⟩
  · by_cases h24 : (24 : Int) < (len : Int)
    · have F : Hid (fitsOn ps n = false) := fits_long (by omega)
      have hd : decide ((24 : Int) < (len : Int)) = true := by simp; omega
      clear hl I
      go_enter Tryz.func154, Tryz.ntmps154
      go_wp2_with fail
      refine (specProcs n _).mono ?_
      rintro e wq ⟨rfl, rfl⟩
      rw [hp]
      go_wp2_with fail
      go_ret
      exact ⟨by rw [F.out]; rfl, Below.refl _ _⟩
    · exact specFits_in a len cap ps n w I (by omega) hp

end Go.Proofs.YtcmeimfjedakeaaGreat.Crew
