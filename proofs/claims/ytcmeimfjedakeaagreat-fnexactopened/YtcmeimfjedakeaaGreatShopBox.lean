/-
  Shops in blocks of a call's own, a Shop in the making, and the steps of a walk over whole Shops. (Written by wip/tools/gen_shopbox.py.)
-/
import Derived.Test.YtcmeimfjedakeaaGreatShopTo
namespace Go.Proofs.YtcmeimfjedakeaaGreat.Crew
open Go.ChangeShapes Go.WideShapes Go.ChangeAt Go.RowKit

/-- Some blocks of the call's own, a Shop in each. -/
structure Bag (w0 X : World) (l : List (Nat × LT × SD)) : Prop where
  bel : Below w0.heap.size w0 X
  shp : ∀ (i b : Nat) (L : LT) (d : SD), l[i]? = some (b, L, d) → Shp X b L d ∧ w0.heap.size ≤ b
  dis : ∀ (i j : Nat) (e f : Nat × LT × SD), l[i]? = some e → l[j]? = some f → i ≠ j → e.1 ≠ f.1

theorem bag_nil (w : World) : Bag w w [] := ⟨Below.refl _ _, fun _ _ _ _ h => by simp at h, fun _ _ _ _ h => by simp at h⟩

theorem Bag.all {w0 X Y : World} {l : List (Nat × LT × SD)} (h : Bag w0 X l) (k : Below X.heap.size X Y) : Bag w0 Y l :=
  ⟨below_call h.bel h.bel.size k, fun i b L d hi => ⟨(h.shp i b L d hi).1.all k, (h.shp i b L d hi).2⟩, h.dis⟩

theorem Bag.drew {w0 X : World} {l : List (Nat × LT × SD)} (h : Bag w0 X l) : Bag w0 X.drew l := h.all (below_drewN (Below.refl _ _) 1)

theorem Bag.get {w0 X : World} {l : List (Nat × LT × SD)} (h : Bag w0 X l) (i : Nat) {b : Nat} {L : LT} {d : SD} (hi : l[i]? = some (b, L, d)) : Shp X b L d := (h.shp i b L d hi).1

theorem Bag.ge {w0 X : World} {l : List (Nat × LT × SD)} (h : Bag w0 X l) (i : Nat) {b : Nat} {L : LT} {d : SD} (hi : l[i]? = some (b, L, d)) : w0.heap.size ≤ b := (h.shp i b L d hi).2

theorem Bag.add {w0 X Y : World} {l : List (Nat × LT × SD)} (h : Bag w0 X l) (k : Below X.heap.size X Y) {b : Nat} {L : LT} {d : SD} (hb : b = X.heap.size) (S : Shp Y b L d) : Bag w0 Y (l ++ [(b, L, d)]) := by
  have h' := h.all k
  refine ⟨h'.bel, fun i b' L' d' hi => ?_, fun i j e f hi hj hij => ?_⟩
  · by_cases hl : i < l.length
    · rw [List.getElem?_append_left hl] at hi
      exact h'.shp i b' L' d' hi
    · rw [List.getElem?_append_right (by omega)] at hi
      rcases hk : i - l.length with _ | k
      · rw [hk] at hi
        cases hi
        exact ⟨S, by rw [hb]; exact h.bel.size⟩
      · rw [hk] at hi
        simp at hi
  · by_cases hl : i < l.length
    · rw [List.getElem?_append_left hl] at hi
      by_cases hm : j < l.length
      · rw [List.getElem?_append_left hm] at hj
        exact h.dis i j e f hi hj hij
      · rw [List.getElem?_append_right (by omega)] at hj
        rcases hk : j - l.length with _ | k
        · rw [hk] at hj
          cases hj
          have := (h.shp i e.1 e.2.1 e.2.2 hi).1.lt
          show e.1 ≠ b
          omega
        · rw [hk] at hj
          simp at hj
    · rw [List.getElem?_append_right (by omega)] at hi
      rcases hk : i - l.length with _ | k
      · rw [hk] at hi
        cases hi
        by_cases hm : j < l.length
        · rw [List.getElem?_append_left hm] at hj
          have := (h.shp j f.1 f.2.1 f.2.2 hj).1.lt
          show b ≠ f.1
          omega
        · rw [List.getElem?_append_right (by omega)] at hj
          rcases hk' : j - l.length with _ | k
          · omega
          · rw [hk'] at hj
            simp at hj
      · rw [hk] at hi
        simp at hi

theorem Bag.put {w0 X Y : World} {l : List (Nat × LT × SD)} (h : Bag w0 X l) (i : Nat) {b : Nat} {L L' : LT} {d d' : SD} (hi : l[i]? = some (b, L, d)) (S : Shp Y b L' d') (g : X.grownBy Y (some b)) : Bag w0 Y (l.set i (b, L', d')) := by
  have hil : i < l.length := (List.getElem?_eq_some_iff.1 hi).1
  refine ⟨h.bel.grown g h.bel.size (fun j hj => by cases hj; exact (h.shp i _ _ _ hi).2), fun j b' M e hj => ?_, fun j k e f hj hk hjk => ?_⟩
  · by_cases e' : i = j
    · subst e'
      rw [List.getElem?_set_self hil] at hj
      cases hj
      exact ⟨S, (h.shp i _ _ _ hi).2⟩
    · rw [List.getElem?_set_ne e'] at hj
      refine ⟨(h.shp j _ _ _ hj).1.other g ?_, (h.shp j _ _ _ hj).2⟩
      have := h.dis j i _ _ hj hi (fun q => e' q.symm)
      simpa using this
  · have key : ∀ (j : Nat) (e : Nat × LT × SD), (l.set i (b, L', d'))[j]? = some e → ∃ e0 : Nat × LT × SD, l[j]? = some e0 ∧ e0.1 = e.1 := fun j e hj => by
      by_cases e' : i = j
      · subst e'
        rw [List.getElem?_set_self hil] at hj
        cases hj
        exact ⟨_, hi, rfl⟩
      · rw [List.getElem?_set_ne e'] at hj
        exact ⟨e, hj, rfl⟩
    obtain ⟨e0, h1, h2⟩ := key j e hj
    obtain ⟨f0, h3, h4⟩ := key k f hk
    rw [← h2, ← h4]
    exact h.dis j k e0 f0 h1 h3 hjk

/-- A Shop in the making: its slices lie at the heads of blocks of the call's own, no two in one. -/
structure Mk (n : Nat) (X : World) (L : LT) (d : SD) : Prop where
  own : Own X L d
  par : Parts L
  fre : ∀ j, Has L j → n ≤ j

theorem Mk.all {n : Nat} {X Y : World} {L : LT} {d : SD} (h : Mk n X L d) (k : Below X.heap.size X Y) : Mk n Y L d :=
  ⟨h.own.still (fun j hj => k.block j (h.own.lt j hj)), h.par, h.fre⟩

theorem Mk.drew {n : Nat} {X : World} {L : LT} {d : SD} (h : Mk n X L d) : Mk n X.drew L d := h.all (below_drewN (Below.refl _ _) 1)

theorem Mk.other {n : Nat} {X Y : World} {L : LT} {d : SD} (h : Mk n X L d) {b : Nat} (g : X.grownBy Y (some b)) (hb : ¬ Has L b) : Mk n Y L d :=
  ⟨h.own.still (fun j hj => g.block j (h.own.lt j hj) (by intro e; cases e; exact hb hj)), h.par, h.fre⟩

theorem Mk.mono {n m : Nat} {X : World} {L : LT} {d : SD} (h : Mk n X L d) (k : m ≤ n) : Mk m X L d := ⟨h.own, h.par, fun j hj => Nat.le_trans k (h.fre j hj)⟩

theorem Mk.nums {n : Nat} {X : World} {L : LT} {d : SD} (h : Mk n X L d) (p q lt la yq yt w : Int) : Mk n X L { d with p := p, q := q, lt := lt, la := la, yq := yq, yt := yt, w := w } :=
  ⟨⟨h.own.t, h.own.m, h.own.c, h.own.n, h.own.s, h.own.r, h.own.l, h.own.h, h.own.y, h.own.z⟩, h.par, h.fre⟩

theorem mk_zl (n : Nat) (X : World) (p q lt la yq yt w : Int) : Mk n X zl ⟨p, q, [], [], [], [], [], [], [], [], lt, la, [], [], yq, yt, w⟩ :=
  ⟨⟨⟨rfl, .inl ⟨rfl, rfl⟩⟩, ⟨rfl, .inl ⟨rfl, rfl⟩⟩, ⟨rfl, .inl ⟨rfl, rfl⟩⟩, ⟨rfl, .inl ⟨rfl, rfl⟩⟩, ⟨rfl, .inl ⟨rfl, rfl⟩⟩, ⟨rfl, .inl ⟨rfl, rfl⟩⟩, ⟨rfl, .inl ⟨rfl, rfl⟩⟩, ⟨rfl, .inl ⟨rfl, rfl⟩⟩, ⟨rfl, .inl ⟨rfl, rfl⟩⟩, ⟨rfl, .inl ⟨rfl, rfl⟩⟩⟩,
    fun i j hi _ _ => by
      have : LT.at zl i = none := by
        rcases i with _ | _ | _ | _ | _ | _ | _ | _ | _ | _ | i
        all_goals first | rfl | omega
      rw [this]
      exact apart_none _,
    by
      rintro j ⟨i, hi, h⟩
      have : LT.at zl i = none := by
        rcases i with _ | _ | _ | _ | _ | _ | _ | _ | _ | _ | i
        all_goals first | rfl | omega
      rw [this] at h
      cases h⟩

/-- What follows when one of its slices is another, newer one. -/
theorem parts_put {L M : LT} {X : World} {d : SD} (h : Own X L d) (P : Parts L) (k : Nat) (hk : k < 10) (hs : ∀ i, i < 10 → i ≠ k → M.at i = L.at i) (hn : ∀ x, M.at k = some x → X.heap.size ≤ x.block) : Parts M := by
  have lt : ∀ i, i < 10 → ∀ x, L.at i = some x → x.block < X.heap.size := fun i hi x hx => h.lt _ ⟨i, hi, by rw [hx]; rfl⟩
  intro i j hi hj hij
  by_cases h1 : i = k
  · subst h1
    rw [hs j hj (fun e => hij e.symm)]
    intro x y hx hy
    have := hn x hx
    have := lt j hj y hy
    omega
  · rw [hs i hi h1]
    by_cases h2 : j = k
    · subst h2
      intro x y hx hy
      have := hn y hy
      have := lt i hi x hx
      omega
    · rw [hs j hj h2]
      exact P i j hi hj hij

theorem has_put {n : Nat} {L M : LT} (fre : ∀ j, Has L j → n ≤ j) (k : Nat) (hs : ∀ i, i < 10 → i ≠ k → M.at i = L.at i) (hn : ∀ x, M.at k = some x → n ≤ x.block) : ∀ j, Has M j → n ≤ j := by
  rintro j ⟨i, hi, hb⟩
  by_cases h1 : i = k
  · subst h1
    cases hx : M.at i with
    | none => rw [hx] at hb; cases hb
    | some x =>
      rw [hx] at hb
      cases hb
      exact hn x hx
  · rw [hs i hi h1] at hb
    exact fre j ⟨i, hi, hb⟩

theorem Mk.put_t {n : Nat} {X Y : World} {L : LT} {d : SD} (h : Mk n X L d) (B : Below X.heap.size X Y) (hn : n ≤ X.heap.size) {N : SL} {xs : List Tsk} (G : TFit Y X.heap.size N.a N.n N.c xs) : Mk n Y { L with t := N } { d with t := xs } := by
  have h' := h.all B
  have G' := G
  have ge : ∀ x, N.a = some x → X.heap.size ≤ x.block := fun x hx => (Rec.fit.ge G' hx).1
  have sm : ∀ i, i < 10 → i ≠ 0 → LT.at { L with t := N } i = L.at i := fun i hi hne => by
    rcases i with _ | _ | _ | _ | _ | _ | _ | _ | _ | _ | i
    all_goals first | rfl | omega
  replace G := G.mono (Nat.zero_le _)
  exact ⟨⟨G, h'.own.m, h'.own.c, h'.own.n, h'.own.s, h'.own.r, h'.own.l, h'.own.h, h'.own.y, h'.own.z⟩, parts_put h.own h.par 0 (by decide) sm ge, has_put h.fre 0 sm (fun x hx => Nat.le_trans hn (ge x hx))⟩

theorem Mk.put_m {n : Nat} {X Y : World} {L : LT} {d : SD} (h : Mk n X L d) (B : Below X.heap.size X Y) (hn : n ≤ X.heap.size) {N : SL} {xs : List Int} (G : Fit Y X.heap.size N.a N.n N.c xs) : Mk n Y { L with m := N } { d with m := xs } := by
  have h' := h.all B
  have G' := G
  have ge : ∀ x, N.a = some x → X.heap.size ≤ x.block := fun x hx => (Fit.ge G' hx).1
  have sm : ∀ i, i < 10 → i ≠ 1 → LT.at { L with m := N } i = L.at i := fun i hi hne => by
    rcases i with _ | _ | _ | _ | _ | _ | _ | _ | _ | _ | i
    all_goals first | rfl | omega
  replace G := G.mono (Nat.zero_le _)
  exact ⟨⟨h'.own.t, G, h'.own.c, h'.own.n, h'.own.s, h'.own.r, h'.own.l, h'.own.h, h'.own.y, h'.own.z⟩, parts_put h.own h.par 1 (by decide) sm ge, has_put h.fre 1 sm (fun x hx => Nat.le_trans hn (ge x hx))⟩

theorem Mk.put_c {n : Nat} {X Y : World} {L : LT} {d : SD} (h : Mk n X L d) (B : Below X.heap.size X Y) (hn : n ≤ X.heap.size) {N : SL} {xs : List Int} (G : Fit Y X.heap.size N.a N.n N.c xs) : Mk n Y { L with c := N } { d with c := xs } := by
  have h' := h.all B
  have G' := G
  have ge : ∀ x, N.a = some x → X.heap.size ≤ x.block := fun x hx => (Fit.ge G' hx).1
  have sm : ∀ i, i < 10 → i ≠ 2 → LT.at { L with c := N } i = L.at i := fun i hi hne => by
    rcases i with _ | _ | _ | _ | _ | _ | _ | _ | _ | _ | i
    all_goals first | rfl | omega
  replace G := G.mono (Nat.zero_le _)
  exact ⟨⟨h'.own.t, h'.own.m, G, h'.own.n, h'.own.s, h'.own.r, h'.own.l, h'.own.h, h'.own.y, h'.own.z⟩, parts_put h.own h.par 2 (by decide) sm ge, has_put h.fre 2 sm (fun x hx => Nat.le_trans hn (ge x hx))⟩

theorem Mk.put_n {n : Nat} {X Y : World} {L : LT} {d : SD} (h : Mk n X L d) (B : Below X.heap.size X Y) (hn : n ≤ X.heap.size) {N : SL} {xs : List Int} (G : Fit Y X.heap.size N.a N.n N.c xs) : Mk n Y { L with n := N } { d with n := xs } := by
  have h' := h.all B
  have G' := G
  have ge : ∀ x, N.a = some x → X.heap.size ≤ x.block := fun x hx => (Fit.ge G' hx).1
  have sm : ∀ i, i < 10 → i ≠ 3 → LT.at { L with n := N } i = L.at i := fun i hi hne => by
    rcases i with _ | _ | _ | _ | _ | _ | _ | _ | _ | _ | i
    all_goals first | rfl | omega
  replace G := G.mono (Nat.zero_le _)
  exact ⟨⟨h'.own.t, h'.own.m, h'.own.c, G, h'.own.s, h'.own.r, h'.own.l, h'.own.h, h'.own.y, h'.own.z⟩, parts_put h.own h.par 3 (by decide) sm ge, has_put h.fre 3 sm (fun x hx => Nat.le_trans hn (ge x hx))⟩

theorem Mk.put_s {n : Nat} {X Y : World} {L : LT} {d : SD} (h : Mk n X L d) (B : Below X.heap.size X Y) (hn : n ≤ X.heap.size) {N : SL} {xs : List Int} (G : Fit Y X.heap.size N.a N.n N.c xs) : Mk n Y { L with s := N } { d with s := xs } := by
  have h' := h.all B
  have G' := G
  have ge : ∀ x, N.a = some x → X.heap.size ≤ x.block := fun x hx => (Fit.ge G' hx).1
  have sm : ∀ i, i < 10 → i ≠ 4 → LT.at { L with s := N } i = L.at i := fun i hi hne => by
    rcases i with _ | _ | _ | _ | _ | _ | _ | _ | _ | _ | i
    all_goals first | rfl | omega
  replace G := G.mono (Nat.zero_le _)
  exact ⟨⟨h'.own.t, h'.own.m, h'.own.c, h'.own.n, G, h'.own.r, h'.own.l, h'.own.h, h'.own.y, h'.own.z⟩, parts_put h.own h.par 4 (by decide) sm ge, has_put h.fre 4 sm (fun x hx => Nat.le_trans hn (ge x hx))⟩

theorem Mk.put_r {n : Nat} {X Y : World} {L : LT} {d : SD} (h : Mk n X L d) (B : Below X.heap.size X Y) (hn : n ≤ X.heap.size) {N : SL} {xs : List Int} (G : Fit Y X.heap.size N.a N.n N.c xs) : Mk n Y { L with r := N } { d with r := xs } := by
  have h' := h.all B
  have G' := G
  have ge : ∀ x, N.a = some x → X.heap.size ≤ x.block := fun x hx => (Fit.ge G' hx).1
  have sm : ∀ i, i < 10 → i ≠ 5 → LT.at { L with r := N } i = L.at i := fun i hi hne => by
    rcases i with _ | _ | _ | _ | _ | _ | _ | _ | _ | _ | i
    all_goals first | rfl | omega
  replace G := G.mono (Nat.zero_le _)
  exact ⟨⟨h'.own.t, h'.own.m, h'.own.c, h'.own.n, h'.own.s, G, h'.own.l, h'.own.h, h'.own.y, h'.own.z⟩, parts_put h.own h.par 5 (by decide) sm ge, has_put h.fre 5 sm (fun x hx => Nat.le_trans hn (ge x hx))⟩

theorem Mk.put_l {n : Nat} {X Y : World} {L : LT} {d : SD} (h : Mk n X L d) (B : Below X.heap.size X Y) (hn : n ≤ X.heap.size) {N : SL} {xs : List Int} (G : Fit Y X.heap.size N.a N.n N.c xs) : Mk n Y { L with l := N } { d with l := xs } := by
  have h' := h.all B
  have G' := G
  have ge : ∀ x, N.a = some x → X.heap.size ≤ x.block := fun x hx => (Fit.ge G' hx).1
  have sm : ∀ i, i < 10 → i ≠ 6 → LT.at { L with l := N } i = L.at i := fun i hi hne => by
    rcases i with _ | _ | _ | _ | _ | _ | _ | _ | _ | _ | i
    all_goals first | rfl | omega
  replace G := G.mono (Nat.zero_le _)
  exact ⟨⟨h'.own.t, h'.own.m, h'.own.c, h'.own.n, h'.own.s, h'.own.r, G, h'.own.h, h'.own.y, h'.own.z⟩, parts_put h.own h.par 6 (by decide) sm ge, has_put h.fre 6 sm (fun x hx => Nat.le_trans hn (ge x hx))⟩

theorem Mk.put_h {n : Nat} {X Y : World} {L : LT} {d : SD} (h : Mk n X L d) (B : Below X.heap.size X Y) (hn : n ≤ X.heap.size) {N : SL} {xs : List Int} (G : Fit Y X.heap.size N.a N.n N.c xs) : Mk n Y { L with h := N } { d with h := xs } := by
  have h' := h.all B
  have G' := G
  have ge : ∀ x, N.a = some x → X.heap.size ≤ x.block := fun x hx => (Fit.ge G' hx).1
  have sm : ∀ i, i < 10 → i ≠ 7 → LT.at { L with h := N } i = L.at i := fun i hi hne => by
    rcases i with _ | _ | _ | _ | _ | _ | _ | _ | _ | _ | i
    all_goals first | rfl | omega
  replace G := G.mono (Nat.zero_le _)
  exact ⟨⟨h'.own.t, h'.own.m, h'.own.c, h'.own.n, h'.own.s, h'.own.r, h'.own.l, G, h'.own.y, h'.own.z⟩, parts_put h.own h.par 7 (by decide) sm ge, has_put h.fre 7 sm (fun x hx => Nat.le_trans hn (ge x hx))⟩

theorem Mk.put_y {n : Nat} {X Y : World} {L : LT} {d : SD} (h : Mk n X L d) (B : Below X.heap.size X Y) (hn : n ≤ X.heap.size) {N : SL} {xs : List Shr} (G : SFit Y X.heap.size N.a N.n N.c xs) : Mk n Y { L with y := N } { d with y := xs } := by
  have h' := h.all B
  have G' := G
  have ge : ∀ x, N.a = some x → X.heap.size ≤ x.block := fun x hx => (SFit.ge G' hx).1
  have sm : ∀ i, i < 10 → i ≠ 8 → LT.at { L with y := N } i = L.at i := fun i hi hne => by
    rcases i with _ | _ | _ | _ | _ | _ | _ | _ | _ | _ | i
    all_goals first | rfl | omega
  replace G := G.mono (Nat.zero_le _)
  exact ⟨⟨h'.own.t, h'.own.m, h'.own.c, h'.own.n, h'.own.s, h'.own.r, h'.own.l, h'.own.h, G, h'.own.z⟩, parts_put h.own h.par 8 (by decide) sm ge, has_put h.fre 8 sm (fun x hx => Nat.le_trans hn (ge x hx))⟩

theorem Mk.put_z {n : Nat} {X Y : World} {L : LT} {d : SD} (h : Mk n X L d) (B : Below X.heap.size X Y) (hn : n ≤ X.heap.size) {N : SL} {xs : List Int} (G : Fit Y X.heap.size N.a N.n N.c xs) : Mk n Y { L with z := N } { d with z := xs } := by
  have h' := h.all B
  have G' := G
  have ge : ∀ x, N.a = some x → X.heap.size ≤ x.block := fun x hx => (Fit.ge G' hx).1
  have sm : ∀ i, i < 10 → i ≠ 9 → LT.at { L with z := N } i = L.at i := fun i hi hne => by
    rcases i with _ | _ | _ | _ | _ | _ | _ | _ | _ | _ | i
    all_goals first | rfl | omega
  replace G := G.mono (Nat.zero_le _)
  exact ⟨⟨h'.own.t, h'.own.m, h'.own.c, h'.own.n, h'.own.s, h'.own.r, h'.own.l, h'.own.h, h'.own.y, G⟩, parts_put h.own h.par 9 (by decide) sm ge, has_put h.fre 9 sm (fun x hx => Nat.le_trans hn (ge x hx))⟩

/-- What a function answers that answers a Shop of memory of its own. -/
def ShPost (D : SD) (w : World) (e : Ending) (w' : World) : Prop := ∃ M, e = .returned (sv M D) ∧ Mk w.heap.size w' M D ∧ Below w.heap.size w w'

/-- .. and a number beside it. -/
def ShPost2 (D : SD) (k : Value) (w : World) (e : Ending) (w' : World) : Prop := ∃ M, e = .returned (.tuple #[sv M D, k]) ∧ Mk w.heap.size w' M D ∧ Below w.heap.size w w'

theorem sh_load {ops : Array Oper} {rest : List Oper} {a : Act} {w : World} {Q : Exit → Act → World → Prop} {dst : Option Tmp} {x : Operand} {ty : TypeId} {pos : String} {af : Array Edge} {b : Nat} {L : LT} {d : SD}
    (hx : a.eval x = .pointer (some ⟨b, 0, none⟩)) (S : Shp w b L d) (h : wpList Tryz.prog ops Q rest (a.put dst (sv L d)) w) :
    wpList Tryz.prog ops Q (⟨dst, .load 36 x, ty, pos, af, none⟩ :: rest) a w :=
  wpList_load_mid rfl 36 x rfl b 0 hx (sc L d).toList _ S.range Tryz.underlying36 rfl (size_shop L d) h

theorem sh_load_op {op : Oper} {a : Act} {w : World} {K : Act → World → Prop} {Q : Exit → Act → World → Prop} {x : Operand} (ho : op.op = .load 36 x) {b : Nat} {L : LT} {d : SD}
    (hx : a.eval x = .pointer (some ⟨b, 0, none⟩)) (S : Shp w b L d) (h : K (a.put op.dst (sv L d)) w) : op.wp Tryz.prog a w K Q :=
  wp_load_mid 36 x ho b 0 hx (sc L d).toList _ S.range Tryz.underlying36 rfl (size_shop L d) h

theorem sh_store {ops : Array Oper} {rest : List Oper} {a : Act} {w : World} {Q : Exit → Act → World → Prop} {dst : Option Tmp} {x y : Operand} {ty : TypeId} {pos : String} {af : Array Edge} {b : Nat} {M L : LT} {e d : SD}
    (hx : a.eval x = .pointer (some ⟨b, 0, none⟩)) (hy : a.eval y = sv L d) (S : Shp w b M e) (h : ∀ W, Shp W b L d → w.grownBy W (some b) → wpList Tryz.prog ops Q rest (a.put dst undef) W) :
    wpList Tryz.prog ops Q (⟨dst, .store 36 x y, ty, pos, af, none⟩ :: rest) a w :=
  wpList_store_mid rfl 36 x y rfl b 0 (sc L d) hx hy S.there (size_shop' L d) (one_shop L d) (h _ (S.all17 L d) (grown17 _ _ _ _))

theorem sh_store_op {op : Oper} {a : Act} {w : World} {K : Act → World → Prop} {Q : Exit → Act → World → Prop} {x y : Operand} (ho : op.op = .store 36 x y) {b : Nat} {M L : LT} {e d : SD}
    (hx : a.eval x = .pointer (some ⟨b, 0, none⟩)) (hy : a.eval y = sv L d) (S : Shp w b M e) (h : ∀ W, Shp W b L d → w.grownBy W (some b) → K (a.put op.dst undef) W) : op.wp Tryz.prog a w K Q :=
  wp_store_mid 36 x y ho b 0 (sc L d) hx hy S.there (size_shop' L d) (one_shop L d) (h _ (S.all17 L d) (grown17 _ _ _ _))

abbrev SD.zero : SD := ⟨0, 0, [], [], [], [], [], [], [], [], 0, 0, [], [], 0, 0, 0⟩

theorem zero_at {P : Program} {t : TypeId} {v : Value} (h : (P.info? t).map (fun i => i.zero) = some (some v)) (w : World) : (zeroValue t).run P w = .ok v w := by
  cases hq : P.info? t with
  | none => simp [hq] at h
  | some i =>
    simp [hq] at h
    simp [zeroValue, typeInfo, hq, h]

theorem zero_shop (w : World) : (zeroValue 36).run Tryz.prog w = .ok (sv zl SD.zero) w := zero_at (by kernel_rfl) w

theorem alloc_shop (w : World) : (Instr.alloc 36 true (.tuple #[])).run Tryz.prog w = .ok (.pointer (some ⟨w.heap.size, 0, none⟩)) (w.alloc (.cells (sc zl SD.zero) 36)) := by
  unfold Instr.alloc
  rw [Sem.run_bind, zero_shop]
  simp [newVar, newRow, Value.cells]

theorem sh_alloc_op {op : Oper} {a : Act} {w : World} {K : Act → World → Prop} {Q : Exit → Act → World → Prop} (ho : op.op = .alloc 36)
    (h : ∀ W b, b = w.heap.size → Shp W b zl SD.zero → Below w.heap.size w W → K (a.put op.dst (.pointer (some ⟨b, 0, none⟩))) W) : op.wp Tryz.prog a w K Q := by
  have hr : (execOp a.eval op).run Tryz.prog w = .ok (.value (.pointer (some ⟨w.heap.size, 0, none⟩))) (w.alloc (.cells (sc zl SD.zero) 36)) := by
    simp [execOp, ho, alloc_shop]
  unfold Oper.wp
  rw [hr, Oper.upon_value]
  exact h _ _ rfl (shp_new _ _ _) (below_new _ _)

set_option maxRecDepth 100000 in
theorem sh_alloc {ops : Array Oper} {rest : List Oper} {a : Act} {w : World} {Q : Exit → Act → World → Prop} {dst : Option Tmp} {ty : TypeId} {pos : String} {af : Array Edge}
    (h : ∀ W b, b = w.heap.size → Shp W b zl SD.zero → Below w.heap.size w W → wpList Tryz.prog ops Q rest (a.put dst (.pointer (some ⟨b, 0, none⟩))) W) :
    wpList Tryz.prog ops Q (⟨dst, .alloc 36, ty, pos, af, none⟩ :: rest) a w := by
  refine wpList_plain rfl fun K hK => ?_
  exact sh_alloc_op (op := ⟨dst, .alloc 36, ty, pos, af, none⟩) (K := K) (Q := Q) rfl (fun W b hb S B => hK _ _ (h W b hb S B))

theorem sh_box {ops : Array Oper} {rest : List Oper} {a : Act} {w : World} {Q : Exit → Act → World → Prop} {dst : Option Tmp} {x : Operand} {ty : TypeId} {pos : String} {af : Array Edge} {L : LT} {d : SD}
    (hx : a.eval x = sv L d) (h : ∀ W b, b = w.heap.size → Shp W b L d → Below w.heap.size w W → wpList Tryz.prog ops Q rest (a.put dst (.pointer (some ⟨b, 0, none⟩))) W) :
    wpList Tryz.prog ops Q (⟨dst, .box 36 x, ty, pos, af, none⟩ :: rest) a w := by
  refine wpList_plain rfl fun K hK => ?_
  have hr : (execOp a.eval ⟨dst, .box 36 x, ty, pos, af, none⟩).run Tryz.prog w = .ok (.value (.pointer (some ⟨w.heap.size, 0, none⟩))) (w.alloc (.cells (sc L d) 36)) := by
    simp [execOp, hx, Instr.box, newVar, newRow, Value.cells]
  unfold Oper.wp
  rw [hr, Oper.upon_value]
  exact hK _ _ (h _ _ rfl (shp_new _ _ _) (below_new _ _))

theorem sh_set_p {ops : Array Oper} {rest : List Oper} {a : Act} {w : World} {Q : Exit → Act → World → Prop} {dst : Option Tmp} {x y : Operand} {ty : TypeId} {pos : String} {af : Array Edge} {b : Nat} {L : LT} {d : SD} {v : Int}
    (hx : a.eval x = .pointer (some ⟨b, 0, none⟩)) (hy : a.eval y = .int .i64 v) (S : Shp w b L d) (h : ∀ W, Shp W b L { d with p := v } → w.grownBy W (some b) → wpList Tryz.prog ops Q rest (a.put dst undef) W) :
    wpList Tryz.prog ops Q (⟨dst, .store 2 x y, ty, pos, af, none⟩ :: rest) a w := by
  refine wpList_plain rfl fun K hK => ?_
  have hc := S.bx.shop
  have hf := S.fr 0
  have key := hK _ _ (h _ (S.set_p v) (grown_at _ _ _ _))
  clear hK h
  obtain ⟨c0, c1, c2, c3, c4, c5, c6, c7, c8, c9, c10, c11, c12, c13, c14, c15, c16⟩ := hc
  unfold Oper.wp execOp
  simp only [hx, hy]
  go_simp
  exact key

theorem sh_set_q {ops : Array Oper} {rest : List Oper} {a : Act} {w : World} {Q : Exit → Act → World → Prop} {dst : Option Tmp} {x y : Operand} {ty : TypeId} {pos : String} {af : Array Edge} {b : Nat} {L : LT} {d : SD} {v : Int}
    (hx : a.eval x = .pointer (some ⟨b, 1, none⟩)) (hy : a.eval y = .int .i64 v) (S : Shp w b L d) (h : ∀ W, Shp W b L { d with q := v } → w.grownBy W (some b) → wpList Tryz.prog ops Q rest (a.put dst undef) W) :
    wpList Tryz.prog ops Q (⟨dst, .store 2 x y, ty, pos, af, none⟩ :: rest) a w := by
  refine wpList_plain rfl fun K hK => ?_
  have hc := S.bx.shop
  have hf := S.fr 1
  have key := hK _ _ (h _ (S.set_q v) (grown_at _ _ _ _))
  clear hK h
  obtain ⟨c0, c1, c2, c3, c4, c5, c6, c7, c8, c9, c10, c11, c12, c13, c14, c15, c16⟩ := hc
  unfold Oper.wp execOp
  simp only [hx, hy]
  go_simp
  exact key

theorem sh_set_t {ops : Array Oper} {rest : List Oper} {a : Act} {w : World} {Q : Exit → Act → World → Prop} {dst : Option Tmp} {x y : Operand} {ty : TypeId} {pos : String} {af : Array Edge} {b : Nat} {L : LT} {d : SD} {g : Option Addr} {j c : Nat}
    (hx : a.eval x = .pointer (some ⟨b, 2, none⟩)) (hy : a.eval y = .slice g j c) (S : Shp w b L d) (h : ∀ W, Shp W b { L with t := ⟨g, j, c⟩ } d → w.grownBy W (some b) → wpList Tryz.prog ops Q rest (a.put dst undef) W) :
    wpList Tryz.prog ops Q (⟨dst, .store 26 x y, ty, pos, af, none⟩ :: rest) a w := by
  refine wpList_plain rfl fun K hK => ?_
  have hc := S.bx.shop
  have hf := S.fr 2
  have key := hK _ _ (h _ (S.set_t ⟨g, j, c⟩) (grown_at _ _ _ _))
  clear hK h
  obtain ⟨c0, c1, c2, c3, c4, c5, c6, c7, c8, c9, c10, c11, c12, c13, c14, c15, c16⟩ := hc
  unfold Oper.wp execOp
  simp only [hx, hy]
  go_simp
  exact key

theorem sh_set_m {ops : Array Oper} {rest : List Oper} {a : Act} {w : World} {Q : Exit → Act → World → Prop} {dst : Option Tmp} {x y : Operand} {ty : TypeId} {pos : String} {af : Array Edge} {b : Nat} {L : LT} {d : SD} {g : Option Addr} {j c : Nat}
    (hx : a.eval x = .pointer (some ⟨b, 3, none⟩)) (hy : a.eval y = .slice g j c) (S : Shp w b L d) (h : ∀ W, Shp W b { L with m := ⟨g, j, c⟩ } d → w.grownBy W (some b) → wpList Tryz.prog ops Q rest (a.put dst undef) W) :
    wpList Tryz.prog ops Q (⟨dst, .store 27 x y, ty, pos, af, none⟩ :: rest) a w := by
  refine wpList_plain rfl fun K hK => ?_
  have hc := S.bx.shop
  have hf := S.fr 3
  have key := hK _ _ (h _ (S.set_m ⟨g, j, c⟩) (grown_at _ _ _ _))
  clear hK h
  obtain ⟨c0, c1, c2, c3, c4, c5, c6, c7, c8, c9, c10, c11, c12, c13, c14, c15, c16⟩ := hc
  unfold Oper.wp execOp
  simp only [hx, hy]
  go_simp
  exact key

theorem sh_set_c {ops : Array Oper} {rest : List Oper} {a : Act} {w : World} {Q : Exit → Act → World → Prop} {dst : Option Tmp} {x y : Operand} {ty : TypeId} {pos : String} {af : Array Edge} {b : Nat} {L : LT} {d : SD} {g : Option Addr} {j c : Nat}
    (hx : a.eval x = .pointer (some ⟨b, 4, none⟩)) (hy : a.eval y = .slice g j c) (S : Shp w b L d) (h : ∀ W, Shp W b { L with c := ⟨g, j, c⟩ } d → w.grownBy W (some b) → wpList Tryz.prog ops Q rest (a.put dst undef) W) :
    wpList Tryz.prog ops Q (⟨dst, .store 27 x y, ty, pos, af, none⟩ :: rest) a w := by
  refine wpList_plain rfl fun K hK => ?_
  have hc := S.bx.shop
  have hf := S.fr 4
  have key := hK _ _ (h _ (S.set_c ⟨g, j, c⟩) (grown_at _ _ _ _))
  clear hK h
  obtain ⟨c0, c1, c2, c3, c4, c5, c6, c7, c8, c9, c10, c11, c12, c13, c14, c15, c16⟩ := hc
  unfold Oper.wp execOp
  simp only [hx, hy]
  go_simp
  exact key

theorem sh_set_n {ops : Array Oper} {rest : List Oper} {a : Act} {w : World} {Q : Exit → Act → World → Prop} {dst : Option Tmp} {x y : Operand} {ty : TypeId} {pos : String} {af : Array Edge} {b : Nat} {L : LT} {d : SD} {g : Option Addr} {j c : Nat}
    (hx : a.eval x = .pointer (some ⟨b, 5, none⟩)) (hy : a.eval y = .slice g j c) (S : Shp w b L d) (h : ∀ W, Shp W b { L with n := ⟨g, j, c⟩ } d → w.grownBy W (some b) → wpList Tryz.prog ops Q rest (a.put dst undef) W) :
    wpList Tryz.prog ops Q (⟨dst, .store 27 x y, ty, pos, af, none⟩ :: rest) a w := by
  refine wpList_plain rfl fun K hK => ?_
  have hc := S.bx.shop
  have hf := S.fr 5
  have key := hK _ _ (h _ (S.set_n ⟨g, j, c⟩) (grown_at _ _ _ _))
  clear hK h
  obtain ⟨c0, c1, c2, c3, c4, c5, c6, c7, c8, c9, c10, c11, c12, c13, c14, c15, c16⟩ := hc
  unfold Oper.wp execOp
  simp only [hx, hy]
  go_simp
  exact key

theorem sh_set_s {ops : Array Oper} {rest : List Oper} {a : Act} {w : World} {Q : Exit → Act → World → Prop} {dst : Option Tmp} {x y : Operand} {ty : TypeId} {pos : String} {af : Array Edge} {b : Nat} {L : LT} {d : SD} {g : Option Addr} {j c : Nat}
    (hx : a.eval x = .pointer (some ⟨b, 6, none⟩)) (hy : a.eval y = .slice g j c) (S : Shp w b L d) (h : ∀ W, Shp W b { L with s := ⟨g, j, c⟩ } d → w.grownBy W (some b) → wpList Tryz.prog ops Q rest (a.put dst undef) W) :
    wpList Tryz.prog ops Q (⟨dst, .store 27 x y, ty, pos, af, none⟩ :: rest) a w := by
  refine wpList_plain rfl fun K hK => ?_
  have hc := S.bx.shop
  have hf := S.fr 6
  have key := hK _ _ (h _ (S.set_s ⟨g, j, c⟩) (grown_at _ _ _ _))
  clear hK h
  obtain ⟨c0, c1, c2, c3, c4, c5, c6, c7, c8, c9, c10, c11, c12, c13, c14, c15, c16⟩ := hc
  unfold Oper.wp execOp
  simp only [hx, hy]
  go_simp
  exact key

theorem sh_set_r {ops : Array Oper} {rest : List Oper} {a : Act} {w : World} {Q : Exit → Act → World → Prop} {dst : Option Tmp} {x y : Operand} {ty : TypeId} {pos : String} {af : Array Edge} {b : Nat} {L : LT} {d : SD} {g : Option Addr} {j c : Nat}
    (hx : a.eval x = .pointer (some ⟨b, 7, none⟩)) (hy : a.eval y = .slice g j c) (S : Shp w b L d) (h : ∀ W, Shp W b { L with r := ⟨g, j, c⟩ } d → w.grownBy W (some b) → wpList Tryz.prog ops Q rest (a.put dst undef) W) :
    wpList Tryz.prog ops Q (⟨dst, .store 27 x y, ty, pos, af, none⟩ :: rest) a w := by
  refine wpList_plain rfl fun K hK => ?_
  have hc := S.bx.shop
  have hf := S.fr 7
  have key := hK _ _ (h _ (S.set_r ⟨g, j, c⟩) (grown_at _ _ _ _))
  clear hK h
  obtain ⟨c0, c1, c2, c3, c4, c5, c6, c7, c8, c9, c10, c11, c12, c13, c14, c15, c16⟩ := hc
  unfold Oper.wp execOp
  simp only [hx, hy]
  go_simp
  exact key

theorem sh_set_l {ops : Array Oper} {rest : List Oper} {a : Act} {w : World} {Q : Exit → Act → World → Prop} {dst : Option Tmp} {x y : Operand} {ty : TypeId} {pos : String} {af : Array Edge} {b : Nat} {L : LT} {d : SD} {g : Option Addr} {j c : Nat}
    (hx : a.eval x = .pointer (some ⟨b, 8, none⟩)) (hy : a.eval y = .slice g j c) (S : Shp w b L d) (h : ∀ W, Shp W b { L with l := ⟨g, j, c⟩ } d → w.grownBy W (some b) → wpList Tryz.prog ops Q rest (a.put dst undef) W) :
    wpList Tryz.prog ops Q (⟨dst, .store 27 x y, ty, pos, af, none⟩ :: rest) a w := by
  refine wpList_plain rfl fun K hK => ?_
  have hc := S.bx.shop
  have hf := S.fr 8
  have key := hK _ _ (h _ (S.set_l ⟨g, j, c⟩) (grown_at _ _ _ _))
  clear hK h
  obtain ⟨c0, c1, c2, c3, c4, c5, c6, c7, c8, c9, c10, c11, c12, c13, c14, c15, c16⟩ := hc
  unfold Oper.wp execOp
  simp only [hx, hy]
  go_simp
  exact key

theorem sh_set_h {ops : Array Oper} {rest : List Oper} {a : Act} {w : World} {Q : Exit → Act → World → Prop} {dst : Option Tmp} {x y : Operand} {ty : TypeId} {pos : String} {af : Array Edge} {b : Nat} {L : LT} {d : SD} {g : Option Addr} {j c : Nat}
    (hx : a.eval x = .pointer (some ⟨b, 9, none⟩)) (hy : a.eval y = .slice g j c) (S : Shp w b L d) (h : ∀ W, Shp W b { L with h := ⟨g, j, c⟩ } d → w.grownBy W (some b) → wpList Tryz.prog ops Q rest (a.put dst undef) W) :
    wpList Tryz.prog ops Q (⟨dst, .store 27 x y, ty, pos, af, none⟩ :: rest) a w := by
  refine wpList_plain rfl fun K hK => ?_
  have hc := S.bx.shop
  have hf := S.fr 9
  have key := hK _ _ (h _ (S.set_h ⟨g, j, c⟩) (grown_at _ _ _ _))
  clear hK h
  obtain ⟨c0, c1, c2, c3, c4, c5, c6, c7, c8, c9, c10, c11, c12, c13, c14, c15, c16⟩ := hc
  unfold Oper.wp execOp
  simp only [hx, hy]
  go_simp
  exact key

theorem sh_set_lt {ops : Array Oper} {rest : List Oper} {a : Act} {w : World} {Q : Exit → Act → World → Prop} {dst : Option Tmp} {x y : Operand} {ty : TypeId} {pos : String} {af : Array Edge} {b : Nat} {L : LT} {d : SD} {v : Int}
    (hx : a.eval x = .pointer (some ⟨b, 10, none⟩)) (hy : a.eval y = .int .i64 v) (S : Shp w b L d) (h : ∀ W, Shp W b L { d with lt := v } → w.grownBy W (some b) → wpList Tryz.prog ops Q rest (a.put dst undef) W) :
    wpList Tryz.prog ops Q (⟨dst, .store 2 x y, ty, pos, af, none⟩ :: rest) a w := by
  refine wpList_plain rfl fun K hK => ?_
  have hc := S.bx.shop
  have hf := S.fr 10
  have key := hK _ _ (h _ (S.set_lt v) (grown_at _ _ _ _))
  clear hK h
  obtain ⟨c0, c1, c2, c3, c4, c5, c6, c7, c8, c9, c10, c11, c12, c13, c14, c15, c16⟩ := hc
  unfold Oper.wp execOp
  simp only [hx, hy]
  go_simp
  exact key

theorem sh_set_la {ops : Array Oper} {rest : List Oper} {a : Act} {w : World} {Q : Exit → Act → World → Prop} {dst : Option Tmp} {x y : Operand} {ty : TypeId} {pos : String} {af : Array Edge} {b : Nat} {L : LT} {d : SD} {v : Int}
    (hx : a.eval x = .pointer (some ⟨b, 11, none⟩)) (hy : a.eval y = .int .i64 v) (S : Shp w b L d) (h : ∀ W, Shp W b L { d with la := v } → w.grownBy W (some b) → wpList Tryz.prog ops Q rest (a.put dst undef) W) :
    wpList Tryz.prog ops Q (⟨dst, .store 2 x y, ty, pos, af, none⟩ :: rest) a w := by
  refine wpList_plain rfl fun K hK => ?_
  have hc := S.bx.shop
  have hf := S.fr 11
  have key := hK _ _ (h _ (S.set_la v) (grown_at _ _ _ _))
  clear hK h
  obtain ⟨c0, c1, c2, c3, c4, c5, c6, c7, c8, c9, c10, c11, c12, c13, c14, c15, c16⟩ := hc
  unfold Oper.wp execOp
  simp only [hx, hy]
  go_simp
  exact key

theorem sh_set_y {ops : Array Oper} {rest : List Oper} {a : Act} {w : World} {Q : Exit → Act → World → Prop} {dst : Option Tmp} {x y : Operand} {ty : TypeId} {pos : String} {af : Array Edge} {b : Nat} {L : LT} {d : SD} {g : Option Addr} {j c : Nat}
    (hx : a.eval x = .pointer (some ⟨b, 12, none⟩)) (hy : a.eval y = .slice g j c) (S : Shp w b L d) (h : ∀ W, Shp W b { L with y := ⟨g, j, c⟩ } d → w.grownBy W (some b) → wpList Tryz.prog ops Q rest (a.put dst undef) W) :
    wpList Tryz.prog ops Q (⟨dst, .store 32 x y, ty, pos, af, none⟩ :: rest) a w := by
  refine wpList_plain rfl fun K hK => ?_
  have hc := S.bx.shop
  have hf := S.fr 12
  have key := hK _ _ (h _ (S.set_y ⟨g, j, c⟩) (grown_at _ _ _ _))
  clear hK h
  obtain ⟨c0, c1, c2, c3, c4, c5, c6, c7, c8, c9, c10, c11, c12, c13, c14, c15, c16⟩ := hc
  unfold Oper.wp execOp
  simp only [hx, hy]
  go_simp
  exact key

theorem sh_set_z {ops : Array Oper} {rest : List Oper} {a : Act} {w : World} {Q : Exit → Act → World → Prop} {dst : Option Tmp} {x y : Operand} {ty : TypeId} {pos : String} {af : Array Edge} {b : Nat} {L : LT} {d : SD} {g : Option Addr} {j c : Nat}
    (hx : a.eval x = .pointer (some ⟨b, 13, none⟩)) (hy : a.eval y = .slice g j c) (S : Shp w b L d) (h : ∀ W, Shp W b { L with z := ⟨g, j, c⟩ } d → w.grownBy W (some b) → wpList Tryz.prog ops Q rest (a.put dst undef) W) :
    wpList Tryz.prog ops Q (⟨dst, .store 27 x y, ty, pos, af, none⟩ :: rest) a w := by
  refine wpList_plain rfl fun K hK => ?_
  have hc := S.bx.shop
  have hf := S.fr 13
  have key := hK _ _ (h _ (S.set_z ⟨g, j, c⟩) (grown_at _ _ _ _))
  clear hK h
  obtain ⟨c0, c1, c2, c3, c4, c5, c6, c7, c8, c9, c10, c11, c12, c13, c14, c15, c16⟩ := hc
  unfold Oper.wp execOp
  simp only [hx, hy]
  go_simp
  exact key

theorem sh_set_yq {ops : Array Oper} {rest : List Oper} {a : Act} {w : World} {Q : Exit → Act → World → Prop} {dst : Option Tmp} {x y : Operand} {ty : TypeId} {pos : String} {af : Array Edge} {b : Nat} {L : LT} {d : SD} {v : Int}
    (hx : a.eval x = .pointer (some ⟨b, 14, none⟩)) (hy : a.eval y = .int .i64 v) (S : Shp w b L d) (h : ∀ W, Shp W b L { d with yq := v } → w.grownBy W (some b) → wpList Tryz.prog ops Q rest (a.put dst undef) W) :
    wpList Tryz.prog ops Q (⟨dst, .store 2 x y, ty, pos, af, none⟩ :: rest) a w := by
  refine wpList_plain rfl fun K hK => ?_
  have hc := S.bx.shop
  have hf := S.fr 14
  have key := hK _ _ (h _ (S.set_yq v) (grown_at _ _ _ _))
  clear hK h
  obtain ⟨c0, c1, c2, c3, c4, c5, c6, c7, c8, c9, c10, c11, c12, c13, c14, c15, c16⟩ := hc
  unfold Oper.wp execOp
  simp only [hx, hy]
  go_simp
  exact key

theorem sh_set_yt {ops : Array Oper} {rest : List Oper} {a : Act} {w : World} {Q : Exit → Act → World → Prop} {dst : Option Tmp} {x y : Operand} {ty : TypeId} {pos : String} {af : Array Edge} {b : Nat} {L : LT} {d : SD} {v : Int}
    (hx : a.eval x = .pointer (some ⟨b, 15, none⟩)) (hy : a.eval y = .int .i64 v) (S : Shp w b L d) (h : ∀ W, Shp W b L { d with yt := v } → w.grownBy W (some b) → wpList Tryz.prog ops Q rest (a.put dst undef) W) :
    wpList Tryz.prog ops Q (⟨dst, .store 2 x y, ty, pos, af, none⟩ :: rest) a w := by
  refine wpList_plain rfl fun K hK => ?_
  have hc := S.bx.shop
  have hf := S.fr 15
  have key := hK _ _ (h _ (S.set_yt v) (grown_at _ _ _ _))
  clear hK h
  obtain ⟨c0, c1, c2, c3, c4, c5, c6, c7, c8, c9, c10, c11, c12, c13, c14, c15, c16⟩ := hc
  unfold Oper.wp execOp
  simp only [hx, hy]
  go_simp
  exact key

theorem sh_set_w {ops : Array Oper} {rest : List Oper} {a : Act} {w : World} {Q : Exit → Act → World → Prop} {dst : Option Tmp} {x y : Operand} {ty : TypeId} {pos : String} {af : Array Edge} {b : Nat} {L : LT} {d : SD} {v : Int}
    (hx : a.eval x = .pointer (some ⟨b, 16, none⟩)) (hy : a.eval y = .int .i64 v) (S : Shp w b L d) (h : ∀ W, Shp W b L { d with w := v } → w.grownBy W (some b) → wpList Tryz.prog ops Q rest (a.put dst undef) W) :
    wpList Tryz.prog ops Q (⟨dst, .store 2 x y, ty, pos, af, none⟩ :: rest) a w := by
  refine wpList_plain rfl fun K hK => ?_
  have hc := S.bx.shop
  have hf := S.fr 16
  have key := hK _ _ (h _ (S.set_w v) (grown_at _ _ _ _))
  clear hK h
  obtain ⟨c0, c1, c2, c3, c4, c5, c6, c7, c8, c9, c10, c11, c12, c13, c14, c15, c16⟩ := hc
  unfold Oper.wp execOp
  simp only [hx, hy]
  go_simp
  exact key

end Go.Proofs.YtcmeimfjedakeaaGreat.Crew
