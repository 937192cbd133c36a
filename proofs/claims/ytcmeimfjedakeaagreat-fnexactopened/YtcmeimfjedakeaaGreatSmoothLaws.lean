/-
  A Smooth in a block: two slices side by side.
  What the exact laws do with a Smooth: its size, a copy, held against another one, marked, the marks held.
-/
import Derived.Test.YtcmeimfjedakeaaGreatSmoothBase
import Derived.Test.YtcmeimfjedakeaaGreatIntsBase
namespace Go.Proofs.YtcmeimfjedakeaaGreat.Crew
open Go.ChangeShapes Go.WideShapes Go.ChangeAt Go.RowKit

/-- Block b holds the Smooth of x and y. -/
def Pair (w : World) (b : Nat) (x y : Value) : Prop := w.heap[b]? = some (.cells #[x, y] 29 (0, 0))

theorem cell_pair {w : World} {b : Nat} {vs : Array Value} {t : TypeId} (h : w.heap[b]? = some (.cells vs t (0, 0))) (j : Nat) : w.cell? ⟨b, j, none⟩ = vs[j]? := by
  rw [cell_of_row w b j vs t (0, 0) h]

theorem Pair.c0 {w : World} {b : Nat} {x y : Value} (h : Pair w b x y) : w.cell? ⟨b, 0, none⟩ = some x := cell_pair h 0

theorem Pair.c1 {w : World} {b : Nat} {x y : Value} (h : Pair w b x y) : w.cell? ⟨b, 1, none⟩ = some y := cell_pair h 1

theorem Pair.fr {w : World} {b : Nat} {x y : Value} (h : Pair w b x y) (j : Nat) : w.frozen? ⟨b, j, none⟩ = false := frozen_of_row w b j _ _ h

theorem Pair.lt {w : World} {b : Nat} {x y : Value} (h : Pair w b x y) : b < w.heap.size := (Array.getElem?_eq_some_iff.1 h).1

theorem pair_new (w : World) (x y : Value) : Pair (w.alloc (.cells #[x, y] 29)) w.heap.size x y := heap_alloc_new w _

theorem Pair.other {w w' : World} {b : Nat} {x y : Value} {row : Option Nat} (h : Pair w b x y) (g : w.grownBy w' row) (hb : some b ≠ row) : Pair w' b x y := by
  unfold Pair
  rw [g.block b h.lt hb]
  exact h

theorem Pair.alloc {w : World} {b : Nat} {x y : Value} (h : Pair w b x y) (o : Obj) : Pair (w.alloc o) b x y := h.other (World.grownBy_alloc w o none) (by simp)

theorem Pair.kept {w w' : World} {b B : Nat} {x y : Value} (h : Pair w b x y) (g : Below B w w') (hb : b < B) : Pair w' b x y := by
  unfold Pair
  rw [g.block b hb]
  exact h

theorem Pair.all {w w' : World} {b : Nat} {x y : Value} (h : Pair w b x y) (g : Below w.heap.size w w') : Pair w' b x y := h.kept g h.lt

theorem Pair.set0 {w : World} {b : Nat} {x y : Value} (h : Pair w b x y) (v : Value) : Pair (w.setCell ⟨b, 0, none⟩ v) b v y := heap_setCell_same w b 0 _ _ _ h

theorem Pair.set1 {w : World} {b : Nat} {x y : Value} (h : Pair w b x y) (v : Value) : Pair (w.setCell ⟨b, 1, none⟩ v) b x v := heap_setCell_same w b 1 _ _ _ h

theorem Pair.past {w : World} {b b' j : Nat} {x y : Value} (h : Pair w b x y) (hb : b ≠ b') (v : Value) : Pair (w.setCell ⟨b', j, none⟩ v) b x y := h.other (grown_at w b' j v) (by simpa using hb)

theorem Row.past {w : World} {g cap b j : Nat} {xs : List Int} (h : Row w g cap xs) (hb : g ≠ b) (v : Value) : Row (w.setCell ⟨b, j, none⟩ v) g cap xs := h.other (grown_at w b j v) (by simpa using hb)

theorem info_smooth : (Tryz.prog.info? 29).map (·.size) = some 2 := by kernel_rfl

theorem ret_pair {fn : Func} {q : Tmp} (h : fn.results = #[.cell q 29]) {tmps : Array Value} {w : World} {g : Nat} {x y : Value} (hp : tmps.getD q undef = .pointer (some ⟨g, 0, none⟩)) (S : Pair w g x y) : (results fn tmps).run Tryz.prog w = .ok (sm x y) w :=
  results_cell_row h tmps w g _ _ _ _ hp S Tryz.underlying29 rfl info_smooth

theorem ret_pair2 {fn : Func} {q u : Tmp} (h : fn.results = #[.cell q 29, .tmp u]) {tmps : Array Value} {w : World} {g : Nat} {x y v : Value} (hp : tmps.getD q undef = .pointer (some ⟨g, 0, none⟩)) (hv : tmps.getD u undef = v) (S : Pair w g x y) : (results fn tmps).run Tryz.prog w = .ok (.tuple #[sm x y, v]) w := by
  rw [results_cell_tmp h, hp, hv]
  simp [asAddr, run_loadVar_row w g _ 29 _ _ _ S Tryz.underlying29 rfl info_smooth]

/-- What a call leaves below: a store into a block of its own. -/
theorem below_set {B b j : Nat} {w w1 : World} (h : Below B w w1) (hb : B ≤ b) (v : Value) : Below B w (w1.setCell ⟨b, j, none⟩ v) := h.setCell (p := ⟨b, j, none⟩) hb v

/-- Behind a callee that leaves all as it was. -/
theorem below_call {B : Nat} {w w1 w2 : World} (h : Below B w w1) (hB : B ≤ w1.heap.size) (h2 : Below w1.heap.size w1 w2) : Below B w w2 := h.trans (h2.mono hB)

theorem below_new (w : World) (o : Obj) : Below w.heap.size w (w.alloc o) := (Below.refl _ w).alloc (Nat.le_refl _) _

end Go.Proofs.YtcmeimfjedakeaaGreat.Crew

namespace Go.Proofs.YtcmeimfjedakeaaGreat.Crew
open Go.ChangeShapes Go.WideShapes Go.ChangeAt Go.RowKit

theorem szInts_any (a : Option Addr) (len cap : Nat) (left : Int) (w : World) (h0 : 0 ≤ left) (h1 : left ≤ 1048576) (hm : (len : Int) ≤ 9223372036854775807) :
    Calls Tryz.prog 56 #[.slice a len cap, .int .i64 left] w fun e w' => e = .returned (.int .i64 (if left - len < 0 then -1 else left - len)) ∧ w' = w := by
  by_cases h : left - (len : Int) < 0
  · rw [if_pos h]
    go_enter Tryz.func56, Tryz.ntmps56
    go_wp2_with fail
    go_ret
    exact ⟨rfl, rfl⟩
  · rw [if_neg h]
    go_enter Tryz.func56, Tryz.ntmps56
    go_wp2_with fail
    go_ret
    exact ⟨rfl, rfl⟩

theorem szSmooth_no (a : Option Addr) (len cap : Nat) (a' : Option Addr) (len' cap' : Nat) (w : World) (hm : (len : Int) ≤ 9223372036854775807) (hm' : (len' : Int) ≤ 9223372036854775807) (h : (1048576 : Int) < (len : Int) + (len' : Int)) :
    Calls Tryz.prog 57 #[sm (.slice a len cap) (.slice a' len' cap'), .int .i64 1048576] w fun e w' => e = .returned (.int .i64 (-1)) ∧ Below w.heap.size w w' := by
  by_cases h1 : (1048576 : Int) - (len : Int) < 0
  · have E1 : Hid ((1048576 : Int) - (len : Int) < 0) := h1
    go_enter Tryz.func57, Tryz.ntmps57
    go_wp2_with fail
    refine (szInts_any a len cap 1048576 _ (by omega) (by omega) hm).mono ?_
    rw [if_pos E1.out]
    rintro e w1 ⟨rfl, rfl⟩
    go_wp2_with fail
    go_ret
    exact ⟨rfl, (Below.refl _ _).alloc (Nat.le_refl _) _⟩
  · have E1 : Hid (¬ (1048576 : Int) - (len : Int) < 0) := h1
    have E2 : Hid ((1048576 : Int) - (len : Int) - (len' : Int) < 0) := by show _ < _; omega
    have h2 : (1048576 : Int) - (len : Int) - (len' : Int) < 0 := by omega
    have h3 : ¬ (1048576 : Int) < (len : Int) := by omega
    go_enter Tryz.func57, Tryz.ntmps57
    go_wp2_with fail
    refine (szInts_any a len cap 1048576 _ (by omega) (by omega) hm).mono ?_
    rw [if_neg (show ¬ (1048576 : Int) - (len : Int) < 0 by omega)]
    rintro e w1 ⟨rfl, rfl⟩
    go_wp2_with fail
    refine (szInts_any a' len' cap' (1048576 - (len : Int)) _ (by omega) (by omega) hm').mono ?_
    rw [if_pos E2.out]
    rintro e w1 ⟨rfl, rfl⟩
    go_wp2_with fail
    go_ret
    exact ⟨rfl, (Below.refl _ _).alloc (Nat.le_refl _) _⟩

theorem szSmooth_yes (a : Option Addr) (len cap : Nat) (a' : Option Addr) (len' cap' : Nat) (w : World) (h : (len : Int) + (len' : Int) ≤ 1048576) :
    Calls Tryz.prog 57 #[sm (.slice a len cap) (.slice a' len' cap'), .int .i64 1048576] w fun e w' => e = .returned (.int .i64 (1048576 - (len : Int) - (len' : Int))) ∧ Below w.heap.size w w' := by
  have h1 : ¬ (1048576 : Int) - (len : Int) < 0 := by omega
  have h2 : ¬ (1048576 : Int) - (len : Int) - (len' : Int) < 0 := by omega
  have E1 : Hid (¬ (1048576 : Int) - (len : Int) < 0) := h1
  have E2 : Hid (¬ (1048576 : Int) - (len : Int) - (len' : Int) < 0) := h2
  go_enter Tryz.func57, Tryz.ntmps57
  go_wp2_with fail
  refine (szInts_any a len cap 1048576 _ (by omega) (by omega) (by omega)).mono ?_
  rw [if_neg (show ¬ (1048576 : Int) - (len : Int) < 0 by omega)]
  rintro e w1 ⟨rfl, rfl⟩
  go_wp2_with fail
  refine (szInts_any a' len' cap' (1048576 - (len : Int)) _ (by omega) (by omega) (by omega)).mono ?_
  rw [if_neg (show ¬ (1048576 : Int) - (len : Int) - (len' : Int) < 0 by omega)]
  rintro e w1 ⟨rfl, rfl⟩
  go_wp2_with fail
  go_ret
  exact ⟨rfl, (Below.refl _ _).alloc (Nat.le_refl _) _⟩

/-- What came in stays where a block of the call's own is written. -/
theorem ints_set {B b j : Nat} {w w1 : World} {a : Option Addr} {len : Nat} {xs : List Int} (_ : Ints w1 a len xs) (I : Ints w a len xs) (h : Below B w w1) (hb : B ≤ b) (hB : w.heap.size ≤ B) (v : Value) : Ints (w1.setCell ⟨b, j, none⟩ v) a len xs :=
  I.kept ((below_set h hb v).mono hB)

/-- laws.toSmooth: a copy, in two blocks of its own. -/
theorem toSmooth_any (a : Option Addr) (len cap : Nat) (xs : List Int) (a' : Option Addr) (len' cap' : Nat) (ys : List Int) (w : World) (I : Ints w a len xs) (J : Ints w a' len' ys) (hs : (len : Int) ≤ 1048576) (hs' : (len' : Int) ≤ 1048576) :
    Calls Tryz.prog 62 #[sm (.slice a len cap) (.slice a' len' cap')] w fun e w' => ∃ g h : Nat, e = .returned (sm (.slice (some ⟨g, 0, none⟩) len len) (.slice (some ⟨h, 0, none⟩) len' len')) ∧ Row w' g len xs ∧ Row w' h len' ys ∧ w.heap.size ≤ g ∧ w.heap.size ≤ h ∧ g ≠ h ∧ Below w.heap.size w w' := by
  obtain ⟨W0, hW0⟩ : ∃ W0, W0 = ((w.alloc (.cells #[.slice a len cap, .slice a' len' cap'] 44)).alloc (.cells #[.slice none 0 0, .slice none 0 0] 29)).alloc (.cells #[.slice none 0 0, .slice none 0 0] 29) := ⟨_, rfl⟩
  have hz : W0.heap.size = w.heap.size + 3 := by rw [hW0]; simp
  have H0 : Hid (W0.cell? ⟨w.heap.size, 1, none⟩ = some (.slice a' len' cap') ∧ Pair W0 (w.heap.size + 1) (.slice none 0 0) (.slice none 0 0) ∧ Pair W0 (w.heap.size + 2) (.slice none 0 0) (.slice none 0 0) ∧ Below w.heap.size w W0 ∧ Ints W0 a len xs ∧ Ints W0 a' len' ys) := by
    subst hW0
    refine ⟨?_, ?_, ?_, ?_, ((I.alloc _).alloc _).alloc _, ((J.alloc _).alloc _).alloc _⟩
    · have h1 := cell_pair (heap_alloc_new w (.cells #[.slice a len cap, .slice a' len' cap'] 44)) 1
      rw [((Below.refl _ _).alloc (Nat.le_refl _) _).cell (p := ⟨w.heap.size, 1, none⟩) (by simp; omega), ((Below.refl _ _).alloc (Nat.le_refl _) _).cell (p := ⟨w.heap.size, 1, none⟩) (by simp)]
      exact h1
    · have := (pair_new (w.alloc (.cells #[.slice a len cap, .slice a' len' cap'] 44)) (.slice none 0 0) (.slice none 0 0)).alloc (.cells #[.slice none 0 0, .slice none 0 0] 29)
      simpa using this
    · have := pair_new ((w.alloc (.cells #[.slice a len cap, .slice a' len' cap'] 44)).alloc (.cells #[.slice none 0 0, .slice none 0 0] 29)) (.slice none 0 0) (.slice none 0 0)
      simpa using this
    · exact (((Below.refl _ w).alloc (Nat.le_refl _) _).alloc (by simp) _).alloc (by simp; omega) _
  have H0b : Hid (Ints w a' len' ys) := J
  clear I J
  go_enter Tryz.func62, Tryz.ntmps62
  go_wp2_with fail
  rw [← hW0]
  clear hW0
  refine (toInts_any a len cap xs _ H0.out.2.2.2.2.1 hs).mono ?_
  rintro e w1 ⟨rfl, R1, B1⟩
  rw [hz] at R1
  rw [hz]
  have H1 : Hid (w1.cell? ⟨w.heap.size, 1, none⟩ = some (.slice a' len' cap') ∧ Pair w1 (w.heap.size + 1) (.slice none 0 0) (.slice none 0 0) ∧ Pair w1 (w.heap.size + 2) (.slice none 0 0) (.slice none 0 0) ∧ Below w.heap.size w w1 ∧ Row w1 (w.heap.size + 3) len xs ∧ Ints w1 a' len' ys) :=
    ⟨by rw [B1.cell (p := ⟨w.heap.size, 1, none⟩) (by simp; omega)]; exact H0.out.1, H0.out.2.1.all B1, H0.out.2.2.1.all B1, below_call H0.out.2.2.2.1 (by omega) B1, R1, H0.out.2.2.2.2.2.kept B1⟩
  clear H0 B1 R1 hz
  have p0 := H1.out.2.2.1.c0
  have p1 := H1.out.2.2.1.c1
  have f0 := H1.out.2.2.1.fr 0
  have f1 := H1.out.2.2.1.fr 1
  have q1 := H1.out.1
  go_wp2_with fail
  clear p0 p1 f0 f1 q1
  have H2 : Hid (Pair (w1.setCell ⟨w.heap.size + 1 + 1, 0, none⟩ (.slice (some ⟨w.heap.size + 3, 0, none⟩) len len)) (w.heap.size + 1) (.slice none 0 0) (.slice none 0 0) ∧ Pair (w1.setCell ⟨w.heap.size + 1 + 1, 0, none⟩ (.slice (some ⟨w.heap.size + 3, 0, none⟩) len len)) (w.heap.size + 1 + 1) (.slice (some ⟨w.heap.size + 3, 0, none⟩) len len) (.slice none 0 0) ∧ Below w.heap.size w (w1.setCell ⟨w.heap.size + 1 + 1, 0, none⟩ (.slice (some ⟨w.heap.size + 3, 0, none⟩) len len)) ∧ Row (w1.setCell ⟨w.heap.size + 1 + 1, 0, none⟩ (.slice (some ⟨w.heap.size + 3, 0, none⟩) len len)) (w.heap.size + 3) len xs ∧ Ints (w1.setCell ⟨w.heap.size + 1 + 1, 0, none⟩ (.slice (some ⟨w.heap.size + 3, 0, none⟩) len len)) a' len' ys) :=
    ⟨H1.out.2.1.past (by omega) _, H1.out.2.2.1.set0 _, below_set H1.out.2.2.2.1 (by omega) _, H1.out.2.2.2.2.1.past (by omega) _, ints_set H1.out.2.2.2.2.2 H0b.out H1.out.2.2.2.1 (by omega) (Nat.le_refl _) _⟩
  clear H1
  generalize w1.setCell ⟨w.heap.size + 1 + 1, 0, none⟩ (.slice (some ⟨w.heap.size + 3, 0, none⟩) len len) = w2 at *
  have hz2 : w.heap.size + 3 < w2.heap.size := H2.out.2.2.2.1.lt
  refine (toInts_any a' len' cap' ys _ H2.out.2.2.2.2 hs').mono ?_
  rintro e w3 ⟨rfl, R3, B3⟩
  generalize w2.heap.size = s at *
  have H3 : Hid (Pair w3 (w.heap.size + 1) (.slice none 0 0) (.slice none 0 0) ∧ Pair w3 (w.heap.size + 1 + 1) (.slice (some ⟨w.heap.size + 3, 0, none⟩) len len) (.slice none 0 0) ∧ Below w.heap.size w w3 ∧ Row w3 (w.heap.size + 3) len xs ∧ Row w3 s len' ys) :=
    ⟨H2.out.1.kept B3 (by omega), H2.out.2.1.kept B3 (by omega), H2.out.2.2.1.trans (B3.mono (by omega)), H2.out.2.2.2.1.kept B3 (by omega), R3⟩
  clear H2 B3 R3
  have p0 := H3.out.2.1.c0
  have p1 := H3.out.2.1.c1
  have f0 := H3.out.2.1.fr 0
  have f1 := H3.out.2.1.fr 1
  have p2 := H3.out.1.c0
  have p3 := H3.out.1.c1
  have f2 := H3.out.1.fr 0
  have f3 := H3.out.1.fr 1
  go_wp2_with fail
  clear p0 p1 f0 f1 p2 p3 f2 f3
  refine bodyPost_ret (ret_pair rfl rfl (((H3.out.1.past (by omega) _).set0 _).set1 _)) rfl ⟨_, _, rfl, ?_, ?_, ?_, ?_, ?_, ?_⟩
  · exact ((H3.out.2.2.2.1.past (by omega) _).past (by omega) _).past (by omega) _
  · exact ((H3.out.2.2.2.2.past (by omega) _).past (by omega) _).past (by omega) _
  · omega
  · omega
  · omega
  · exact below_set (below_set (below_set H3.out.2.2.1 (by omega) _) (by omega) _) (by omega) _

/-- laws.eqSmooth where both read alike. -/
theorem eqSmooth_same (a : Option Addr) (len cap : Nat) (a' : Option Addr) (len' cap' : Nat) (b : Option Addr) (lb cb : Nat) (b' : Option Addr) (lb' cb' : Nat) (xs ys : List Int) (w : World) (I : Ints w a len xs) (I' : Ints w a' len' ys) (J : Ints w b lb xs) (J' : Ints w b' lb' ys) (hs : (len : Int) ≤ 1048576) (hs' : (len' : Int) ≤ 1048576) :
    Calls Tryz.prog 67 #[sm (.slice a len cap) (.slice a' len' cap'), sm (.slice b lb cb) (.slice b' lb' cb')] w fun e w' => e = .returned (.bool true) ∧ Below w.heap.size w w' := by
  obtain ⟨W0, hW0⟩ : ∃ W0, W0 = (w.alloc (.cells #[.slice a len cap, .slice a' len' cap'] 29)).alloc (.cells #[.slice b lb cb, .slice b' lb' cb'] 29) := ⟨_, rfl⟩
  have hz : W0.heap.size = w.heap.size + 2 := by rw [hW0]; simp
  have H0 : Hid (Pair W0 w.heap.size (.slice a len cap) (.slice a' len' cap') ∧ Pair W0 (w.heap.size + 1) (.slice b lb cb) (.slice b' lb' cb') ∧ Below w.heap.size w W0) := by
    subst hW0
    refine ⟨(pair_new _ _ _).alloc _, ?_, ?_⟩
    · have := pair_new (w.alloc (.cells #[.slice a len cap, .slice a' len' cap'] 29)) (.slice b lb cb) (.slice b' lb' cb')
      simpa using this
    · exact ((Below.refl _ w).alloc (Nat.le_refl _) _).alloc (by simp) _
  have HI : Hid (Ints w a len xs ∧ Ints w a' len' ys ∧ Ints w b lb xs ∧ Ints w b' lb' ys) := ⟨I, I', J, J'⟩
  clear I I' J J'
  go_enter Tryz.func67, Tryz.ntmps67
  go_wp2_with fail
  rw [← hW0]
  clear hW0
  refine (eqInts_same a len cap xs b lb cb _ (HI.out.1.kept H0.out.2.2) (HI.out.2.2.1.kept H0.out.2.2) hs).mono ?_
  rintro e w1 ⟨rfl, B1⟩
  have H1 : Hid (Below w.heap.size w w1) := below_call H0.out.2.2 (by omega) B1
  have c0 := (H0.out.1.all B1).c1
  have c1 := (H0.out.2.1.all B1).c1
  clear B1
  go_wp2_with fail
  refine (eqInts_same a' len' cap' ys b' lb' cb' _ (HI.out.2.1.kept H1.out) (HI.out.2.2.2.kept H1.out) hs').mono ?_
  rintro e w2 ⟨rfl, B2⟩
  have H2 : Hid (Below w.heap.size w w2) := below_call H1.out H1.out.size B2
  clear B2 c0 c1
  go_wp2_with fail
  go_ret
  exact ⟨rfl, H2.out⟩

/-- A slice that is empty, or lies at the head of a block of the call's own. -/
def Fit (w : World) (base : Nat) (a : Option Addr) (len cap : Nat) (xs : List Int) : Prop :=
  xs.length = len ∧ ((len = 0 ∧ a = none) ∨ ∃ g, a = some ⟨g, 0, none⟩ ∧ base ≤ g ∧ Row w g cap xs)

theorem fit_nil (w : World) (base : Nat) : Fit w base none 0 0 [] := ⟨rfl, .inl ⟨rfl, rfl⟩⟩

theorem Row.fit {w : World} {g cap : Nat} {xs : List Int} (h : Row w g cap xs) {base : Nat} (hb : base ≤ g) {len : Nat} (hl : xs.length = len) : Fit w base (some ⟨g, 0, none⟩) len cap xs := ⟨hl, .inr ⟨g, rfl, hb, h⟩⟩

theorem Fit.ints {w : World} {base : Nat} {a : Option Addr} {len cap : Nat} {xs : List Int} (h : Fit w base a len cap xs) : Ints w a len xs := by
  obtain ⟨hl, ⟨h0, _⟩ | ⟨g, rfl, _, R⟩⟩ := h
  · exact ⟨hl, .inl h0⟩
  · rw [← hl]; exact R.ints

theorem Fit.other {w w' : World} {base : Nat} {a : Option Addr} {len cap : Nat} {xs : List Int} {row : Option Nat} (h : Fit w base a len cap xs) (g : w.grownBy w' row) (hb : ∀ x, a = some x → some x.block ≠ row) : Fit w' base a len cap xs := by
  obtain ⟨hl, ⟨h0, h1⟩ | ⟨b, rfl, hb', R⟩⟩ := h
  · exact ⟨hl, .inl ⟨h0, h1⟩⟩
  · exact ⟨hl, .inr ⟨b, rfl, hb', R.other g (hb _ rfl)⟩⟩

theorem Fit.all {w w' : World} {base : Nat} {a : Option Addr} {len cap : Nat} {xs : List Int} (h : Fit w base a len cap xs) (g : Below w.heap.size w w') : Fit w' base a len cap xs := by
  obtain ⟨hl, ⟨h0, h1⟩ | ⟨b, rfl, hb', R⟩⟩ := h
  · exact ⟨hl, .inl ⟨h0, h1⟩⟩
  · exact ⟨hl, .inr ⟨b, rfl, hb', R.all g⟩⟩

theorem Fit.mono {w : World} {base base' : Nat} {a : Option Addr} {len cap : Nat} {xs : List Int} (h : Fit w base a len cap xs) (hb : base' ≤ base) : Fit w base' a len cap xs := by
  obtain ⟨hl, ⟨h0, h1⟩ | ⟨b, rfl, hb', R⟩⟩ := h
  · exact ⟨hl, .inl ⟨h0, h1⟩⟩
  · exact ⟨hl, .inr ⟨b, rfl, by omega, R⟩⟩

theorem Fit.ge {w : World} {base : Nat} {a : Option Addr} {len cap : Nat} {xs : List Int} (h : Fit w base a len cap xs) {x : Addr} (hx : a = some x) : base ≤ x.block ∧ x.block < w.heap.size := by
  obtain ⟨hl, ⟨_, h1⟩ | ⟨b, h1, hb', R⟩⟩ := h
  · rw [h1] at hx; cases hx
  · rw [h1] at hx; cases hx; exact ⟨hb', R.lt⟩

/-- The block of a slice. -/
def blk (a : Option Addr) : Option Nat := a.map (·.block)

theorem blk_some (x : Addr) : blk (some x) = some x.block := rfl

/-- Two slices lie in two blocks. -/
def Apart (a b : Option Addr) : Prop := ∀ x y, a = some x → b = some y → x.block ≠ y.block

theorem Apart.symm {a b : Option Addr} (h : Apart a b) : Apart b a := fun x y hx hy e => h y x hy hx e.symm

theorem apart_none (b : Option Addr) : Apart none b := fun x y hx => by cases hx

theorem Apart.ne {a b : Option Addr} (h : Apart a b) {x : Addr} (hx : a = some x) : some x.block ≠ blk b := by
  intro e
  cases b with
  | none => cases e
  | some y => rw [blk_some] at e; exact h x y hx rfl (Option.some.inj e)

theorem apart_below {w : World} {base : Nat} {a b : Option Addr} {la ca : Nat} {xs : List Int} (h : Fit w base a la ca xs) (hb : ∀ y, b = some y → y.block < base) : Apart a b := by
  intro x y hx hy e
  have h1 := (h.ge hx).1
  have h2 := hb y hy
  omega

theorem marks_nil (k : Int) : marks k 0 = [] := rfl

/-- laws.markInt64S at a slice of the call's own. -/
theorem markFit (base : Nat) (a : Option Addr) (len cap : Nat) (xs : List Int) (k : Int) (w : World) (F : Fit w base a len cap xs) (hs : (len : Int) ≤ 1048576) (hk0 : 0 ≤ k) (hk1 : k ≤ 1000000000000) :
    Calls Tryz.prog 71 #[.slice a len cap, .int .i64 k] w fun e w' => e = .returned (.int .i64 (k + len)) ∧ Fit w' base a len cap (marks k len) ∧ w.grownBy w' (blk a) := by
  obtain ⟨hl, ⟨h0, h1⟩ | ⟨g, rfl, hb, R⟩⟩ := F
  · subst h0 h1
    go_enter Tryz.func71, Tryz.ntmps71
    go_wp2_with fail
    go_loop [1, 5] (fun q i => q = .int .i64 k ∧ i = .int .i64 0) (fun _ _ => 0)
    case atStart => exact ⟨rfl, rfl⟩
    case round =>
      obtain ⟨rfl, rfl⟩ := hrel
      go_wp2_with fail
      go_ret
      exact ⟨by simp, ⟨rfl, .inl ⟨rfl, rfl⟩⟩, World.grownBy.refl _ _⟩
  · subst hl
    refine (markInts_any g cap xs k w R hs hk0 hk1).mono ?_
    rintro e w' ⟨rfl, R', G⟩
    exact ⟨rfl, R'.fit hb (marks_length _ _), G⟩

/-- laws.markSmooth. -/
theorem markSmooth_any (base : Nat) (a : Option Addr) (len cap : Nat) (xs : List Int) (a' : Option Addr) (len' cap' : Nat) (ys : List Int) (k : Int) (w : World) (F : Fit w base a len cap xs) (F' : Fit w base a' len' cap' ys) (D : Apart a a') (hs : (len : Int) ≤ 1048576) (hs' : (len' : Int) ≤ 1048576) (hk0 : 0 ≤ k) (hk1 : k ≤ 1000000000) :
    Calls Tryz.prog 72 #[sm (.slice a len cap) (.slice a' len' cap'), .int .i64 k] w fun e w' => e = .returned (.int .i64 (k + len + len')) ∧ Fit w' base a len cap (marks k len) ∧ Fit w' base a' len' cap' (marks (k + len) len') ∧ ∃ wm, w.grownBy wm (blk a) ∧ wm.grownBy w' (blk a') := by
  have HF : Hid (Fit w base a len cap xs ∧ Fit w base a' len' cap' ys ∧ Apart a a') := ⟨F, F', D⟩
  have n1 : ∀ x, a = some x → x.block < w.heap.size := fun x hx => (F.ge hx).2
  have n2 : ∀ x, a' = some x → x.block < w.heap.size := fun x hx => (F'.ge hx).2
  have N : Hid ((∀ x, a = some x → x.block < w.heap.size) ∧ (∀ x, a' = some x → x.block < w.heap.size)) := ⟨n1, n2⟩
  clear F F' D n1 n2
  go_enter Tryz.func72, Tryz.ntmps72
  go_wp2_with fail
  refine (markFit base a len cap xs k _ (HF.out.1.other (World.grownBy_alloc _ _ none) (by simp)) hs hk0 (by omega)).mono ?_
  rintro e w1 ⟨rfl, F1, G1⟩
  have P1 : Pair w1 w.heap.size (.slice a len cap) (.slice a' len' cap') := (pair_new w _ _).other G1 (by
    cases a with
    | none => simp [blk]
    | some x => have := N.out.1 x rfl; simp [blk]; omega)
  have H1 : Hid (Fit w1 base a len cap (marks k len) ∧ Fit w1 base a' len' cap' ys ∧ w.grownBy w1 (blk a)) :=
    ⟨F1, (HF.out.2.1.other (World.grownBy_alloc _ _ none) (by simp)).other G1 (fun x hx => HF.out.2.2.symm.ne hx), (World.grownBy_alloc w _ _).trans G1⟩
  have c1 := P1.c1
  clear F1 G1 P1
  go_wp2_with fail
  refine (markFit base a' len' cap' ys (k + len) _ H1.out.2.1 hs' (by omega) (by omega)).mono ?_
  rintro e w2 ⟨rfl, F2, G2⟩
  have H2 : Hid (Fit w2 base a len cap (marks k len) ∧ Fit w2 base a' len' cap' (marks (k + len) len') ∧ ∃ wm, w.grownBy wm (blk a) ∧ wm.grownBy w2 (blk a')) :=
    ⟨H1.out.1.other G2 (fun x hx => HF.out.2.2.ne hx), F2, w1, H1.out.2.2, G2⟩
  clear F2 G2 c1
  go_wp2_with fail
  go_ret
  exact ⟨rfl, H2.out⟩

/-- laws.heldSmooth where the marks are held. -/
theorem heldSmooth_any (a : Option Addr) (len cap : Nat) (a' : Option Addr) (len' cap' : Nat) (k : Int) (w : World) (I : Ints w a len (marks k len)) (I' : Ints w a' len' (marks (k + len) len')) (hs : (len : Int) ≤ 1048576) (hs' : (len' : Int) ≤ 1048576) (hk0 : 0 ≤ k) (hk1 : k ≤ 1000000000) :
    Calls Tryz.prog 77 #[sm (.slice a len cap) (.slice a' len' cap'), .int .i64 k] w fun e w' => e = .returned (.int .i64 (k + len + len')) ∧ Below w.heap.size w w' := by
  have HI : Hid (Ints w a len (marks k len) ∧ Ints w a' len' (marks (k + len) len')) := ⟨I, I'⟩
  clear I I'
  have h1 : ¬ (k + (len : Int)) < 0 := by omega
  have h2 : ¬ (k + (len : Int) + (len' : Int)) < 0 := by omega
  go_enter Tryz.func77, Tryz.ntmps77
  go_wp2_with fail
  refine (heldInts_any a len cap k _ (HI.out.1.alloc _) hs hk0 (by omega)).mono ?_
  rintro e w1 ⟨rfl, B1⟩
  have H1 : Hid (Below w.heap.size w w1) := below_call ((Below.refl _ w).alloc (Nat.le_refl _) _) (by simp) B1
  have c1 := ((pair_new w (.slice a len cap) (.slice a' len' cap')).all B1).c1
  clear B1
  go_wp2_with fail
  refine (heldInts_any a' len' cap' (k + len) _ (HI.out.2.kept H1.out) hs' (by omega) (by omega)).mono ?_
  rintro e w2 ⟨rfl, B2⟩
  have H2 : Hid (Below w.heap.size w w2) := below_call H1.out H1.out.size B2
  clear B2 c1
  go_wp2_with fail
  go_ret
  exact ⟨rfl, H2.out⟩

end Go.Proofs.YtcmeimfjedakeaaGreat.Crew
