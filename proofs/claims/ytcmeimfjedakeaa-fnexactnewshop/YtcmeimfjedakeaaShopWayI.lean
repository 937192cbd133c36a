/-
  impl's ways: wayOf, runsOn, frameOf. (Written by wip/tools/gen_shoprighti.py.)
-/
import Derived.Test.YtcmeimfjedakeaaShopBox
import Derived.Test.YtcmeimfjedakeaaShopOkA
import Derived.Test.YtcmeimfjedakeaaTaskMakeI
namespace Go.Proofs.Ytcmeimfjedakeaa.Crew
open Go.ChangeShapes Go.WideShapes Go.ChangeAt Go.RowKit

/-- The way of a Policy. -/
def wayV (p : Int) : Value := if p = 1 then .iface 95 (.agg #[]) else if p = 2 then .iface 107 (.agg #[]) else if p = 3 then .iface 96 (.agg #[]) else if p = 4 then .iface 108 (.agg #[]) else if p = 5 then .iface 97 (.agg #[]) else .nilIface

theorem way_any (p : Int) (w : World) :
    Calls Try.prog 66 #[.int .i64 p] w fun e w' => e = .returned (.tuple #[wayV p, .bool (within p 1 5)]) ∧ Below w.heap.size w w' := by
  by_cases h1 : p = 1
  · subst h1
    have hb1 : ((1 : Int) == (1 : Int)) = true := by decide
    have HE : Hid (wayV 1 = .iface 95 (.agg #[]) ∧ within 1 1 5 = true) := ⟨by simp [wayV], by decide⟩
    rw [HE.out.1, HE.out.2]
    go_enter Try.func66, Try.ntmps66
    go_wp2_with fail
    go_ret2
    exact ⟨rfl, Below.refl _ _⟩
  · by_cases h2 : p = 2
    · subst h2
      have hb1 : ((2 : Int) == (1 : Int)) = false := by decide
      have hb2 : ((2 : Int) == (2 : Int)) = true := by decide
      have HE : Hid (wayV 2 = .iface 107 (.agg #[]) ∧ within 2 1 5 = true) := ⟨by simp [wayV], by decide⟩
      rw [HE.out.1, HE.out.2]
      go_enter Try.func66, Try.ntmps66
      go_wp2_with fail
      go_ret2
      exact ⟨rfl, Below.refl _ _⟩
    · by_cases h3 : p = 3
      · subst h3
        have hb1 : ((3 : Int) == (1 : Int)) = false := by decide
        have hb2 : ((3 : Int) == (2 : Int)) = false := by decide
        have hb3 : ((3 : Int) == (3 : Int)) = true := by decide
        have HE : Hid (wayV 3 = .iface 96 (.agg #[]) ∧ within 3 1 5 = true) := ⟨by simp [wayV], by decide⟩
        rw [HE.out.1, HE.out.2]
        go_enter Try.func66, Try.ntmps66
        go_wp2_with fail
        go_ret2
        exact ⟨rfl, Below.refl _ _⟩
      · by_cases h4 : p = 4
        · subst h4
          have hb1 : ((4 : Int) == (1 : Int)) = false := by decide
          have hb2 : ((4 : Int) == (2 : Int)) = false := by decide
          have hb3 : ((4 : Int) == (3 : Int)) = false := by decide
          have hb4 : ((4 : Int) == (4 : Int)) = true := by decide
          have HE : Hid (wayV 4 = .iface 108 (.agg #[]) ∧ within 4 1 5 = true) := ⟨by simp [wayV], by decide⟩
          rw [HE.out.1, HE.out.2]
          go_enter Try.func66, Try.ntmps66
          go_wp2_with fail
          go_ret2
          exact ⟨rfl, Below.refl _ _⟩
        · by_cases h5 : p = 5
          · subst h5
            have hb1 : ((5 : Int) == (1 : Int)) = false := by decide
            have hb2 : ((5 : Int) == (2 : Int)) = false := by decide
            have hb3 : ((5 : Int) == (3 : Int)) = false := by decide
            have hb4 : ((5 : Int) == (4 : Int)) = false := by decide
            have hb5 : ((5 : Int) == (5 : Int)) = true := by decide
            have HE : Hid (wayV 5 = .iface 97 (.agg #[]) ∧ within 5 1 5 = true) := ⟨by simp [wayV], by decide⟩
            rw [HE.out.1, HE.out.2]
            go_enter Try.func66, Try.ntmps66
            go_wp2_with fail
            go_ret2
            exact ⟨rfl, Below.refl _ _⟩
          · have hb1 : (p == (1 : Int)) = false := by simpa using h1
            have hb2 : (p == (2 : Int)) = false := by simpa using h2
            have hb3 : (p == (3 : Int)) = false := by simpa using h3
            have hb4 : (p == (4 : Int)) = false := by simpa using h4
            have hb5 : (p == (5 : Int)) = false := by simpa using h5
            have HE : Hid (wayV p = .nilIface ∧ within p 1 5 = false) := ⟨by rw [wayV, if_neg h1, if_neg h2, if_neg h3, if_neg h4, if_neg h5], by simp [within]; omega⟩
            clear h1 h2 h3 h4 h5
            rw [HE.out.1, HE.out.2]
            go_enter Try.func66, Try.ntmps66
            go_wp2_with fail
            go_ret2
            exact ⟨rfl, Below.refl _ _⟩

theorem runsOn_one (q : Int) (w : World) :
    Calls Try.prog 105 #[.agg #[], .int .i64 q] w fun e w' => e = .returned (.bool (decide (q = 1))) ∧ Below w.heap.size w w' := by
  by_cases h : q = 1
  · have hb : (q == (1 : Int)) = true := by simp [h]
    have HE : Hid (decide (q = 1) = true) := decide_eq_true h
    rw [HE.out]
    clear h
    go_enter Try.func105, Try.ntmps105
    go_wp2_with fail
    go_ret
    exact ⟨rfl, below_new _ _⟩
  · have hb : (q == (1 : Int)) = false := by simpa using h
    have HE : Hid (decide (q = 1) = false) := decide_eq_false h
    rw [HE.out]
    clear h
    go_enter Try.func105, Try.ntmps105
    go_wp2_with fail
    go_ret
    exact ⟨rfl, below_new _ _⟩

theorem runsOn_many (q : Int) (w : World) :
    Calls Try.prog 118 #[.agg #[], .int .i64 q] w fun e w' => e = .returned (.bool (procsOk q)) ∧ Below w.heap.size w w' := by
  go_enter Try.func118, Try.ntmps118
  go_wp2_with fail
  refine (implProcs q _).mono ?_
  rintro e w1 ⟨rfl, rfl⟩
  go_wp2_with fail
  go_ret
  exact ⟨rfl, below_new _ _⟩

theorem finds_runs1 (w : World) : (method (Try.prog.types.size + 100) 95 (.agg #[]) "loop.example/g00763/impl.runsOn").run Try.prog w = .ok (105, .agg #[]) w := by kernel_rfl

theorem finds_runs2 (w : World) : (method (Try.prog.types.size + 100) 107 (.agg #[]) "loop.example/g00763/impl.runsOn").run Try.prog w = .ok (105, .agg #[]) w := by kernel_rfl

theorem finds_runs3 (w : World) : (method (Try.prog.types.size + 100) 96 (.agg #[]) "loop.example/g00763/impl.runsOn").run Try.prog w = .ok (105, .agg #[]) w := by kernel_rfl

theorem finds_runs4 (w : World) : (method (Try.prog.types.size + 100) 108 (.agg #[]) "loop.example/g00763/impl.runsOn").run Try.prog w = .ok (105, .agg #[]) w := by kernel_rfl

theorem finds_runs5 (w : World) : (method (Try.prog.types.size + 100) 97 (.agg #[]) "loop.example/g00763/impl.runsOn").run Try.prog w = .ok (118, .agg #[]) w := by kernel_rfl

set_option maxRecDepth 100000 in
set_option maxHeartbeats 8000000 in
theorem frame_none (L : LT) (d : SD) (w : World) (h1 : ¬ d.p = 1) (h2 : ¬ d.p = 2) (h3 : ¬ d.p = 3) (h4 : ¬ d.p = 4) (h5 : ¬ d.p = 5) :
    Calls Try.prog 32 #[sv L d] w fun e w' => e = .returned (.tuple #[wayV d.p, .bool (outerB d)]) ∧ Below w.heap.size w w' := by
  have HF : Hid (wayV d.p = .nilIface ∧ within d.p 1 5 = false ∧ True ∧ True ∧ wayV d.p = .nilIface ∧ outerB d = false) := ⟨by rw [wayV, if_neg h1, if_neg h2, if_neg h3, if_neg h4, if_neg h5], by simp [within]; omega, trivial, trivial, by rw [wayV, if_neg h1, if_neg h2, if_neg h3, if_neg h4, if_neg h5], by rw [outerB, show within d.p 1 5 = false by simp [within]; omega]; rfl⟩
  clear h1 h2 h3 h4 h5
  go_enter Try.func32, Try.ntmps32
  go_wp2_with (refine sh_box rfl ?_)
  intro W1 b1 hW1 S1 B1
  have H1 : Hid (Shp W1 b1 L d ∧ Below w.heap.size w W1) := ⟨S1, B1⟩
  clear B1
  obtain ⟨c0, c1, c2, c3, c4, c5, c6, c7, c8, c9, c10, c11, c12, c13, c14, c15, c16⟩ := S1.bx.shop
  have m0 := S1.lt
  clear S1 hW1
  go_wp2_with fail
  refine (way_any d.p W1).mono ?_
  rw [HF.out.1, HF.out.2.1]
  rintro e W2 ⟨rfl, B2⟩
  clear c0 c1 c2 c3 c4 c5 c6 c7 c8 c9 c10 c11 c12 c13 c14 c15 c16 m0
  have H2 : Hid (Shp W2 b1 L d ∧ Below w.heap.size w W2) := ⟨H1.out.1.all B2, below_call H1.out.2 H1.out.2.size B2⟩
  clear H1 B2
  obtain ⟨c0, c1, c2, c3, c4, c5, c6, c7, c8, c9, c10, c11, c12, c13, c14, c15, c16⟩ := H2.out.1.bx.shop
  have m0 := H2.out.1.lt
  go_wp2_with fail
  go_ret2
  exact ⟨by rw [HF.out.2.2.2.2.1, HF.out.2.2.2.2.2]; rfl, H2.out.2⟩

set_option maxRecDepth 100000 in
set_option maxHeartbeats 8000000 in
theorem frame_1 (L : LT) (d : SD) (w : World) (I : Tsks w L.t.a L.t.n d.t) (hs : (L.t.n : Int) ≤ 1048576) (h1 : d.p = 1) :
    Calls Try.prog 32 #[sv L d] w fun e w' => e = .returned (.tuple #[wayV d.p, .bool (outerB d)]) ∧ Below w.heap.size w w' := by
  have HI : Hid (Tsks w L.t.a L.t.n d.t) := I
  clear I
  have fR := finds_runs1
  cases hr : decide (d.q = 1)
  · have HF : Hid (wayV d.p = .iface 95 (.agg #[]) ∧ within d.p 1 5 = true ∧ decide (d.q = 1) = false ∧ True ∧ wayV d.p = .iface 95 (.agg #[]) ∧ outerB d = false) := ⟨(by rw [wayV, h1]; simp), (by rw [h1]; rfl), hr, trivial, (by rw [wayV, h1]; simp), by rw [outerB, h1]; have : decide (d.q = 1) = false := hr; rw [this]; simp⟩
    clear h1 hr
    go_enter Try.func32, Try.ntmps32
    go_wp2_with (refine sh_box rfl ?_)
    intro W1 b1 hW1 S1 B1
    have H1 : Hid (Shp W1 b1 L d ∧ Below w.heap.size w W1) := ⟨S1, B1⟩
    clear B1
    obtain ⟨c0, c1, c2, c3, c4, c5, c6, c7, c8, c9, c10, c11, c12, c13, c14, c15, c16⟩ := S1.bx.shop
    have m0 := S1.lt
    clear S1 hW1
    go_wp2_with fail
    refine (way_any d.p W1).mono ?_
    rw [HF.out.1, HF.out.2.1]
    rintro e W2 ⟨rfl, B2⟩
    clear c0 c1 c2 c3 c4 c5 c6 c7 c8 c9 c10 c11 c12 c13 c14 c15 c16 m0
    have H2 : Hid (Shp W2 b1 L d ∧ Below w.heap.size w W2) := ⟨H1.out.1.all B2, below_call H1.out.2 H1.out.2.size B2⟩
    clear H1 B2
    obtain ⟨c0, c1, c2, c3, c4, c5, c6, c7, c8, c9, c10, c11, c12, c13, c14, c15, c16⟩ := H2.out.1.bx.shop
    have m0 := H2.out.1.lt
    go_wp2_with fail
    refine (runsOn_one d.q _).mono ?_
    rw [HF.out.2.2.1]
    rintro e W3 ⟨rfl, B3⟩
    clear c0 c1 c2 c3 c4 c5 c6 c7 c8 c9 c10 c11 c12 c13 c14 c15 c16 m0
    have H3 : Hid (Shp W3 b1 L d ∧ Below w.heap.size w W3) := ⟨H2.out.1.all B3, below_call H2.out.2 H2.out.2.size B3⟩
    clear H2 B3
    obtain ⟨c0, c1, c2, c3, c4, c5, c6, c7, c8, c9, c10, c11, c12, c13, c14, c15, c16⟩ := H3.out.1.bx.shop
    have m0 := H3.out.1.lt
    go_wp2_with fail
    go_ret2
    exact ⟨by rw [HF.out.2.2.2.2.1, HF.out.2.2.2.2.2]; rfl, H3.out.2⟩
  · cases ht : tasksOk d.t
    · have HF : Hid (wayV d.p = .iface 95 (.agg #[]) ∧ within d.p 1 5 = true ∧ decide (d.q = 1) = true ∧ tasksOk d.t = false ∧ wayV d.p = .iface 95 (.agg #[]) ∧ outerB d = false) := ⟨(by rw [wayV, h1]; simp), (by rw [h1]; rfl), hr, ht, (by rw [wayV, h1]; simp), by rw [outerB, h1]; have hq : d.q = 1 := of_decide_eq_true hr; rw [hq]; rw [ht]; simp⟩
      clear h1 hr ht
      go_enter Try.func32, Try.ntmps32
      go_wp2_with (refine sh_box rfl ?_)
      intro W1 b1 hW1 S1 B1
      have H1 : Hid (Shp W1 b1 L d ∧ Below w.heap.size w W1) := ⟨S1, B1⟩
      clear B1
      obtain ⟨c0, c1, c2, c3, c4, c5, c6, c7, c8, c9, c10, c11, c12, c13, c14, c15, c16⟩ := S1.bx.shop
      have m0 := S1.lt
      clear S1 hW1
      go_wp2_with fail
      refine (way_any d.p W1).mono ?_
      rw [HF.out.1, HF.out.2.1]
      rintro e W2 ⟨rfl, B2⟩
      clear c0 c1 c2 c3 c4 c5 c6 c7 c8 c9 c10 c11 c12 c13 c14 c15 c16 m0
      have H2 : Hid (Shp W2 b1 L d ∧ Below w.heap.size w W2) := ⟨H1.out.1.all B2, below_call H1.out.2 H1.out.2.size B2⟩
      clear H1 B2
      obtain ⟨c0, c1, c2, c3, c4, c5, c6, c7, c8, c9, c10, c11, c12, c13, c14, c15, c16⟩ := H2.out.1.bx.shop
      have m0 := H2.out.1.lt
      go_wp2_with fail
      refine (runsOn_one d.q _).mono ?_
      rw [HF.out.2.2.1]
      rintro e W3 ⟨rfl, B3⟩
      clear c0 c1 c2 c3 c4 c5 c6 c7 c8 c9 c10 c11 c12 c13 c14 c15 c16 m0
      have H3 : Hid (Shp W3 b1 L d ∧ Below w.heap.size w W3) := ⟨H2.out.1.all B3, below_call H2.out.2 H2.out.2.size B3⟩
      clear H2 B3
      obtain ⟨c0, c1, c2, c3, c4, c5, c6, c7, c8, c9, c10, c11, c12, c13, c14, c15, c16⟩ := H3.out.1.bx.shop
      have m0 := H3.out.1.lt
      go_wp2_with fail
      refine (implTasksOk L.t.a L.t.n L.t.c d.t _ (HI.out.kept H3.out.2) hs).mono ?_
      rw [HF.out.2.2.2.1]
      rintro e W4 ⟨rfl, B4⟩
      clear c0 c1 c2 c3 c4 c5 c6 c7 c8 c9 c10 c11 c12 c13 c14 c15 c16 m0
      have H4 : Hid (Shp W4 b1 L d ∧ Below w.heap.size w W4) := ⟨H3.out.1.all B4, below_call H3.out.2 H3.out.2.size B4⟩
      clear H3 B4
      obtain ⟨c0, c1, c2, c3, c4, c5, c6, c7, c8, c9, c10, c11, c12, c13, c14, c15, c16⟩ := H4.out.1.bx.shop
      have m0 := H4.out.1.lt
      go_wp2_with fail
      go_ret2
      exact ⟨by rw [HF.out.2.2.2.2.1, HF.out.2.2.2.2.2]; rfl, H4.out.2⟩
    · have HF : Hid (wayV d.p = .iface 95 (.agg #[]) ∧ within d.p 1 5 = true ∧ decide (d.q = 1) = true ∧ tasksOk d.t = true ∧ wayV d.p = .iface 95 (.agg #[]) ∧ outerB d = within d.w 0 1000000) := ⟨(by rw [wayV, h1]; simp), (by rw [h1]; rfl), hr, ht, (by rw [wayV, h1]; simp), by rw [outerB, h1]; have hq : d.q = 1 := of_decide_eq_true hr; rw [hq]; rw [ht]; simp [within, procsOk]⟩
      clear h1 hr ht
      go_enter Try.func32, Try.ntmps32
      go_wp2_with (refine sh_box rfl ?_)
      intro W1 b1 hW1 S1 B1
      have H1 : Hid (Shp W1 b1 L d ∧ Below w.heap.size w W1) := ⟨S1, B1⟩
      clear B1
      obtain ⟨c0, c1, c2, c3, c4, c5, c6, c7, c8, c9, c10, c11, c12, c13, c14, c15, c16⟩ := S1.bx.shop
      have m0 := S1.lt
      clear S1 hW1
      go_wp2_with fail
      refine (way_any d.p W1).mono ?_
      rw [HF.out.1, HF.out.2.1]
      rintro e W2 ⟨rfl, B2⟩
      clear c0 c1 c2 c3 c4 c5 c6 c7 c8 c9 c10 c11 c12 c13 c14 c15 c16 m0
      have H2 : Hid (Shp W2 b1 L d ∧ Below w.heap.size w W2) := ⟨H1.out.1.all B2, below_call H1.out.2 H1.out.2.size B2⟩
      clear H1 B2
      obtain ⟨c0, c1, c2, c3, c4, c5, c6, c7, c8, c9, c10, c11, c12, c13, c14, c15, c16⟩ := H2.out.1.bx.shop
      have m0 := H2.out.1.lt
      go_wp2_with fail
      refine (runsOn_one d.q _).mono ?_
      rw [HF.out.2.2.1]
      rintro e W3 ⟨rfl, B3⟩
      clear c0 c1 c2 c3 c4 c5 c6 c7 c8 c9 c10 c11 c12 c13 c14 c15 c16 m0
      have H3 : Hid (Shp W3 b1 L d ∧ Below w.heap.size w W3) := ⟨H2.out.1.all B3, below_call H2.out.2 H2.out.2.size B3⟩
      clear H2 B3
      obtain ⟨c0, c1, c2, c3, c4, c5, c6, c7, c8, c9, c10, c11, c12, c13, c14, c15, c16⟩ := H3.out.1.bx.shop
      have m0 := H3.out.1.lt
      go_wp2_with fail
      refine (implTasksOk L.t.a L.t.n L.t.c d.t _ (HI.out.kept H3.out.2) hs).mono ?_
      rw [HF.out.2.2.2.1]
      rintro e W4 ⟨rfl, B4⟩
      clear c0 c1 c2 c3 c4 c5 c6 c7 c8 c9 c10 c11 c12 c13 c14 c15 c16 m0
      have H4 : Hid (Shp W4 b1 L d ∧ Below w.heap.size w W4) := ⟨H3.out.1.all B4, below_call H3.out.2 H3.out.2.size B4⟩
      clear H3 B4
      obtain ⟨c0, c1, c2, c3, c4, c5, c6, c7, c8, c9, c10, c11, c12, c13, c14, c15, c16⟩ := H4.out.1.bx.shop
      have m0 := H4.out.1.lt
      go_wp2_with fail
      refine (countOk_any d.w _).mono ?_
      rintro e W5 ⟨rfl, rfl⟩
      go_wp2_with fail
      go_ret2
      exact ⟨by rw [HF.out.2.2.2.2.1, HF.out.2.2.2.2.2]; rfl, H4.out.2⟩

set_option maxRecDepth 100000 in
set_option maxHeartbeats 8000000 in
theorem frame_2 (L : LT) (d : SD) (w : World) (I : Tsks w L.t.a L.t.n d.t) (hs : (L.t.n : Int) ≤ 1048576) (h2 : d.p = 2) :
    Calls Try.prog 32 #[sv L d] w fun e w' => e = .returned (.tuple #[wayV d.p, .bool (outerB d)]) ∧ Below w.heap.size w w' := by
  have HI : Hid (Tsks w L.t.a L.t.n d.t) := I
  clear I
  have fR := finds_runs2
  cases hr : decide (d.q = 1)
  · have HF : Hid (wayV d.p = .iface 107 (.agg #[]) ∧ within d.p 1 5 = true ∧ decide (d.q = 1) = false ∧ True ∧ wayV d.p = .iface 107 (.agg #[]) ∧ outerB d = false) := ⟨(by rw [wayV, h2]; simp), (by rw [h2]; rfl), hr, trivial, (by rw [wayV, h2]; simp), by rw [outerB, h2]; have : decide (d.q = 1) = false := hr; rw [this]; simp⟩
    clear h2 hr
    go_enter Try.func32, Try.ntmps32
    go_wp2_with (refine sh_box rfl ?_)
    intro W1 b1 hW1 S1 B1
    have H1 : Hid (Shp W1 b1 L d ∧ Below w.heap.size w W1) := ⟨S1, B1⟩
    clear B1
    obtain ⟨c0, c1, c2, c3, c4, c5, c6, c7, c8, c9, c10, c11, c12, c13, c14, c15, c16⟩ := S1.bx.shop
    have m0 := S1.lt
    clear S1 hW1
    go_wp2_with fail
    refine (way_any d.p W1).mono ?_
    rw [HF.out.1, HF.out.2.1]
    rintro e W2 ⟨rfl, B2⟩
    clear c0 c1 c2 c3 c4 c5 c6 c7 c8 c9 c10 c11 c12 c13 c14 c15 c16 m0
    have H2 : Hid (Shp W2 b1 L d ∧ Below w.heap.size w W2) := ⟨H1.out.1.all B2, below_call H1.out.2 H1.out.2.size B2⟩
    clear H1 B2
    obtain ⟨c0, c1, c2, c3, c4, c5, c6, c7, c8, c9, c10, c11, c12, c13, c14, c15, c16⟩ := H2.out.1.bx.shop
    have m0 := H2.out.1.lt
    go_wp2_with fail
    refine (runsOn_one d.q _).mono ?_
    rw [HF.out.2.2.1]
    rintro e W3 ⟨rfl, B3⟩
    clear c0 c1 c2 c3 c4 c5 c6 c7 c8 c9 c10 c11 c12 c13 c14 c15 c16 m0
    have H3 : Hid (Shp W3 b1 L d ∧ Below w.heap.size w W3) := ⟨H2.out.1.all B3, below_call H2.out.2 H2.out.2.size B3⟩
    clear H2 B3
    obtain ⟨c0, c1, c2, c3, c4, c5, c6, c7, c8, c9, c10, c11, c12, c13, c14, c15, c16⟩ := H3.out.1.bx.shop
    have m0 := H3.out.1.lt
    go_wp2_with fail
    go_ret2
    exact ⟨by rw [HF.out.2.2.2.2.1, HF.out.2.2.2.2.2]; rfl, H3.out.2⟩
  · cases ht : tasksOk d.t
    · have HF : Hid (wayV d.p = .iface 107 (.agg #[]) ∧ within d.p 1 5 = true ∧ decide (d.q = 1) = true ∧ tasksOk d.t = false ∧ wayV d.p = .iface 107 (.agg #[]) ∧ outerB d = false) := ⟨(by rw [wayV, h2]; simp), (by rw [h2]; rfl), hr, ht, (by rw [wayV, h2]; simp), by rw [outerB, h2]; have hq : d.q = 1 := of_decide_eq_true hr; rw [hq]; rw [ht]; simp⟩
      clear h2 hr ht
      go_enter Try.func32, Try.ntmps32
      go_wp2_with (refine sh_box rfl ?_)
      intro W1 b1 hW1 S1 B1
      have H1 : Hid (Shp W1 b1 L d ∧ Below w.heap.size w W1) := ⟨S1, B1⟩
      clear B1
      obtain ⟨c0, c1, c2, c3, c4, c5, c6, c7, c8, c9, c10, c11, c12, c13, c14, c15, c16⟩ := S1.bx.shop
      have m0 := S1.lt
      clear S1 hW1
      go_wp2_with fail
      refine (way_any d.p W1).mono ?_
      rw [HF.out.1, HF.out.2.1]
      rintro e W2 ⟨rfl, B2⟩
      clear c0 c1 c2 c3 c4 c5 c6 c7 c8 c9 c10 c11 c12 c13 c14 c15 c16 m0
      have H2 : Hid (Shp W2 b1 L d ∧ Below w.heap.size w W2) := ⟨H1.out.1.all B2, below_call H1.out.2 H1.out.2.size B2⟩
      clear H1 B2
      obtain ⟨c0, c1, c2, c3, c4, c5, c6, c7, c8, c9, c10, c11, c12, c13, c14, c15, c16⟩ := H2.out.1.bx.shop
      have m0 := H2.out.1.lt
      go_wp2_with fail
      refine (runsOn_one d.q _).mono ?_
      rw [HF.out.2.2.1]
      rintro e W3 ⟨rfl, B3⟩
      clear c0 c1 c2 c3 c4 c5 c6 c7 c8 c9 c10 c11 c12 c13 c14 c15 c16 m0
      have H3 : Hid (Shp W3 b1 L d ∧ Below w.heap.size w W3) := ⟨H2.out.1.all B3, below_call H2.out.2 H2.out.2.size B3⟩
      clear H2 B3
      obtain ⟨c0, c1, c2, c3, c4, c5, c6, c7, c8, c9, c10, c11, c12, c13, c14, c15, c16⟩ := H3.out.1.bx.shop
      have m0 := H3.out.1.lt
      go_wp2_with fail
      refine (implTasksOk L.t.a L.t.n L.t.c d.t _ (HI.out.kept H3.out.2) hs).mono ?_
      rw [HF.out.2.2.2.1]
      rintro e W4 ⟨rfl, B4⟩
      clear c0 c1 c2 c3 c4 c5 c6 c7 c8 c9 c10 c11 c12 c13 c14 c15 c16 m0
      have H4 : Hid (Shp W4 b1 L d ∧ Below w.heap.size w W4) := ⟨H3.out.1.all B4, below_call H3.out.2 H3.out.2.size B4⟩
      clear H3 B4
      obtain ⟨c0, c1, c2, c3, c4, c5, c6, c7, c8, c9, c10, c11, c12, c13, c14, c15, c16⟩ := H4.out.1.bx.shop
      have m0 := H4.out.1.lt
      go_wp2_with fail
      go_ret2
      exact ⟨by rw [HF.out.2.2.2.2.1, HF.out.2.2.2.2.2]; rfl, H4.out.2⟩
    · have HF : Hid (wayV d.p = .iface 107 (.agg #[]) ∧ within d.p 1 5 = true ∧ decide (d.q = 1) = true ∧ tasksOk d.t = true ∧ wayV d.p = .iface 107 (.agg #[]) ∧ outerB d = within d.w 0 1000000) := ⟨(by rw [wayV, h2]; simp), (by rw [h2]; rfl), hr, ht, (by rw [wayV, h2]; simp), by rw [outerB, h2]; have hq : d.q = 1 := of_decide_eq_true hr; rw [hq]; rw [ht]; simp [within, procsOk]⟩
      clear h2 hr ht
      go_enter Try.func32, Try.ntmps32
      go_wp2_with (refine sh_box rfl ?_)
      intro W1 b1 hW1 S1 B1
      have H1 : Hid (Shp W1 b1 L d ∧ Below w.heap.size w W1) := ⟨S1, B1⟩
      clear B1
      obtain ⟨c0, c1, c2, c3, c4, c5, c6, c7, c8, c9, c10, c11, c12, c13, c14, c15, c16⟩ := S1.bx.shop
      have m0 := S1.lt
      clear S1 hW1
      go_wp2_with fail
      refine (way_any d.p W1).mono ?_
      rw [HF.out.1, HF.out.2.1]
      rintro e W2 ⟨rfl, B2⟩
      clear c0 c1 c2 c3 c4 c5 c6 c7 c8 c9 c10 c11 c12 c13 c14 c15 c16 m0
      have H2 : Hid (Shp W2 b1 L d ∧ Below w.heap.size w W2) := ⟨H1.out.1.all B2, below_call H1.out.2 H1.out.2.size B2⟩
      clear H1 B2
      obtain ⟨c0, c1, c2, c3, c4, c5, c6, c7, c8, c9, c10, c11, c12, c13, c14, c15, c16⟩ := H2.out.1.bx.shop
      have m0 := H2.out.1.lt
      go_wp2_with fail
      refine (runsOn_one d.q _).mono ?_
      rw [HF.out.2.2.1]
      rintro e W3 ⟨rfl, B3⟩
      clear c0 c1 c2 c3 c4 c5 c6 c7 c8 c9 c10 c11 c12 c13 c14 c15 c16 m0
      have H3 : Hid (Shp W3 b1 L d ∧ Below w.heap.size w W3) := ⟨H2.out.1.all B3, below_call H2.out.2 H2.out.2.size B3⟩
      clear H2 B3
      obtain ⟨c0, c1, c2, c3, c4, c5, c6, c7, c8, c9, c10, c11, c12, c13, c14, c15, c16⟩ := H3.out.1.bx.shop
      have m0 := H3.out.1.lt
      go_wp2_with fail
      refine (implTasksOk L.t.a L.t.n L.t.c d.t _ (HI.out.kept H3.out.2) hs).mono ?_
      rw [HF.out.2.2.2.1]
      rintro e W4 ⟨rfl, B4⟩
      clear c0 c1 c2 c3 c4 c5 c6 c7 c8 c9 c10 c11 c12 c13 c14 c15 c16 m0
      have H4 : Hid (Shp W4 b1 L d ∧ Below w.heap.size w W4) := ⟨H3.out.1.all B4, below_call H3.out.2 H3.out.2.size B4⟩
      clear H3 B4
      obtain ⟨c0, c1, c2, c3, c4, c5, c6, c7, c8, c9, c10, c11, c12, c13, c14, c15, c16⟩ := H4.out.1.bx.shop
      have m0 := H4.out.1.lt
      go_wp2_with fail
      refine (countOk_any d.w _).mono ?_
      rintro e W5 ⟨rfl, rfl⟩
      go_wp2_with fail
      go_ret2
      exact ⟨by rw [HF.out.2.2.2.2.1, HF.out.2.2.2.2.2]; rfl, H4.out.2⟩

set_option maxRecDepth 100000 in
set_option maxHeartbeats 8000000 in
theorem frame_3 (L : LT) (d : SD) (w : World) (I : Tsks w L.t.a L.t.n d.t) (hs : (L.t.n : Int) ≤ 1048576) (h3 : d.p = 3) :
    Calls Try.prog 32 #[sv L d] w fun e w' => e = .returned (.tuple #[wayV d.p, .bool (outerB d)]) ∧ Below w.heap.size w w' := by
  have HI : Hid (Tsks w L.t.a L.t.n d.t) := I
  clear I
  have fR := finds_runs3
  cases hr : decide (d.q = 1)
  · have HF : Hid (wayV d.p = .iface 96 (.agg #[]) ∧ within d.p 1 5 = true ∧ decide (d.q = 1) = false ∧ True ∧ wayV d.p = .iface 96 (.agg #[]) ∧ outerB d = false) := ⟨(by rw [wayV, h3]; simp), (by rw [h3]; rfl), hr, trivial, (by rw [wayV, h3]; simp), by rw [outerB, h3]; have : decide (d.q = 1) = false := hr; rw [this]; simp⟩
    clear h3 hr
    go_enter Try.func32, Try.ntmps32
    go_wp2_with (refine sh_box rfl ?_)
    intro W1 b1 hW1 S1 B1
    have H1 : Hid (Shp W1 b1 L d ∧ Below w.heap.size w W1) := ⟨S1, B1⟩
    clear B1
    obtain ⟨c0, c1, c2, c3, c4, c5, c6, c7, c8, c9, c10, c11, c12, c13, c14, c15, c16⟩ := S1.bx.shop
    have m0 := S1.lt
    clear S1 hW1
    go_wp2_with fail
    refine (way_any d.p W1).mono ?_
    rw [HF.out.1, HF.out.2.1]
    rintro e W2 ⟨rfl, B2⟩
    clear c0 c1 c2 c3 c4 c5 c6 c7 c8 c9 c10 c11 c12 c13 c14 c15 c16 m0
    have H2 : Hid (Shp W2 b1 L d ∧ Below w.heap.size w W2) := ⟨H1.out.1.all B2, below_call H1.out.2 H1.out.2.size B2⟩
    clear H1 B2
    obtain ⟨c0, c1, c2, c3, c4, c5, c6, c7, c8, c9, c10, c11, c12, c13, c14, c15, c16⟩ := H2.out.1.bx.shop
    have m0 := H2.out.1.lt
    go_wp2_with fail
    refine (runsOn_one d.q _).mono ?_
    rw [HF.out.2.2.1]
    rintro e W3 ⟨rfl, B3⟩
    clear c0 c1 c2 c3 c4 c5 c6 c7 c8 c9 c10 c11 c12 c13 c14 c15 c16 m0
    have H3 : Hid (Shp W3 b1 L d ∧ Below w.heap.size w W3) := ⟨H2.out.1.all B3, below_call H2.out.2 H2.out.2.size B3⟩
    clear H2 B3
    obtain ⟨c0, c1, c2, c3, c4, c5, c6, c7, c8, c9, c10, c11, c12, c13, c14, c15, c16⟩ := H3.out.1.bx.shop
    have m0 := H3.out.1.lt
    go_wp2_with fail
    go_ret2
    exact ⟨by rw [HF.out.2.2.2.2.1, HF.out.2.2.2.2.2]; rfl, H3.out.2⟩
  · cases ht : tasksOk d.t
    · have HF : Hid (wayV d.p = .iface 96 (.agg #[]) ∧ within d.p 1 5 = true ∧ decide (d.q = 1) = true ∧ tasksOk d.t = false ∧ wayV d.p = .iface 96 (.agg #[]) ∧ outerB d = false) := ⟨(by rw [wayV, h3]; simp), (by rw [h3]; rfl), hr, ht, (by rw [wayV, h3]; simp), by rw [outerB, h3]; have hq : d.q = 1 := of_decide_eq_true hr; rw [hq]; rw [ht]; simp⟩
      clear h3 hr ht
      go_enter Try.func32, Try.ntmps32
      go_wp2_with (refine sh_box rfl ?_)
      intro W1 b1 hW1 S1 B1
      have H1 : Hid (Shp W1 b1 L d ∧ Below w.heap.size w W1) := ⟨S1, B1⟩
      clear B1
      obtain ⟨c0, c1, c2, c3, c4, c5, c6, c7, c8, c9, c10, c11, c12, c13, c14, c15, c16⟩ := S1.bx.shop
      have m0 := S1.lt
      clear S1 hW1
      go_wp2_with fail
      refine (way_any d.p W1).mono ?_
      rw [HF.out.1, HF.out.2.1]
      rintro e W2 ⟨rfl, B2⟩
      clear c0 c1 c2 c3 c4 c5 c6 c7 c8 c9 c10 c11 c12 c13 c14 c15 c16 m0
      have H2 : Hid (Shp W2 b1 L d ∧ Below w.heap.size w W2) := ⟨H1.out.1.all B2, below_call H1.out.2 H1.out.2.size B2⟩
      clear H1 B2
      obtain ⟨c0, c1, c2, c3, c4, c5, c6, c7, c8, c9, c10, c11, c12, c13, c14, c15, c16⟩ := H2.out.1.bx.shop
      have m0 := H2.out.1.lt
      go_wp2_with fail
      refine (runsOn_one d.q _).mono ?_
      rw [HF.out.2.2.1]
      rintro e W3 ⟨rfl, B3⟩
      clear c0 c1 c2 c3 c4 c5 c6 c7 c8 c9 c10 c11 c12 c13 c14 c15 c16 m0
      have H3 : Hid (Shp W3 b1 L d ∧ Below w.heap.size w W3) := ⟨H2.out.1.all B3, below_call H2.out.2 H2.out.2.size B3⟩
      clear H2 B3
      obtain ⟨c0, c1, c2, c3, c4, c5, c6, c7, c8, c9, c10, c11, c12, c13, c14, c15, c16⟩ := H3.out.1.bx.shop
      have m0 := H3.out.1.lt
      go_wp2_with fail
      refine (implTasksOk L.t.a L.t.n L.t.c d.t _ (HI.out.kept H3.out.2) hs).mono ?_
      rw [HF.out.2.2.2.1]
      rintro e W4 ⟨rfl, B4⟩
      clear c0 c1 c2 c3 c4 c5 c6 c7 c8 c9 c10 c11 c12 c13 c14 c15 c16 m0
      have H4 : Hid (Shp W4 b1 L d ∧ Below w.heap.size w W4) := ⟨H3.out.1.all B4, below_call H3.out.2 H3.out.2.size B4⟩
      clear H3 B4
      obtain ⟨c0, c1, c2, c3, c4, c5, c6, c7, c8, c9, c10, c11, c12, c13, c14, c15, c16⟩ := H4.out.1.bx.shop
      have m0 := H4.out.1.lt
      go_wp2_with fail
      go_ret2
      exact ⟨by rw [HF.out.2.2.2.2.1, HF.out.2.2.2.2.2]; rfl, H4.out.2⟩
    · have HF : Hid (wayV d.p = .iface 96 (.agg #[]) ∧ within d.p 1 5 = true ∧ decide (d.q = 1) = true ∧ tasksOk d.t = true ∧ wayV d.p = .iface 96 (.agg #[]) ∧ outerB d = within d.w 0 1000000) := ⟨(by rw [wayV, h3]; simp), (by rw [h3]; rfl), hr, ht, (by rw [wayV, h3]; simp), by rw [outerB, h3]; have hq : d.q = 1 := of_decide_eq_true hr; rw [hq]; rw [ht]; simp [within, procsOk]⟩
      clear h3 hr ht
      go_enter Try.func32, Try.ntmps32
      go_wp2_with (refine sh_box rfl ?_)
      intro W1 b1 hW1 S1 B1
      have H1 : Hid (Shp W1 b1 L d ∧ Below w.heap.size w W1) := ⟨S1, B1⟩
      clear B1
      obtain ⟨c0, c1, c2, c3, c4, c5, c6, c7, c8, c9, c10, c11, c12, c13, c14, c15, c16⟩ := S1.bx.shop
      have m0 := S1.lt
      clear S1 hW1
      go_wp2_with fail
      refine (way_any d.p W1).mono ?_
      rw [HF.out.1, HF.out.2.1]
      rintro e W2 ⟨rfl, B2⟩
      clear c0 c1 c2 c3 c4 c5 c6 c7 c8 c9 c10 c11 c12 c13 c14 c15 c16 m0
      have H2 : Hid (Shp W2 b1 L d ∧ Below w.heap.size w W2) := ⟨H1.out.1.all B2, below_call H1.out.2 H1.out.2.size B2⟩
      clear H1 B2
      obtain ⟨c0, c1, c2, c3, c4, c5, c6, c7, c8, c9, c10, c11, c12, c13, c14, c15, c16⟩ := H2.out.1.bx.shop
      have m0 := H2.out.1.lt
      go_wp2_with fail
      refine (runsOn_one d.q _).mono ?_
      rw [HF.out.2.2.1]
      rintro e W3 ⟨rfl, B3⟩
      clear c0 c1 c2 c3 c4 c5 c6 c7 c8 c9 c10 c11 c12 c13 c14 c15 c16 m0
      have H3 : Hid (Shp W3 b1 L d ∧ Below w.heap.size w W3) := ⟨H2.out.1.all B3, below_call H2.out.2 H2.out.2.size B3⟩
      clear H2 B3
      obtain ⟨c0, c1, c2, c3, c4, c5, c6, c7, c8, c9, c10, c11, c12, c13, c14, c15, c16⟩ := H3.out.1.bx.shop
      have m0 := H3.out.1.lt
      go_wp2_with fail
      refine (implTasksOk L.t.a L.t.n L.t.c d.t _ (HI.out.kept H3.out.2) hs).mono ?_
      rw [HF.out.2.2.2.1]
      rintro e W4 ⟨rfl, B4⟩
      clear c0 c1 c2 c3 c4 c5 c6 c7 c8 c9 c10 c11 c12 c13 c14 c15 c16 m0
      have H4 : Hid (Shp W4 b1 L d ∧ Below w.heap.size w W4) := ⟨H3.out.1.all B4, below_call H3.out.2 H3.out.2.size B4⟩
      clear H3 B4
      obtain ⟨c0, c1, c2, c3, c4, c5, c6, c7, c8, c9, c10, c11, c12, c13, c14, c15, c16⟩ := H4.out.1.bx.shop
      have m0 := H4.out.1.lt
      go_wp2_with fail
      refine (countOk_any d.w _).mono ?_
      rintro e W5 ⟨rfl, rfl⟩
      go_wp2_with fail
      go_ret2
      exact ⟨by rw [HF.out.2.2.2.2.1, HF.out.2.2.2.2.2]; rfl, H4.out.2⟩

set_option maxRecDepth 100000 in
set_option maxHeartbeats 8000000 in
theorem frame_4 (L : LT) (d : SD) (w : World) (I : Tsks w L.t.a L.t.n d.t) (hs : (L.t.n : Int) ≤ 1048576) (h4 : d.p = 4) :
    Calls Try.prog 32 #[sv L d] w fun e w' => e = .returned (.tuple #[wayV d.p, .bool (outerB d)]) ∧ Below w.heap.size w w' := by
  have HI : Hid (Tsks w L.t.a L.t.n d.t) := I
  clear I
  have fR := finds_runs4
  cases hr : decide (d.q = 1)
  · have HF : Hid (wayV d.p = .iface 108 (.agg #[]) ∧ within d.p 1 5 = true ∧ decide (d.q = 1) = false ∧ True ∧ wayV d.p = .iface 108 (.agg #[]) ∧ outerB d = false) := ⟨(by rw [wayV, h4]; simp), (by rw [h4]; rfl), hr, trivial, (by rw [wayV, h4]; simp), by rw [outerB, h4]; have : decide (d.q = 1) = false := hr; rw [this]; simp⟩
    clear h4 hr
    go_enter Try.func32, Try.ntmps32
    go_wp2_with (refine sh_box rfl ?_)
    intro W1 b1 hW1 S1 B1
    have H1 : Hid (Shp W1 b1 L d ∧ Below w.heap.size w W1) := ⟨S1, B1⟩
    clear B1
    obtain ⟨c0, c1, c2, c3, c4, c5, c6, c7, c8, c9, c10, c11, c12, c13, c14, c15, c16⟩ := S1.bx.shop
    have m0 := S1.lt
    clear S1 hW1
    go_wp2_with fail
    refine (way_any d.p W1).mono ?_
    rw [HF.out.1, HF.out.2.1]
    rintro e W2 ⟨rfl, B2⟩
    clear c0 c1 c2 c3 c4 c5 c6 c7 c8 c9 c10 c11 c12 c13 c14 c15 c16 m0
    have H2 : Hid (Shp W2 b1 L d ∧ Below w.heap.size w W2) := ⟨H1.out.1.all B2, below_call H1.out.2 H1.out.2.size B2⟩
    clear H1 B2
    obtain ⟨c0, c1, c2, c3, c4, c5, c6, c7, c8, c9, c10, c11, c12, c13, c14, c15, c16⟩ := H2.out.1.bx.shop
    have m0 := H2.out.1.lt
    go_wp2_with fail
    refine (runsOn_one d.q _).mono ?_
    rw [HF.out.2.2.1]
    rintro e W3 ⟨rfl, B3⟩
    clear c0 c1 c2 c3 c4 c5 c6 c7 c8 c9 c10 c11 c12 c13 c14 c15 c16 m0
    have H3 : Hid (Shp W3 b1 L d ∧ Below w.heap.size w W3) := ⟨H2.out.1.all B3, below_call H2.out.2 H2.out.2.size B3⟩
    clear H2 B3
    obtain ⟨c0, c1, c2, c3, c4, c5, c6, c7, c8, c9, c10, c11, c12, c13, c14, c15, c16⟩ := H3.out.1.bx.shop
    have m0 := H3.out.1.lt
    go_wp2_with fail
    go_ret2
    exact ⟨by rw [HF.out.2.2.2.2.1, HF.out.2.2.2.2.2]; rfl, H3.out.2⟩
  · cases ht : tasksOk d.t
    · have HF : Hid (wayV d.p = .iface 108 (.agg #[]) ∧ within d.p 1 5 = true ∧ decide (d.q = 1) = true ∧ tasksOk d.t = false ∧ wayV d.p = .iface 108 (.agg #[]) ∧ outerB d = false) := ⟨(by rw [wayV, h4]; simp), (by rw [h4]; rfl), hr, ht, (by rw [wayV, h4]; simp), by rw [outerB, h4]; have hq : d.q = 1 := of_decide_eq_true hr; rw [hq]; rw [ht]; simp⟩
      clear h4 hr ht
      go_enter Try.func32, Try.ntmps32
      go_wp2_with (refine sh_box rfl ?_)
      intro W1 b1 hW1 S1 B1
      have H1 : Hid (Shp W1 b1 L d ∧ Below w.heap.size w W1) := ⟨S1, B1⟩
      clear B1
      obtain ⟨c0, c1, c2, c3, c4, c5, c6, c7, c8, c9, c10, c11, c12, c13, c14, c15, c16⟩ := S1.bx.shop
      have m0 := S1.lt
      clear S1 hW1
      go_wp2_with fail
      refine (way_any d.p W1).mono ?_
      rw [HF.out.1, HF.out.2.1]
      rintro e W2 ⟨rfl, B2⟩
      clear c0 c1 c2 c3 c4 c5 c6 c7 c8 c9 c10 c11 c12 c13 c14 c15 c16 m0
      have H2 : Hid (Shp W2 b1 L d ∧ Below w.heap.size w W2) := ⟨H1.out.1.all B2, below_call H1.out.2 H1.out.2.size B2⟩
      clear H1 B2
      obtain ⟨c0, c1, c2, c3, c4, c5, c6, c7, c8, c9, c10, c11, c12, c13, c14, c15, c16⟩ := H2.out.1.bx.shop
      have m0 := H2.out.1.lt
      go_wp2_with fail
      refine (runsOn_one d.q _).mono ?_
      rw [HF.out.2.2.1]
      rintro e W3 ⟨rfl, B3⟩
      clear c0 c1 c2 c3 c4 c5 c6 c7 c8 c9 c10 c11 c12 c13 c14 c15 c16 m0
      have H3 : Hid (Shp W3 b1 L d ∧ Below w.heap.size w W3) := ⟨H2.out.1.all B3, below_call H2.out.2 H2.out.2.size B3⟩
      clear H2 B3
      obtain ⟨c0, c1, c2, c3, c4, c5, c6, c7, c8, c9, c10, c11, c12, c13, c14, c15, c16⟩ := H3.out.1.bx.shop
      have m0 := H3.out.1.lt
      go_wp2_with fail
      refine (implTasksOk L.t.a L.t.n L.t.c d.t _ (HI.out.kept H3.out.2) hs).mono ?_
      rw [HF.out.2.2.2.1]
      rintro e W4 ⟨rfl, B4⟩
      clear c0 c1 c2 c3 c4 c5 c6 c7 c8 c9 c10 c11 c12 c13 c14 c15 c16 m0
      have H4 : Hid (Shp W4 b1 L d ∧ Below w.heap.size w W4) := ⟨H3.out.1.all B4, below_call H3.out.2 H3.out.2.size B4⟩
      clear H3 B4
      obtain ⟨c0, c1, c2, c3, c4, c5, c6, c7, c8, c9, c10, c11, c12, c13, c14, c15, c16⟩ := H4.out.1.bx.shop
      have m0 := H4.out.1.lt
      go_wp2_with fail
      go_ret2
      exact ⟨by rw [HF.out.2.2.2.2.1, HF.out.2.2.2.2.2]; rfl, H4.out.2⟩
    · have HF : Hid (wayV d.p = .iface 108 (.agg #[]) ∧ within d.p 1 5 = true ∧ decide (d.q = 1) = true ∧ tasksOk d.t = true ∧ wayV d.p = .iface 108 (.agg #[]) ∧ outerB d = within d.w 0 1000000) := ⟨(by rw [wayV, h4]; simp), (by rw [h4]; rfl), hr, ht, (by rw [wayV, h4]; simp), by rw [outerB, h4]; have hq : d.q = 1 := of_decide_eq_true hr; rw [hq]; rw [ht]; simp [within, procsOk]⟩
      clear h4 hr ht
      go_enter Try.func32, Try.ntmps32
      go_wp2_with (refine sh_box rfl ?_)
      intro W1 b1 hW1 S1 B1
      have H1 : Hid (Shp W1 b1 L d ∧ Below w.heap.size w W1) := ⟨S1, B1⟩
      clear B1
      obtain ⟨c0, c1, c2, c3, c4, c5, c6, c7, c8, c9, c10, c11, c12, c13, c14, c15, c16⟩ := S1.bx.shop
      have m0 := S1.lt
      clear S1 hW1
      go_wp2_with fail
      refine (way_any d.p W1).mono ?_
      rw [HF.out.1, HF.out.2.1]
      rintro e W2 ⟨rfl, B2⟩
      clear c0 c1 c2 c3 c4 c5 c6 c7 c8 c9 c10 c11 c12 c13 c14 c15 c16 m0
      have H2 : Hid (Shp W2 b1 L d ∧ Below w.heap.size w W2) := ⟨H1.out.1.all B2, below_call H1.out.2 H1.out.2.size B2⟩
      clear H1 B2
      obtain ⟨c0, c1, c2, c3, c4, c5, c6, c7, c8, c9, c10, c11, c12, c13, c14, c15, c16⟩ := H2.out.1.bx.shop
      have m0 := H2.out.1.lt
      go_wp2_with fail
      refine (runsOn_one d.q _).mono ?_
      rw [HF.out.2.2.1]
      rintro e W3 ⟨rfl, B3⟩
      clear c0 c1 c2 c3 c4 c5 c6 c7 c8 c9 c10 c11 c12 c13 c14 c15 c16 m0
      have H3 : Hid (Shp W3 b1 L d ∧ Below w.heap.size w W3) := ⟨H2.out.1.all B3, below_call H2.out.2 H2.out.2.size B3⟩
      clear H2 B3
      obtain ⟨c0, c1, c2, c3, c4, c5, c6, c7, c8, c9, c10, c11, c12, c13, c14, c15, c16⟩ := H3.out.1.bx.shop
      have m0 := H3.out.1.lt
      go_wp2_with fail
      refine (implTasksOk L.t.a L.t.n L.t.c d.t _ (HI.out.kept H3.out.2) hs).mono ?_
      rw [HF.out.2.2.2.1]
      rintro e W4 ⟨rfl, B4⟩
      clear c0 c1 c2 c3 c4 c5 c6 c7 c8 c9 c10 c11 c12 c13 c14 c15 c16 m0
      have H4 : Hid (Shp W4 b1 L d ∧ Below w.heap.size w W4) := ⟨H3.out.1.all B4, below_call H3.out.2 H3.out.2.size B4⟩
      clear H3 B4
      obtain ⟨c0, c1, c2, c3, c4, c5, c6, c7, c8, c9, c10, c11, c12, c13, c14, c15, c16⟩ := H4.out.1.bx.shop
      have m0 := H4.out.1.lt
      go_wp2_with fail
      refine (countOk_any d.w _).mono ?_
      rintro e W5 ⟨rfl, rfl⟩
      go_wp2_with fail
      go_ret2
      exact ⟨by rw [HF.out.2.2.2.2.1, HF.out.2.2.2.2.2]; rfl, H4.out.2⟩

set_option maxRecDepth 100000 in
set_option maxHeartbeats 8000000 in
theorem frame_5 (L : LT) (d : SD) (w : World) (I : Tsks w L.t.a L.t.n d.t) (hs : (L.t.n : Int) ≤ 1048576) (h5 : d.p = 5) :
    Calls Try.prog 32 #[sv L d] w fun e w' => e = .returned (.tuple #[wayV d.p, .bool (outerB d)]) ∧ Below w.heap.size w w' := by
  have HI : Hid (Tsks w L.t.a L.t.n d.t) := I
  clear I
  have fR := finds_runs5
  cases hr : procsOk d.q
  · have HF : Hid (wayV d.p = .iface 97 (.agg #[]) ∧ within d.p 1 5 = true ∧ procsOk d.q = false ∧ True ∧ wayV d.p = .iface 97 (.agg #[]) ∧ outerB d = false) := ⟨(by rw [wayV, h5]; simp), (by rw [h5]; rfl), hr, trivial, (by rw [wayV, h5]; simp), by rw [outerB, h5]; rw [hr]; rfl⟩
    clear h5 hr
    go_enter Try.func32, Try.ntmps32
    go_wp2_with (refine sh_box rfl ?_)
    intro W1 b1 hW1 S1 B1
    have H1 : Hid (Shp W1 b1 L d ∧ Below w.heap.size w W1) := ⟨S1, B1⟩
    clear B1
    obtain ⟨c0, c1, c2, c3, c4, c5, c6, c7, c8, c9, c10, c11, c12, c13, c14, c15, c16⟩ := S1.bx.shop
    have m0 := S1.lt
    clear S1 hW1
    go_wp2_with fail
    refine (way_any d.p W1).mono ?_
    rw [HF.out.1, HF.out.2.1]
    rintro e W2 ⟨rfl, B2⟩
    clear c0 c1 c2 c3 c4 c5 c6 c7 c8 c9 c10 c11 c12 c13 c14 c15 c16 m0
    have H2 : Hid (Shp W2 b1 L d ∧ Below w.heap.size w W2) := ⟨H1.out.1.all B2, below_call H1.out.2 H1.out.2.size B2⟩
    clear H1 B2
    obtain ⟨c0, c1, c2, c3, c4, c5, c6, c7, c8, c9, c10, c11, c12, c13, c14, c15, c16⟩ := H2.out.1.bx.shop
    have m0 := H2.out.1.lt
    go_wp2_with fail
    refine (runsOn_many d.q _).mono ?_
    rw [HF.out.2.2.1]
    rintro e W3 ⟨rfl, B3⟩
    clear c0 c1 c2 c3 c4 c5 c6 c7 c8 c9 c10 c11 c12 c13 c14 c15 c16 m0
    have H3 : Hid (Shp W3 b1 L d ∧ Below w.heap.size w W3) := ⟨H2.out.1.all B3, below_call H2.out.2 H2.out.2.size B3⟩
    clear H2 B3
    obtain ⟨c0, c1, c2, c3, c4, c5, c6, c7, c8, c9, c10, c11, c12, c13, c14, c15, c16⟩ := H3.out.1.bx.shop
    have m0 := H3.out.1.lt
    go_wp2_with fail
    go_ret2
    exact ⟨by rw [HF.out.2.2.2.2.1, HF.out.2.2.2.2.2]; rfl, H3.out.2⟩
  · cases ht : tasksOk d.t
    · have HF : Hid (wayV d.p = .iface 97 (.agg #[]) ∧ within d.p 1 5 = true ∧ procsOk d.q = true ∧ tasksOk d.t = false ∧ wayV d.p = .iface 97 (.agg #[]) ∧ outerB d = false) := ⟨(by rw [wayV, h5]; simp), (by rw [h5]; rfl), hr, ht, (by rw [wayV, h5]; simp), by rw [outerB, h5]; rw [hr, ht]; simp⟩
      clear h5 hr ht
      go_enter Try.func32, Try.ntmps32
      go_wp2_with (refine sh_box rfl ?_)
      intro W1 b1 hW1 S1 B1
      have H1 : Hid (Shp W1 b1 L d ∧ Below w.heap.size w W1) := ⟨S1, B1⟩
      clear B1
      obtain ⟨c0, c1, c2, c3, c4, c5, c6, c7, c8, c9, c10, c11, c12, c13, c14, c15, c16⟩ := S1.bx.shop
      have m0 := S1.lt
      clear S1 hW1
      go_wp2_with fail
      refine (way_any d.p W1).mono ?_
      rw [HF.out.1, HF.out.2.1]
      rintro e W2 ⟨rfl, B2⟩
      clear c0 c1 c2 c3 c4 c5 c6 c7 c8 c9 c10 c11 c12 c13 c14 c15 c16 m0
      have H2 : Hid (Shp W2 b1 L d ∧ Below w.heap.size w W2) := ⟨H1.out.1.all B2, below_call H1.out.2 H1.out.2.size B2⟩
      clear H1 B2
      obtain ⟨c0, c1, c2, c3, c4, c5, c6, c7, c8, c9, c10, c11, c12, c13, c14, c15, c16⟩ := H2.out.1.bx.shop
      have m0 := H2.out.1.lt
      go_wp2_with fail
      refine (runsOn_many d.q _).mono ?_
      rw [HF.out.2.2.1]
      rintro e W3 ⟨rfl, B3⟩
      clear c0 c1 c2 c3 c4 c5 c6 c7 c8 c9 c10 c11 c12 c13 c14 c15 c16 m0
      have H3 : Hid (Shp W3 b1 L d ∧ Below w.heap.size w W3) := ⟨H2.out.1.all B3, below_call H2.out.2 H2.out.2.size B3⟩
      clear H2 B3
      obtain ⟨c0, c1, c2, c3, c4, c5, c6, c7, c8, c9, c10, c11, c12, c13, c14, c15, c16⟩ := H3.out.1.bx.shop
      have m0 := H3.out.1.lt
      go_wp2_with fail
      refine (implTasksOk L.t.a L.t.n L.t.c d.t _ (HI.out.kept H3.out.2) hs).mono ?_
      rw [HF.out.2.2.2.1]
      rintro e W4 ⟨rfl, B4⟩
      clear c0 c1 c2 c3 c4 c5 c6 c7 c8 c9 c10 c11 c12 c13 c14 c15 c16 m0
      have H4 : Hid (Shp W4 b1 L d ∧ Below w.heap.size w W4) := ⟨H3.out.1.all B4, below_call H3.out.2 H3.out.2.size B4⟩
      clear H3 B4
      obtain ⟨c0, c1, c2, c3, c4, c5, c6, c7, c8, c9, c10, c11, c12, c13, c14, c15, c16⟩ := H4.out.1.bx.shop
      have m0 := H4.out.1.lt
      go_wp2_with fail
      go_ret2
      exact ⟨by rw [HF.out.2.2.2.2.1, HF.out.2.2.2.2.2]; rfl, H4.out.2⟩
    · have HF : Hid (wayV d.p = .iface 97 (.agg #[]) ∧ within d.p 1 5 = true ∧ procsOk d.q = true ∧ tasksOk d.t = true ∧ wayV d.p = .iface 97 (.agg #[]) ∧ outerB d = within d.w 0 1000000) := ⟨(by rw [wayV, h5]; simp), (by rw [h5]; rfl), hr, ht, (by rw [wayV, h5]; simp), by rw [outerB, h5]; rw [hr, ht]; simp [within]⟩
      clear h5 hr ht
      go_enter Try.func32, Try.ntmps32
      go_wp2_with (refine sh_box rfl ?_)
      intro W1 b1 hW1 S1 B1
      have H1 : Hid (Shp W1 b1 L d ∧ Below w.heap.size w W1) := ⟨S1, B1⟩
      clear B1
      obtain ⟨c0, c1, c2, c3, c4, c5, c6, c7, c8, c9, c10, c11, c12, c13, c14, c15, c16⟩ := S1.bx.shop
      have m0 := S1.lt
      clear S1 hW1
      go_wp2_with fail
      refine (way_any d.p W1).mono ?_
      rw [HF.out.1, HF.out.2.1]
      rintro e W2 ⟨rfl, B2⟩
      clear c0 c1 c2 c3 c4 c5 c6 c7 c8 c9 c10 c11 c12 c13 c14 c15 c16 m0
      have H2 : Hid (Shp W2 b1 L d ∧ Below w.heap.size w W2) := ⟨H1.out.1.all B2, below_call H1.out.2 H1.out.2.size B2⟩
      clear H1 B2
      obtain ⟨c0, c1, c2, c3, c4, c5, c6, c7, c8, c9, c10, c11, c12, c13, c14, c15, c16⟩ := H2.out.1.bx.shop
      have m0 := H2.out.1.lt
      go_wp2_with fail
      refine (runsOn_many d.q _).mono ?_
      rw [HF.out.2.2.1]
      rintro e W3 ⟨rfl, B3⟩
      clear c0 c1 c2 c3 c4 c5 c6 c7 c8 c9 c10 c11 c12 c13 c14 c15 c16 m0
      have H3 : Hid (Shp W3 b1 L d ∧ Below w.heap.size w W3) := ⟨H2.out.1.all B3, below_call H2.out.2 H2.out.2.size B3⟩
      clear H2 B3
      obtain ⟨c0, c1, c2, c3, c4, c5, c6, c7, c8, c9, c10, c11, c12, c13, c14, c15, c16⟩ := H3.out.1.bx.shop
      have m0 := H3.out.1.lt
      go_wp2_with fail
      refine (implTasksOk L.t.a L.t.n L.t.c d.t _ (HI.out.kept H3.out.2) hs).mono ?_
      rw [HF.out.2.2.2.1]
      rintro e W4 ⟨rfl, B4⟩
      clear c0 c1 c2 c3 c4 c5 c6 c7 c8 c9 c10 c11 c12 c13 c14 c15 c16 m0
      have H4 : Hid (Shp W4 b1 L d ∧ Below w.heap.size w W4) := ⟨H3.out.1.all B4, below_call H3.out.2 H3.out.2.size B4⟩
      clear H3 B4
      obtain ⟨c0, c1, c2, c3, c4, c5, c6, c7, c8, c9, c10, c11, c12, c13, c14, c15, c16⟩ := H4.out.1.bx.shop
      have m0 := H4.out.1.lt
      go_wp2_with fail
      refine (countOk_any d.w _).mono ?_
      rintro e W5 ⟨rfl, rfl⟩
      go_wp2_with fail
      go_ret2
      exact ⟨by rw [HF.out.2.2.2.2.1, HF.out.2.2.2.2.2]; rfl, H4.out.2⟩

/-- impl.frameOf at every Shop. -/
theorem implFrame (L : LT) (d : SD) (w : World) (I : Tsks w L.t.a L.t.n d.t) (hs : (L.t.n : Int) ≤ 1048576) :
    Calls Try.prog 32 #[sv L d] w fun e w' => e = .returned (.tuple #[wayV d.p, .bool (outerB d)]) ∧ Below w.heap.size w w' := by
  by_cases h1 : d.p = 1
  · exact frame_1 L d w I hs h1
  by_cases h2 : d.p = 2
  · exact frame_2 L d w I hs h2
  by_cases h3 : d.p = 3
  · exact frame_3 L d w I hs h3
  by_cases h4 : d.p = 4
  · exact frame_4 L d w I hs h4
  by_cases h5 : d.p = 5
  · exact frame_5 L d w I hs h5
  exact frame_none L d w h1 h2 h3 h4 h5

end Go.Proofs.Ytcmeimfjedakeaa.Crew
