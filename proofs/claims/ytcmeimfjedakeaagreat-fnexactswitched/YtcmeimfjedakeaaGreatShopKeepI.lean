/-
  impl's ways: wayOf, runsOn, frameOf. (Written by wip/tools/gen_shoprighti.py.)
-/
import Derived.Test.YtcmeimfjedakeaaGreatShopBox
import Derived.Test.YtcmeimfjedakeaaGreatShopOuter
import Derived.Test.YtcmeimfjedakeaaGreatTaskMath
import Derived.Test.YtcmeimfjedakeaaGreatTaskMakeI
namespace Go.Proofs.YtcmeimfjedakeaaGreat.Crew
open Go.ChangeShapes Go.WideShapes Go.ChangeAt Go.RowKit

/-- The way of a Policy. -/
def wayV (p : Int) : Value := if p = 1 then .iface 126 (.agg #[]) else if p = 2 then .iface 151 (.agg #[]) else if p = 3 then .iface 127 (.agg #[]) else if p = 4 then .iface 152 (.agg #[]) else if p = 5 then .iface 128 (.agg #[]) else .nilIface

theorem way_any (p : Int) (w : World) :
    Calls Tryz.prog 104 #[.int .i64 p] w fun e w' => e = .returned (.tuple #[wayV p, .bool (within p 1 5)]) ∧ Below w.heap.size w w' := by
  by_cases h1 : p = 1
  · subst h1
    have hb1 : ((1 : Int) == (1 : Int)) = true := by decide
    have HE : Hid (wayV 1 = .iface 126 (.agg #[]) ∧ within 1 1 5 = true) := ⟨by simp [wayV], by decide⟩
    rw [HE.out.1, HE.out.2]
    go_enter Tryz.func104, Tryz.ntmps104
    go_wp2_with fail
    go_ret2
    exact ⟨rfl, Below.refl _ _⟩
  · by_cases h2 : p = 2
    · subst h2
      have hb1 : ((2 : Int) == (1 : Int)) = false := by decide
      have hb2 : ((2 : Int) == (2 : Int)) = true := by decide
      have HE : Hid (wayV 2 = .iface 151 (.agg #[]) ∧ within 2 1 5 = true) := ⟨by simp [wayV], by decide⟩
      rw [HE.out.1, HE.out.2]
      go_enter Tryz.func104, Tryz.ntmps104
      go_wp2_with fail
      go_ret2
      exact ⟨rfl, Below.refl _ _⟩
    · by_cases h3 : p = 3
      · subst h3
        have hb1 : ((3 : Int) == (1 : Int)) = false := by decide
        have hb2 : ((3 : Int) == (2 : Int)) = false := by decide
        have hb3 : ((3 : Int) == (3 : Int)) = true := by decide
        have HE : Hid (wayV 3 = .iface 127 (.agg #[]) ∧ within 3 1 5 = true) := ⟨by simp [wayV], by decide⟩
        rw [HE.out.1, HE.out.2]
        go_enter Tryz.func104, Tryz.ntmps104
        go_wp2_with fail
        go_ret2
        exact ⟨rfl, Below.refl _ _⟩
      · by_cases h4 : p = 4
        · subst h4
          have hb1 : ((4 : Int) == (1 : Int)) = false := by decide
          have hb2 : ((4 : Int) == (2 : Int)) = false := by decide
          have hb3 : ((4 : Int) == (3 : Int)) = false := by decide
          have hb4 : ((4 : Int) == (4 : Int)) = true := by decide
          have HE : Hid (wayV 4 = .iface 152 (.agg #[]) ∧ within 4 1 5 = true) := ⟨by simp [wayV], by decide⟩
          rw [HE.out.1, HE.out.2]
          go_enter Tryz.func104, Tryz.ntmps104
          go_wp2_with fail
          go_ret2
          exact ⟨rfl, Below.refl _ _⟩
        · by_cases h5 : p = 5
          · subst h5
            have hb1 : ((5 : Int) == (1 : Int)) = false := by decide
            have hb2 : ((5 : Int) == (2 : Int)) = false := by decide
            have hb3 : ((5 : Int) == (3 : Int)) = false := by decide
            have hb4 : ((5 : Int) == (4 : Int)) = false := by decide
            have hb5 : ((5 : Int) == (5 : Int)) = true := by decide
            have HE : Hid (wayV 5 = .iface 128 (.agg #[]) ∧ within 5 1 5 = true) := ⟨by simp [wayV], by decide⟩
            rw [HE.out.1, HE.out.2]
            go_enter Tryz.func104, Tryz.ntmps104
            go_wp2_with fail
            go_ret2
            exact ⟨rfl, Below.refl _ _⟩
          · have hb1 : (p == (1 : Int)) = false := by simpa using h1
            have hb2 : (p == (2 : Int)) = false := by simpa using h2
            have hb3 : (p == (3 : Int)) = false := by simpa using h3
            have hb4 : (p == (4 : Int)) = false := by simpa using h4
            have hb5 : (p == (5 : Int)) = false := by simpa using h5
            have HE : Hid (wayV p = .nilIface ∧ within p 1 5 = false) := ⟨by rw [wayV, if_neg h1, if_neg h2, if_neg h3, if_neg h4, if_neg h5], by simp [within]; omega⟩
            clear h1 h2 h3 h4 h5
            rw [HE.out.1, HE.out.2]
            go_enter Tryz.func104, Tryz.ntmps104
            go_wp2_with fail
            go_ret2
            exact ⟨rfl, Below.refl _ _⟩

theorem runsOn_one (q : Int) (w : World) :
    Calls Tryz.prog 210 #[.agg #[], .int .i64 q] w fun e w' => e = .returned (.bool (decide (q = 1))) ∧ Below w.heap.size w w' := by
  by_cases h : q = 1
  · have hb : (q == (1 : Int)) = true := by simp [h]
    have HE : Hid (decide (q = 1) = true) := decide_eq_true h
    rw [HE.out]
    clear h
    go_enter Tryz.func210, Tryz.ntmps210
    go_wp2_with fail
    go_ret
    exact ⟨rfl, below_new _ _⟩
  · have hb : (q == (1 : Int)) = false := by simpa using h
    have HE : Hid (decide (q = 1) = false) := decide_eq_false h
    rw [HE.out]
    clear h
    go_enter Tryz.func210, Tryz.ntmps210
    go_wp2_with fail
    go_ret
    exact ⟨rfl, below_new _ _⟩

theorem runsOn_many (q : Int) (w : World) :
    Calls Tryz.prog 225 #[.agg #[], .int .i64 q] w fun e w' => e = .returned (.bool (procsOk q)) ∧ Below w.heap.size w w' := by
  go_enter Tryz.func225, Tryz.ntmps225
  go_wp2_with fail
  refine (implProcs q _).mono ?_
  rintro e w1 ⟨rfl, rfl⟩
  go_wp2_with fail
  go_ret
  exact ⟨rfl, below_new _ _⟩

theorem finds_runs1 (w : World) : (method (Tryz.prog.types.size + 100) 126 (.agg #[]) "loop.example/g00763/impl.runsOn").run Tryz.prog w = .ok (210, .agg #[]) w := by kernel_rfl

theorem finds_runs2 (w : World) : (method (Tryz.prog.types.size + 100) 151 (.agg #[]) "loop.example/g00763/impl.runsOn").run Tryz.prog w = .ok (210, .agg #[]) w := by kernel_rfl

theorem finds_runs3 (w : World) : (method (Tryz.prog.types.size + 100) 127 (.agg #[]) "loop.example/g00763/impl.runsOn").run Tryz.prog w = .ok (210, .agg #[]) w := by kernel_rfl

theorem finds_runs4 (w : World) : (method (Tryz.prog.types.size + 100) 152 (.agg #[]) "loop.example/g00763/impl.runsOn").run Tryz.prog w = .ok (210, .agg #[]) w := by kernel_rfl

theorem finds_runs5 (w : World) : (method (Tryz.prog.types.size + 100) 128 (.agg #[]) "loop.example/g00763/impl.runsOn").run Tryz.prog w = .ok (225, .agg #[]) w := by kernel_rfl

set_option maxRecDepth 100000 in
set_option maxHeartbeats 8000000 in
theorem frame_none (L : LT) (d : SD) (w : World) (h1 : ¬ d.p = 1) (h2 : ¬ d.p = 2) (h3 : ¬ d.p = 3) (h4 : ¬ d.p = 4) (h5 : ¬ d.p = 5) :
    Calls Tryz.prog 40 #[sv L d] w fun e w' => e = .returned (.tuple #[wayV d.p, .bool (outerB d)]) ∧ Below w.heap.size w w' := by
  have HF : Hid (wayV d.p = .nilIface ∧ within d.p 1 5 = false ∧ True ∧ True ∧ wayV d.p = .nilIface ∧ outerB d = false) := ⟨by rw [wayV, if_neg h1, if_neg h2, if_neg h3, if_neg h4, if_neg h5], by simp [within]; omega, trivial, trivial, by rw [wayV, if_neg h1, if_neg h2, if_neg h3, if_neg h4, if_neg h5], by rw [outerB, show within d.p 1 5 = false by simp [within]; omega]; rfl⟩
  clear h1 h2 h3 h4 h5
  go_enter Tryz.func40, Tryz.ntmps40
  go_wp2_with (refine sh_box rfl ?_)
  intro W1 b1 hW1 S1 B1
  have H1 : Hid (Shp W1 b1 L d ∧ Below w.heap.size w W1) := ⟨S1, B1⟩
  clear B1
  obtain ⟨c0, c1, c2, c3, c4, c5, c6, c7, c8, c9, c10, c11, c12, c13, c14, c15, c16⟩ := S1.bx.shop
  have m0 := S1.lt
  clear S1 hW1
  go_wp2_with fail
  refine (way_any d.p W1).mono ?_
  rw [HF.out.1, HF.out.2.1]
  rintro e W2 ⟨rfl, B2⟩
  clear c0 c1 c2 c3 c4 c5 c6 c7 c8 c9 c10 c11 c12 c13 c14 c15 c16 m0
  have H2 : Hid (Shp W2 b1 L d ∧ Below w.heap.size w W2) := ⟨H1.out.1.all B2, below_call H1.out.2 H1.out.2.size B2⟩
  clear H1 B2
  obtain ⟨c0, c1, c2, c3, c4, c5, c6, c7, c8, c9, c10, c11, c12, c13, c14, c15, c16⟩ := H2.out.1.bx.shop
  have m0 := H2.out.1.lt
  go_wp2_with fail
  go_ret2
  exact ⟨by rw [HF.out.2.2.2.2.1, HF.out.2.2.2.2.2]; rfl, H2.out.2⟩

set_option maxRecDepth 100000 in
set_option maxHeartbeats 8000000 in
theorem frame_1 (L : LT) (d : SD) (w : World) (I : Tsks w L.t.a L.t.n d.t) (hs : (L.t.n : Int) ≤ 1048576) (h1 : d.p = 1) :
    Calls Tryz.prog 40 #[sv L d] w fun e w' => e = .returned (.tuple #[wayV d.p, .bool (outerB d)]) ∧ Below w.heap.size w w' := by
  have HI : Hid (Tsks w L.t.a L.t.n d.t) := I
  clear I
  have fR := finds_runs1
  cases hr : decide (d.q = 1)
  · have HF : Hid (wayV d.p = .iface 126 (.agg #[]) ∧ within d.p 1 5 = true ∧ decide (d.q = 1) = false ∧ True ∧ wayV d.p = .iface 126 (.agg #[]) ∧ outerB d = false) := ⟨(by rw [wayV, h1]; simp), (by rw [h1]; rfl), hr, trivial, (by rw [wayV, h1]; simp), by rw [outerB, h1]; have : decide (d.q = 1) = false := hr; rw [this]; simp⟩
    clear h1 hr
    go_enter Tryz.func40, Tryz.ntmps40
    go_wp2_with (refine sh_box rfl ?_)
    intro W1 b1 hW1 S1 B1
    have H1 : Hid (Shp W1 b1 L d ∧ Below w.heap.size w W1) := ⟨S1, B1⟩
    clear B1
    obtain ⟨c0, c1, c2, c3, c4, c5, c6, c7, c8, c9, c10, c11, c12, c13, c14, c15, c16⟩ := S1.bx.shop
    have m0 := S1.lt
    clear S1 hW1
    go_wp2_with fail
    refine (way_any d.p W1).mono ?_
    rw [HF.out.1, HF.out.2.1]
    rintro e W2 ⟨rfl, B2⟩
    clear c0 c1 c2 c3 c4 c5 c6 c7 c8 c9 c10 c11 c12 c13 c14 c15 c16 m0
    have H2 : Hid (Shp W2 b1 L d ∧ Below w.heap.size w W2) := ⟨H1.out.1.all B2, below_call H1.out.2 H1.out.2.size B2⟩
    clear H1 B2
    obtain ⟨c0, c1, c2, c3, c4, c5, c6, c7, c8, c9, c10, c11, c12, c13, c14, c15, c16⟩ := H2.out.1.bx.shop
    have m0 := H2.out.1.lt
    go_wp2_with fail
    refine (runsOn_one d.q _).mono ?_
    rw [HF.out.2.2.1]
    rintro e W3 ⟨rfl, B3⟩
    clear c0 c1 c2 c3 c4 c5 c6 c7 c8 c9 c10 c11 c12 c13 c14 c15 c16 m0
    have H3 : Hid (Shp W3 b1 L d ∧ Below w.heap.size w W3) := ⟨H2.out.1.all B3, below_call H2.out.2 H2.out.2.size B3⟩
    clear H2 B3
    obtain ⟨c0, c1, c2, c3, c4, c5, c6, c7, c8, c9, c10, c11, c12, c13, c14, c15, c16⟩ := H3.out.1.bx.shop
    have m0 := H3.out.1.lt
    go_wp2_with fail
    go_ret2
    exact ⟨by rw [HF.out.2.2.2.2.1, HF.out.2.2.2.2.2]; rfl, H3.out.2⟩
  · cases ht : tasksOk d.t
    · have HF : Hid (wayV d.p = .iface 126 (.agg #[]) ∧ within d.p 1 5 = true ∧ decide (d.q = 1) = true ∧ tasksOk d.t = false ∧ wayV d.p = .iface 126 (.agg #[]) ∧ outerB d = false) := ⟨(by rw [wayV, h1]; simp), (by rw [h1]; rfl), hr, ht, (by rw [wayV, h1]; simp), by rw [outerB, h1]; have hq : d.q = 1 := of_decide_eq_true hr; rw [hq]; rw [ht]; simp⟩
      clear h1 hr ht
      go_enter Tryz.func40, Tryz.ntmps40
      go_wp2_with (refine sh_box rfl ?_)
      intro W1 b1 hW1 S1 B1
      have H1 : Hid (Shp W1 b1 L d ∧ Below w.heap.size w W1) := ⟨S1, B1⟩
      clear B1
      obtain ⟨c0, c1, c2, c3, c4, c5, c6, c7, c8, c9, c10, c11, c12, c13, c14, c15, c16⟩ := S1.bx.shop
      have m0 := S1.lt
      clear S1 hW1
      go_wp2_with fail
      refine (way_any d.p W1).mono ?_
      rw [HF.out.1, HF.out.2.1]
      rintro e W2 ⟨rfl, B2⟩
      clear c0 c1 c2 c3 c4 c5 c6 c7 c8 c9 c10 c11 c12 c13 c14 c15 c16 m0
      have H2 : Hid (Shp W2 b1 L d ∧ Below w.heap.size w W2) := ⟨H1.out.1.all B2, below_call H1.out.2 H1.out.2.size B2⟩
      clear H1 B2
      obtain ⟨c0, c1, c2, c3, c4, c5, c6, c7, c8, c9, c10, c11, c12, c13, c14, c15, c16⟩ := H2.out.1.bx.shop
      have m0 := H2.out.1.lt
      go_wp2_with fail
      refine (runsOn_one d.q _).mono ?_
      rw [HF.out.2.2.1]
      rintro e W3 ⟨rfl, B3⟩
      clear c0 c1 c2 c3 c4 c5 c6 c7 c8 c9 c10 c11 c12 c13 c14 c15 c16 m0
      have H3 : Hid (Shp W3 b1 L d ∧ Below w.heap.size w W3) := ⟨H2.out.1.all B3, below_call H2.out.2 H2.out.2.size B3⟩
      clear H2 B3
      obtain ⟨c0, c1, c2, c3, c4, c5, c6, c7, c8, c9, c10, c11, c12, c13, c14, c15, c16⟩ := H3.out.1.bx.shop
      have m0 := H3.out.1.lt
      go_wp2_with fail
      refine (implTasksOk L.t.a L.t.n L.t.c d.t _ (HI.out.kept H3.out.2) hs).mono ?_
      rw [HF.out.2.2.2.1]
      rintro e W4 ⟨rfl, B4⟩
      clear c0 c1 c2 c3 c4 c5 c6 c7 c8 c9 c10 c11 c12 c13 c14 c15 c16 m0
      have H4 : Hid (Shp W4 b1 L d ∧ Below w.heap.size w W4) := ⟨H3.out.1.all B4, below_call H3.out.2 H3.out.2.size B4⟩
      clear H3 B4
      obtain ⟨c0, c1, c2, c3, c4, c5, c6, c7, c8, c9, c10, c11, c12, c13, c14, c15, c16⟩ := H4.out.1.bx.shop
      have m0 := H4.out.1.lt
      go_wp2_with fail
      go_ret2
      exact ⟨by rw [HF.out.2.2.2.2.1, HF.out.2.2.2.2.2]; rfl, H4.out.2⟩
    · have HF : Hid (wayV d.p = .iface 126 (.agg #[]) ∧ within d.p 1 5 = true ∧ decide (d.q = 1) = true ∧ tasksOk d.t = true ∧ wayV d.p = .iface 126 (.agg #[]) ∧ outerB d = within d.w 0 1000000) := ⟨(by rw [wayV, h1]; simp), (by rw [h1]; rfl), hr, ht, (by rw [wayV, h1]; simp), by rw [outerB, h1]; have hq : d.q = 1 := of_decide_eq_true hr; rw [hq]; rw [ht]; simp [within, procsOk]⟩
      clear h1 hr ht
      go_enter Tryz.func40, Tryz.ntmps40
      go_wp2_with (refine sh_box rfl ?_)
      intro W1 b1 hW1 S1 B1
      have H1 : Hid (Shp W1 b1 L d ∧ Below w.heap.size w W1) := ⟨S1, B1⟩
      clear B1
      obtain ⟨c0, c1, c2, c3, c4, c5, c6, c7, c8, c9, c10, c11, c12, c13, c14, c15, c16⟩ := S1.bx.shop
      have m0 := S1.lt
      clear S1 hW1
      go_wp2_with fail
      refine (way_any d.p W1).mono ?_
      rw [HF.out.1, HF.out.2.1]
      rintro e W2 ⟨rfl, B2⟩
      clear c0 c1 c2 c3 c4 c5 c6 c7 c8 c9 c10 c11 c12 c13 c14 c15 c16 m0
      have H2 : Hid (Shp W2 b1 L d ∧ Below w.heap.size w W2) := ⟨H1.out.1.all B2, below_call H1.out.2 H1.out.2.size B2⟩
      clear H1 B2
      obtain ⟨c0, c1, c2, c3, c4, c5, c6, c7, c8, c9, c10, c11, c12, c13, c14, c15, c16⟩ := H2.out.1.bx.shop
      have m0 := H2.out.1.lt
      go_wp2_with fail
      refine (runsOn_one d.q _).mono ?_
      rw [HF.out.2.2.1]
      rintro e W3 ⟨rfl, B3⟩
      clear c0 c1 c2 c3 c4 c5 c6 c7 c8 c9 c10 c11 c12 c13 c14 c15 c16 m0
      have H3 : Hid (Shp W3 b1 L d ∧ Below w.heap.size w W3) := ⟨H2.out.1.all B3, below_call H2.out.2 H2.out.2.size B3⟩
      clear H2 B3
      obtain ⟨c0, c1, c2, c3, c4, c5, c6, c7, c8, c9, c10, c11, c12, c13, c14, c15, c16⟩ := H3.out.1.bx.shop
      have m0 := H3.out.1.lt
      go_wp2_with fail
      refine (implTasksOk L.t.a L.t.n L.t.c d.t _ (HI.out.kept H3.out.2) hs).mono ?_
      rw [HF.out.2.2.2.1]
      rintro e W4 ⟨rfl, B4⟩
      clear c0 c1 c2 c3 c4 c5 c6 c7 c8 c9 c10 c11 c12 c13 c14 c15 c16 m0
      have H4 : Hid (Shp W4 b1 L d ∧ Below w.heap.size w W4) := ⟨H3.out.1.all B4, below_call H3.out.2 H3.out.2.size B4⟩
      clear H3 B4
      obtain ⟨c0, c1, c2, c3, c4, c5, c6, c7, c8, c9, c10, c11, c12, c13, c14, c15, c16⟩ := H4.out.1.bx.shop
      have m0 := H4.out.1.lt
      go_wp2_with fail
      refine (countOk_any d.w _).mono ?_
      rintro e W5 ⟨rfl, rfl⟩
      go_wp2_with fail
      go_ret2
      exact ⟨by rw [HF.out.2.2.2.2.1, HF.out.2.2.2.2.2]; rfl, H4.out.2⟩

set_option maxRecDepth 100000 in
set_option maxHeartbeats 8000000 in
theorem frame_2 (L : LT) (d : SD) (w : World) (I : Tsks w L.t.a L.t.n d.t) (hs : (L.t.n : Int) ≤ 1048576) (h2 : d.p = 2) :
    Calls Tryz.prog 40 #[sv L d] w fun e w' => e = .returned (.tuple #[wayV d.p, .bool (outerB d)]) ∧ Below w.heap.size w w' := by
  have HI : Hid (Tsks w L.t.a L.t.n d.t) := I
  clear I
  have fR := finds_runs2
  cases hr : decide (d.q = 1)
  · have HF : Hid (wayV d.p = .iface 151 (.agg #[]) ∧ within d.p 1 5 = true ∧ decide (d.q = 1) = false ∧ True ∧ wayV d.p = .iface 151 (.agg #[]) ∧ outerB d = false) := ⟨(by rw [wayV, h2]; simp), (by rw [h2]; rfl), hr, trivial, (by rw [wayV, h2]; simp), by rw [outerB, h2]; have : decide (d.q = 1) = false := hr; rw [this]; simp⟩
    clear h2 hr
    go_enter Tryz.func40, Tryz.ntmps40
    go_wp2_with (refine sh_box rfl ?_)
    intro W1 b1 hW1 S1 B1
    have H1 : Hid (Shp W1 b1 L d ∧ Below w.heap.size w W1) := ⟨S1, B1⟩
    clear B1
    obtain ⟨c0, c1, c2, c3, c4, c5, c6, c7, c8, c9, c10, c11, c12, c13, c14, c15, c16⟩ := S1.bx.shop
    have m0 := S1.lt
    clear S1 hW1
    go_wp2_with fail
    refine (way_any d.p W1).mono ?_
    rw [HF.out.1, HF.out.2.1]
    rintro e W2 ⟨rfl, B2⟩
    clear c0 c1 c2 c3 c4 c5 c6 c7 c8 c9 c10 c11 c12 c13 c14 c15 c16 m0
    have H2 : Hid (Shp W2 b1 L d ∧ Below w.heap.size w W2) := ⟨H1.out.1.all B2, below_call H1.out.2 H1.out.2.size B2⟩
    clear H1 B2
    obtain ⟨c0, c1, c2, c3, c4, c5, c6, c7, c8, c9, c10, c11, c12, c13, c14, c15, c16⟩ := H2.out.1.bx.shop
    have m0 := H2.out.1.lt
    go_wp2_with fail
    refine (runsOn_one d.q _).mono ?_
    rw [HF.out.2.2.1]
    rintro e W3 ⟨rfl, B3⟩
    clear c0 c1 c2 c3 c4 c5 c6 c7 c8 c9 c10 c11 c12 c13 c14 c15 c16 m0
    have H3 : Hid (Shp W3 b1 L d ∧ Below w.heap.size w W3) := ⟨H2.out.1.all B3, below_call H2.out.2 H2.out.2.size B3⟩
    clear H2 B3
    obtain ⟨c0, c1, c2, c3, c4, c5, c6, c7, c8, c9, c10, c11, c12, c13, c14, c15, c16⟩ := H3.out.1.bx.shop
    have m0 := H3.out.1.lt
    go_wp2_with fail
    go_ret2
    exact ⟨by rw [HF.out.2.2.2.2.1, HF.out.2.2.2.2.2]; rfl, H3.out.2⟩
  · cases ht : tasksOk d.t
    · have HF : Hid (wayV d.p = .iface 151 (.agg #[]) ∧ within d.p 1 5 = true ∧ decide (d.q = 1) = true ∧ tasksOk d.t = false ∧ wayV d.p = .iface 151 (.agg #[]) ∧ outerB d = false) := ⟨(by rw [wayV, h2]; simp), (by rw [h2]; rfl), hr, ht, (by rw [wayV, h2]; simp), by rw [outerB, h2]; have hq : d.q = 1 := of_decide_eq_true hr; rw [hq]; rw [ht]; simp⟩
      clear h2 hr ht
      go_enter Tryz.func40, Tryz.ntmps40
      go_wp2_with (refine sh_box rfl ?_)
      intro W1 b1 hW1 S1 B1
      have H1 : Hid (Shp W1 b1 L d ∧ Below w.heap.size w W1) := ⟨S1, B1⟩
      clear B1
      obtain ⟨c0, c1, c2, c3, c4, c5, c6, c7, c8, c9, c10, c11, c12, c13, c14, c15, c16⟩ := S1.bx.shop
      have m0 := S1.lt
      clear S1 hW1
      go_wp2_with fail
      refine (way_any d.p W1).mono ?_
      rw [HF.out.1, HF.out.2.1]
      rintro e W2 ⟨rfl, B2⟩
      clear c0 c1 c2 c3 c4 c5 c6 c7 c8 c9 c10 c11 c12 c13 c14 c15 c16 m0
      have H2 : Hid (Shp W2 b1 L d ∧ Below w.heap.size w W2) := ⟨H1.out.1.all B2, below_call H1.out.2 H1.out.2.size B2⟩
      clear H1 B2
      obtain ⟨c0, c1, c2, c3, c4, c5, c6, c7, c8, c9, c10, c11, c12, c13, c14, c15, c16⟩ := H2.out.1.bx.shop
      have m0 := H2.out.1.lt
      go_wp2_with fail
      refine (runsOn_one d.q _).mono ?_
      rw [HF.out.2.2.1]
      rintro e W3 ⟨rfl, B3⟩
      clear c0 c1 c2 c3 c4 c5 c6 c7 c8 c9 c10 c11 c12 c13 c14 c15 c16 m0
      have H3 : Hid (Shp W3 b1 L d ∧ Below w.heap.size w W3) := ⟨H2.out.1.all B3, below_call H2.out.2 H2.out.2.size B3⟩
      clear H2 B3
      obtain ⟨c0, c1, c2, c3, c4, c5, c6, c7, c8, c9, c10, c11, c12, c13, c14, c15, c16⟩ := H3.out.1.bx.shop
      have m0 := H3.out.1.lt
      go_wp2_with fail
      refine (implTasksOk L.t.a L.t.n L.t.c d.t _ (HI.out.kept H3.out.2) hs).mono ?_
      rw [HF.out.2.2.2.1]
      rintro e W4 ⟨rfl, B4⟩
      clear c0 c1 c2 c3 c4 c5 c6 c7 c8 c9 c10 c11 c12 c13 c14 c15 c16 m0
      have H4 : Hid (Shp W4 b1 L d ∧ Below w.heap.size w W4) := ⟨H3.out.1.all B4, below_call H3.out.2 H3.out.2.size B4⟩
      clear H3 B4
      obtain ⟨c0, c1, c2, c3, c4, c5, c6, c7, c8, c9, c10, c11, c12, c13, c14, c15, c16⟩ := H4.out.1.bx.shop
      have m0 := H4.out.1.lt
      go_wp2_with fail
      go_ret2
      exact ⟨by rw [HF.out.2.2.2.2.1, HF.out.2.2.2.2.2]; rfl, H4.out.2⟩
    · have HF : Hid (wayV d.p = .iface 151 (.agg #[]) ∧ within d.p 1 5 = true ∧ decide (d.q = 1) = true ∧ tasksOk d.t = true ∧ wayV d.p = .iface 151 (.agg #[]) ∧ outerB d = within d.w 0 1000000) := ⟨(by rw [wayV, h2]; simp), (by rw [h2]; rfl), hr, ht, (by rw [wayV, h2]; simp), by rw [outerB, h2]; have hq : d.q = 1 := of_decide_eq_true hr; rw [hq]; rw [ht]; simp [within, procsOk]⟩
      clear h2 hr ht
      go_enter Tryz.func40, Tryz.ntmps40
      go_wp2_with (refine sh_box rfl ?_)
      intro W1 b1 hW1 S1 B1
      have H1 : Hid (Shp W1 b1 L d ∧ Below w.heap.size w W1) := ⟨S1, B1⟩
      clear B1
      obtain ⟨c0, c1, c2, c3, c4, c5, c6, c7, c8, c9, c10, c11, c12, c13, c14, c15, c16⟩ := S1.bx.shop
      have m0 := S1.lt
      clear S1 hW1
      go_wp2_with fail
      refine (way_any d.p W1).mono ?_
      rw [HF.out.1, HF.out.2.1]
      rintro e W2 ⟨rfl, B2⟩
      clear c0 c1 c2 c3 c4 c5 c6 c7 c8 c9 c10 c11 c12 c13 c14 c15 c16 m0
      have H2 : Hid (Shp W2 b1 L d ∧ Below w.heap.size w W2) := ⟨H1.out.1.all B2, below_call H1.out.2 H1.out.2.size B2⟩
      clear H1 B2
      obtain ⟨c0, c1, c2, c3, c4, c5, c6, c7, c8, c9, c10, c11, c12, c13, c14, c15, c16⟩ := H2.out.1.bx.shop
      have m0 := H2.out.1.lt
      go_wp2_with fail
      refine (runsOn_one d.q _).mono ?_
      rw [HF.out.2.2.1]
      rintro e W3 ⟨rfl, B3⟩
      clear c0 c1 c2 c3 c4 c5 c6 c7 c8 c9 c10 c11 c12 c13 c14 c15 c16 m0
      have H3 : Hid (Shp W3 b1 L d ∧ Below w.heap.size w W3) := ⟨H2.out.1.all B3, below_call H2.out.2 H2.out.2.size B3⟩
      clear H2 B3
      obtain ⟨c0, c1, c2, c3, c4, c5, c6, c7, c8, c9, c10, c11, c12, c13, c14, c15, c16⟩ := H3.out.1.bx.shop
      have m0 := H3.out.1.lt
      go_wp2_with fail
      refine (implTasksOk L.t.a L.t.n L.t.c d.t _ (HI.out.kept H3.out.2) hs).mono ?_
      rw [HF.out.2.2.2.1]
      rintro e W4 ⟨rfl, B4⟩
      clear c0 c1 c2 c3 c4 c5 c6 c7 c8 c9 c10 c11 c12 c13 c14 c15 c16 m0
      have H4 : Hid (Shp W4 b1 L d ∧ Below w.heap.size w W4) := ⟨H3.out.1.all B4, below_call H3.out.2 H3.out.2.size B4⟩
      clear H3 B4
      obtain ⟨c0, c1, c2, c3, c4, c5, c6, c7, c8, c9, c10, c11, c12, c13, c14, c15, c16⟩ := H4.out.1.bx.shop
      have m0 := H4.out.1.lt
      go_wp2_with fail
      refine (countOk_any d.w _).mono ?_
      rintro e W5 ⟨rfl, rfl⟩
      go_wp2_with fail
      go_ret2
      exact ⟨by rw [HF.out.2.2.2.2.1, HF.out.2.2.2.2.2]; rfl, H4.out.2⟩

set_option maxRecDepth 100000 in
set_option maxHeartbeats 8000000 in
theorem frame_3 (L : LT) (d : SD) (w : World) (I : Tsks w L.t.a L.t.n d.t) (hs : (L.t.n : Int) ≤ 1048576) (h3 : d.p = 3) :
    Calls Tryz.prog 40 #[sv L d] w fun e w' => e = .returned (.tuple #[wayV d.p, .bool (outerB d)]) ∧ Below w.heap.size w w' := by
  have HI : Hid (Tsks w L.t.a L.t.n d.t) := I
  clear I
  have fR := finds_runs3
  cases hr : decide (d.q = 1)
  · have HF : Hid (wayV d.p = .iface 127 (.agg #[]) ∧ within d.p 1 5 = true ∧ decide (d.q = 1) = false ∧ True ∧ wayV d.p = .iface 127 (.agg #[]) ∧ outerB d = false) := ⟨(by rw [wayV, h3]; simp), (by rw [h3]; rfl), hr, trivial, (by rw [wayV, h3]; simp), by rw [outerB, h3]; have : decide (d.q = 1) = false := hr; rw [this]; simp⟩
    clear h3 hr
    go_enter Tryz.func40, Tryz.ntmps40
    go_wp2_with (refine sh_box rfl ?_)
    intro W1 b1 hW1 S1 B1
    have H1 : Hid (Shp W1 b1 L d ∧ Below w.heap.size w W1) := ⟨S1, B1⟩
    clear B1
    obtain ⟨c0, c1, c2, c3, c4, c5, c6, c7, c8, c9, c10, c11, c12, c13, c14, c15, c16⟩ := S1.bx.shop
    have m0 := S1.lt
    clear S1 hW1
    go_wp2_with fail
    refine (way_any d.p W1).mono ?_
    rw [HF.out.1, HF.out.2.1]
    rintro e W2 ⟨rfl, B2⟩
    clear c0 c1 c2 c3 c4 c5 c6 c7 c8 c9 c10 c11 c12 c13 c14 c15 c16 m0
    have H2 : Hid (Shp W2 b1 L d ∧ Below w.heap.size w W2) := ⟨H1.out.1.all B2, below_call H1.out.2 H1.out.2.size B2⟩
    clear H1 B2
    obtain ⟨c0, c1, c2, c3, c4, c5, c6, c7, c8, c9, c10, c11, c12, c13, c14, c15, c16⟩ := H2.out.1.bx.shop
    have m0 := H2.out.1.lt
    go_wp2_with fail
    refine (runsOn_one d.q _).mono ?_
    rw [HF.out.2.2.1]
    rintro e W3 ⟨rfl, B3⟩
    clear c0 c1 c2 c3 c4 c5 c6 c7 c8 c9 c10 c11 c12 c13 c14 c15 c16 m0
    have H3 : Hid (Shp W3 b1 L d ∧ Below w.heap.size w W3) := ⟨H2.out.1.all B3, below_call H2.out.2 H2.out.2.size B3⟩
    clear H2 B3
    obtain ⟨c0, c1, c2, c3, c4, c5, c6, c7, c8, c9, c10, c11, c12, c13, c14, c15, c16⟩ := H3.out.1.bx.shop
    have m0 := H3.out.1.lt
    go_wp2_with fail
    go_ret2
    exact ⟨by rw [HF.out.2.2.2.2.1, HF.out.2.2.2.2.2]; rfl, H3.out.2⟩
  · cases ht : tasksOk d.t
    · have HF : Hid (wayV d.p = .iface 127 (.agg #[]) ∧ within d.p 1 5 = true ∧ decide (d.q = 1) = true ∧ tasksOk d.t = false ∧ wayV d.p = .iface 127 (.agg #[]) ∧ outerB d = false) := ⟨(by rw [wayV, h3]; simp), (by rw [h3]; rfl), hr, ht, (by rw [wayV, h3]; simp), by rw [outerB, h3]; have hq : d.q = 1 := of_decide_eq_true hr; rw [hq]; rw [ht]; simp⟩
      clear h3 hr ht
      go_enter Tryz.func40, Tryz.ntmps40
      go_wp2_with (refine sh_box rfl ?_)
      intro W1 b1 hW1 S1 B1
      have H1 : Hid (Shp W1 b1 L d ∧ Below w.heap.size w W1) := ⟨S1, B1⟩
      clear B1
      obtain ⟨c0, c1, c2, c3, c4, c5, c6, c7, c8, c9, c10, c11, c12, c13, c14, c15, c16⟩ := S1.bx.shop
      have m0 := S1.lt
      clear S1 hW1
      go_wp2_with fail
      refine (way_any d.p W1).mono ?_
      rw [HF.out.1, HF.out.2.1]
      rintro e W2 ⟨rfl, B2⟩
      clear c0 c1 c2 c3 c4 c5 c6 c7 c8 c9 c10 c11 c12 c13 c14 c15 c16 m0
      have H2 : Hid (Shp W2 b1 L d ∧ Below w.heap.size w W2) := ⟨H1.out.1.all B2, below_call H1.out.2 H1.out.2.size B2⟩
      clear H1 B2
      obtain ⟨c0, c1, c2, c3, c4, c5, c6, c7, c8, c9, c10, c11, c12, c13, c14, c15, c16⟩ := H2.out.1.bx.shop
      have m0 := H2.out.1.lt
      go_wp2_with fail
      refine (runsOn_one d.q _).mono ?_
      rw [HF.out.2.2.1]
      rintro e W3 ⟨rfl, B3⟩
      clear c0 c1 c2 c3 c4 c5 c6 c7 c8 c9 c10 c11 c12 c13 c14 c15 c16 m0
      have H3 : Hid (Shp W3 b1 L d ∧ Below w.heap.size w W3) := ⟨H2.out.1.all B3, below_call H2.out.2 H2.out.2.size B3⟩
      clear H2 B3
      obtain ⟨c0, c1, c2, c3, c4, c5, c6, c7, c8, c9, c10, c11, c12, c13, c14, c15, c16⟩ := H3.out.1.bx.shop
      have m0 := H3.out.1.lt
      go_wp2_with fail
      refine (implTasksOk L.t.a L.t.n L.t.c d.t _ (HI.out.kept H3.out.2) hs).mono ?_
      rw [HF.out.2.2.2.1]
      rintro e W4 ⟨rfl, B4⟩
      clear c0 c1 c2 c3 c4 c5 c6 c7 c8 c9 c10 c11 c12 c13 c14 c15 c16 m0
      have H4 : Hid (Shp W4 b1 L d ∧ Below w.heap.size w W4) := ⟨H3.out.1.all B4, below_call H3.out.2 H3.out.2.size B4⟩
      clear H3 B4
      obtain ⟨c0, c1, c2, c3, c4, c5, c6, c7, c8, c9, c10, c11, c12, c13, c14, c15, c16⟩ := H4.out.1.bx.shop
      have m0 := H4.out.1.lt
      go_wp2_with fail
      go_ret2
      exact ⟨by rw [HF.out.2.2.2.2.1, HF.out.2.2.2.2.2]; rfl, H4.out.2⟩
    · have HF : Hid (wayV d.p = .iface 127 (.agg #[]) ∧ within d.p 1 5 = true ∧ decide (d.q = 1) = true ∧ tasksOk d.t = true ∧ wayV d.p = .iface 127 (.agg #[]) ∧ outerB d = within d.w 0 1000000) := ⟨(by rw [wayV, h3]; simp), (by rw [h3]; rfl), hr, ht, (by rw [wayV, h3]; simp), by rw [outerB, h3]; have hq : d.q = 1 := of_decide_eq_true hr; rw [hq]; rw [ht]; simp [within, procsOk]⟩
      clear h3 hr ht
      go_enter Tryz.func40, Tryz.ntmps40
      go_wp2_with (refine sh_box rfl ?_)
      intro W1 b1 hW1 S1 B1
      have H1 : Hid (Shp W1 b1 L d ∧ Below w.heap.size w W1) := ⟨S1, B1⟩
      clear B1
      obtain ⟨c0, c1, c2, c3, c4, c5, c6, c7, c8, c9, c10, c11, c12, c13, c14, c15, c16⟩ := S1.bx.shop
      have m0 := S1.lt
      clear S1 hW1
      go_wp2_with fail
      refine (way_any d.p W1).mono ?_
      rw [HF.out.1, HF.out.2.1]
      rintro e W2 ⟨rfl, B2⟩
      clear c0 c1 c2 c3 c4 c5 c6 c7 c8 c9 c10 c11 c12 c13 c14 c15 c16 m0
      have H2 : Hid (Shp W2 b1 L d ∧ Below w.heap.size w W2) := ⟨H1.out.1.all B2, below_call H1.out.2 H1.out.2.size B2⟩
      clear H1 B2
      obtain ⟨c0, c1, c2, c3, c4, c5, c6, c7, c8, c9, c10, c11, c12, c13, c14, c15, c16⟩ := H2.out.1.bx.shop
      have m0 := H2.out.1.lt
      go_wp2_with fail
      refine (runsOn_one d.q _).mono ?_
      rw [HF.out.2.2.1]
      rintro e W3 ⟨rfl, B3⟩
      clear c0 c1 c2 c3 c4 c5 c6 c7 c8 c9 c10 c11 c12 c13 c14 c15 c16 m0
      have H3 : Hid (Shp W3 b1 L d ∧ Below w.heap.size w W3) := ⟨H2.out.1.all B3, below_call H2.out.2 H2.out.2.size B3⟩
      clear H2 B3
      obtain ⟨c0, c1, c2, c3, c4, c5, c6, c7, c8, c9, c10, c11, c12, c13, c14, c15, c16⟩ := H3.out.1.bx.shop
      have m0 := H3.out.1.lt
      go_wp2_with fail
      refine (implTasksOk L.t.a L.t.n L.t.c d.t _ (HI.out.kept H3.out.2) hs).mono ?_
      rw [HF.out.2.2.2.1]
      rintro e W4 ⟨rfl, B4⟩
      clear c0 c1 c2 c3 c4 c5 c6 c7 c8 c9 c10 c11 c12 c13 c14 c15 c16 m0
      have H4 : Hid (Shp W4 b1 L d ∧ Below w.heap.size w W4) := ⟨H3.out.1.all B4, below_call H3.out.2 H3.out.2.size B4⟩
      clear H3 B4
      obtain ⟨c0, c1, c2, c3, c4, c5, c6, c7, c8, c9, c10, c11, c12, c13, c14, c15, c16⟩ := H4.out.1.bx.shop
      have m0 := H4.out.1.lt
      go_wp2_with fail
      refine (countOk_any d.w _).mono ?_
      rintro e W5 ⟨rfl, rfl⟩
      go_wp2_with fail
      go_ret2
      exact ⟨by rw [HF.out.2.2.2.2.1, HF.out.2.2.2.2.2]; rfl, H4.out.2⟩

set_option maxRecDepth 100000 in
set_option maxHeartbeats 8000000 in
theorem frame_4 (L : LT) (d : SD) (w : World) (I : Tsks w L.t.a L.t.n d.t) (hs : (L.t.n : Int) ≤ 1048576) (h4 : d.p = 4) :
    Calls Tryz.prog 40 #[sv L d] w fun e w' => e = .returned (.tuple #[wayV d.p, .bool (outerB d)]) ∧ Below w.heap.size w w' := by
  have HI : Hid (Tsks w L.t.a L.t.n d.t) := I
  clear I
  have fR := finds_runs4
  cases hr : decide (d.q = 1)
  · have HF : Hid (wayV d.p = .iface 152 (.agg #[]) ∧ within d.p 1 5 = true ∧ decide (d.q = 1) = false ∧ True ∧ wayV d.p = .iface 152 (.agg #[]) ∧ outerB d = false) := ⟨(by rw [wayV, h4]; simp), (by rw [h4]; rfl), hr, trivial, (by rw [wayV, h4]; simp), by rw [outerB, h4]; have : decide (d.q = 1) = false := hr; rw [this]; simp⟩
    clear h4 hr
    go_enter Tryz.func40, Tryz.ntmps40
    go_wp2_with (refine sh_box rfl ?_)
    intro W1 b1 hW1 S1 B1
    have H1 : Hid (Shp W1 b1 L d ∧ Below w.heap.size w W1) := ⟨S1, B1⟩
    clear B1
    obtain ⟨c0, c1, c2, c3, c4, c5, c6, c7, c8, c9, c10, c11, c12, c13, c14, c15, c16⟩ := S1.bx.shop
    have m0 := S1.lt
    clear S1 hW1
    go_wp2_with fail
    refine (way_any d.p W1).mono ?_
    rw [HF.out.1, HF.out.2.1]
    rintro e W2 ⟨rfl, B2⟩
    clear c0 c1 c2 c3 c4 c5 c6 c7 c8 c9 c10 c11 c12 c13 c14 c15 c16 m0
    have H2 : Hid (Shp W2 b1 L d ∧ Below w.heap.size w W2) := ⟨H1.out.1.all B2, below_call H1.out.2 H1.out.2.size B2⟩
    clear H1 B2
    obtain ⟨c0, c1, c2, c3, c4, c5, c6, c7, c8, c9, c10, c11, c12, c13, c14, c15, c16⟩ := H2.out.1.bx.shop
    have m0 := H2.out.1.lt
    go_wp2_with fail
    refine (runsOn_one d.q _).mono ?_
    rw [HF.out.2.2.1]
    rintro e W3 ⟨rfl, B3⟩
    clear c0 c1 c2 c3 c4 c5 c6 c7 c8 c9 c10 c11 c12 c13 c14 c15 c16 m0
    have H3 : Hid (Shp W3 b1 L d ∧ Below w.heap.size w W3) := ⟨H2.out.1.all B3, below_call H2.out.2 H2.out.2.size B3⟩
    clear H2 B3
    obtain ⟨c0, c1, c2, c3, c4, c5, c6, c7, c8, c9, c10, c11, c12, c13, c14, c15, c16⟩ := H3.out.1.bx.shop
    have m0 := H3.out.1.lt
    go_wp2_with fail
    go_ret2
    exact ⟨by rw [HF.out.2.2.2.2.1, HF.out.2.2.2.2.2]; rfl, H3.out.2⟩
  · cases ht : tasksOk d.t
    · have HF : Hid (wayV d.p = .iface 152 (.agg #[]) ∧ within d.p 1 5 = true ∧ decide (d.q = 1) = true ∧ tasksOk d.t = false ∧ wayV d.p = .iface 152 (.agg #[]) ∧ outerB d = false) := ⟨(by rw [wayV, h4]; simp), (by rw [h4]; rfl), hr, ht, (by rw [wayV, h4]; simp), by rw [outerB, h4]; have hq : d.q = 1 := of_decide_eq_true hr; rw [hq]; rw [ht]; simp⟩
      clear h4 hr ht
      go_enter Tryz.func40, Tryz.ntmps40
      go_wp2_with (refine sh_box rfl ?_)
      intro W1 b1 hW1 S1 B1
      have H1 : Hid (Shp W1 b1 L d ∧ Below w.heap.size w W1) := ⟨S1, B1⟩
      clear B1
      obtain ⟨c0, c1, c2, c3, c4, c5, c6, c7, c8, c9, c10, c11, c12, c13, c14, c15, c16⟩ := S1.bx.shop
      have m0 := S1.lt
      clear S1 hW1
      go_wp2_with fail
      refine (way_any d.p W1).mono ?_
      rw [HF.out.1, HF.out.2.1]
      rintro e W2 ⟨rfl, B2⟩
      clear c0 c1 c2 c3 c4 c5 c6 c7 c8 c9 c10 c11 c12 c13 c14 c15 c16 m0
      have H2 : Hid (Shp W2 b1 L d ∧ Below w.heap.size w W2) := ⟨H1.out.1.all B2, below_call H1.out.2 H1.out.2.size B2⟩
      clear H1 B2
      obtain ⟨c0, c1, c2, c3, c4, c5, c6, c7, c8, c9, c10, c11, c12, c13, c14, c15, c16⟩ := H2.out.1.bx.shop
      have m0 := H2.out.1.lt
      go_wp2_with fail
      refine (runsOn_one d.q _).mono ?_
      rw [HF.out.2.2.1]
      rintro e W3 ⟨rfl, B3⟩
      clear c0 c1 c2 c3 c4 c5 c6 c7 c8 c9 c10 c11 c12 c13 c14 c15 c16 m0
      have H3 : Hid (Shp W3 b1 L d ∧ Below w.heap.size w W3) := ⟨H2.out.1.all B3, below_call H2.out.2 H2.out.2.size B3⟩
      clear H2 B3
      obtain ⟨c0, c1, c2, c3, c4, c5, c6, c7, c8, c9, c10, c11, c12, c13, c14, c15, c16⟩ := H3.out.1.bx.shop
      have m0 := H3.out.1.lt
      go_wp2_with fail
      refine (implTasksOk L.t.a L.t.n L.t.c d.t _ (HI.out.kept H3.out.2) hs).mono ?_
      rw [HF.out.2.2.2.1]
      rintro e W4 ⟨rfl, B4⟩
      clear c0 c1 c2 c3 c4 c5 c6 c7 c8 c9 c10 c11 c12 c13 c14 c15 c16 m0
      have H4 : Hid (Shp W4 b1 L d ∧ Below w.heap.size w W4) := ⟨H3.out.1.all B4, below_call H3.out.2 H3.out.2.size B4⟩
      clear H3 B4
      obtain ⟨c0, c1, c2, c3, c4, c5, c6, c7, c8, c9, c10, c11, c12, c13, c14, c15, c16⟩ := H4.out.1.bx.shop
      have m0 := H4.out.1.lt
      go_wp2_with fail
      go_ret2
      exact ⟨by rw [HF.out.2.2.2.2.1, HF.out.2.2.2.2.2]; rfl, H4.out.2⟩
    · have HF : Hid (wayV d.p = .iface 152 (.agg #[]) ∧ within d.p 1 5 = true ∧ decide (d.q = 1) = true ∧ tasksOk d.t = true ∧ wayV d.p = .iface 152 (.agg #[]) ∧ outerB d = within d.w 0 1000000) := ⟨(by rw [wayV, h4]; simp), (by rw [h4]; rfl), hr, ht, (by rw [wayV, h4]; simp), by rw [outerB, h4]; have hq : d.q = 1 := of_decide_eq_true hr; rw [hq]; rw [ht]; simp [within, procsOk]⟩
      clear h4 hr ht
      go_enter Tryz.func40, Tryz.ntmps40
      go_wp2_with (refine sh_box rfl ?_)
      intro W1 b1 hW1 S1 B1
      have H1 : Hid (Shp W1 b1 L d ∧ Below w.heap.size w W1) := ⟨S1, B1⟩
      clear B1
      obtain ⟨c0, c1, c2, c3, c4, c5, c6, c7, c8, c9, c10, c11, c12, c13, c14, c15, c16⟩ := S1.bx.shop
      have m0 := S1.lt
      clear S1 hW1
      go_wp2_with fail
      refine (way_any d.p W1).mono ?_
      rw [HF.out.1, HF.out.2.1]
      rintro e W2 ⟨rfl, B2⟩
      clear c0 c1 c2 c3 c4 c5 c6 c7 c8 c9 c10 c11 c12 c13 c14 c15 c16 m0
      have H2 : Hid (Shp W2 b1 L d ∧ Below w.heap.size w W2) := ⟨H1.out.1.all B2, below_call H1.out.2 H1.out.2.size B2⟩
      clear H1 B2
      obtain ⟨c0, c1, c2, c3, c4, c5, c6, c7, c8, c9, c10, c11, c12, c13, c14, c15, c16⟩ := H2.out.1.bx.shop
      have m0 := H2.out.1.lt
      go_wp2_with fail
      refine (runsOn_one d.q _).mono ?_
      rw [HF.out.2.2.1]
      rintro e W3 ⟨rfl, B3⟩
      clear c0 c1 c2 c3 c4 c5 c6 c7 c8 c9 c10 c11 c12 c13 c14 c15 c16 m0
      have H3 : Hid (Shp W3 b1 L d ∧ Below w.heap.size w W3) := ⟨H2.out.1.all B3, below_call H2.out.2 H2.out.2.size B3⟩
      clear H2 B3
      obtain ⟨c0, c1, c2, c3, c4, c5, c6, c7, c8, c9, c10, c11, c12, c13, c14, c15, c16⟩ := H3.out.1.bx.shop
      have m0 := H3.out.1.lt
      go_wp2_with fail
      refine (implTasksOk L.t.a L.t.n L.t.c d.t _ (HI.out.kept H3.out.2) hs).mono ?_
      rw [HF.out.2.2.2.1]
      rintro e W4 ⟨rfl, B4⟩
      clear c0 c1 c2 c3 c4 c5 c6 c7 c8 c9 c10 c11 c12 c13 c14 c15 c16 m0
      have H4 : Hid (Shp W4 b1 L d ∧ Below w.heap.size w W4) := ⟨H3.out.1.all B4, below_call H3.out.2 H3.out.2.size B4⟩
      clear H3 B4
      obtain ⟨c0, c1, c2, c3, c4, c5, c6, c7, c8, c9, c10, c11, c12, c13, c14, c15, c16⟩ := H4.out.1.bx.shop
      have m0 := H4.out.1.lt
      go_wp2_with fail
      refine (countOk_any d.w _).mono ?_
      rintro e W5 ⟨rfl, rfl⟩
      go_wp2_with fail
      go_ret2
      exact ⟨by rw [HF.out.2.2.2.2.1, HF.out.2.2.2.2.2]; rfl, H4.out.2⟩

set_option maxRecDepth 100000 in
set_option maxHeartbeats 8000000 in
theorem frame_5 (L : LT) (d : SD) (w : World) (I : Tsks w L.t.a L.t.n d.t) (hs : (L.t.n : Int) ≤ 1048576) (h5 : d.p = 5) :
    Calls Tryz.prog 40 #[sv L d] w fun e w' => e = .returned (.tuple #[wayV d.p, .bool (outerB d)]) ∧ Below w.heap.size w w' := by
  have HI : Hid (Tsks w L.t.a L.t.n d.t) := I
  clear I
  have fR := finds_runs5
  cases hr : procsOk d.q
  · have HF : Hid (wayV d.p = .iface 128 (.agg #[]) ∧ within d.p 1 5 = true ∧ procsOk d.q = false ∧ True ∧ wayV d.p = .iface 128 (.agg #[]) ∧ outerB d = false) := ⟨(by rw [wayV, h5]; simp), (by rw [h5]; rfl), hr, trivial, (by rw [wayV, h5]; simp), by rw [outerB, h5]; rw [hr]; rfl⟩
    clear h5 hr
    go_enter Tryz.func40, Tryz.ntmps40
    go_wp2_with (refine sh_box rfl ?_)
    intro W1 b1 hW1 S1 B1
    have H1 : Hid (Shp W1 b1 L d ∧ Below w.heap.size w W1) := ⟨S1, B1⟩
    clear B1
    obtain ⟨c0, c1, c2, c3, c4, c5, c6, c7, c8, c9, c10, c11, c12, c13, c14, c15, c16⟩ := S1.bx.shop
    have m0 := S1.lt
    clear S1 hW1
    go_wp2_with fail
    refine (way_any d.p W1).mono ?_
    rw [HF.out.1, HF.out.2.1]
    rintro e W2 ⟨rfl, B2⟩
    clear c0 c1 c2 c3 c4 c5 c6 c7 c8 c9 c10 c11 c12 c13 c14 c15 c16 m0
    have H2 : Hid (Shp W2 b1 L d ∧ Below w.heap.size w W2) := ⟨H1.out.1.all B2, below_call H1.out.2 H1.out.2.size B2⟩
    clear H1 B2
    obtain ⟨c0, c1, c2, c3, c4, c5, c6, c7, c8, c9, c10, c11, c12, c13, c14, c15, c16⟩ := H2.out.1.bx.shop
    have m0 := H2.out.1.lt
    go_wp2_with fail
    refine (runsOn_many d.q _).mono ?_
    rw [HF.out.2.2.1]
    rintro e W3 ⟨rfl, B3⟩
    clear c0 c1 c2 c3 c4 c5 c6 c7 c8 c9 c10 c11 c12 c13 c14 c15 c16 m0
    have H3 : Hid (Shp W3 b1 L d ∧ Below w.heap.size w W3) := ⟨H2.out.1.all B3, below_call H2.out.2 H2.out.2.size B3⟩
    clear H2 B3
    obtain ⟨c0, c1, c2, c3, c4, c5, c6, c7, c8, c9, c10, c11, c12, c13, c14, c15, c16⟩ := H3.out.1.bx.shop
    have m0 := H3.out.1.lt
    go_wp2_with fail
    go_ret2
    exact ⟨by rw [HF.out.2.2.2.2.1, HF.out.2.2.2.2.2]; rfl, H3.out.2⟩
  · cases ht : tasksOk d.t
    · have HF : Hid (wayV d.p = .iface 128 (.agg #[]) ∧ within d.p 1 5 = true ∧ procsOk d.q = true ∧ tasksOk d.t = false ∧ wayV d.p = .iface 128 (.agg #[]) ∧ outerB d = false) := ⟨(by rw [wayV, h5]; simp), (by rw [h5]; rfl), hr, ht, (by rw [wayV, h5]; simp), by rw [outerB, h5]; rw [hr, ht]; simp⟩
      clear h5 hr ht
      go_enter Tryz.func40, Tryz.ntmps40
      go_wp2_with (refine sh_box rfl ?_)
      intro W1 b1 hW1 S1 B1
      have H1 : Hid (Shp W1 b1 L d ∧ Below w.heap.size w W1) := ⟨S1, B1⟩
      clear B1
      obtain ⟨c0, c1, c2, c3, c4, c5, c6, c7, c8, c9, c10, c11, c12, c13, c14, c15, c16⟩ := S1.bx.shop
      have m0 := S1.lt
      clear S1 hW1
      go_wp2_with fail
      refine (way_any d.p W1).mono ?_
      rw [HF.out.1, HF.out.2.1]
      rintro e W2 ⟨rfl, B2⟩
      clear c0 c1 c2 c3 c4 c5 c6 c7 c8 c9 c10 c11 c12 c13 c14 c15 c16 m0
      have H2 : Hid (Shp W2 b1 L d ∧ Below w.heap.size w W2) := ⟨H1.out.1.all B2, below_call H1.out.2 H1.out.2.size B2⟩
      clear H1 B2
      obtain ⟨c0, c1, c2, c3, c4, c5, c6, c7, c8, c9, c10, c11, c12, c13, c14, c15, c16⟩ := H2.out.1.bx.shop
      have m0 := H2.out.1.lt
      go_wp2_with fail
      refine (runsOn_many d.q _).mono ?_
      rw [HF.out.2.2.1]
      rintro e W3 ⟨rfl, B3⟩
      clear c0 c1 c2 c3 c4 c5 c6 c7 c8 c9 c10 c11 c12 c13 c14 c15 c16 m0
      have H3 : Hid (Shp W3 b1 L d ∧ Below w.heap.size w W3) := ⟨H2.out.1.all B3, below_call H2.out.2 H2.out.2.size B3⟩
      clear H2 B3
      obtain ⟨c0, c1, c2, c3, c4, c5, c6, c7, c8, c9, c10, c11, c12, c13, c14, c15, c16⟩ := H3.out.1.bx.shop
      have m0 := H3.out.1.lt
      go_wp2_with fail
      refine (implTasksOk L.t.a L.t.n L.t.c d.t _ (HI.out.kept H3.out.2) hs).mono ?_
      rw [HF.out.2.2.2.1]
      rintro e W4 ⟨rfl, B4⟩
      clear c0 c1 c2 c3 c4 c5 c6 c7 c8 c9 c10 c11 c12 c13 c14 c15 c16 m0
      have H4 : Hid (Shp W4 b1 L d ∧ Below w.heap.size w W4) := ⟨H3.out.1.all B4, below_call H3.out.2 H3.out.2.size B4⟩
      clear H3 B4
      obtain ⟨c0, c1, c2, c3, c4, c5, c6, c7, c8, c9, c10, c11, c12, c13, c14, c15, c16⟩ := H4.out.1.bx.shop
      have m0 := H4.out.1.lt
      go_wp2_with fail
      go_ret2
      exact ⟨by rw [HF.out.2.2.2.2.1, HF.out.2.2.2.2.2]; rfl, H4.out.2⟩
    · have HF : Hid (wayV d.p = .iface 128 (.agg #[]) ∧ within d.p 1 5 = true ∧ procsOk d.q = true ∧ tasksOk d.t = true ∧ wayV d.p = .iface 128 (.agg #[]) ∧ outerB d = within d.w 0 1000000) := ⟨(by rw [wayV, h5]; simp), (by rw [h5]; rfl), hr, ht, (by rw [wayV, h5]; simp), by rw [outerB, h5]; rw [hr, ht]; simp [within]⟩
      clear h5 hr ht
      go_enter Tryz.func40, Tryz.ntmps40
      go_wp2_with (refine sh_box rfl ?_)
      intro W1 b1 hW1 S1 B1
      have H1 : Hid (Shp W1 b1 L d ∧ Below w.heap.size w W1) := ⟨S1, B1⟩
      clear B1
      obtain ⟨c0, c1, c2, c3, c4, c5, c6, c7, c8, c9, c10, c11, c12, c13, c14, c15, c16⟩ := S1.bx.shop
      have m0 := S1.lt
      clear S1 hW1
      go_wp2_with fail
      refine (way_any d.p W1).mono ?_
      rw [HF.out.1, HF.out.2.1]
      rintro e W2 ⟨rfl, B2⟩
      clear c0 c1 c2 c3 c4 c5 c6 c7 c8 c9 c10 c11 c12 c13 c14 c15 c16 m0
      have H2 : Hid (Shp W2 b1 L d ∧ Below w.heap.size w W2) := ⟨H1.out.1.all B2, below_call H1.out.2 H1.out.2.size B2⟩
      clear H1 B2
      obtain ⟨c0, c1, c2, c3, c4, c5, c6, c7, c8, c9, c10, c11, c12, c13, c14, c15, c16⟩ := H2.out.1.bx.shop
      have m0 := H2.out.1.lt
      go_wp2_with fail
      refine (runsOn_many d.q _).mono ?_
      rw [HF.out.2.2.1]
      rintro e W3 ⟨rfl, B3⟩
      clear c0 c1 c2 c3 c4 c5 c6 c7 c8 c9 c10 c11 c12 c13 c14 c15 c16 m0
      have H3 : Hid (Shp W3 b1 L d ∧ Below w.heap.size w W3) := ⟨H2.out.1.all B3, below_call H2.out.2 H2.out.2.size B3⟩
      clear H2 B3
      obtain ⟨c0, c1, c2, c3, c4, c5, c6, c7, c8, c9, c10, c11, c12, c13, c14, c15, c16⟩ := H3.out.1.bx.shop
      have m0 := H3.out.1.lt
      go_wp2_with fail
      refine (implTasksOk L.t.a L.t.n L.t.c d.t _ (HI.out.kept H3.out.2) hs).mono ?_
      rw [HF.out.2.2.2.1]
      rintro e W4 ⟨rfl, B4⟩
      clear c0 c1 c2 c3 c4 c5 c6 c7 c8 c9 c10 c11 c12 c13 c14 c15 c16 m0
      have H4 : Hid (Shp W4 b1 L d ∧ Below w.heap.size w W4) := ⟨H3.out.1.all B4, below_call H3.out.2 H3.out.2.size B4⟩
      clear H3 B4
      obtain ⟨c0, c1, c2, c3, c4, c5, c6, c7, c8, c9, c10, c11, c12, c13, c14, c15, c16⟩ := H4.out.1.bx.shop
      have m0 := H4.out.1.lt
      go_wp2_with fail
      refine (countOk_any d.w _).mono ?_
      rintro e W5 ⟨rfl, rfl⟩
      go_wp2_with fail
      go_ret2
      exact ⟨by rw [HF.out.2.2.2.2.1, HF.out.2.2.2.2.2]; rfl, H4.out.2⟩

/-- impl.frameOf at every Shop. -/
theorem implFrame (L : LT) (d : SD) (w : World) (I : Tsks w L.t.a L.t.n d.t) (hs : (L.t.n : Int) ≤ 1048576) :
    Calls Tryz.prog 40 #[sv L d] w fun e w' => e = .returned (.tuple #[wayV d.p, .bool (outerB d)]) ∧ Below w.heap.size w w' := by
  by_cases h1 : d.p = 1
  · exact frame_1 L d w I hs h1
  by_cases h2 : d.p = 2
  · exact frame_2 L d w I hs h2
  by_cases h3 : d.p = 3
  · exact frame_3 L d w I hs h3
  by_cases h4 : d.p = 4
  · exact frame_4 L d w I hs h4
  by_cases h5 : d.p = 5
  · exact frame_5 L d w I hs h5
  exact frame_none L d w h1 h2 h3 h4 h5

end Go.Proofs.YtcmeimfjedakeaaGreat.Crew

/-
  impl's parts of a Shop: crewOf, keepsNothing. (Written by wip/tools/gen_shoprighti.py.)
-/
namespace Go.Proofs.YtcmeimfjedakeaaGreat.Crew
open Go.ChangeShapes Go.WideShapes Go.ChangeAt Go.RowKit

/-- The weights of those of the first k that are ready. -/
def crwTo (xs : List Tsk) : Nat → List Int
  | 0 => []
  | k + 1 => if (xs.getD k tz).s = 1 then crwTo xs k ++ [(xs.getD k tz).w] else crwTo xs k

theorem crwTo_len (xs : List Tsk) (k : Nat) : (crwTo xs k).length ≤ k := by
  induction k with
  | zero => exact Nat.le_refl _
  | succ k ih =>
    rw [crwTo]
    split
    · rw [List.length_append]
      show _ + 1 ≤ _
      omega
    · omega

theorem find_prefix {xs : List Tsk} (h : tasksOk xs = true) {k : Nat} (hk : k < xs.length) : findT xs (xs.getD k tz).i = k := by
  have asc : ∀ d i, i + d < xs.length → d ≠ 0 → (xs.getD i tz).i < (xs.getD (i + d) tz).i := by
    intro d
    induction d with
    | zero => intro i _ h; exact absurd rfl h
    | succ d ih =>
      intro i hi _
      have h1 := (ok_at h (k := i + (d + 1)) hi).2
      have e : i + (d + 1) - 1 = i + d := by omega
      rw [e] at h1
      rcases h1 with h1 | h1
      · omega
      · by_cases hd : d = 0
        · subst hd
          exact h1
        · exact Int.lt_trans (ih i (by omega) hd) h1
  have at_ : ∀ j, j ≤ k → findTo xs (xs.getD k tz).i j = j := by
    intro j
    induction j with
    | zero => intro _; rfl
    | succ j ih =>
      intro hj
      refine findTo_step (ih (by omega)) ?_
      have := asc (k - j) j (by omega) (by omega)
      rw [show j + (k - j) = k by omega] at this
      omega
  have e := findTo_hit (at_ k (Nat.le_refl _)) rfl hk
  rw [findT, e, if_pos hk]

theorem cwTo_append (t : List Tsk) (ids ys : List Int) : ∀ k, k ≤ ids.length → cwTo t (ids ++ ys) k = cwTo t ids k
  | 0, _ => rfl
  | k + 1, h => by
    rw [cwTo, cwTo, cwTo_append t ids ys k (by omega)]
    congr 3
    simp [List.getD, List.getElem?_append_left (show k < ids.length by omega)]

theorem crw_to {t : List Tsk} (h : tasksOk t = true) : ∀ k, k ≤ t.length → cw t (rdyTo t k) = crwTo t k
  | 0, _ => rfl
  | k + 1, hk => by
    have ih := crw_to h k (by omega)
    rw [rdyTo, crwTo]
    split
    · rw [cw, List.length_append, List.length_singleton, cwTo, cwTo_append _ _ _ _ (Nat.le_refl _), ← ih, cw]
      congr 2
      have e : (rdyTo t k ++ [(t.getD k tz).i]).getD (rdyTo t k).length 0 = (t.getD k tz).i := by simp [List.getD]
      rw [e, theT, find_prefix h (by omega)]
      simp
    · exact ih

/-- The weights in the order of ReadyOf. -/
theorem crw_all {t : List Tsk} (h : tasksOk t = true) : cw t (rdyL t) = crwTo t t.length := by
  rw [rdyL, h]
  exact crw_to h _ (Nat.le_refl _)

set_option maxRecDepth 100000 in
theorem implCrewOf (a : Option Addr) (len cap : Nat) (ps : List Tsk) (w : World) (I : Tsks w a len ps) (hs : (len : Int) ≤ 1048576) :
    Calls Tryz.prog 43 #[.slice a len cap] w fun e w' => ∃ g n c : Nat, e = .returned (.slice (some ⟨g, 0, none⟩) n c) ∧ Fit w' w.heap.size (some ⟨g, 0, none⟩) n c (crwTo ps len) ∧ Below w.heap.size w w' := by
  obtain ⟨i0, hi, hz0, hz1, hz2⟩ := info_parts info_int
  have HI : Hid (Tsks w a len ps) := I
  have HL : Hid (ps.length = len) := I.1
  have R0 : Hid (Row (w.alloc (.cells #[] 2)) w.heap.size 0 [] ∧ Below w.heap.size w (w.alloc (.cells #[] 2))) := ⟨row_nil w, below_new _ _⟩
  have hz : (w.alloc (.cells #[] 2)).heap.size = w.heap.size + 1 := by simp
  clear I
  have H1 := R0
  go_enter Tryz.func43, Tryz.ntmps43
  go_wp2_with fail
  go_loopw [3, 5, 9] (fun q _ i wr => ∃ k m g c : Nat, k ≤ len ∧ i = .int .i64 k ∧ q = .slice (some ⟨g, 0, none⟩) m c ∧ Hid ((crwTo ps k).length = m ∧ Row wr g c (crwTo ps k) ∧ w.heap.size ≤ g ∧ Below w.heap.size w wr)) (fun _ _ i _ => len - (intOf i).toNat)
  case atStart => exact ⟨0, 0, w.heap.size, 0, Nat.zero_le _, rfl, rfl, rfl, H1.out.1, Nat.le_refl _, H1.out.2⟩
  case round =>
    obtain ⟨k, m, g, c, hkl, rfl, rfl, R⟩ := hrel
    by_cases hlt : k < len
    · obtain ⟨_, h0 | ⟨b, off, rfl, hb, hc⟩⟩ := tsks_parts (HI.out.kept R.out.2.2.2)
      · omega
      obtain ⟨c0, c1, c2, c3⟩ := hc k hlt
      obtain ⟨x, hx⟩ : ∃ x, x = ps.getD k tz := ⟨_, rfl⟩
      rw [← hx] at c0 c1 c2 c3
      obtain ⟨xi, xw, xs, xh⟩ := x
      simp only at c0 c1 c2 c3
      have hlt' : (k : Int) < (len : Int) := by omega
      have HX : Hid (ps.getD k tz = ⟨xi, xw, xs, xh⟩) := hx.symm
      have hm := crwTo_len ps k
      rw [R.out.1] at hm
      clear hc hx
      by_cases hy1 : xs = 1
      · have HA : Hid (crwTo ps (k + 1) = crwTo ps k ++ [xw]) := by show _ = _; rw [crwTo, HX.out, if_pos hy1]
        have hb1 : (xs == (1 : Int)) = true := by simp [hy1]
        have RX : Hid (Row (wr.alloc (.cells #[.int .i64 xi, .int .i64 xw, .int .i64 xs, .int .i64 xh] 73)) g c (crwTo ps k) ∧ Below w.heap.size w (wr.alloc (.cells #[.int .i64 xi, .int .i64 xw, .int .i64 xs, .int .i64 xh] 73))) := ⟨R.out.2.1.alloc _, below_call R.out.2.2.2 R.out.2.2.2.size (below_new _ _)⟩
        clear hy1
        go_wp2_with (at_builtin; refine wpList_append_ints rfl (.tmp 16) (.tmp 19) 27 rfl i0 Tryz.underlying27 hi hz0 hz1 hz2 _ _ _ (crwTo ps k) rfl R.out.1.symm (RX.out.1.alloc _) _ _ _ [xw] rfl (int_at (by simp) xw) (by rw [R.out.1]; omega) ?_)
        intro g4 c4 w4 R4 G4 D4
        have R5 : Hid ((crwTo ps (k + 1)).length = m + 1 ∧ Row w4 g4 c4 (crwTo ps (k + 1)) ∧ w.heap.size ≤ g4 ∧ Below w.heap.size w w4) := by
          have h1 := R.out.2.2.1
          have h2 := R.out.2.2.2.size
          have h3 := RX.out.2.size
          rw [HA.out]
          exact ⟨by rw [List.length_append, R.out.1]; rfl, R4, by first | omega | (simp at D4; omega), (RX.out.2.alloc h3 _).grown G4 (by simp; omega) (fun i hi => by cases hi; exact h1)⟩
        clear R4 G4 D4
        go_wp2_with fail
        go_roundw
        case rel => exact ⟨k + 1, m + 1, g4, c4, by omega, by go_num, rfl, R5⟩
        case measure => simp [intOf]; omega
      · have HA : Hid (crwTo ps (k + 1) = crwTo ps k) := by show _ = _; rw [crwTo, HX.out, if_neg hy1]
        have hb1 : (xs == (1 : Int)) = false := by simpa using hy1
        have RX : Hid (Row (wr.alloc (.cells #[.int .i64 xi, .int .i64 xw, .int .i64 xs, .int .i64 xh] 73)) g c (crwTo ps k) ∧ Below w.heap.size w (wr.alloc (.cells #[.int .i64 xi, .int .i64 xw, .int .i64 xs, .int .i64 xh] 73))) := ⟨R.out.2.1.alloc _, below_call R.out.2.2.2 R.out.2.2.2.size (below_new _ _)⟩
        clear hy1
        go_wp2_with fail
        go_roundw
        case rel => exact ⟨k + 1, m, g, c, by omega, by go_num, rfl, by rw [HA.out]; exact ⟨R.out.1, RX.out.1, R.out.2.2.1, RX.out.2⟩⟩
        case measure => simp [intOf]; omega
    · have hlt' : ¬ (k : Int) < (len : Int) := by omega
      have he : k = len := by omega
      subst he
      go_wp2_with fail
      go_ret
      exact ⟨g, m, c, rfl, R.out.2.1.fit R.out.2.2.1 R.out.1, R.out.2.2.2⟩


/-- Nothing is kept. -/
def keepB (d : SD) : Bool := noS d.s d.r && noL d.l d.h d.lt d.la && noM d.y d.z d.yq d.yt

set_option maxRecDepth 100000 in
set_option maxHeartbeats 8000000 in
theorem implKeeps (L : LT) (d : SD) (w : World) (I : Rd w L d) :
    Calls Tryz.prog 53 #[sv L d] w fun e w' => e = .returned (.bool (keepB d)) ∧ Below w.heap.size w w' := by
  have HL : Hid (d.s.length = L.s.n ∧ d.r.length = L.r.n ∧ d.l.length = L.l.n ∧ d.h.length = L.h.n ∧ d.y.length = L.y.n ∧ d.z.length = L.z.n) := ⟨I.s.1, I.r.1, I.l.1, I.h.1, I.y.1, I.z.1⟩
  clear I
  by_cases h0 : L.s.n = 0
  · by_cases h1 : L.r.n = 0
    · by_cases h2 : L.l.n = 0
      · by_cases h3 : L.h.n = 0
        · by_cases h4 : d.lt = 0
          · by_cases h5 : d.la = 0
            · by_cases h6 : L.y.n = 0
              · by_cases h7 : L.z.n = 0
                · by_cases h8 : d.yq = 0
                  · by_cases h9 : d.yt = 0
                    · have hb0 : ((L.s.n : Int) == (0 : Int)) = true := by simp; omega
                      have hb1 : ((L.r.n : Int) == (0 : Int)) = true := by simp; omega
                      have hb2 : ((L.l.n : Int) == (0 : Int)) = true := by simp; omega
                      have hb3 : ((L.h.n : Int) == (0 : Int)) = true := by simp; omega
                      have hb4 : (d.lt == (0 : Int)) = true := by simp; omega
                      have hb5 : (d.la == (0 : Int)) = true := by simp; omega
                      have hb6 : ((L.y.n : Int) == (0 : Int)) = true := by simp; omega
                      have hb7 : ((L.z.n : Int) == (0 : Int)) = true := by simp; omega
                      have hb8 : (d.yq == (0 : Int)) = true := by simp; omega
                      have hb9 : (d.yt == (0 : Int)) = true := by simp; omega
                      have HE : Hid (keepB d = true) := by
                        show _ = _
                        obtain ⟨l0, l1, l2, l3, l4, l5⟩ := HL.out
                        rw [keepB, noS, noL, noM, l0, l1, l2, l3, l4, l5]
                        simp [h0, h1, h2, h3, h4, h5, h6, h7, h8, h9]
                      clear h0 h1 h2 h3 h4 h5 h6 h7 h8 h9
                      go_enter Tryz.func53, Tryz.ntmps53
                      go_wp2_with (refine sh_box rfl ?_)
                      intro W b hW S B
                      have HB : Hid (Below w.heap.size w W) := B
                      clear B hW
                      obtain ⟨c0, c1, c2, c3, c4, c5, c6, c7, c8, c9, c10, c11, c12, c13, c14, c15, c16⟩ := S.bx.shop
                      have m0 := S.lt
                      clear S
                      go_wp2_with fail
                      go_ret
                      exact ⟨by rw [HE.out]; rfl, HB.out⟩
                    · have hb0 : ((L.s.n : Int) == (0 : Int)) = true := by simp; omega
                      have hb1 : ((L.r.n : Int) == (0 : Int)) = true := by simp; omega
                      have hb2 : ((L.l.n : Int) == (0 : Int)) = true := by simp; omega
                      have hb3 : ((L.h.n : Int) == (0 : Int)) = true := by simp; omega
                      have hb4 : (d.lt == (0 : Int)) = true := by simp; omega
                      have hb5 : (d.la == (0 : Int)) = true := by simp; omega
                      have hb6 : ((L.y.n : Int) == (0 : Int)) = true := by simp; omega
                      have hb7 : ((L.z.n : Int) == (0 : Int)) = true := by simp; omega
                      have hb8 : (d.yq == (0 : Int)) = true := by simp; omega
                      have hb9 : (d.yt == (0 : Int)) = false := by simp; omega
                      have HE : Hid (keepB d = false) := by
                        show _ = _
                        obtain ⟨l0, l1, l2, l3, l4, l5⟩ := HL.out
                        rw [keepB, noS, noL, noM, l0, l1, l2, l3, l4, l5]
                        simp [h0, h1, h2, h3, h4, h5, h6, h7, h8, h9]
                      clear h0 h1 h2 h3 h4 h5 h6 h7 h8 h9
                      go_enter Tryz.func53, Tryz.ntmps53
                      go_wp2_with (refine sh_box rfl ?_)
                      intro W b hW S B
                      have HB : Hid (Below w.heap.size w W) := B
                      clear B hW
                      obtain ⟨c0, c1, c2, c3, c4, c5, c6, c7, c8, c9, c10, c11, c12, c13, c14, c15, c16⟩ := S.bx.shop
                      have m0 := S.lt
                      clear S
                      go_wp2_with fail
                      go_ret
                      exact ⟨by rw [HE.out]; rfl, HB.out⟩
                  · have hb0 : ((L.s.n : Int) == (0 : Int)) = true := by simp; omega
                    have hb1 : ((L.r.n : Int) == (0 : Int)) = true := by simp; omega
                    have hb2 : ((L.l.n : Int) == (0 : Int)) = true := by simp; omega
                    have hb3 : ((L.h.n : Int) == (0 : Int)) = true := by simp; omega
                    have hb4 : (d.lt == (0 : Int)) = true := by simp; omega
                    have hb5 : (d.la == (0 : Int)) = true := by simp; omega
                    have hb6 : ((L.y.n : Int) == (0 : Int)) = true := by simp; omega
                    have hb7 : ((L.z.n : Int) == (0 : Int)) = true := by simp; omega
                    have hb8 : (d.yq == (0 : Int)) = false := by simp; omega
                    have HE : Hid (keepB d = false) := by
                      show _ = _
                      obtain ⟨l0, l1, l2, l3, l4, l5⟩ := HL.out
                      rw [keepB, noS, noL, noM, l0, l1, l2, l3, l4, l5]
                      simp [h0, h1, h2, h3, h4, h5, h6, h7, h8]
                    clear h0 h1 h2 h3 h4 h5 h6 h7 h8
                    go_enter Tryz.func53, Tryz.ntmps53
                    go_wp2_with (refine sh_box rfl ?_)
                    intro W b hW S B
                    have HB : Hid (Below w.heap.size w W) := B
                    clear B hW
                    obtain ⟨c0, c1, c2, c3, c4, c5, c6, c7, c8, c9, c10, c11, c12, c13, c14, c15, c16⟩ := S.bx.shop
                    have m0 := S.lt
                    clear S
                    go_wp2_with fail
                    go_ret
                    exact ⟨by rw [HE.out]; rfl, HB.out⟩
                · have hb0 : ((L.s.n : Int) == (0 : Int)) = true := by simp; omega
                  have hb1 : ((L.r.n : Int) == (0 : Int)) = true := by simp; omega
                  have hb2 : ((L.l.n : Int) == (0 : Int)) = true := by simp; omega
                  have hb3 : ((L.h.n : Int) == (0 : Int)) = true := by simp; omega
                  have hb4 : (d.lt == (0 : Int)) = true := by simp; omega
                  have hb5 : (d.la == (0 : Int)) = true := by simp; omega
                  have hb6 : ((L.y.n : Int) == (0 : Int)) = true := by simp; omega
                  have hb7 : ((L.z.n : Int) == (0 : Int)) = false := by simp; omega
                  have HE : Hid (keepB d = false) := by
                    show _ = _
                    obtain ⟨l0, l1, l2, l3, l4, l5⟩ := HL.out
                    rw [keepB, noS, noL, noM, l0, l1, l2, l3, l4, l5]
                    simp [h0, h1, h2, h3, h4, h5, h6, h7]
                  clear h0 h1 h2 h3 h4 h5 h6 h7
                  go_enter Tryz.func53, Tryz.ntmps53
                  go_wp2_with (refine sh_box rfl ?_)
                  intro W b hW S B
                  have HB : Hid (Below w.heap.size w W) := B
                  clear B hW
                  obtain ⟨c0, c1, c2, c3, c4, c5, c6, c7, c8, c9, c10, c11, c12, c13, c14, c15, c16⟩ := S.bx.shop
                  have m0 := S.lt
                  clear S
                  go_wp2_with fail
                  go_ret
                  exact ⟨by rw [HE.out]; rfl, HB.out⟩
              · have hb0 : ((L.s.n : Int) == (0 : Int)) = true := by simp; omega
                have hb1 : ((L.r.n : Int) == (0 : Int)) = true := by simp; omega
                have hb2 : ((L.l.n : Int) == (0 : Int)) = true := by simp; omega
                have hb3 : ((L.h.n : Int) == (0 : Int)) = true := by simp; omega
                have hb4 : (d.lt == (0 : Int)) = true := by simp; omega
                have hb5 : (d.la == (0 : Int)) = true := by simp; omega
                have hb6 : ((L.y.n : Int) == (0 : Int)) = false := by simp; omega
                have HE : Hid (keepB d = false) := by
                  show _ = _
                  obtain ⟨l0, l1, l2, l3, l4, l5⟩ := HL.out
                  rw [keepB, noS, noL, noM, l0, l1, l2, l3, l4, l5]
                  simp [h0, h1, h2, h3, h4, h5, h6]
                clear h0 h1 h2 h3 h4 h5 h6
                go_enter Tryz.func53, Tryz.ntmps53
                go_wp2_with (refine sh_box rfl ?_)
                intro W b hW S B
                have HB : Hid (Below w.heap.size w W) := B
                clear B hW
                obtain ⟨c0, c1, c2, c3, c4, c5, c6, c7, c8, c9, c10, c11, c12, c13, c14, c15, c16⟩ := S.bx.shop
                have m0 := S.lt
                clear S
                go_wp2_with fail
                go_ret
                exact ⟨by rw [HE.out]; rfl, HB.out⟩
            · have hb0 : ((L.s.n : Int) == (0 : Int)) = true := by simp; omega
              have hb1 : ((L.r.n : Int) == (0 : Int)) = true := by simp; omega
              have hb2 : ((L.l.n : Int) == (0 : Int)) = true := by simp; omega
              have hb3 : ((L.h.n : Int) == (0 : Int)) = true := by simp; omega
              have hb4 : (d.lt == (0 : Int)) = true := by simp; omega
              have hb5 : (d.la == (0 : Int)) = false := by simp; omega
              have HE : Hid (keepB d = false) := by
                show _ = _
                obtain ⟨l0, l1, l2, l3, l4, l5⟩ := HL.out
                rw [keepB, noS, noL, noM, l0, l1, l2, l3, l4, l5]
                simp [h0, h1, h2, h3, h4, h5]
              clear h0 h1 h2 h3 h4 h5
              go_enter Tryz.func53, Tryz.ntmps53
              go_wp2_with (refine sh_box rfl ?_)
              intro W b hW S B
              have HB : Hid (Below w.heap.size w W) := B
              clear B hW
              obtain ⟨c0, c1, c2, c3, c4, c5, c6, c7, c8, c9, c10, c11, c12, c13, c14, c15, c16⟩ := S.bx.shop
              have m0 := S.lt
              clear S
              go_wp2_with fail
              go_ret
              exact ⟨by rw [HE.out]; rfl, HB.out⟩
          · have hb0 : ((L.s.n : Int) == (0 : Int)) = true := by simp; omega
            have hb1 : ((L.r.n : Int) == (0 : Int)) = true := by simp; omega
            have hb2 : ((L.l.n : Int) == (0 : Int)) = true := by simp; omega
            have hb3 : ((L.h.n : Int) == (0 : Int)) = true := by simp; omega
            have hb4 : (d.lt == (0 : Int)) = false := by simp; omega
            have HE : Hid (keepB d = false) := by
              show _ = _
              obtain ⟨l0, l1, l2, l3, l4, l5⟩ := HL.out
              rw [keepB, noS, noL, noM, l0, l1, l2, l3, l4, l5]
              simp [h0, h1, h2, h3, h4]
            clear h0 h1 h2 h3 h4
            go_enter Tryz.func53, Tryz.ntmps53
            go_wp2_with (refine sh_box rfl ?_)
            intro W b hW S B
            have HB : Hid (Below w.heap.size w W) := B
            clear B hW
            obtain ⟨c0, c1, c2, c3, c4, c5, c6, c7, c8, c9, c10, c11, c12, c13, c14, c15, c16⟩ := S.bx.shop
            have m0 := S.lt
            clear S
            go_wp2_with fail
            go_ret
            exact ⟨by rw [HE.out]; rfl, HB.out⟩
        · have hb0 : ((L.s.n : Int) == (0 : Int)) = true := by simp; omega
          have hb1 : ((L.r.n : Int) == (0 : Int)) = true := by simp; omega
          have hb2 : ((L.l.n : Int) == (0 : Int)) = true := by simp; omega
          have hb3 : ((L.h.n : Int) == (0 : Int)) = false := by simp; omega
          have HE : Hid (keepB d = false) := by
            show _ = _
            obtain ⟨l0, l1, l2, l3, l4, l5⟩ := HL.out
            rw [keepB, noS, noL, noM, l0, l1, l2, l3, l4, l5]
            simp [h0, h1, h2, h3]
          clear h0 h1 h2 h3
          go_enter Tryz.func53, Tryz.ntmps53
          go_wp2_with (refine sh_box rfl ?_)
          intro W b hW S B
          have HB : Hid (Below w.heap.size w W) := B
          clear B hW
          obtain ⟨c0, c1, c2, c3, c4, c5, c6, c7, c8, c9, c10, c11, c12, c13, c14, c15, c16⟩ := S.bx.shop
          have m0 := S.lt
          clear S
          go_wp2_with fail
          go_ret
          exact ⟨by rw [HE.out]; rfl, HB.out⟩
      · have hb0 : ((L.s.n : Int) == (0 : Int)) = true := by simp; omega
        have hb1 : ((L.r.n : Int) == (0 : Int)) = true := by simp; omega
        have hb2 : ((L.l.n : Int) == (0 : Int)) = false := by simp; omega
        have HE : Hid (keepB d = false) := by
          show _ = _
          obtain ⟨l0, l1, l2, l3, l4, l5⟩ := HL.out
          rw [keepB, noS, noL, noM, l0, l1, l2, l3, l4, l5]
          simp [h0, h1, h2]
        clear h0 h1 h2
        go_enter Tryz.func53, Tryz.ntmps53
        go_wp2_with (refine sh_box rfl ?_)
        intro W b hW S B
        have HB : Hid (Below w.heap.size w W) := B
        clear B hW
        obtain ⟨c0, c1, c2, c3, c4, c5, c6, c7, c8, c9, c10, c11, c12, c13, c14, c15, c16⟩ := S.bx.shop
        have m0 := S.lt
        clear S
        go_wp2_with fail
        go_ret
        exact ⟨by rw [HE.out]; rfl, HB.out⟩
    · have hb0 : ((L.s.n : Int) == (0 : Int)) = true := by simp; omega
      have hb1 : ((L.r.n : Int) == (0 : Int)) = false := by simp; omega
      have HE : Hid (keepB d = false) := by
        show _ = _
        obtain ⟨l0, l1, l2, l3, l4, l5⟩ := HL.out
        rw [keepB, noS, noL, noM, l0, l1, l2, l3, l4, l5]
        simp [h0, h1]
      clear h0 h1
      go_enter Tryz.func53, Tryz.ntmps53
      go_wp2_with (refine sh_box rfl ?_)
      intro W b hW S B
      have HB : Hid (Below w.heap.size w W) := B
      clear B hW
      obtain ⟨c0, c1, c2, c3, c4, c5, c6, c7, c8, c9, c10, c11, c12, c13, c14, c15, c16⟩ := S.bx.shop
      have m0 := S.lt
      clear S
      go_wp2_with fail
      go_ret
      exact ⟨by rw [HE.out]; rfl, HB.out⟩
  · have hb0 : ((L.s.n : Int) == (0 : Int)) = false := by simp; omega
    have HE : Hid (keepB d = false) := by
      show _ = _
      obtain ⟨l0, l1, l2, l3, l4, l5⟩ := HL.out
      rw [keepB, noS, noL, noM, l0, l1, l2, l3, l4, l5]
      simp [h0]
    clear h0
    go_enter Tryz.func53, Tryz.ntmps53
    go_wp2_with (refine sh_box rfl ?_)
    intro W b hW S B
    have HB : Hid (Below w.heap.size w W) := B
    clear B hW
    obtain ⟨c0, c1, c2, c3, c4, c5, c6, c7, c8, c9, c10, c11, c12, c13, c14, c15, c16⟩ := S.bx.shop
    have m0 := S.lt
    clear S
    go_wp2_with fail
    go_ret
    exact ⟨by rw [HE.out]; rfl, HB.out⟩

end Go.Proofs.YtcmeimfjedakeaaGreat.Crew
