/-
  spec.DrawAheadOf: two shares and two turns; everything that was there stays as it was.
-/
import Derived.Test.YtodggdgcbhmjoaaDrawChain
import Derived.Test.YtodggdgcbhmjoaaRankMath
import Derived.Deep.RegionHeld3
namespace Go.Proofs.Ytodggdgcbhmjoaa.Draw
open Go.ChangeShapes Go.WideShapes Go.ChangeAt Go.RowKit
open Go.Proofs.Ytodggdgcbhmjoaa.Win

theorem max_some (a b : Int) (w : World) :
    Calls Try.prog 33 #[.int .i64 a, .int .i64 b] w fun e w' => e = .returned (.int .i64 (max a b)) ∧ w' = w := by
  by_cases h : b < a
  · have e : max a b = a := by omega
    rw [e]
    clear e
    go_enter Try.func33, Try.ntmps33
    go_wp2_with fail
    go_ret
    exact ⟨rfl, rfl⟩
  · have e : max a b = b := by omega
    rw [e]
    clear e
    have hd : decide (b < a) = false := by simp; omega
    go_enter Try.func33, Try.ntmps33
    go_wp2_with fail
    go_ret
    exact ⟨rfl, rfl⟩

theorem results_four {fn : Func} {p u p' u' : Tmp} {ty ty' : TypeId} (h : fn.results = #[.cell p ty, .tmp u, .cell p' ty', .tmp u']) (tmps : Array Value) (P : Program) (w : World) :
    (results fn tmps).run P w =
      ((asAddr (tmps.getD p undef)).run P w).andThen fun a w₁ => ((loadVar ty a).run P w₁).andThen fun v w₂ => ((asAddr (tmps.getD p' undef)).run P w₂).andThen fun a' w₃ => ((loadVar ty' a').run P w₃).andThen fun v' w₄ => .ok (.tuple #[v, tmps.getD u undef, v', tmps.getD u' undef]) w₄ := by
  simp only [results, h]
  simp [Sem.run_bind, Result.andThen]

theorem ret_share4 {fn : Func} {q u q' u' : Tmp} (h : fn.results = #[.cell q 25, .tmp u, .cell q' 25, .tmp u']) {tmps : Array Value} {w : World} {g g' : Nat} {n d m e : Int} {v v' : Value} (hp : tmps.getD q undef = .pointer (some ⟨g, 0, none⟩)) (hv : tmps.getD u undef = v) (hp' : tmps.getD q' undef = .pointer (some ⟨g', 0, none⟩)) (hv' : tmps.getD u' undef = v') (S : Sh w g n d) (S' : Sh w g' m e) : (results fn tmps).run Try.prog w = .ok (.tuple #[sh n d, v, sh m e, v']) w := by
  rw [results_four h, hp, hv, hp', hv']
  simp [asAddr, run_loadVar_row w g _ 25 _ _ _ S Try.underlying25 rfl info_share, run_loadVar_row w g' _ 25 _ _ _ S' Try.underlying25 rfl info_share]

/-- The results' blocks and the two shares that were drawn. -/
structure DR (w0 v : World) (p : Nat) (a : Option Addr) (len cap : Nat) (s t : Nat) (n d m e : Int) (wr : World) : Prop where
  left : Left .i64 66 p a len cap v wr
  cur : Cur .i64 66 p a len cap wr
  res1 : Sh wr w0.heap.size 0 0
  res2 : Sh wr (w0.heap.size + 1) 0 0
  one : Sh wr s n d
  two : Sh wr t m e
  bel : Below w0.heap.size w0 v
  hp : p = w0.heap.size + 2
  pv : p < v.heap.size
  ps : p < s
  pt : p < t

theorem DR.all {w0 v wr w' : World} {p : Nat} {a : Option Addr} {len cap s t : Nat} {n d m e : Int} (h : DR w0 v p a len cap s t n d m e wr) (k : Below wr.heap.size wr w') : DR w0 v p a len cap s t n d m e w' :=
  ⟨left_own h.left (grown_below k) (by simp) h.pv, h.cur.other (grown_below k) (by simp) (by simp), h.res1.kept k, h.res2.kept k, h.one.kept k, h.two.kept k, h.bel, h.hp, h.pv, h.ps, h.pt⟩

theorem DR.drawn {w0 v wr : World} {p : Nat} {a : Option Addr} {len cap s t : Nat} {n d m e : Int} (h : DR w0 v p a len cap s t n d m e wr) : DR w0 v p a len cap s t n d m e wr.drew := h.all (Below.refl _ _).drew

theorem DR.draw {w0 v wr w' : World} {p : Nat} {a : Option Addr} {len cap s t : Nat} {n d m e : Int} (h : DR w0 v p a len cap s t n d m e wr) (L : Left .i64 66 p a len cap wr w') : DR w0 v p a len cap s t n d m e w' := by
  have h1 := h.hp
  have h2 := h.ps
  have h3 := h.pt
  exact ⟨h.left.trans L, L.cur h.cur, h.res1.left L (by omega), h.res2.left L (by omega), h.one.left L (by omega), h.two.left L (by omega), h.bel, h.hp, h.pv, h.ps, h.pt⟩

theorem DR.bels {w0 v wr : World} {p : Nat} {a : Option Addr} {len cap s t : Nat} {n d m e : Int} (h : DR w0 v p a len cap s t n d m e wr) (x y z q : Value) : Below w0.heap.size w0 ((((wr.setCell ⟨w0.heap.size, 0, none⟩ x).setCell ⟨w0.heap.size, 1, none⟩ y).setCell ⟨w0.heap.size + 1, 0, none⟩ z).setCell ⟨w0.heap.size + 1, 1, none⟩ q) := by
  have h1 := h.hp
  have k : Below w0.heap.size w0 wr := h.bel.trans (left_below h.left (by omega) h.pv)
  exact (((k.setCell (p := ⟨w0.heap.size, 0, none⟩) (Nat.le_refl _) x).setCell (p := ⟨w0.heap.size, 1, none⟩) (Nat.le_refl _) y).setCell (p := ⟨w0.heap.size + 1, 0, none⟩) (Nat.le_succ _) z).setCell (p := ⟨w0.heap.size + 1, 1, none⟩) (Nat.le_succ _) q

theorem DR.sets1 {w0 v wr : World} {p : Nat} {a : Option Addr} {len cap s t : Nat} {n d m e : Int} (h : DR w0 v p a len cap s t n d m e wr) (x y : Int) (z q : Value) : Sh ((((wr.setCell ⟨w0.heap.size, 0, none⟩ (.int .i64 x)).setCell ⟨w0.heap.size, 1, none⟩ (.int .i64 y)).setCell ⟨w0.heap.size + 1, 0, none⟩ z).setCell ⟨w0.heap.size + 1, 1, none⟩ q) w0.heap.size x y :=
  (((h.res1.set0 x).set1 y).past (by omega) z).past (by omega) q

theorem DR.sets2 {w0 v wr : World} {p : Nat} {a : Option Addr} {len cap s t : Nat} {n d m e : Int} (h : DR w0 v p a len cap s t n d m e wr) (x y : Value) (z q : Int) : Sh ((((wr.setCell ⟨w0.heap.size, 0, none⟩ x).setCell ⟨w0.heap.size, 1, none⟩ y).setCell ⟨w0.heap.size + 1, 0, none⟩ (.int .i64 z)).setCell ⟨w0.heap.size + 1, 1, none⟩ (.int .i64 q)) (w0.heap.size + 1) z q :=
  ((((h.res2.past (by omega) x).past (by omega) y).set0 z).set1 q)

/-- What a region that fills the results reads and writes. -/
theorem DR.facts {w0 v wr : World} {p : Nat} {a : Option Addr} {len cap s t : Nat} {n d m e : Int} (h : DR w0 v p a len cap s t n d m e wr) :
    wr.cell? ⟨s, 0, none⟩ = some (.int .i64 n) ∧ wr.cell? ⟨s, 1, none⟩ = some (.int .i64 d) ∧ wr.cell? ⟨t, 0, none⟩ = some (.int .i64 m) ∧ wr.cell? ⟨t, 1, none⟩ = some (.int .i64 e) ∧ wr.cell? ⟨w0.heap.size, 0, none⟩ = some (.int .i64 0) ∧ wr.cell? ⟨w0.heap.size, 1, none⟩ = some (.int .i64 0) ∧ wr.cell? ⟨w0.heap.size + 1, 0, none⟩ = some (.int .i64 0) ∧ wr.cell? ⟨w0.heap.size + 1, 1, none⟩ = some (.int .i64 0) ∧ wr.frozen? ⟨w0.heap.size, 0, none⟩ = false ∧ wr.frozen? ⟨w0.heap.size, 1, none⟩ = false ∧ wr.frozen? ⟨w0.heap.size + 1, 0, none⟩ = false ∧ wr.frozen? ⟨w0.heap.size + 1, 1, none⟩ = false :=
  ⟨h.one.c0, h.one.c1, h.two.c0, h.two.c1, h.res1.c0, h.res1.c1, h.res2.c0, h.res2.c1, h.res1.fr 0, h.res1.fr 1, h.res2.fr 0, h.res2.fr 1⟩

theorem DR.apart {w0 v wr : World} {p : Nat} {a : Option Addr} {len cap s t : Nat} {n d m e : Int} (h : DR w0 v p a len cap s t n d m e wr) : ¬ s = w0.heap.size ∧ ¬ w0.heap.size = s ∧ ¬ s = w0.heap.size + 1 ∧ ¬ w0.heap.size + 1 = s ∧ ¬ t = w0.heap.size ∧ ¬ w0.heap.size = t ∧ ¬ t = w0.heap.size + 1 ∧ ¬ w0.heap.size + 1 = t := by
  have h1 := h.hp
  have h2 := h.ps
  have h3 := h.pt
  omega

theorem turn_mk {n d i : Int} (h : shareOk n d = true) (k : Crew.within i 1 100 = true) : turnOk n d i = true := by
  have h1 := Crew.within_yes k
  have h2 : Crew.within i 1 1000000 = true := by simp only [Crew.within, decide_eq_true_eq]; omega
  rw [turnOk, h, h2]
  rfl

/-- What is drawn stays far below the limits. -/
theorem draw_bd {n d i m e : Int} (h : shareOk n d = true) (h' : shareOk m e = true) (k : Crew.within i 1 100 = true) : 0 ≤ dueV n d i * m ∧ dueV n d i * m ≤ 1100000000000000000 ∧ 1 ≤ e := by
  obtain ⟨n1, n2, d2⟩ := share_yes h
  obtain ⟨m1, m2, e2⟩ := share_yes h'
  have k1 := Crew.within_yes k
  have T := turn_mk h k
  rw [dueV_yes T]
  have x0 : 0 ≤ i * d := Int.mul_nonneg (by omega) (by omega)
  have x1 : i * d ≤ 100 * 100000000 := Int.mul_le_mul (by omega) d2 (by omega) (by omega)
  rw [up_int _ _ x0 n1]
  have x2 : 0 ≤ i * d / n := Int.ediv_nonneg x0 (by omega)
  have x3 : i * d / n ≤ i * d := Int.ediv_le_self n x0
  have y : ∀ z : Int, 0 ≤ z → z ≤ 10000000001 → 0 ≤ z * m ∧ z * m ≤ 1100000000000000000 := by
    intro z z0 z1
    refine ⟨Int.mul_nonneg z0 (by omega), ?_⟩
    have := Int.mul_le_mul z1 (show m ≤ 100000000 by omega) (by omega) (by omega)
    omega
  split
  · exact ⟨(y _ x2 (by omega)).1, (y _ x2 (by omega)).2, by omega⟩
  · exact ⟨(y _ (by omega) (by omega)).1, (y _ (by omega) (by omega)).2, by omega⟩

set_option maxHeartbeats 4000000 in
theorem drawAhead_any (a : Option Addr) (len cap : Nat) (w : World) (B : Bytes w a len) (ht : len ≤ 9223372036854775806) :
    Calls Try.prog 15 #[.slice a len cap] w fun r w' => ∃ n d i m e j : Int, r = .returned (.tuple #[sh n d, .int .i64 i, sh m e, .int .i64 j]) ∧ Below w.heap.size w w' := by
  obtain ⟨W0, hW0⟩ : ∃ W0, W0 = (w.alloc (.cells #[.int .i64 0, .int .i64 0] 25)).alloc (.cells #[.int .i64 0, .int .i64 0] 25) := ⟨_, rfl⟩
  have hz : W0.heap.size = w.heap.size + 2 := by rw [hW0]; simp
  have HB : Hid (Below w.heap.size w W0) := by show Below _ _ _; rw [hW0]; exact ((Below.refl _ w).alloc (Nat.le_refl _) _).alloc (by simp) _
  have B0 : Hid (Bytes W0 a len) := B.grown HB.out
  have R0 : Hid (Sh W0 w.heap.size 0 0 ∧ Sh W0 (w.heap.size + 1) 0 0) := by
    have h := sh_new (w.alloc (.cells #[.int .i64 0, .int .i64 0] 25)) 0 0
    have e : (w.alloc (.cells #[.int .i64 0, .int .i64 0] 25)).heap.size = w.heap.size + 1 := by simp
    rw [e, ← hW0] at h
    have h' := (sh_new w 0 0).alloc (.cells #[.int .i64 0, .int .i64 0] 25)
    rw [← hW0] at h'
    exact ⟨h', h⟩
  clear B
  go_enter Try.func15, Try.ntmps15
  go_wp2_with fail
  rw [← hW0]
  clear hW0
  refine (new_any a len cap _ B0.out ht).mono ?_
  rintro r w1 ⟨rfl, h, rfl⟩
  have C1 : Hid (Cur .i64 66 W0.heap.size a len cap (W0.alloc (.cells #[.slice a len cap, .int .i64 0, .int .i64 h] 66))) := cur_new (k := .i64) (T := 66) (cap := cap) B0.out ht h
  have R1 : Hid (Sh (W0.alloc (.cells #[.slice a len cap, .int .i64 0, .int .i64 h] 66)) w.heap.size 0 0 ∧ Sh (W0.alloc (.cells #[.slice a len cap, .int .i64 0, .int .i64 h] 66)) (w.heap.size + 1) 0 0) := ⟨R0.out.1.alloc _, R0.out.2.alloc _⟩
  have B1 : Hid (Below w.heap.size w (W0.alloc (.cells #[.slice a len cap, .int .i64 0, .int .i64 h] 66))) := HB.out.alloc HB.out.size _
  have HZ := hide hz
  clear R0 HB B0 hz
  generalize W0.alloc (.cells #[.slice a len cap, .int .i64 0, .int .i64 h] 66) = v at *
  generalize W0.heap.size = p at *
  go_wp2_with fail
  refine (draw_any_share 66 p a len cap _ C1.out).mono ?_
  rintro r w2 ⟨n, d, rfl, L2⟩
  have H2 : Hid (Left .i64 66 p a len cap v w2 ∧ Sh w2 w.heap.size 0 0 ∧ Sh w2 (w.heap.size + 1) 0 0) := ⟨L2, R1.out.1.left L2 (by have := HZ.out; omega), R1.out.2.left L2 (by have := HZ.out; omega)⟩
  clear L2 R1
  go_wp2_with fail
  have H3 : Hid (Left .i64 66 p a len cap v (w2.alloc (.cells #[.int .i64 n, .int .i64 d] 25)) ∧ Sh (w2.alloc (.cells #[.int .i64 n, .int .i64 d] 25)) w.heap.size 0 0 ∧ Sh (w2.alloc (.cells #[.int .i64 n, .int .i64 d] 25)) (w.heap.size + 1) 0 0 ∧ Sh (w2.alloc (.cells #[.int .i64 n, .int .i64 d] 25)) w2.heap.size n d ∧ p < w2.heap.size) := ⟨left_new H2.out.1 C1.out.lt _, H2.out.2.1.alloc _, H2.out.2.2.alloc _, sh_new _ _ _, Nat.lt_of_lt_of_le C1.out.lt H2.out.1.1.size⟩
  clear H2
  generalize w2.alloc (.cells #[.int .i64 n, .int .i64 d] 25) = w3 at *
  generalize w2.heap.size = s at *
  refine (draw_turn 66 p a len cap _ (H3.out.1.cur C1.out)).mono ?_
  rintro r w4 ⟨i, rfl, L4⟩
  have H4 : Hid (Left .i64 66 p a len cap v w4 ∧ Sh w4 w.heap.size 0 0 ∧ Sh w4 (w.heap.size + 1) 0 0 ∧ Sh w4 s n d ∧ p < s) := ⟨H3.out.1.trans L4, H3.out.2.1.left L4 (by have := HZ.out; omega), H3.out.2.2.1.left L4 (by have := HZ.out; omega), H3.out.2.2.2.1.left L4 (by have := H3.out.2.2.2.2; omega), H3.out.2.2.2.2⟩
  clear L4 H3
  go_wp2_with fail
  refine (draw_any_share 66 p a len cap _ (H4.out.1.cur C1.out)).mono ?_
  rintro r w5 ⟨m, e, rfl, L5⟩
  have H5 : Hid (DR w v p a len cap s w5.heap.size n d m e (w5.alloc (.cells #[.int .i64 m, .int .i64 e] 25))) :=
    ⟨left_new (H4.out.1.trans L5) C1.out.lt _, (left_new (H4.out.1.trans L5) C1.out.lt _).cur C1.out, (H4.out.2.1.left L5 (by have := HZ.out; omega)).alloc _, (H4.out.2.2.1.left L5 (by have := HZ.out; omega)).alloc _, (H4.out.2.2.2.1.left L5 (by have := H4.out.2.2.2.2; omega)).alloc _, sh_new _ _ _, B1.out, HZ.out, C1.out.lt, H4.out.2.2.2.2, Nat.lt_of_lt_of_le C1.out.lt (H4.out.1.trans L5).1.size⟩
  clear L5 H4 C1 B1 HZ
  go_wp2_with fail
  generalize w5.alloc (.cells #[.int .i64 m, .int .i64 e] 25) = w6 at *
  generalize w5.heap.size = t at *
  refine (once_any 66 p a len cap _ _ H5.out.cur).mono ?_
  rintro r w7 ⟨b, rfl, L7⟩
  have H7 := hide (H5.out.draw L7)
  clear L7 H5
  obtain ⟨x1, x2, x3, x4, x5, x6, x7, x8⟩ := H7.out.apart
  cases b
  · cases k1 : shareOk n d
    · obtain ⟨s0, s1, s2, s3, o0, o1, o2, o3, g0, g1, g2, g3⟩ := H7.out.facts
      go_wp2_with fail
      refine (specShareOk n d _).mono ?_
      rw [k1]
      rintro r w8 ⟨rfl, b8⟩
      have H8 := hide (H7.out.all b8)
      clear b8 H7 s0 s1 s2 s3 o0 o1 o2 o3 g0 g1 g2 g3
      obtain ⟨s0, s1, s2, s3, o0, o1, o2, o3, g0, g1, g2, g3⟩ := H8.out.facts
      go_wp2_with fail
      go_region_held3 (fun w' => w'.cell? ⟨s, 0, none⟩ = some (.int .i64 n) ∧ w'.cell? ⟨s, 1, none⟩ = some (.int .i64 d) ∧ w'.cell? ⟨t, 0, none⟩ = some (.int .i64 m) ∧ w'.cell? ⟨t, 1, none⟩ = some (.int .i64 e)) (go_keep) (fail)
      all_goals
        go_wp2_with fail
        exact bodyPost_ret (ret_share4 rfl rfl rfl rfl rfl (H8.out.drawn.sets1 _ _ _ _) (H8.out.drawn.sets2 _ _ _ _)) rfl ⟨_, _, _, _, _, _, rfl, H8.out.drawn.bels _ _ _ _⟩
    · cases k2 : shareOk m e
      · obtain ⟨s0, s1, s2, s3, o0, o1, o2, o3, g0, g1, g2, g3⟩ := H7.out.facts
        go_wp2_with fail
        refine (specShareOk n d _).mono ?_
        rw [k1]
        rintro r w8 ⟨rfl, b8⟩
        have H8 := hide (H7.out.all b8)
        clear b8 H7 s0 s1 s2 s3 o0 o1 o2 o3 g0 g1 g2 g3
        obtain ⟨s0, s1, s2, s3, o0, o1, o2, o3, g0, g1, g2, g3⟩ := H8.out.facts
        go_wp2_with fail
        refine (specShareOk m e _).mono ?_
        rw [k2]
        rintro r w9 ⟨rfl, b9⟩
        have H9 := hide (H8.out.all b9)
        clear b9 H8 s0 s1 s2 s3 o0 o1 o2 o3 g0 g1 g2 g3
        obtain ⟨s0, s1, s2, s3, o0, o1, o2, o3, g0, g1, g2, g3⟩ := H9.out.facts
        go_wp2_with fail
        go_region_held3 (fun w' => w'.cell? ⟨s, 0, none⟩ = some (.int .i64 n) ∧ w'.cell? ⟨s, 1, none⟩ = some (.int .i64 d) ∧ w'.cell? ⟨t, 0, none⟩ = some (.int .i64 m) ∧ w'.cell? ⟨t, 1, none⟩ = some (.int .i64 e)) (go_keep) (fail)
        all_goals
          go_wp2_with fail
          exact bodyPost_ret (ret_share4 rfl rfl rfl rfl rfl (H9.out.drawn.sets1 _ _ _ _) (H9.out.drawn.sets2 _ _ _ _)) rfl ⟨_, _, _, _, _, _, rfl, H9.out.drawn.bels _ _ _ _⟩
      · cases k3 : Crew.within i 1 100
        · obtain ⟨s0, s1, s2, s3, o0, o1, o2, o3, g0, g1, g2, g3⟩ := H7.out.facts
          go_wp2_with fail
          refine (specShareOk n d _).mono ?_
          rw [k1]
          rintro r w8 ⟨rfl, b8⟩
          have H8 := hide (H7.out.all b8)
          clear b8 H7 s0 s1 s2 s3 o0 o1 o2 o3 g0 g1 g2 g3
          obtain ⟨s0, s1, s2, s3, o0, o1, o2, o3, g0, g1, g2, g3⟩ := H8.out.facts
          go_wp2_with fail
          refine (specShareOk m e _).mono ?_
          rw [k2]
          rintro r w9 ⟨rfl, b9⟩
          have H9 := hide (H8.out.all b9)
          clear b9 H8 s0 s1 s2 s3 o0 o1 o2 o3 g0 g1 g2 g3
          obtain ⟨s0, s1, s2, s3, o0, o1, o2, o3, g0, g1, g2, g3⟩ := H9.out.facts
          go_wp2_with fail
          refine (Crew.in_any i 1 100 _).mono ?_
          rw [k3]
          rintro r w9 ⟨rfl, rfl⟩
          go_wp2_with fail
          go_region_held3 (fun w' => w'.cell? ⟨s, 0, none⟩ = some (.int .i64 n) ∧ w'.cell? ⟨s, 1, none⟩ = some (.int .i64 d) ∧ w'.cell? ⟨t, 0, none⟩ = some (.int .i64 m) ∧ w'.cell? ⟨t, 1, none⟩ = some (.int .i64 e)) (go_keep) (fail)
          all_goals
            go_wp2_with fail
            exact bodyPost_ret (ret_share4 rfl rfl rfl rfl rfl (H9.out.drawn.sets1 _ _ _ _) (H9.out.drawn.sets2 _ _ _ _)) rfl ⟨_, _, _, _, _, _, rfl, H9.out.drawn.bels _ _ _ _⟩
        · obtain ⟨s0, s1, s2, s3, o0, o1, o2, o3, g0, g1, g2, g3⟩ := H7.out.facts
          go_wp2_with fail
          refine (specShareOk n d _).mono ?_
          rw [k1]
          rintro r w8 ⟨rfl, b8⟩
          have H8 := hide (H7.out.all b8)
          clear b8 H7 s0 s1 s2 s3 o0 o1 o2 o3 g0 g1 g2 g3
          obtain ⟨s0, s1, s2, s3, o0, o1, o2, o3, g0, g1, g2, g3⟩ := H8.out.facts
          go_wp2_with fail
          refine (specShareOk m e _).mono ?_
          rw [k2]
          rintro r w9 ⟨rfl, b9⟩
          have H9 := hide (H8.out.all b9)
          clear b9 H8 s0 s1 s2 s3 o0 o1 o2 o3 g0 g1 g2 g3
          obtain ⟨s0, s1, s2, s3, o0, o1, o2, o3, g0, g1, g2, g3⟩ := H9.out.facts
          go_wp2_with fail
          refine (Crew.in_any i 1 100 _).mono ?_
          rw [k3]
          rintro r w9 ⟨rfl, rfl⟩
          go_wp2_with fail
          have kT : turnOk n d i = true := turn_mk k1 k3
          obtain ⟨f, hf⟩ : ∃ f, f = dueV n d i := ⟨_, rfl⟩
          have SD : Hid (∀ w, Calls Try.prog 27 #[sh n d, .int .i64 i] w fun e w' => e = .returned (.int .i64 f) ∧ Below w.heap.size w w') := by rw [hf]; exact specDueIn n d i kT
          obtain ⟨q0, q1, q2⟩ := draw_bd k1 k2 k3
          rw [← hf] at q0 q1
          have qe : ¬ e = 0 := by omega
          have qe' : (e == 0) = false := by simpa using qe
          clear hf kT k1 k2 k3
          go_region_held3 (fun w' => w'.cell? ⟨s, 0, none⟩ = some (.int .i64 n) ∧ w'.cell? ⟨s, 1, none⟩ = some (.int .i64 d) ∧ w'.cell? ⟨t, 0, none⟩ = some (.int .i64 m) ∧ w'.cell? ⟨t, 1, none⟩ = some (.int .i64 e)) (go_keep)
            (first
              | (go_at_call 27; refine (SD.out _).mono ?_; rintro r u1 ⟨rfl, b1⟩; have H10 := hide (H9.out.drawn.all b1); obtain ⟨s0, s1, s2, s3, o0, o1, o2, o3, g0, g1, g2, g3⟩ := H10.out.facts)
              | (go_at_call 34; refine (from_any 66 p a len cap (-1) 1 _ H10.out.cur (by decide) (by decide) (by decide)).mono ?_; rintro r u2 ⟨k, rfl, k0, k1, L2⟩; have H11 := hide (H10.out.draw L2); obtain ⟨s0, s1, s2, s3, o0, o1, o2, o3, g0, g1, g2, g3⟩ := H11.out.facts)
              | (go_at_call 33; refine (max_some _ _ _).mono ?_; rintro r u3 ⟨rfl, rfl⟩))
          all_goals
            go_wp2_with fail
            exact bodyPost_ret (ret_share4 rfl rfl rfl rfl rfl (H11.out.sets1 _ _ _ _) (H11.out.sets2 _ _ _ _)) rfl ⟨_, _, _, _, _, _, rfl, H11.out.bels _ _ _ _⟩
  · obtain ⟨s0, s1, s2, s3, o0, o1, o2, o3, g0, g1, g2, g3⟩ := H7.out.facts
    go_wp2_with fail
    go_region_held3 (fun w' => w'.cell? ⟨s, 0, none⟩ = some (.int .i64 n) ∧ w'.cell? ⟨s, 1, none⟩ = some (.int .i64 d) ∧ w'.cell? ⟨t, 0, none⟩ = some (.int .i64 m) ∧ w'.cell? ⟨t, 1, none⟩ = some (.int .i64 e)) (go_keep)
      ((go_at_call 31; refine (draw_turn 66 p a len cap _ H7.out.drawn.cur).mono ?_; rintro r u2 ⟨k, rfl, L2⟩; have H8 := hide (H7.out.drawn.draw L2); obtain ⟨s0, s1, s2, s3, o0, o1, o2, o3, g0, g1, g2, g3⟩ := H8.out.facts))
    all_goals
      go_wp2_with fail
      exact bodyPost_ret (ret_share4 rfl rfl rfl rfl rfl (H8.out.sets1 _ _ _ _) (H8.out.sets2 _ _ _ _)) rfl ⟨_, _, _, _, _, _, rfl, H8.out.bels _ _ _ _⟩

end Go.Proofs.Ytodggdgcbhmjoaa.Draw
