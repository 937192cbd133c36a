/-
  impl.sortedBy over tasks, by Id.
-/
import Derived.Test.YtfmcnamjhnnimaaTaskSortI
namespace Go.Proofs.Ytfmcnamjhnnimaa.Crew
open Go.ChangeShapes Go.WideShapes Go.ChangeAt Go.RowKit

theorem TBox.past {w w' : World} {b g : Nat} {x : Tsk} (h : TBox w b x) (k : w.grownBy w' (some g)) (hb : b ≠ g) : TBox w' b x := by
  have hg : some b ≠ some g := by simpa using hb
  exact ⟨Nat.lt_of_lt_of_le h.1 k.size, k.cell h.2.1 hg, k.cell h.2.2.1 hg, k.cell h.2.2.2.1 hg, k.cell h.2.2.2.2 hg⟩

set_option maxRecDepth 100000 in
set_option maxHeartbeats 4000000 in
/-- impl.sortedBy[impl.Task] with the closure of impl.Created. -/
theorem sortedT_any (a : Option Addr) (len cap : Nat) (L : List Tsk) (w : World) (I : Tsks w a len L) (hs : (len : Int) ≤ 1048576) :
    Calls Try.prog 35 #[.slice a len cap, .func (.func 36) #[] #[]] w fun e w' => e = .returned (.slice (some ⟨w.heap.size, 0, none⟩) len len) ∧ TRow w' w.heap.size len (sortT L len) ∧ Below w.heap.size w w' := by
  have HI : Hid (Tsks w a len L) := I
  have HL : Hid (L.length = len) := I.1
  have hm := made_tsks len hs w
  have R0 : Hid (TRow (w.alloc (.cells (tskR.fl (List.replicate len tz)).toArray 40)) w.heap.size len (List.replicate len tz) ∧ Below w.heap.size w (w.alloc (.cells (tskR.fl (List.replicate len tz)).toArray 40))) := ⟨Rec.row_rep tskR w len tz hs, below_new _ _⟩
  clear I
  go_enter Try.func35, Try.ntmps35
  go_wp2_with fail
  generalize w.alloc (.cells (tskR.fl (List.replicate len tz)).toArray 40) = wa at R0 ⊢
  clear hm
  go_loopw [6, 7, 8, 14] (fun _ _ _ i wr => ∃ k : Nat, k ≤ len ∧ i = .int .i64 k ∧ Hid (TRow wr w.heap.size len (sortT L k ++ List.replicate (len - k) tz)) ∧ Hid (Below w.heap.size w wr)) (fun _ _ _ i _ => len - (intOf i).toNat)
  case atStart => exact ⟨0, Nat.zero_le _, rfl, R0.out.1, R0.out.2⟩
  case round =>
    obtain ⟨k, hk, rfl, R, B⟩ := hrel
    by_cases hlt : k < len
    · obtain ⟨_, h0 | ⟨b, off, rfl, hb, hc⟩⟩ := tsks_parts (HI.out.kept B.out)
      · omega
      obtain ⟨x, hx⟩ : ∃ x, x = L.getD k tz := ⟨_, rfl⟩
      obtain ⟨c0, c1, c2, c3⟩ := hc k hlt
      rw [← hx] at c0 c1 c2 c3
      have hlt' : (k : Int) < (len : Int) := by omega
      have X : Hid (x = L.getD k tz) := hx
      obtain ⟨out, hout⟩ : ∃ out, out = sortT L k := ⟨_, rfl⟩
      have ho : out.length = k := by rw [hout]; exact sortT_len L k
      have OUT : Hid (out = sortT L k ∧ out.length = k) := ⟨hout, ho⟩
      have R' : Hid (TRow wr w.heap.size len (out.take k ++ tz :: (out.drop k ++ List.replicate (len - (k + 1)) tz))) := by
        have := R.out
        rw [← hout, tsk_start hlt ho] at this
        exact this
      clear hc hx R hout ho
      obtain ⟨xi, xw, xs, xh⟩ := x
      simp only at c0 c1 c2 c3
      have hsz : w.heap.size < wr.heap.size := R'.out.lt
      go_wp2_with fail
      obtain ⟨W, hW⟩ : ∃ W, W = wr.alloc (.cells #[.int .i64 xi, .int .i64 xw, .int .i64 xs, .int .i64 xh] 40) := ⟨_, rfl⟩
      have BX : Hid (TBox W wr.heap.size ⟨xi, xw, xs, xh⟩) := by rw [hW]; exact tbox_new wr xi xw xs xh
      have BW : Hid (Below w.heap.size w W) := by rw [hW]; exact below_call B.out B.out.size (below_new _ _)
      have RW : Hid (TRow W w.heap.size len (out.take k ++ tz :: (out.drop k ++ List.replicate (len - (k + 1)) tz))) := by rw [hW]; exact R'.out.alloc _
      rw [← hW]
      obtain ⟨bt, hbt⟩ : ∃ bt, bt = wr.heap.size := ⟨_, rfl⟩
      rw [← hbt] at BX ⊢
      have hne : ¬ bt = w.heap.size := by omega
      have HNE : Hid (bt ≠ w.heap.size ∧ bt ≠ w.heap.size) := ⟨hne, hne⟩
      clear hW hbt hb c0 c1 c2 c3 hne
      go_wp2_with fail
      go_loopw [8] (fun i wq => ∃ t : Nat, t ≤ k ∧ i = .int .i64 t ∧ Hid (∃ j, TRow wq w.heap.size len (out.take t ++ j :: (out.drop t ++ List.replicate (len - (k + 1)) tz))) ∧ Hid (Below w.heap.size w wq) ∧ Hid (TBox wq bt ⟨xi, xw, xs, xh⟩) ∧ Hid (posT xi out k = posT xi out t)) (fun i _ => (intOf i).toNat)
      case atStart => exact ⟨k, Nat.le_refl _, rfl, ⟨tz, RW.out⟩, BW, BX, rfl⟩
      case round =>
        obtain ⟨t, ht, rfl, RJ, BQ, TB, PQ⟩ := hrel
        obtain ⟨j, RJ'⟩ := RJ.out
        have RK : Hid (TRow wr w.heap.size len (out.take t ++ j :: (out.drop t ++ List.replicate (len - (k + 1)) tz))) := RJ'
        have hlen : t < (out.take t ++ j :: (out.drop t ++ List.replicate (len - (k + 1)) tz)).length := by rw [tsk_rowlen (by have := OUT.out.2; omega)]; have := OUT.out.2; omega
        clear RJ RJ'
        have y0 : ∀ z : Kin wr, z.u.cell? ⟨bt, 0, none⟩ = some (.int .i64 xi) := fun z => z.cell TB.out.1 TB.out.2.1
        have y1 : ∀ z : Kin wr, z.u.cell? ⟨bt, 1, none⟩ = some (.int .i64 xw) := fun z => z.cell TB.out.1 TB.out.2.2.1
        have y2 : ∀ z : Kin wr, z.u.cell? ⟨bt, 2, none⟩ = some (.int .i64 xs) := fun z => z.cell TB.out.1 TB.out.2.2.2.1
        have y3 : ∀ z : Kin wr, z.u.cell? ⟨bt, 3, none⟩ = some (.int .i64 xh) := fun z => z.cell TB.out.1 TB.out.2.2.2.2
        have nbt := HNE.out.1
        have nbt' := Ne.symm nbt
        by_cases ht0 : t = 0
        · have hd : decide ((0 : Int) < (t : Int)) = false := decide_eq_false (by omega)
          have hdn : decide (0 < t) = false := decide_eq_false (by omega)
          have HT : Hid (t = 0) := ht0
          clear ht0
          go_wp2_with fail
          refine wp_region_kin (by kernel_rfl) (by kernel_rfl) (fun hne => ?_)
          repeat (go_big_quiet_step ((first | (go_at_call 36; exact kin_calls (K1.out _)))))
          refine wpQuiet_nil ?_
          rintro _ ⟨z, rfl⟩
          have BZ : Hid (Below wr.heap.size wr z.u) := z.b
          generalize z.u = wz at BZ ⊢
          have RZ : Hid (TRow wz w.heap.size len (out.take t ++ j :: (out.drop t ++ List.replicate (len - (k + 1)) tz))) := RK.out.all BZ.out
          have TZ : Hid (TBox wz bt ⟨xi, xw, xs, xh⟩) := TB.out.all BZ.out
          have BW2 : Hid (Below w.heap.size w wz) := below_call BQ.out BQ.out.size BZ.out
          have z0 := TZ.out.2.1
          have z1 := TZ.out.2.2.1
          have z2 := TZ.out.2.2.2.1
          have z3 := TZ.out.2.2.2.2
          simp only at z0 z1 z2 z3
          clear y0 y1 y2 y3 hne
          have f0 := RZ.out.frozen (t * 4)
          have f1 := RZ.out.frozen (t * 4 + 1)
          have f2 := RZ.out.frozen (t * 4 + 2)
          have f3 := RZ.out.frozen (t * 4 + 3)
          obtain ⟨q0, q1, q2, q3⟩ := TRow.c RZ.out (i := t) (hlen)
          generalize ((out.take t ++ j :: (out.drop t ++ List.replicate (len - (k + 1)) tz)).getD t tz).i = u0 at q0
          generalize ((out.take t ++ j :: (out.drop t ++ List.replicate (len - (k + 1)) tz)).getD t tz).w = u1 at q1
          generalize ((out.take t ++ j :: (out.drop t ++ List.replicate (len - (k + 1)) tz)).getD t tz).s = u2 at q2
          generalize ((out.take t ++ j :: (out.drop t ++ List.replicate (len - (k + 1)) tz)).getD t tz).h = u3 at q3
          clear hd hdn
          go_wp2_with fail
          go_roundw
          case rel =>
            refine ⟨k + 1, by omega, by go_num, ?_, ?_⟩
            · have := TRow.put RZ.out t xi xw xs xh
              rw [tsk_put OUT.out.1 X.out ht (by show posT xi out k = t; rw [PQ.out]; exact posT_stop (.inl HT.out))] at this
              exact this
            · exact BW2.out.grown (TRow.sets t _ _ _ _) BW2.out.size (fun j hj => by cases hj; exact Nat.le_refl _)
          case measure => simp [intOf]; omega
        · have ht1 : 0 < t := by omega
          have hti : (0 : Int) < (t : Int) := by omega
          have hd : decide ((0 : Int) < (t : Int)) = true := decide_eq_true hti
          have hr2 := tsk_read (out := out) (zs := List.replicate (len - (k + 1)) tz) (t := t) (j := j) ht1 (by have := OUT.out.2; omega)
          obtain ⟨d0, d1, d2, d3⟩ := TRow.c RK.out (i := t - 1) (by omega)
          rw [hr2] at d0 d1 d2 d3
          obtain ⟨y, hy⟩ : ∃ y, y = out.getD (t - 1) tz := ⟨_, rfl⟩
          rw [← hy] at d0 d1 d2 d3
          have HY : Hid (y = out.getD (t - 1) tz) := hy
          clear hy hr2
          obtain ⟨yi, yw, ys, yh⟩ := y
          simp only at d0 d1 d2 d3
          have hgl := RK.out.lt
          have x0 : ∀ z : Kin wr, z.u.cell? ⟨w.heap.size, (t - 1) * 4, none⟩ = some (.int .i64 yi) := fun z => z.cell hgl d0
          have x1 : ∀ z : Kin wr, z.u.cell? ⟨w.heap.size, (t - 1) * 4 + 1, none⟩ = some (.int .i64 yw) := fun z => z.cell hgl d1
          have x2 : ∀ z : Kin wr, z.u.cell? ⟨w.heap.size, (t - 1) * 4 + 2, none⟩ = some (.int .i64 ys) := fun z => z.cell hgl d2
          have x3 : ∀ z : Kin wr, z.u.cell? ⟨w.heap.size, (t - 1) * 4 + 3, none⟩ = some (.int .i64 yh) := fun z => z.cell hgl d3
          clear d0 d1 d2 d3
          obtain ⟨p, hp⟩ : ∃ p, p = decide (xi < yi) := ⟨_, rfl⟩
          have K1 : Hid (∀ u : World, Calls Try.prog 36 #[tk xi xw xs xh, tk yi yw ys yh] u fun e w' => e = .returned (.bool p) ∧ Below u.heap.size u w') := fun u => by rw [hp]; exact lessT_any _ _ _ _ _ _ _ _ u
          have HP : Hid (p = decide (xi < yi)) := hp
          clear hp
          cases p
          · go_wp2_with fail
            refine wp_region_kin (by kernel_rfl) (by kernel_rfl) (fun hne => ?_)
            repeat (go_big_quiet_step ((first | (go_at_call 36; exact kin_calls (K1.out _)))))
            refine wpQuiet_nil ?_
            rintro _ ⟨z, rfl⟩
            have BZ : Hid (Below wr.heap.size wr z.u) := z.b
            generalize z.u = wz at BZ ⊢
            have RZ : Hid (TRow wz w.heap.size len (out.take t ++ j :: (out.drop t ++ List.replicate (len - (k + 1)) tz))) := RK.out.all BZ.out
            have TZ : Hid (TBox wz bt ⟨xi, xw, xs, xh⟩) := TB.out.all BZ.out
            have BW2 : Hid (Below w.heap.size w wz) := below_call BQ.out BQ.out.size BZ.out
            have z0 := TZ.out.2.1
            have z1 := TZ.out.2.2.1
            have z2 := TZ.out.2.2.2.1
            have z3 := TZ.out.2.2.2.2
            simp only at z0 z1 z2 z3
            clear y0 y1 y2 y3 x0 x1 x2 x3 K1 hne
            have f0 := RZ.out.frozen (t * 4)
            have f1 := RZ.out.frozen (t * 4 + 1)
            have f2 := RZ.out.frozen (t * 4 + 2)
            have f3 := RZ.out.frozen (t * 4 + 3)
            obtain ⟨q0, q1, q2, q3⟩ := TRow.c RZ.out (i := t) (hlen)
            generalize ((out.take t ++ j :: (out.drop t ++ List.replicate (len - (k + 1)) tz)).getD t tz).i = u0 at q0
            generalize ((out.take t ++ j :: (out.drop t ++ List.replicate (len - (k + 1)) tz)).getD t tz).w = u1 at q1
            generalize ((out.take t ++ j :: (out.drop t ++ List.replicate (len - (k + 1)) tz)).getD t tz).s = u2 at q2
            generalize ((out.take t ++ j :: (out.drop t ++ List.replicate (len - (k + 1)) tz)).getD t tz).h = u3 at q3
            clear hd
            go_wp2_with fail
            go_roundw
            case rel =>
              refine ⟨k + 1, by omega, by go_num, ?_, ?_⟩
              · have := TRow.put RZ.out t xi xw xs xh
                rw [tsk_put OUT.out.1 X.out ht (by show posT xi out k = t; rw [PQ.out]; exact posT_stop (.inr (by rw [← HY.out]; simpa using HP.out)))] at this
                exact this
              · exact BW2.out.grown (TRow.sets t _ _ _ _) BW2.out.size (fun j hj => by cases hj; exact Nat.le_refl _)
            case measure => simp [intOf]; omega
          · go_wp2_with fail
            refine wp_region_kin (by kernel_rfl) (by kernel_rfl) (fun hne => ?_)
            repeat (go_big_quiet_step ((first | (go_at_call 36; exact kin_calls (K1.out _)))))
            refine wpQuiet_nil ?_
            rintro _ ⟨z, rfl⟩
            have BZ : Hid (Below wr.heap.size wr z.u) := z.b
            generalize z.u = wz at BZ ⊢
            have RZ : Hid (TRow wz w.heap.size len (out.take t ++ j :: (out.drop t ++ List.replicate (len - (k + 1)) tz))) := RK.out.all BZ.out
            have TZ : Hid (TBox wz bt ⟨xi, xw, xs, xh⟩) := TB.out.all BZ.out
            have BW2 : Hid (Below w.heap.size w wz) := below_call BQ.out BQ.out.size BZ.out
            have z0 := TZ.out.2.1
            have z1 := TZ.out.2.2.1
            have z2 := TZ.out.2.2.2.1
            have z3 := TZ.out.2.2.2.2
            simp only at z0 z1 z2 z3
            have d0 := (BZ.out.cell (p := ⟨w.heap.size, (t - 1) * 4, none⟩) hgl).trans (x0 ⟨wr, Below.refl _ _⟩)
            have d1 := (BZ.out.cell (p := ⟨w.heap.size, (t - 1) * 4 + 1, none⟩) hgl).trans (x1 ⟨wr, Below.refl _ _⟩)
            have d2 := (BZ.out.cell (p := ⟨w.heap.size, (t - 1) * 4 + 2, none⟩) hgl).trans (x2 ⟨wr, Below.refl _ _⟩)
            have d3 := (BZ.out.cell (p := ⟨w.heap.size, (t - 1) * 4 + 3, none⟩) hgl).trans (x3 ⟨wr, Below.refl _ _⟩)
            clear y0 y1 y2 y3 x0 x1 x2 x3 K1 hne
            have f0 := RZ.out.frozen (t * 4)
            have f1 := RZ.out.frozen (t * 4 + 1)
            have f2 := RZ.out.frozen (t * 4 + 2)
            have f3 := RZ.out.frozen (t * 4 + 3)
            obtain ⟨q0, q1, q2, q3⟩ := TRow.c RZ.out (i := t) (hlen)
            generalize ((out.take t ++ j :: (out.drop t ++ List.replicate (len - (k + 1)) tz)).getD t tz).i = u0 at q0
            generalize ((out.take t ++ j :: (out.drop t ++ List.replicate (len - (k + 1)) tz)).getD t tz).w = u1 at q1
            generalize ((out.take t ++ j :: (out.drop t ++ List.replicate (len - (k + 1)) tz)).getD t tz).s = u2 at q2
            generalize ((out.take t ++ j :: (out.drop t ++ List.replicate (len - (k + 1)) tz)).getD t tz).h = u3 at q3
            go_wp2_with fail
            go_roundw
            case rel =>
              refine ⟨t - 1, by omega, by go_num, ⟨⟨yi, yw, ys, yh⟩, ?_⟩, ?_, TZ.out.past (TRow.sets t _ _ _ _) nbt, ?_⟩
              · have := TRow.put RZ.out t yi yw ys yh
                rw [HY.out, tsk_shift ht1 (by have := OUT.out.2; omega), ← HY.out] at this
                exact this
              · exact BW2.out.grown (TRow.sets t _ _ _ _) BW2.out.size (fun j hj => by cases hj; exact Nat.le_refl _)
              · show _ = _
                rw [PQ.out]
                exact posT_down ht1 (by rw [← HY.out]; simpa using HP.out)
            case measure => simp [intOf]; omega
    · have hlt' : ¬ (k : Int) < (len : Int) := by omega
      go_wp2_with fail
      go_ret
      have e : k = len := by omega
      subst e
      have := R.out
      rw [Nat.sub_self, List.replicate_zero, List.append_nil] at this
      exact ⟨rfl, this, B.out⟩

end Go.Proofs.Ytfmcnamjhnnimaa.Crew
