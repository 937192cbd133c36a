/-
  Drawing what SingleNext and SingleRun are asked.
-/
import Derived.Test.YtlmlgidfgjejpaaDrawCrew
import Derived.Test.YtlmlgidfgjejpaaDrawLeft
import Derived.Test.YtlmlgidfgjejpaaSmoothCopy
namespace Go.Proofs.Ytlmlgidfgjejpaa.Draw
open Go.ChangeShapes Go.WideShapes Go.ChangeAt Go.RowKit
open Go.Proofs.Ytlmlgidfgjejpaa.Crew

/-- spec.DrawSingleNext. -/
theorem drawSingleNext_any (a : Option Addr) (len cap : Nat) (w : World) (B : Bytes w a len) (ht : len ≤ 9223372036854775806) :
    Calls Try.prog 17 #[.slice a len cap] w fun e w' => ∃ n m g cp g' cp', ∃ xs ys : List Int, e = .returned (.tuple #[.slice (some ⟨g, 0, none⟩) n cp, .slice (some ⟨g', 0, none⟩) m cp']) ∧ Ints w' (some ⟨g, 0, none⟩) n xs ∧ Ints w' (some ⟨g', 0, none⟩) m ys ∧ n ≤ 30 ∧ m ≤ 30 ∧ Below w.heap.size w w' := by
  go_enter Try.func17, Try.ntmps17
  go_wp2_with fail
  refine (new_any a len cap _ B ht).mono ?_
  rintro e w1 ⟨rfl, h, rfl⟩
  have C1 := cur_new (k := .i64) (T := 70) (cap := cap) B ht h
  clear B
  go_wp2_with fail
  refine (draw_any_lags _ _ a len cap _ C1).mono ?_
  rintro e w2 ⟨n, m, g, cp, g', cp', xs, ys, rfl, O, hx, hy, hn, hm⟩
  go_wp2_with fail
  go_ret2
  refine ⟨n, m, g, cp, g', cp', xs, ys, rfl, ?_, ?_, hn, hm, new_below O.one.left⟩
  · have := O.one.row.ints
    rwa [hx] at this
  · have := O.two.row.ints
    rwa [hy] at this

/-- spec.DrawSingleRun. -/
theorem drawSingleRun_any (a : Option Addr) (len cap : Nat) (w : World) (B : Bytes w a len) (ht : len ≤ 9223372036854775806) :
    Calls Try.prog 13 #[.slice a len cap] w fun e w' => ∃ n m g cp g' cp', ∃ xs ys : List Int, ∃ x : Int, e = .returned (.tuple #[.slice (some ⟨g, 0, none⟩) n cp, .slice (some ⟨g', 0, none⟩) m cp', .int .i64 x]) ∧ Ints w' (some ⟨g, 0, none⟩) n xs ∧ Ints w' (some ⟨g', 0, none⟩) m ys ∧ n ≤ 30 ∧ m ≤ 30 ∧ Below w.heap.size w w' := by
  go_enter Try.func13, Try.ntmps13
  go_wp2_with fail
  refine (new_any a len cap _ B ht).mono ?_
  rintro e w1 ⟨rfl, h, rfl⟩
  have C1 := cur_new (k := .i64) (T := 70) (cap := cap) B ht h
  have hp := C1.lt
  clear B
  go_wp2_with fail
  refine (draw_any_lags _ _ a len cap _ C1).mono ?_
  rintro e w2 ⟨n, m, g, cp, g', cp', xs, ys, rfl, O, hx, hy, hn, hm⟩
  have H2 : Hid (Own2 _ _ a len cap _ w2 g cp xs g' cp' ys ∧ xs.length = n ∧ ys.length = m ∧ Cur .i64 70 _ a len cap _) := ⟨O, hx, hy, C1⟩
  clear O hx hy C1
  have hmk := made_ints n (by omega)
  go_wp2_with fail
  refine (once_any _ _ a len cap _ _ (H2.out.1.one.left.cur H2.out.2.2.2)).mono ?_
  rintro e w3 ⟨t, rfl, L3⟩
  have H3 : Hid (Own2 _ _ a len cap _ w3 g cp xs g' cp' ys) := H2.out.1.draw hp L3
  clear L3
  cases t
  · go_wp2_with fail
    refine (draw_steps _ _ a len cap _ (H3.out.one.left.cur H2.out.2.2.2)).mono ?_
    rintro e w4 ⟨x, rfl, L4⟩
    have H4 : Hid (Own2 _ _ a len cap _ w4 g cp xs g' cp' ys) := H3.out.draw hp L4
    clear L4
    go_wp2_with fail
    go_ret3
    refine ⟨n, m, g, cp, g', cp', xs, ys, x, rfl, ?_, ?_, hn, hm, new_below H4.out.one.left⟩
    · have := H4.out.one.row.ints
      rwa [H2.out.2.1] at this
    · have := H4.out.two.row.ints
      rwa [H2.out.2.2.1] at this
  · have l3 := H3.out.one.left.1.size
    have H5 : Hid (Own2 70 w.heap.size a len cap (w.alloc (.cells #[.slice a len cap, .int .i64 0, .int .i64 h] 70)) (w3.alloc (.cells (zeros n) 2)) g cp xs w3.heap.size n (List.replicate n 0)) := by
      have L5 := left_all H3.out.one.left (below_new w3 (.cells (zeros n) 2)) hp
      exact ⟨⟨H3.out.one.row.alloc _, H3.out.one.base, L5⟩, ⟨row_zeros w3 n (by omega), l3, L5⟩, Nat.ne_of_lt H3.out.one.row.lt⟩
    go_wp2_with fail
    generalize w3.alloc (.cells (zeros n) 2) = w5 at *
    refine (draw_steps _ _ a len cap _ (H5.out.one.left.cur H2.out.2.2.2)).mono ?_
    rintro e w4 ⟨x, rfl, L4⟩
    have H4 := H5.out.draw hp L4
    clear L4
    go_wp2_with fail
    go_ret3
    refine ⟨n, n, g, cp, w3.heap.size, n, xs, List.replicate n 0, x, rfl, ?_, ?_, hn, hn, new_below H4.one.left⟩
    · have := H4.one.row.ints
      rwa [H2.out.2.1] at this
    · have := H4.two.row.ints
      rwa [List.length_replicate] at this

end Go.Proofs.Ytlmlgidfgjejpaa.Draw
