/-
  Drawing what StrideNext and StrideRun are asked.
-/
import Derived.Test.YtdneohbgdhoigaaDrawLags
import Derived.Test.YtdneohbgdhoigaaDrawLeft
namespace Go.Proofs.Ytdneohbgdhoigaa.Draw
open Go.ChangeShapes Go.WideShapes Go.ChangeAt Go.RowKit
open Go.Proofs.Ytdneohbgdhoigaa.Crew

/-- spec.DrawStrideNext. -/
theorem drawStrideNext_any (a : Option Addr) (len cap : Nat) (w : World) (B : Bytes w a len) (ht : len ≤ 9223372036854775806) :
    Calls Try.prog 15 #[.slice a len cap] w fun e w' => ∃ n m g cp g' cp', ∃ xs ys : List Int, e = .returned (.tuple #[.slice (some ⟨g, 0, none⟩) n cp, .slice (some ⟨g', 0, none⟩) m cp']) ∧ Ints w' (some ⟨g, 0, none⟩) n xs ∧ Ints w' (some ⟨g', 0, none⟩) m ys ∧ n ≤ 30 ∧ m ≤ 30 ∧ Below w.heap.size w w' := by
  go_enter Try.func15, Try.ntmps15
  go_wp2_with fail
  refine (new_any a len cap _ B ht).mono ?_
  rintro e w1 ⟨rfl, h, rfl⟩
  have C1 := cur_new (k := .i64) (T := 68) (cap := cap) B ht h
  clear B
  go_wp2_with fail
  refine (draw_any_lags _ _ a len cap _ C1).mono ?_
  rintro e w2 ⟨n, m, g, cp, g', cp', xs, ys, rfl, O, hx, hy, hn, hm⟩
  go_wp2_with fail
  go_ret2
  refine ⟨n, m, g, cp, g', cp', xs, ys, rfl, ?_, ?_, hn, hm, new_below O.one.left⟩
  · have := O.one.row.ints
    rwa [hx] at this
  · have := O.two.row.ints
    rwa [hy] at this

/-- spec.DrawStrideRun. -/
theorem drawStrideRun_any (a : Option Addr) (len cap : Nat) (w : World) (B : Bytes w a len) (ht : len ≤ 9223372036854775806) :
    Calls Try.prog 16 #[.slice a len cap] w fun e w' => ∃ n m g cp g' cp', ∃ xs ys : List Int, ∃ x : Int, e = .returned (.tuple #[.slice (some ⟨g, 0, none⟩) n cp, .slice (some ⟨g', 0, none⟩) m cp', .int .i64 x]) ∧ Ints w' (some ⟨g, 0, none⟩) n xs ∧ Ints w' (some ⟨g', 0, none⟩) m ys ∧ n ≤ 30 ∧ m ≤ 30 ∧ Below w.heap.size w w' := by
  go_enter Try.func16, Try.ntmps16
  go_wp2_with fail
  refine (new_any a len cap _ B ht).mono ?_
  rintro e w1 ⟨rfl, h, rfl⟩
  have C1 := cur_new (k := .i64) (T := 68) (cap := cap) B ht h
  clear B
  go_wp2_with fail
  refine (draw_any_lags _ _ a len cap _ C1).mono ?_
  rintro e w2 ⟨n, m, g, cp, g', cp', xs, ys, rfl, O, hx, hy, hn, hm⟩
  have C2 := O.one.left.cur C1
  have b1 := O.one.base
  have b2 := O.two.base
  go_wp2_with fail
  refine (draw_steps _ _ a len cap _ C2).mono ?_
  rintro e w3 ⟨x, rfl, L3⟩
  go_wp2_with fail
  go_ret3
  refine ⟨n, m, g, cp, g', cp', xs, ys, x, rfl, ?_, ?_, hn, hm, new_below (O.one.left.trans L3)⟩
  · have := (O.one.row.other L3.1 (by simp at b1; simp; omega)).ints
    rwa [hx] at this
  · have := (O.two.row.other L3.1 (by simp at b2; simp; omega)).ints
    rwa [hy] at this

end Go.Proofs.Ytdneohbgdhoigaa.Draw
