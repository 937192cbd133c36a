/-
  math/bits.Div64 where the first word is below the divisor: quotient and rest.
-/
import Derived.Test.YtjhenfdmbagaiaaGreatRatioBase
import Derived.Test.YtjhenfdmbagaiaaGreatRatioMath
import Derived.Test.YtjhenfdmbagaiaaGreatLenBase
import Derived.Deep.CutBlock
namespace Go.Proofs.YtjhenfdmbagaiaaGreat.Ratio
open Go.ChangeShapes Go.WideShapes Go.ChangeAt Go.RowKit

theorem ret_uu {a b c d : Int} (h : a = c) (k : b = d) : Ending.returned (.tuple #[.int .u64 a, .int .u64 b]) = .returned (.tuple #[.int .u64 c, .int .u64 d]) := by rw [h, k]

set_option maxHeartbeats 1000000 in
set_option maxRecDepth 100000 in
theorem Div64_walk (hi lo y : Nat) (hh : 0 < hi) (hy : hi < y) (hlo : lo < 18446744073709551616) (hy2 : y < 18446744073709551616) (w : World) :
    Calls Tryz.prog 140 #[.int .u64 hi, .int .u64 lo, .int .u64 y] w fun e w' => e = .returned (.tuple #[.int .u64 (((hi * 18446744073709551616 + lo) / y : Nat) : Int), .int .u64 (((hi * 18446744073709551616 + lo) % y : Nat) : Int)]) ∧ w' = w := by
  have b1 : ((y : Int) == 0) = false := by simp; omega
  have b2 : ((hi : Int) == 0) = false := by simp; omega
  go_enter Tryz.func140, Tryz.ntmps140
  go_wp2_with fail
  refine (Lead_any y (by omega) hy2 _).mono ?_
  rintro e w1 ⟨s, rfl, hs, S, rfl⟩
  obtain ⟨Y, hY⟩ : ∃ Y, Y = y * 2 ^ s := ⟨_, rfl⟩
  have SY : 9223372036854775808 ≤ Y ∧ Y < 18446744073709551616 := by rw [hY]; exact S.out
  have eY : IntKind.u64.wrap ((y : Int) * 2 ^ s) = (Y : Int) := by
    rw [show (y : Int) * 2 ^ s = ((y * 2 ^ s : Nat) : Int) by simp, ← hY]; exact wrapN _ SY.2
  have HY : Hid (Y = y * 2 ^ s) := hY
  clear hY
  obtain ⟨y1, h1⟩ : ∃ y1, y1 = Y / 4294967296 := ⟨_, rfl⟩
  obtain ⟨y0, h0⟩ : ∃ y0, y0 = Y % 4294967296 := ⟨_, rfl⟩
  have e1 : (Y : Int) / 4294967296 = (y1 : Int) := by omega
  have e0 : bits .and .u64 (Y : Int) 4294967295 = (y0 : Int) := by rw [maskN _ SY.2, h0]
  have H10 : Hid (y1 = Y / 4294967296 ∧ y0 = Y % 4294967296) := ⟨h1, h0⟩
  have y1b : 2147483648 ≤ y1 ∧ y1 < 4294967296 := by omega
  have y0b : y0 < 4294967296 := by omega
  clear h1 h0
  obtain ⟨U, hU⟩ : ∃ U, U = hi * 2 ^ s + lo / 2 ^ (64 - s) := ⟨_, rfl⟩
  have hUY : U < Y := by rw [hU, HY.out]; exact moved_lt hi lo y s (by omega) hy hlo
  have eU : bits .or .u64 (IntKind.u64.wrap ((hi : Int) * 2 ^ s)) ((lo : Int) / 2 ^ (64 - s)) = (U : Int) := by
    rw [hU]; exact moved_or hi lo y s hs hy hlo S.out.2
  have HU : Hid (U = hi * 2 ^ s + lo / 2 ^ (64 - s)) := hU
  clear hU
  obtain ⟨L, hL⟩ : ∃ L, L = lo * 2 ^ s % 18446744073709551616 := ⟨_, rfl⟩
  have eL : IntKind.u64.wrap ((lo : Int) * 2 ^ s) = (L : Int) := by
    rw [show (lo : Int) * 2 ^ s = ((lo * 2 ^ s : Nat) : Int) by simp, wrapM, hL]
  have HL : Hid (L = lo * 2 ^ s % 18446744073709551616) := hL
  have Lb : L < 18446744073709551616 := by omega
  clear hL
  obtain ⟨l1, hl1⟩ : ∃ l1, l1 = L / 4294967296 := ⟨_, rfl⟩
  obtain ⟨l0, hl0⟩ : ∃ l0, l0 = L % 4294967296 := ⟨_, rfl⟩
  have el1 : (L : Int) / 4294967296 = (l1 : Int) := by omega
  have el0 : bits .and .u64 (L : Int) 4294967295 = (l0 : Int) := by rw [maskN _ Lb, hl0]
  have HL10 : Hid (l1 = L / 4294967296 ∧ l0 = L % 4294967296) := ⟨hl1, hl0⟩
  have l1b : l1 < 4294967296 := by omega
  have l0b : l0 < 4294967296 := by omega
  clear hl1 hl0
  obtain ⟨g1, g2, g3, g4⟩ := guess U l1 Y y1 y0 (by have := H10.out; omega) y0b y1b.1 hUY l1b
  obtain ⟨q, hq⟩ : ∃ q, q = U / y1 := ⟨_, rfl⟩
  obtain ⟨r, hr⟩ : ∃ r, r = U % y1 := ⟨_, rfl⟩
  rw [← hq] at g1 g2 g3
  rw [← hr] at g3 g4
  have eq : (U : Int) / (y1 : Int) = (q : Int) := by rw [hq]; simp
  have er := rest_word U y1 q r g3 (by omega)
  have G : Hid (q * y1 + r = U ∧ dig U l1 Y ≤ q) := ⟨g3, g1⟩
  clear hq hr g1 g3 S
  obtain ⟨SY1, SY2⟩ := SY
  obtain ⟨y1b1, y1b2⟩ := y1b
  have HYe : Hid (Y = y1 * 4294967296 + y0) := by have := H10.out; show Y = _; omega
  go_upto_block 0 with fail
  clear eY e1 e0 eU eL el1 el0 eq er
  go_cut [15, 16] from 67 to 85 (fun a b wx => a = .int .u64 (dig U l1 Y : Nat) ∧ (∃ v, b = .int .u64 v) ∧ wx = w1)
  case first =>
    go_wp2_with fail
    go_loop [15, 16] (fun a b => ∃ q r : Nat, a = .int .u64 q ∧ b = .int .u64 r ∧ r < 4294967296 ∧ q ≤ 4294967297 ∧ Hid (q * y1 + r = U ∧ dig U l1 Y ≤ q)) (fun a _ => (intOf a).toNat)
    case atStart => exact ⟨q, r, rfl, rfl, by omega, g2, G⟩
    case round =>
      clear G g4 g2
      obtain ⟨a, b, rfl, rfl, hb, ha, E⟩ := hrel
      have mb : a * y0 ≤ 4294967297 * 4294967296 := Nat.mul_le_mul ha (by omega)
      by_cases hB : (4294967296 : Int) ≤ (a : Int)
      · obtain ⟨t1, t2, t3⟩ := lower U l1 Y y1 y0 a b HYe.out hUY l1b E.out.1 E.out.2 (.inl (by omega))
        have T : Hid (dig U l1 Y ≤ a - 1 ∧ (a - 1) * y1 + (b + y1) = U) := ⟨t2, t3⟩
        clear t2 t3 E mb
        by_cases hr2 : (4294967296 : Int) ≤ (b : Int) + (y1 : Int)
        · go_wp2_with fail
          go_meet
          exact ⟨congrArg (Value.int .u64) (by have := found' U l1 Y y1 y0 (a - 1) (b + y1) HYe.out y0b hUY T.out.2 T.out.1 (by omega); omega), ⟨_, rfl⟩, rfl⟩
        · go_wp2_with fail
          go_round
          case rel => exact ⟨a - 1, b + y1, congrArg (Value.int .u64) (by omega), congrArg (Value.int .u64) (by omega), by omega, by omega, T.out.2, T.out.1⟩
          case measure => simp [intOf]; omega
      · obtain ⟨m, hm⟩ : ∃ m, m = a * y0 := ⟨_, rfl⟩
        have hm2 : m < 18446744073709551616 := by
          have : a * y0 ≤ 4294967295 * 4294967295 := Nat.mul_le_mul (by omega) (by omega)
          omega
        have em : IntKind.u64.wrap ((a : Int) * (y0 : Int)) = (m : Int) := by
          rw [show (a : Int) * (y0 : Int) = ((a * y0 : Nat) : Int) by simp, ← hm]; exact wrapN _ hm2
        have M : Hid (m = a * y0) := hm
        clear hm mb
        by_cases ht : 4294967296 * (b : Int) + (l1 : Int) < (m : Int)
        · obtain ⟨t1, t2, t3⟩ := lower U l1 Y y1 y0 a b HYe.out hUY l1b E.out.1 E.out.2 (.inr (by rw [← M.out]; omega))
          have T : Hid (dig U l1 Y ≤ a - 1 ∧ (a - 1) * y1 + (b + y1) = U) := ⟨t2, t3⟩
          clear t2 t3 E
          by_cases hr2 : (4294967296 : Int) ≤ (b : Int) + (y1 : Int)
          · go_wp2_with fail
            go_meet
            exact ⟨congrArg (Value.int .u64) (by have := found' U l1 Y y1 y0 (a - 1) (b + y1) HYe.out y0b hUY T.out.2 T.out.1 (by omega); omega), ⟨_, rfl⟩, rfl⟩
          · go_wp2_with fail
            go_round
            case rel => exact ⟨a - 1, b + y1, congrArg (Value.int .u64) (by omega), congrArg (Value.int .u64) (by omega), by omega, by omega, T.out.2, T.out.1⟩
            case measure => simp [intOf]; omega
        · go_wp2_with fail
          go_meet
          exact ⟨congrArg (Value.int .u64) (by have := found U l1 Y y1 y0 a b HYe.out hUY E.out.1 E.out.2 (by rw [← M.out]; omega); omega), ⟨_, rfl⟩, rfl⟩
  case rest =>
    obtain ⟨rfl, ⟨v, rfl⟩, rfl⟩ := hcut
    clear G g4 g2
    obtain ⟨d1, hd1⟩ : ∃ d1, d1 = dig U l1 Y := ⟨_, rfl⟩
    obtain ⟨R, hR⟩ : ∃ R, R = left U l1 Y := ⟨_, rfl⟩
    have hRY : R < Y := by rw [hR]; exact left_lt U l1 Y hUY
    have eR := left_word U l1 Y d1 hUY SY2 hd1
    rw [← hR] at eR
    rw [← hd1]
    have d1b : d1 < 4294967296 := by rw [hd1]; exact dig_lt U l1 Y hUY l1b
    have D1 : Hid (d1 = dig U l1 Y ∧ R = left U l1 Y) := ⟨hd1, hR⟩
    clear hd1 hR
    obtain ⟨g1, g2, g3, g4⟩ := guess R l0 Y y1 y0 HYe.out y0b y1b1 hRY l0b
    obtain ⟨q2, hq⟩ : ∃ q, q = R / y1 := ⟨_, rfl⟩
    obtain ⟨r2, hr⟩ : ∃ r, r = R % y1 := ⟨_, rfl⟩
    rw [← hq] at g1 g2 g3
    rw [← hr] at g3 g4
    have eq : (R : Int) / (y1 : Int) = (q2 : Int) := by rw [hq]; simp
    have er := rest_word R y1 q2 r2 g3 (by omega)
    have G : Hid (q2 * y1 + r2 = R ∧ dig R l0 Y ≤ q2) := ⟨g3, g1⟩
    clear hq hr g1 g3
    go_upto_block 2 with fail
    clear eR eq er
    go_cut [16, 18] from 102 to 120 (fun b a wx => a = .int .u64 (dig R l0 Y : Nat) ∧ (∃ v, b = .int .u64 v) ∧ wx = wc)
    case first =>
      go_wp2_with fail
      go_loop [16, 18] (fun b a => ∃ q r : Nat, a = .int .u64 q ∧ b = .int .u64 r ∧ r < 4294967296 ∧ q ≤ 4294967297 ∧ Hid (q * y1 + r = R ∧ dig R l0 Y ≤ q)) (fun _ a => (intOf a).toNat)
      case atStart => exact ⟨q2, r2, rfl, rfl, by omega, g2, G⟩
      case round =>
        clear G g4 g2
        obtain ⟨a, b, rfl, rfl, hb, ha, E⟩ := hrel
        have mb : a * y0 ≤ 4294967297 * 4294967296 := Nat.mul_le_mul ha (by omega)
        by_cases hB : (4294967296 : Int) ≤ (a : Int)
        · obtain ⟨t1, t2, t3⟩ := lower R l0 Y y1 y0 a b HYe.out hRY l0b E.out.1 E.out.2 (.inl (by omega))
          have T : Hid (dig R l0 Y ≤ a - 1 ∧ (a - 1) * y1 + (b + y1) = R) := ⟨t2, t3⟩
          clear t2 t3 E mb
          by_cases hr2 : (4294967296 : Int) ≤ (b : Int) + (y1 : Int)
          · go_wp2_with fail
            go_meet
            exact ⟨congrArg (Value.int .u64) (by have := found' R l0 Y y1 y0 (a - 1) (b + y1) HYe.out y0b hRY T.out.2 T.out.1 (by omega); omega), ⟨_, rfl⟩, rfl⟩
          · go_wp2_with fail
            go_round
            case rel => exact ⟨a - 1, b + y1, congrArg (Value.int .u64) (by omega), congrArg (Value.int .u64) (by omega), by omega, by omega, T.out.2, T.out.1⟩
            case measure => simp [intOf]; omega
        · obtain ⟨m, hm⟩ : ∃ m, m = a * y0 := ⟨_, rfl⟩
          have hm2 : m < 18446744073709551616 := by
            have : a * y0 ≤ 4294967295 * 4294967295 := Nat.mul_le_mul (by omega) (by omega)
            omega
          have em : IntKind.u64.wrap ((a : Int) * (y0 : Int)) = (m : Int) := by
            rw [show (a : Int) * (y0 : Int) = ((a * y0 : Nat) : Int) by simp, ← hm]; exact wrapN _ hm2
          have M : Hid (m = a * y0) := hm
          clear hm mb
          by_cases ht : 4294967296 * (b : Int) + (l0 : Int) < (m : Int)
          · obtain ⟨t1, t2, t3⟩ := lower R l0 Y y1 y0 a b HYe.out hRY l0b E.out.1 E.out.2 (.inr (by rw [← M.out]; omega))
            have T : Hid (dig R l0 Y ≤ a - 1 ∧ (a - 1) * y1 + (b + y1) = R) := ⟨t2, t3⟩
            clear t2 t3 E
            by_cases hr2 : (4294967296 : Int) ≤ (b : Int) + (y1 : Int)
            · go_wp2_with fail
              go_meet
              exact ⟨congrArg (Value.int .u64) (by have := found' R l0 Y y1 y0 (a - 1) (b + y1) HYe.out y0b hRY T.out.2 T.out.1 (by omega); omega), ⟨_, rfl⟩, rfl⟩
            · go_wp2_with fail
              go_round
              case rel => exact ⟨a - 1, b + y1, congrArg (Value.int .u64) (by omega), congrArg (Value.int .u64) (by omega), by omega, by omega, T.out.2, T.out.1⟩
              case measure => simp [intOf]; omega
          · go_wp2_with fail
            go_meet
            exact ⟨congrArg (Value.int .u64) (by have := found R l0 Y y1 y0 a b HYe.out hRY E.out.1 E.out.2 (by rw [← M.out]; omega); omega), ⟨_, rfl⟩, rfl⟩
    case rest =>
      obtain ⟨rfl, ⟨v2, rfl⟩, rfl⟩ := hcut
      clear G g4 g2
      obtain ⟨d0, hd0⟩ : ∃ d0, d0 = dig R l0 Y := ⟨_, rfl⟩
      obtain ⟨R2, hR2⟩ : ∃ R2, R2 = left R l0 Y := ⟨_, rfl⟩
      have hR2Y : R2 < Y := by rw [hR2]; exact left_lt R l0 Y hRY
      have eR2 := left_word R l0 Y d0 hRY SY2 hd0
      rw [← hR2] at eR2
      rw [← hd0]
      have d0b : d0 < 4294967296 := by rw [hd0]; exact dig_lt R l0 Y hRY l0b
      have fin := two_digits hi lo y s Y U L l1 l0 (by omega) HY.out HU.out HL.out HL10.out.1 HL10.out.2 hUY
      rw [← D1.out.1, ← D1.out.2, ← hd0, ← hR2] at fin
      have F : Hid (d1 * 4294967296 + d0 = (hi * 18446744073709551616 + lo) / y ∧ R2 / 2 ^ s = (hi * 18446744073709551616 + lo) % y) := fin
      clear fin hd0 hR2
      go_wp2_with fail
      go_ret2
      exact ⟨ret_uu (by rw [← F.out.1]; omega) (by rw [← F.out.2]; simp), rfl⟩

end Go.Proofs.YtjhenfdmbagaiaaGreat.Ratio
