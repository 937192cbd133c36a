/-
  math/bits.Len64 and LeadingZeros64: how far a word can be moved up.
-/
import Derived.Test.YtjhenfdmbagaiaaGreatChecked
import Derived.Lib.Strings
import Derived.Lib.Slices
import Derived.Lib.Small
import Derived.Lib.Walk
import Derived.Lib.BitFns
import Derived.Below
namespace Go.Proofs.YtjhenfdmbagaiaaGreat.Ratio
open Go.RowKit

theorem bitLen_pos (f : Nat) : ∀ x : Nat, 0 < x → x < 2 ^ f → f ≤ 64 → 0 < Lib.bitLen x ∧ 2 ^ (Lib.bitLen x - 1) ≤ x ∧ x < 2 ^ Lib.bitLen x := by
  induction f with
  | zero => intro x h0 h; simp at h; omega
  | succ f ih =>
    intro x h0 h hf
    have hx64 : x < 2 ^ 64 := Nat.lt_of_lt_of_le h (Nat.pow_le_pow_right (by omega) hf)
    rw [Lib.bitLen_half x (by omega) hx64]
    by_cases h1 : x = 1
    · subst h1; decide
    · obtain ⟨a, b, c⟩ := ih (x / 2) (by omega) (by rw [Nat.pow_succ] at h; omega) (by omega)
      refine ⟨by omega, ?_, ?_⟩
      · rw [show 1 + Lib.bitLen (x / 2) - 1 = (Lib.bitLen (x / 2) - 1) + 1 by omega, Nat.pow_succ]; omega
      · rw [show 1 + Lib.bitLen (x / 2) = Lib.bitLen (x / 2) + 1 by omega, Nat.pow_succ]; omega

/-- What the table of 256 answers at the head byte: how many bits the whole has, less those below. -/
theorem atHead (x E : Int) (k : Nat) (h0 : 0 ≤ E) (h1 : E ≤ 255) (e : E.toNat = x.toNat / 2 ^ k) (hk : 2 ^ k ≤ x.toNat ∨ k = 0) (hx : x.toNat < 2 ^ 64) :
    Lib.len8 E = (Lib.bitLen x.toNat : Int) - k ∧ Lib.bitLen x.toNat ≤ 8 + k ∧ k ≤ Lib.bitLen x.toNat := by
  have a := Lib.len8_of E h0 h1
  have b := Lib.bitLen_le8' E h0 h1
  rw [e] at a b
  rcases hk with hk | hk
  · have c := Lib.bitLen_shift k x.toNat hk hx
    omega
  · subst hk
    simp at a b
    omega

set_option maxHeartbeats 4000000 in
set_option maxRecDepth 100000 in
theorem Len64_any (x : Int) (w : World) (h0 : 0 ≤ x) (h1 : x ≤ 18446744073709551615) :
    Calls Tryz.prog 137 #[.int .u64 x] w fun e w' => e = .returned (.int .i64 (Lib.bitLen x.toNat)) ∧ w' = w := by
  have hx : x.toNat < 2 ^ 64 := by omega
  go_enter Tryz.func137, Tryz.ntmps137
  go_wp2
  all_goals (go_ret; refine ⟨congrArg Ending.returned (congrArg (Value.int IntKind.i64) ?_), rfl⟩)
  · obtain ⟨a, b, c⟩ := atHead x (x / 4294967296 / 65536 / 256 % 256) 56 (by omega) (by omega) (by omega) (.inl (by omega)) hx
    omega
  · obtain ⟨a, b, c⟩ := atHead x (x / 4294967296 / 65536 % 256) 48 (by omega) (by omega) (by omega) (.inl (by omega)) hx
    omega
  · obtain ⟨a, b, c⟩ := atHead x (x / 4294967296 / 256 % 256) 40 (by omega) (by omega) (by omega) (.inl (by omega)) hx
    omega
  · obtain ⟨a, b, c⟩ := atHead x (x / 4294967296 % 256) 32 (by omega) (by omega) (by omega) (.inl (by omega)) hx
    omega
  · obtain ⟨a, b, c⟩ := atHead x (x / 65536 / 256 % 256) 24 (by omega) (by omega) (by omega) (.inl (by omega)) hx
    omega
  · obtain ⟨a, b, c⟩ := atHead x (x / 65536 % 256) 16 (by omega) (by omega) (by omega) (.inl (by omega)) hx
    omega
  · obtain ⟨a, b, c⟩ := atHead x (x / 256 % 256) 8 (by omega) (by omega) (by omega) (.inl (by omega)) hx
    omega
  · obtain ⟨a, b, c⟩ := atHead x (x % 256) 0 (by omega) (by omega) (by omega) (.inr rfl) hx
    omega

/-- math/bits.LeadingZeros64 of a word that is not 0: moved up by it, the word's first bit is set. -/
theorem Lead_any (y : Nat) (hy : 0 < y) (hy2 : y < 18446744073709551616) (w : World) :
    Calls Tryz.prog 147 #[.int .u64 y] w fun e w' => ∃ s : Nat, e = .returned (.int .i64 s) ∧ s ≤ 63 ∧ Hid (9223372036854775808 ≤ y * 2 ^ s ∧ y * 2 ^ s < 18446744073709551616) ∧ w' = w := by
  obtain ⟨p1, p2, p3⟩ := bitLen_pos 64 y hy (by simpa using hy2) (by omega)
  have p4 := Lib.bitLen_le y 64 (by omega) (by simpa using hy2)
  go_enter Tryz.func147, Tryz.ntmps147
  go_wp2_with (go_at_call 137; refine (Len64_any y _ (by omega) (by omega)).mono ?_; rintro e w' ⟨rfl, rfl⟩)
  go_ret
  refine ⟨64 - Lib.bitLen y, congrArg Ending.returned (congrArg (Value.int IntKind.i64) ?_), by omega, ⟨?_, ?_⟩, rfl⟩
  · omega
  · have := Nat.mul_le_mul_right (2 ^ (64 - Lib.bitLen y)) p2
    rw [← Nat.pow_add, show Lib.bitLen y - 1 + (64 - Lib.bitLen y) = 63 by omega] at this
    simpa using this
  · have := (Nat.mul_lt_mul_right (a := 2 ^ (64 - Lib.bitLen y)) (Nat.pow_pos (by omega))).2 p3
    rw [← Nat.pow_add, show Lib.bitLen y + (64 - Lib.bitLen y) = 64 by omega] at this
    simpa using this

end Go.Proofs.YtjhenfdmbagaiaaGreat.Ratio
