/- Bits of int and of bytes as sums and remainders. Over no program. -/
import Derived.WalkKit
namespace Go.Proofs.YtdkhgeknjekkoaaGreat.Bit
open Go

theorem wraps_i64 (n : Int) (h₀ : 0 ≤ n) (h₁ : n < 2 ^ 63) : IntKind.i64.wrap n = n := by rw [IntKind.wrap_i64]; omega

theorem i64_mask (i : Nat) (hi : i ≤ 63) (x : Int) (h₀ : 0 ≤ x) (h₁ : x < 2 ^ 63) : bits .and .i64 x (2 ^ i - 1) = x % 2 ^ i :=
  bits_mask .i64 63 (by decide) wraps_i64 i hi x h₀ h₁

end Go.Proofs.YtdkhgeknjekkoaaGreat.Bit
