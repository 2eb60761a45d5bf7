/- Arithmetic of words, as the walk spells it. -/
import Derived.Test.YtednijejgadmnaaDoorMthW
import Derived.WalkKit
import Derived.Laws.Bits64b
namespace Go.Proofs.YtednijejgadmnaaDoor
open Go.RowKit Mth

theorem wrap_u64 (n : Nat) (h : n < W64) : IntKind.u64.wrap (n : Int) = (n : Int) := IntWalk.u64_in _ ⟨by omega, by rw [W64_eq] at h; omega⟩
theorem pow_cast (r : Nat) : (2 : Int) ^ (8 * r) = ((256 ^ r : Nat) : Int) := by
  rw [show (256 : Nat) = 2 ^ 8 from rfl, ← Nat.pow_mul]
  simp
theorem or_word (x d r : Nat) (hx : x < W64) (hd : d < 256) (hr : r < 8) :
    bits BinOp.or IntKind.u64 (x : Int) (IntKind.u64.wrap (IntKind.u64.wrap (d : Int) * (2 : Int) ^ (8 * r))) = ((x ||| d * 256 ^ r : Nat) : Int) := by
  have h1 : d * 256 ^ r < W64 := by
    have h2 : 256 ^ r ≤ 256 ^ 7 := Nat.pow_le_pow_right (by decide) (by omega)
    have h3 : d * 256 ^ r ≤ 255 * 256 ^ 7 := Nat.mul_le_mul (by omega) h2
    rw [W64_eq]; omega
  rw [wrap_u64 d (by rw [W64_eq]; omega), pow_cast, ← Int.natCast_mul, wrap_u64 _ h1]
  exact bits_or_u64_nat _ _ (by rw [W64_eq] at hx; exact hx) (by rw [W64_eq] at h1; exact h1)
theorem byte_word (g r : Nat) : ((g : Int) / (2 : Int) ^ (8 * r) % 256) = ((g / 256 ^ r % 256 : Nat) : Int) := by
  rw [pow_cast]; simp
end Go.Proofs.YtednijejgadmnaaDoor
