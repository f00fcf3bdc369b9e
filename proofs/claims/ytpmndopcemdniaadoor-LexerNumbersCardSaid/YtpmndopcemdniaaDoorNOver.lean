/- The reference's quotient of two numbers below 2^250, the second not 0. Conditions: as said. -/
import Derived.Test.YtpmndopcemdniaaDoorGcd
namespace Go.Proofs.YtpmndopcemdniaaDoor
open Go.RowKit

section
variable {w W W' : World} {z a b s : Nat}
end
theorem pow_step {b i : Nat} : b * 2 ^ (i + 1) = b * 2 ^ i + b * 2 ^ i := by rw [Nat.pow_succ, ← Nat.mul_assoc]; omega
/-- What lies below 2^250 can be doubled. -/
def W250 : Nat := 2 ^ 250
theorem w250 : W250 + W250 < W8 := by decide

end Go.Proofs.YtpmndopcemdniaaDoor
