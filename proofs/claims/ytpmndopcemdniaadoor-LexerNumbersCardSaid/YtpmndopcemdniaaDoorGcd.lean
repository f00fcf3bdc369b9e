/- The reference's greatest common divisor of two numbers below 2^256. Conditions: one of them is not 0. -/
import Derived.Test.YtpmndopcemdniaaDoorNat2
import Derived.Laws.StructEq
import Derived.KernelRfl
import Derived.Deep.LoopGhost
namespace Go.Proofs.YtpmndopcemdniaaDoor
open Go.RowKit
section
variable {w W W' : World} {z a b : Nat}
theorem size_set8 (w : World) (g n : Nat) : (set8 w g n).heap.size = w.heap.size := by unfold set8; simp
end

theorem half_step {k g : Nat} (h : g % 2 = 0) : 2 ^ (k + 1) * (g / 2) = 2 ^ k * g := by
  rw [Nat.pow_succ, Nat.mul_assoc]
  congr 1
  omega
theorem twos_lt {k g a : Nat} (h : 2 ^ k * g = a) (hg : 0 < g) (ha : a < W8) : k < 256 := by
  rcases Nat.lt_or_ge k 256 with hk | hk
  · exact hk
  · have h1 : 2 ^ 256 ≤ 2 ^ k := Nat.pow_le_pow_right (by omega) hk
    have h2 : 2 ^ k ≤ 2 ^ k * g := Nat.le_mul_of_pos_right _ hg
    have h3 : W8 = 2 ^ 256 := by decide
    omega

theorem two_step {i G : Nat} : 2 ^ (i + 1) * G = 2 ^ i * G + 2 ^ i * G := by rw [Nat.pow_succ, Nat.mul_assoc, Nat.mul_comm 2 G, ← Nat.mul_assoc]; omega
theorem gcd_bound {k i G a b : Nat} (h : 2 ^ k * G = Nat.gcd a b) (hi : i < k) (ha : a < W8) (ha0 : 0 < a) : 2 ^ i * G + 2 ^ i * G < W8 := by
  have h1 : 2 ^ (i + 1) * G ≤ 2 ^ k * G := Nat.mul_le_mul_right _ (Nat.pow_le_pow_right (by omega) hi)
  have h2 : Nat.gcd a b ≤ a := Nat.gcd_le_left _ ha0
  have h3 := two_step (i := i) (G := G)
  omega

end Go.Proofs.YtpmndopcemdniaaDoor
