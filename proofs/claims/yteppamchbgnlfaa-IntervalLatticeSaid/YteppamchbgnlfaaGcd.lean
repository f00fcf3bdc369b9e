/- The reference's greatest common divisor of two numbers below 2^256. Conditions: one of them is not 0. -/
import Derived.Test.YteppamchbgnlfaaNat2
import Derived.Laws.StructEq
import Derived.KernelRfl
import Derived.Deep.LoopGhost
namespace Go.Proofs.Yteppamchbgnlfaa
open Go.RowKit
/-- The blocks of a call of gcd. -/
def GS (w W : World) (z a b : Nat) : Prop :=
  NB W w.heap.size (limbs a) ∧ NB W (w.heap.size + 1) (limbs b) ∧ NB W (w.heap.size + 1 + 1) (limbs 0) ∧ NB W z (limbs 0) ∧ w.heap.size + 1 + 1 < z ∧ z < W.heap.size ∧ Below w.heap.size w W
section
variable {w W W' : World} {z a b : Nat}
theorem GS.call (h : GS w W z a b) (hb : Below W.heap.size W W') : GS w W' z a b := by
  obtain ⟨h1, h2, h3, h4, h5, h6, h7⟩ := h
  exact ⟨h1.below hb (by omega), h2.below hb (by omega), h3.below hb (by omega), h4.below hb h6, h5, Nat.lt_of_lt_of_le h6 hb.size, h7.trans (hb.mono h7.size)⟩
end

end Go.Proofs.Yteppamchbgnlfaa
