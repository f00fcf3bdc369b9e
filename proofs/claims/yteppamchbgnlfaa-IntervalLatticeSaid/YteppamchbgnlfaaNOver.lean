/- The reference's quotient of two numbers below 2^250, the second not 0. Conditions: as said. -/
import Derived.Test.YteppamchbgnlfaaGcd
namespace Go.Proofs.Yteppamchbgnlfaa
open Go.RowKit

/-- The blocks of a call of over: the number, what it is divided by, the step. -/
def OS (w W : World) (z a b s : Nat) : Prop :=
  NB W w.heap.size (limbs a) ∧ NB W (w.heap.size + 1) (limbs b) ∧ NB W z (limbs s) ∧ w.heap.size + 1 < z ∧ z < W.heap.size ∧ Below w.heap.size w W
section
variable {w W W' : World} {z a b s : Nat}
theorem OS.call (h : OS w W z a b s) (hb : Below W.heap.size W W') : OS w W' z a b s := by
  obtain ⟨h1, h2, h4, h5, h6, h7⟩ := h
  exact ⟨h1.below hb (by omega), h2.below hb (by omega), h4.below hb h6, h5, Nat.lt_of_lt_of_le h6 hb.size, h7.trans (hb.mono h7.size)⟩
end
end Go.Proofs.Yteppamchbgnlfaa
