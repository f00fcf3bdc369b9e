/- Contracts of the reference model's comparisons of slices. Conditions: slices within the reach. -/
import Derived.BigQuiet
import Derived.Deep.QuietTactic
import Derived.Test.YtkdbffhmnkkbcaaDoorHelp
namespace Go.Proofs.YtkdbffhmnkkbcaaDoor.W
open Go.RowKit

/-- An element of what came in. -/
theorem InAt.get {k : IntKind} {n₀ : Nat} {W : World} {a : Option Addr} {len cap : Nat} {zs : List Int} (h : InAt k n₀ W (.slice a len cap) zs) {j : Nat} (hj : j < zs.length) : ∃ b off, a = some ⟨b, off, none⟩ ∧ b < n₀ ∧ W.cell? ⟨b, off + j, none⟩ = some (.int k (zs[j]?.getD 0)) := by
  rcases h with h | ⟨_, _, _, rfl⟩
  · exact h.get hj
  · simp at hj
/-- Two lists are the same. -/
def sameL (xs ys : List Int) : Bool := decide (xs = ys)
theorem sameL_self (xs : List Int) : sameL xs xs = true := by simp [sameL]
theorem sameL_of {xs ys : List Int} (h : xs = ys) : sameL xs ys = true := by simp [sameL, h]
theorem sameL_not {xs ys : List Int} (h : xs ≠ ys) : sameL xs ys = false := by simp [sameL, h]
theorem ret_bool {a b : Bool} (h : a = b) : Ending.returned (.bool a) = .returned (.bool b) := by rw [h]

end Go.Proofs.YtkdbffhmnkkbcaaDoor.W
