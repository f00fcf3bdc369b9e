/- The reference's Small fractions and Small intervals. Conditions: numbers of 64 bits. -/
import Derived.Test.YteppamchbgnlfaaVal
namespace Go.Proofs.Yteppamchbgnlfaa
open Go.RowKit

theorem vl_two {a b c d : Int} (h : vP a b) (k : vP c d) : VL [(a, b), (c, d)] := by
  intro x hx
  simp only [List.mem_cons, List.mem_nil_iff, or_false] at hx
  rcases hx with rfl | rfl
  · exact h
  · exact k
/-- A valid interval with small ends. -/
def SmI (A B : Nat) (a b c d : Int) : Prop := Sm A B a b ∧ Sm A B c d ∧ rv a b ≤ rv c d
theorem SmI.vI {A B : Nat} {a b c d : Int} (h : SmI A B a b c d) : vI a b c d := ⟨⟨h.1.1, h.2.1.1⟩, (cmp_le h.1.1 h.2.1.1).2 h.2.2⟩
end Go.Proofs.Yteppamchbgnlfaa
