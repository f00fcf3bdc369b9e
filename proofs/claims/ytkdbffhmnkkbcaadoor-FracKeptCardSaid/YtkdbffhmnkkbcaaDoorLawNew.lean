/- The law FracNew holds. Conditions: the variables as laid; numbers of 64 bits. -/
import Derived.Test.YtkdbffhmnkkbcaaDoorLives
namespace Go.Proofs.YtkdbffhmnkkbcaaDoor
open Go.RowKit

theorem lowR_good {neg : Bool} {N D : Nat} (hD : 0 < D) {r1 r2 : Int} (h : lowR neg N D = (r1, r2, 0)) : vP r1 r2 := by
  unfold lowR at h
  split at h
  · rename_i hb
    have hg : 0 < Nat.gcd N D := Nat.gcd_pos_of_pos_right _ hD
    have hc : Nat.gcd (N / Nat.gcd N D) (D / Nat.gcd N D) = 1 := Nat.coprime_div_gcd_div_gcd hg
    have hp : 0 < D / Nat.gcd N D := Nat.div_pos (Nat.gcd_le_right _ hD) hg
    generalize N / Nat.gcd N D = x at *
    generalize D / Nat.gcd N D = y at *
    injection h with h1 h2
    injection h2 with h3 h4
    have hx : r1.natAbs = x := by
      rw [← h1]; split <;> omega
    refine ⟨by omega, by omega, by omega, by omega, ?_⟩
    rw [hx, show r2.natAbs = y by omega]
    exact hc
  · injection h with _ h2
    injection h2 with _ h4
    simp at h4

theorem newR_good {n d r1 r2 : Int} (h : newR n d = (r1, r2, 0)) : vP r1 r2 := by
  unfold newR at h
  split at h
  · injection h with _ h2
    injection h2 with _ h4
    simp at h4
  · rename_i hd
    split at h
    · injection h with _ h2
      injection h2 with _ h4
      simp at h4
    · exact lowR_good (by omega) h

theorem new_own (n d : Int) : vB n d = (((newR n d).2.2 == 0) && (((newR n d).1 == n) && ((newR n d).2.1 == d))) := by
  by_cases hd : 1 ≤ d
  · rw [vB_new n d hd, Bool.beq_comm (a := n), Bool.beq_comm (a := d)]
  · have hv : vB n d = false := decide_eq_false (fun h => hd h.1)
    rw [hv]
    symm
    obtain ⟨⟨r1, r2, r3⟩, hr⟩ : ∃ r, newR n d = r := ⟨_, rfl⟩
    rw [hr]
    simp only
    by_cases h3 : r3 = 0
    · subst h3
      have := (newR_good hr).1
      rw [show (r2 == d) = false by simp; omega]
      simp
    · rw [show (r3 == 0) = false by simpa using h3]
      simp

end Go.Proofs.YtkdbffhmnkkbcaaDoor
