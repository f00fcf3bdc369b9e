/- Fractions as rational numbers: what the operations return, their sizes, and the order. Conditions: as each states. -/
import Derived.Test.YteppamchbgnlfaaFrom
namespace Go.Proofs.Yteppamchbgnlfaa
open Go.RowKit

/-- The number that a fraction stands for. -/
def rv (n d : Int) : Rat := (n : Rat) / (d : Rat)
theorem cast_pos {d : Int} (h : 0 < d) : (0 : Rat) < (d : Rat) := by
  have := Rat.intCast_lt_intCast.2 h
  simpa using this
theorem cast_ne {d : Int} (h : 0 < d) : (d : Rat) ≠ 0 := by
  have := cast_pos h
  grind
theorem vP.pos {n d : Int} (h : vP n d) : 0 < d := by have := h.1; omega
theorem rv_le {an ad bn bd : Int} (ha : 0 < ad) (hb : 0 < bd) : rv an ad ≤ rv bn bd ↔ an * bd ≤ bn * ad := by
  have a := cast_pos ha
  have b := cast_pos hb
  have a' := cast_ne ha
  have b' := cast_ne hb
  have e1 : rv an ad * ((ad : Rat) * (bd : Rat)) = ((an * bd : Int) : Rat) := by unfold rv; rw [Rat.intCast_mul]; grind
  have e2 : rv bn bd * ((ad : Rat) * (bd : Rat)) = ((bn * ad : Int) : Rat) := by unfold rv; rw [Rat.intCast_mul]; grind
  have p : (0 : Rat) < (ad : Rat) * (bd : Rat) := Rat.mul_pos a b
  constructor
  · intro h
    have h1 := Rat.mul_le_mul_of_nonneg_left (c := (ad : Rat) * (bd : Rat)) h (Rat.le_of_lt p)
    rw [Rat.mul_comm _ (rv an ad), Rat.mul_comm _ (rv bn bd), e1, e2] at h1
    exact Rat.intCast_le_intCast.1 h1
  · intro h
    rcases Rat.le_total (a := rv an ad) (b := rv bn bd) with h1 | h1
    · exact h1
    · have h2 := Rat.mul_le_mul_of_nonneg_left (c := (ad : Rat) * (bd : Rat)) h1 (Rat.le_of_lt p)
      rw [Rat.mul_comm _ (rv an ad), Rat.mul_comm _ (rv bn bd), e1, e2] at h2
      have h3 : an * bd = bn * ad := by have := Rat.intCast_le_intCast.1 h2; omega
      have h4 : rv an ad * ((ad : Rat) * (bd : Rat)) = rv bn bd * ((ad : Rat) * (bd : Rat)) := by rw [e1, e2, h3]
      have h5 : rv an ad = rv bn bd := by
        have p' : (ad : Rat) * (bd : Rat) ≠ 0 := by grind
        grind
      rw [h5]
      exact Rat.le_refl
theorem cmp_le {an ad bn bd : Int} (ha : vP an ad) (hb : vP bn bd) : cmpR an ad bn bd ≤ 0 ↔ rv an ad ≤ rv bn bd := by
  rw [rv_le ha.pos hb.pos]
  unfold cmpR
  rw [if_pos ⟨ha, hb⟩, sgn_le]
  omega
/-- A valid fraction with numbers up to A and B. -/
def Sm (A B : Nat) (n d : Int) : Prop := vP n d ∧ n.natAbs ≤ A ∧ d.natAbs ≤ B
theorem Sm.mono {A B C D : Nat} {n d : Int} (h : Sm A B n d) (h1 : A ≤ C) (h2 : B ≤ D) : Sm C D n d := ⟨h.1, by have := h.2.1; omega, by have := h.2.2; omega⟩
theorem Sm.neg {A B : Nat} {n d : Int} (h : Sm A B n d) : Sm A B (-n) d := ⟨vP_neg.2 h.1, by have := h.2.1; omega, h.2.2⟩
end Go.Proofs.Yteppamchbgnlfaa
