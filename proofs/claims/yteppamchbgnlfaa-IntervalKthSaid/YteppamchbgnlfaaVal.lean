/- Fractions as rational numbers: what the operations return, their sizes, and the order. Conditions: as each states. -/
import Derived.Test.YteppamchbgnlfaaFrom
namespace Go.Proofs.Yteppamchbgnlfaa
open Go.RowKit

/-- The number that a fraction stands for. -/
def rv (n d : Int) : Rat := (n : Rat) / (d : Rat)
theorem cast_pos {d : Int} (h : 0 < d) : (0 : Rat) < (d : Rat) := by
  have := Rat.intCast_lt_intCast.2 h
  simpa using this
theorem cast_ne {d : Int} (h : 0 < d) : (d : Rat) ≠ 0 := by
  have := cast_pos h
  grind
theorem vP.pos {n d : Int} (h : vP n d) : 0 < d := by have := h.1; omega
theorem rv_scale {n d r1 r2 k : Int} (hk : 0 < k) (hr : 0 < r2) (h1 : n = r1 * k) (h2 : d = r2 * k) : rv n d = rv r1 r2 := by
  unfold rv
  rw [h1, h2, Rat.intCast_mul, Rat.intCast_mul]
  have a := cast_ne hk
  have b := cast_ne hr
  grind
theorem rv_add {an ad bn bd : Int} (ha : 0 < ad) (hb : 0 < bd) : rv an ad + rv bn bd = rv (an * bd + bn * ad) (ad * bd) := by
  unfold rv
  rw [Rat.intCast_add, Rat.intCast_mul, Rat.intCast_mul, Rat.intCast_mul]
  have a := cast_ne ha
  have b := cast_ne hb
  grind
theorem rv_mul {an ad bn bd : Int} (ha : 0 < ad) (hb : 0 < bd) : rv an ad * rv bn bd = rv (an * bn) (ad * bd) := by
  unfold rv
  rw [Rat.intCast_mul, Rat.intCast_mul]
  have a := cast_ne ha
  have b := cast_ne hb
  grind
theorem rv_neg (an ad : Int) : rv (-an) ad = - rv an ad := by
  unfold rv
  rw [Rat.intCast_neg]
  grind
theorem rv_le {an ad bn bd : Int} (ha : 0 < ad) (hb : 0 < bd) : rv an ad ≤ rv bn bd ↔ an * bd ≤ bn * ad := by
  have a := cast_pos ha
  have b := cast_pos hb
  have a' := cast_ne ha
  have b' := cast_ne hb
  have e1 : rv an ad * ((ad : Rat) * (bd : Rat)) = ((an * bd : Int) : Rat) := by unfold rv; rw [Rat.intCast_mul]; grind
  have e2 : rv bn bd * ((ad : Rat) * (bd : Rat)) = ((bn * ad : Int) : Rat) := by unfold rv; rw [Rat.intCast_mul]; grind
  have p : (0 : Rat) < (ad : Rat) * (bd : Rat) := Rat.mul_pos a b
  constructor
  · intro h
    have h1 := Rat.mul_le_mul_of_nonneg_left (c := (ad : Rat) * (bd : Rat)) h (Rat.le_of_lt p)
    rw [Rat.mul_comm _ (rv an ad), Rat.mul_comm _ (rv bn bd), e1, e2] at h1
    exact Rat.intCast_le_intCast.1 h1
  · intro h
    rcases Rat.le_total (a := rv an ad) (b := rv bn bd) with h1 | h1
    · exact h1
    · have h2 := Rat.mul_le_mul_of_nonneg_left (c := (ad : Rat) * (bd : Rat)) h1 (Rat.le_of_lt p)
      rw [Rat.mul_comm _ (rv an ad), Rat.mul_comm _ (rv bn bd), e1, e2] at h2
      have h3 : an * bd = bn * ad := by have := Rat.intCast_le_intCast.1 h2; omega
      have h4 : rv an ad * ((ad : Rat) * (bd : Rat)) = rv bn bd * ((ad : Rat) * (bd : Rat)) := by rw [e1, e2, h3]
      have h5 : rv an ad = rv bn bd := by
        have p' : (ad : Rat) * (bd : Rat) ≠ 0 := by grind
        grind
      rw [h5]
      exact Rat.le_refl
theorem cmp_le {an ad bn bd : Int} (ha : vP an ad) (hb : vP bn bd) : cmpR an ad bn bd ≤ 0 ↔ rv an ad ≤ rv bn bd := by
  rw [rv_le ha.pos hb.pos]
  unfold cmpR
  rw [if_pos ⟨ha, hb⟩, sgn_le]
  omega
theorem cmp_ge {an ad bn bd : Int} (ha : vP an ad) (hb : vP bn bd) : 0 ≤ cmpR an ad bn bd ↔ rv bn bd ≤ rv an ad := by
  rw [← cmp_le hb ha, cmp_anti]
  omega
theorem rv_inj {an ad bn bd : Int} (ha : vP an ad) (hb : vP bn bd) (h : rv an ad = rv bn bd) : an = bn ∧ ad = bd := by
  have h1 := (rv_le (an := an) (bn := bn) ha.pos hb.pos).1 (by rw [h]; exact Rat.le_refl)
  have h2 := (rv_le (an := bn) (bn := an) hb.pos ha.pos).1 (by rw [h]; exact Rat.le_refl)
  exact vP_eq ha hb (by omega)

/-- A valid fraction with numbers up to A and B. -/
def Sm (A B : Nat) (n d : Int) : Prop := vP n d ∧ n.natAbs ≤ A ∧ d.natAbs ≤ B
theorem Sm.mono {A B C D : Nat} {n d : Int} (h : Sm A B n d) (h1 : A ≤ C) (h2 : B ≤ D) : Sm C D n d := ⟨h.1, by have := h.2.1; omega, by have := h.2.2; omega⟩
theorem add_sm {A B C D : Nat} {an ad bn bd : Int} (ha : Sm A B an ad) (hb : Sm C D bn bd) (h1 : A * D + C * B ≤ 4611686018427387904) (h2 : B * D ≤ 4611686018427387904) :
    ∃ r1 r2, addR an ad bn bd = (r1, r2, 0) ∧ Sm (A * D + C * B) (B * D) r1 r2 ∧ rv r1 r2 = rv an ad + rv bn bd := by
  have z1 : (an * bd + bn * ad).natAbs ≤ A * D + C * B := abs_sum ha.2.1 hb.2.2 hb.2.1 ha.2.2
  have z2 : ad * bd ≤ ((B * D : Nat) : Int) := mul_le ha.2.2 hb.2.2
  obtain ⟨r1, r2, k, h3, h4, h5, h6, h7, h8, h9⟩ := addR_ok ha.1 hb.1 (by omega) (by omega)
  refine ⟨r1, r2, h3, ⟨h4, by omega, by have := h4.1; omega⟩, ?_⟩
  rw [rv_add ha.1.pos hb.1.pos, rv_scale h5 h4.pos h6 h7]
theorem mul_sm {A B C D : Nat} {an ad bn bd : Int} (ha : Sm A B an ad) (hb : Sm C D bn bd) (h1 : A * C ≤ 4611686018427387904) (h2 : B * D ≤ 4611686018427387904) :
    ∃ r1 r2, mulR an ad bn bd = (r1, r2, 0) ∧ Sm (A * C) (B * D) r1 r2 ∧ rv r1 r2 = rv an ad * rv bn bd := by
  have z1 : (an * bn).natAbs ≤ A * C := abs_mul ha.2.1 hb.2.1
  have z2 : ad * bd ≤ ((B * D : Nat) : Int) := mul_le ha.2.2 hb.2.2
  obtain ⟨r1, r2, k, h3, h4, h5, h6, h7, h8, h9⟩ := mulR_ok ha.1 hb.1 (by omega) (by omega)
  refine ⟨r1, r2, h3, ⟨h4, by omega, by have := h4.1; omega⟩, ?_⟩
  rw [rv_mul ha.1.pos hb.1.pos, rv_scale h5 h4.pos h6 h7]
theorem Sm.neg {A B : Nat} {n d : Int} (h : Sm A B n d) : Sm A B (-n) d := ⟨vP_neg.2 h.1, by have := h.2.1; omega, h.2.2⟩
theorem sub_sm {A B C D : Nat} {an ad bn bd : Int} (ha : Sm A B an ad) (hb : Sm C D bn bd) (h1 : A * D + C * B ≤ 4611686018427387904) (h2 : B * D ≤ 4611686018427387904) :
    ∃ r1 r2, subR an ad bn bd = (r1, r2, 0) ∧ Sm (A * D + C * B) (B * D) r1 r2 ∧ rv r1 r2 = rv an ad - rv bn bd := by
  obtain ⟨r1, r2, h3, h4, h5⟩ := add_sm ha hb.neg h1 h2
  refine ⟨r1, r2, h3, h4, ?_⟩
  rw [h5, rv_neg]
  grind
theorem inv_sm {C D : Nat} {bn bd : Int} (hb : Sm C D bn bd) (h0 : bn ≠ 0) : ∃ n d, Sm D C n d ∧ rv n d * rv bn bd = 1 ∧ (∀ an ad, vP an ad → divR an ad bn bd = mulR an ad n d) := by
  have hp := hb.1.pos
  by_cases hn : bn < 0
  · refine ⟨-bd, -bn, ⟨vP_inv2 hb.1 hn, by have := hb.2.2; omega, by have := hb.2.1; omega⟩, ?_, fun an ad ha => ?_⟩
    · rw [rv_mul (by omega) hp]
      have e : rv (-bd * bn) (-bn * bd) = rv 1 1 := rv_scale (k := -bn * bd) (Int.mul_pos (by omega) hp) (by omega) (by rw [Int.one_mul]; grind) (by rw [Int.one_mul])
      rw [e]
      unfold rv
      grind
    · unfold divR; rw [if_pos ⟨ha, hb.1⟩, if_neg h0, if_pos hn]
  · have hn' : 0 < bn := by omega
    refine ⟨bd, bn, ⟨vP_inv hb.1 hn', hb.2.2, hb.2.1⟩, ?_, fun an ad ha => ?_⟩
    · rw [rv_mul hn' hp]
      have e : rv (bd * bn) (bn * bd) = rv 1 1 := rv_scale (k := bn * bd) (Int.mul_pos hn' hp) (by omega) (by rw [Int.one_mul, Int.mul_comm]) (by rw [Int.one_mul])
      rw [e]
      unfold rv
      grind
    · unfold divR; rw [if_pos ⟨ha, hb.1⟩, if_neg h0, if_neg (by omega)]
theorem div_sm {A B C D : Nat} {an ad bn bd : Int} (ha : Sm A B an ad) (hb : Sm C D bn bd) (h0 : bn ≠ 0) (h1 : A * D ≤ 4611686018427387904) (h2 : B * C ≤ 4611686018427387904) :
    ∃ r1 r2, divR an ad bn bd = (r1, r2, 0) ∧ Sm (A * D) (B * C) r1 r2 ∧ rv r1 r2 = rv an ad / rv bn bd := by
  obtain ⟨n, d, hs, hm, he⟩ := inv_sm hb h0
  obtain ⟨r1, r2, h3, h4, h5⟩ := mul_sm ha hs h1 h2
  refine ⟨r1, r2, by rw [he an ad ha.1]; exact h3, h4, ?_⟩
  rw [h5]
  have hz : rv bn bd ≠ 0 := by
    intro e
    rw [e] at hm
    grind
  grind
end Go.Proofs.Yteppamchbgnlfaa
