/- Exact fractions over integers: what the document asks of New, Valid, Add, Sub, Mul, Div and Compare. Conditions: none. -/
import Derived.WalkKit
namespace Go.Proofs.Yteppamchbgnlfaa

/-- A result: numerator, denominator, error. -/
abbrev R3 := Int × Int × Int
/-- N / D in lowest terms, with a sign, if it is in range. -/
def lowR (neg : Bool) (N D : Nat) : R3 :=
  if N / Nat.gcd N D ≤ 4611686018427387904 ∧ D / Nat.gcd N D ≤ 4611686018427387904 then ((if neg then -((N / Nat.gcd N D : Nat) : Int) else ((N / Nat.gcd N D : Nat) : Int)), ((D / Nat.gcd N D : Nat) : Int), 0) else (0, 0, 5)
def newR (n d : Int) : R3 :=
  if d = 0 then (0, 0, 6) else if n = -9223372036854775808 ∨ d = -9223372036854775808 then (0, 0, 5) else lowR (decide (n < 0) != decide (d < 0)) n.natAbs d.natAbs
def vP (n d : Int) : Prop := 1 ≤ d ∧ d ≤ 4611686018427387904 ∧ -4611686018427387904 ≤ n ∧ n ≤ 4611686018427387904 ∧ Nat.gcd n.natAbs d.natAbs = 1
instance (n d : Int) : Decidable (vP n d) := by unfold vP; infer_instance
def vB (n d : Int) : Bool := decide (vP n d)
def prodR (a c b d : Int) : R3 := lowR (decide (a * b < 0)) (a * b).natAbs (c * d).natAbs
def mulR (a c b d : Int) : R3 := if vP a c ∧ vP b d then prodR a c b d else (0, 0, 1)
def divR (a c b d : Int) : R3 := if vP a c ∧ vP b d then (if b = 0 then (0, 0, 6) else if b < 0 then mulR a c (-d) (-b) else mulR a c d b) else (0, 0, 1)
def sgn (z : Int) : Int := if z < 0 then -1 else if 0 < z then 1 else 0
def cmpR (a c b d : Int) : Int := if vP a c ∧ vP b d then sgn (a * d - b * c) else 0

/-- The lowest terms are found by any common factor that leaves coprime numbers. -/
theorem lowR_of {neg : Bool} {N D k N' D' : Nat} (hN : N = N' * k) (hD : D = D' * k) (hk : 0 < k) (hc : Nat.Coprime N' D') :
    lowR neg N D = if N' ≤ 4611686018427387904 ∧ D' ≤ 4611686018427387904 then ((if neg then -(N' : Int) else (N' : Int)), (D' : Int), 0) else (0, 0, 5) := by
  have hg : Nat.gcd N D = k := by rw [hN, hD, Nat.gcd_mul_right, hc, Nat.one_mul]
  have h1 : N / k = N' := by rw [hN, Nat.mul_div_cancel _ hk]
  have h2 : D / k = D' := by rw [hD, Nat.mul_div_cancel _ hk]
  unfold lowR
  rw [hg, h1, h2]

/-- The product, what is common taken out crosswise. -/
theorem prod_low {an ad bn bd : Int} (ha : vP an ad) (hb : vP bn bd) {g h : Nat} (hg : g = Nat.gcd an.natAbs bd.natAbs) (hh : h = Nat.gcd bn.natAbs ad.natAbs) :
    prodR an ad bn bd = if (an.natAbs / g) * (bn.natAbs / h) ≤ 4611686018427387904 ∧ (ad.natAbs / h) * (bd.natAbs / g) ≤ 4611686018427387904 then
      ((if decide (an * bn < 0) then -(((an.natAbs / g) * (bn.natAbs / h) : Nat) : Int) else (((an.natAbs / g) * (bn.natAbs / h) : Nat) : Int)), (((ad.natAbs / h) * (bd.natAbs / g) : Nat) : Int), 0) else (0, 0, 5) := by
  obtain ⟨a1, _, _, _, a5⟩ := ha
  obtain ⟨b1, _, _, _, b5⟩ := hb
  have hg0 : 0 < g := by rw [hg]; exact Nat.gcd_pos_of_pos_right _ (by omega)
  have hh0 : 0 < h := by rw [hh]; exact Nat.gcd_pos_of_pos_right _ (by omega)
  have d1 : g ∣ an.natAbs := hg ▸ Nat.gcd_dvd_left _ _
  have d2 : g ∣ bd.natAbs := hg ▸ Nat.gcd_dvd_right _ _
  have d3 : h ∣ bn.natAbs := hh ▸ Nat.gcd_dvd_left _ _
  have d4 : h ∣ ad.natAbs := hh ▸ Nat.gcd_dvd_right _ _
  unfold prodR
  rw [Int.natAbs_mul, Int.natAbs_mul]
  generalize hxa : an.natAbs = A at *
  generalize hxb : bn.natAbs = B at *
  generalize hxc : ad.natAbs = C at *
  generalize hxd : bd.natAbs = D at *
  obtain ⟨A', rfl⟩ := d1
  obtain ⟨D', rfl⟩ := d2
  obtain ⟨B', rfl⟩ := d3
  obtain ⟨C', rfl⟩ := d4
  rw [Nat.mul_div_cancel_left _ hg0, Nat.mul_div_cancel_left _ hh0, Nat.mul_div_cancel_left _ hh0, Nat.mul_div_cancel_left _ hg0]
  have c1 : Nat.Coprime A' D' := by
    rw [Nat.gcd_mul_left] at hg
    exact Nat.eq_of_mul_eq_mul_left hg0 (by omega)
  have c2 : Nat.Coprime B' C' := by
    rw [Nat.gcd_mul_left] at hh
    exact Nat.eq_of_mul_eq_mul_left hh0 (by omega)
  have c3 : Nat.Coprime A' C' := Nat.Coprime.coprime_dvd_left (Nat.dvd_mul_left _ _) (Nat.Coprime.coprime_dvd_right (Nat.dvd_mul_left _ _) a5)
  have c4 : Nat.Coprime B' D' := Nat.Coprime.coprime_dvd_left (Nat.dvd_mul_left _ _) (Nat.Coprime.coprime_dvd_right (Nat.dvd_mul_left _ _) b5)
  refine lowR_of (k := g * h) ?_ ?_ (Nat.mul_pos hg0 hh0) (Nat.Coprime.mul_right (Nat.Coprime.mul_left c3 c2) (Nat.Coprime.mul_left c1 c4))
  · simp only [Nat.mul_comm, Nat.mul_left_comm]
  · simp only [Nat.mul_comm, Nat.mul_left_comm]
end Go.Proofs.Yteppamchbgnlfaa
