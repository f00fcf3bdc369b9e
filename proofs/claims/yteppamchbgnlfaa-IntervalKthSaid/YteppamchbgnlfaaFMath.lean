/- Exact fractions over integers: what the document asks of New, Valid, Add, Sub, Mul, Div and Compare. Conditions: none. -/
import Derived.WalkKit
namespace Go.Proofs.Yteppamchbgnlfaa

/-- A result: numerator, denominator, error. -/
abbrev R3 := Int × Int × Int
/-- N / D in lowest terms, with a sign, if it is in range. -/
def lowR (neg : Bool) (N D : Nat) : R3 :=
  if N / Nat.gcd N D ≤ 4611686018427387904 ∧ D / Nat.gcd N D ≤ 4611686018427387904 then ((if neg then -((N / Nat.gcd N D : Nat) : Int) else ((N / Nat.gcd N D : Nat) : Int)), ((D / Nat.gcd N D : Nat) : Int), 0) else (0, 0, 5)
def newR (n d : Int) : R3 :=
  if d = 0 then (0, 0, 6) else if n = -9223372036854775808 ∨ d = -9223372036854775808 then (0, 0, 5) else lowR (decide (n < 0) != decide (d < 0)) n.natAbs d.natAbs
def vP (n d : Int) : Prop := 1 ≤ d ∧ d ≤ 4611686018427387904 ∧ -4611686018427387904 ≤ n ∧ n ≤ 4611686018427387904 ∧ Nat.gcd n.natAbs d.natAbs = 1
instance (n d : Int) : Decidable (vP n d) := by unfold vP; infer_instance
def vB (n d : Int) : Bool := decide (vP n d)
def sumR (a c b d : Int) : R3 := lowR (decide (a * d + b * c < 0)) (a * d + b * c).natAbs (c * d).natAbs
def addR (a c b d : Int) : R3 := if vP a c ∧ vP b d then sumR a c b d else (0, 0, 1)
def subR (a c b d : Int) : R3 := addR a c (-b) d
def prodR (a c b d : Int) : R3 := lowR (decide (a * b < 0)) (a * b).natAbs (c * d).natAbs
def mulR (a c b d : Int) : R3 := if vP a c ∧ vP b d then prodR a c b d else (0, 0, 1)
def divR (a c b d : Int) : R3 := if vP a c ∧ vP b d then (if b = 0 then (0, 0, 6) else if b < 0 then mulR a c (-d) (-b) else mulR a c d b) else (0, 0, 1)
def sgn (z : Int) : Int := if z < 0 then -1 else if 0 < z then 1 else 0
def cmpR (a c b d : Int) : Int := if vP a c ∧ vP b d then sgn (a * d - b * c) else 0

theorem lowR_zero (s t : Bool) (D : Nat) : lowR s 0 D = lowR t 0 D := by
  unfold lowR
  simp
/-- The lowest terms are found by any common factor that leaves coprime numbers. -/
theorem lowR_of {neg : Bool} {N D k N' D' : Nat} (hN : N = N' * k) (hD : D = D' * k) (hk : 0 < k) (hc : Nat.Coprime N' D') :
    lowR neg N D = if N' ≤ 4611686018427387904 ∧ D' ≤ 4611686018427387904 then ((if neg then -(N' : Int) else (N' : Int)), (D' : Int), 0) else (0, 0, 5) := by
  have hg : Nat.gcd N D = k := by rw [hN, hD, Nat.gcd_mul_right, hc, Nat.one_mul]
  have h1 : N / k = N' := by rw [hN, Nat.mul_div_cancel _ hk]
  have h2 : D / k = D' := by rw [hD, Nat.mul_div_cancel _ hk]
  unfold lowR
  rw [hg, h1, h2]

theorem coprime_sum {an bn ar br ad : Int} (h1 : Nat.Coprime an.natAbs ad.natAbs) (h2 : Nat.Coprime ar.natAbs br.natAbs) (h3 : ar.natAbs ∣ ad.natAbs) : Nat.Coprime (an * br + bn * ar).natAbs ar.natAbs := by
  apply Nat.eq_one_of_dvd_one
  generalize hd : Nat.gcd (an * br + bn * ar).natAbs ar.natAbs = d
  have hda : d ∣ ar.natAbs := hd ▸ Nat.gcd_dvd_right _ _
  have hds : d ∣ (an * br + bn * ar).natAbs := hd ▸ Nat.gcd_dvd_left _ _
  have i1 : (d : Int) ∣ an * br + bn * ar := Int.ofNat_dvd_left.2 hds
  have i2 : (d : Int) ∣ bn * ar := Int.dvd_trans (Int.ofNat_dvd_left.2 hda) (Int.dvd_mul_left _ _)
  have i3 : (d : Int) ∣ an * br := (Int.dvd_add_left i2).1 i1
  have i4 : d ∣ an.natAbs * br.natAbs := by rw [← Int.natAbs_mul]; exact Int.ofNat_dvd_left.1 i3
  have c1 : Nat.Coprime d br.natAbs := Nat.Coprime.coprime_dvd_left hda h2
  have i5 : d ∣ an.natAbs := Nat.Coprime.dvd_of_dvd_mul_right c1 i4
  rw [← h1]
  exact Nat.dvd_gcd i5 (Nat.dvd_trans hda h3)

/-- The sum over the least common denominator. -/
theorem sum_low {an ad bn bd : Int} (ha : vP an ad) (hb : vP bn bd) {c ar br g : Nat} (hc : c = Nat.gcd ad.natAbs bd.natAbs) (har : ad = ar * c) (hbr : bd = br * c) (hg : g = Nat.gcd (an * br + bn * ar).natAbs c) :
    sumR an ad bn bd = if (an * br + bn * ar).natAbs / g ≤ 4611686018427387904 ∧ ar * (bd.natAbs / g) ≤ 4611686018427387904 then
      ((if decide (an * br + bn * ar < 0) then -(((an * br + bn * ar).natAbs / g : Nat) : Int) else (((an * br + bn * ar).natAbs / g : Nat) : Int)), ((ar * (bd.natAbs / g) : Nat) : Int), 0) else (0, 0, 5) := by
  obtain ⟨a1, _, _, _, a5⟩ := ha
  obtain ⟨b1, _, _, _, b5⟩ := hb
  have hc0 : 0 < c := by rw [hc]; exact Nat.gcd_pos_of_pos_left _ (by omega)
  have hgc : g ∣ c := hg ▸ Nat.gcd_dvd_right _ _
  have hg0 : 0 < g := Nat.pos_of_dvd_of_pos hgc hc0
  have hadn : ad.natAbs = ar * c := by rw [har, Int.natAbs_mul]; rfl
  have hbdn : bd.natAbs = br * c := by rw [hbr, Int.natAbs_mul]; rfl
  have hcop : Nat.Coprime ar br := by
    have h : Nat.gcd (ar * c) (br * c) = Nat.gcd ar br * c := Nat.gcd_mul_right _ _ _
    rw [← hadn, ← hbdn, ← hc] at h
    have : Nat.gcd ar br * c = 1 * c := by omega
    exact Nat.eq_of_mul_eq_mul_right hc0 this
  have hS : an * bd + bn * ad = (an * br + bn * ar) * c := by
    rw [hbr, har, Int.add_mul]
    simp only [Int.mul_assoc]
  have e1 : Nat.Coprime (an * br + bn * ar).natAbs ar := by
    have := coprime_sum (an := an) (bn := bn) (ar := ar) (br := br) (ad := ad) a5 hcop (by rw [hadn]; exact Nat.dvd_mul_right _ _)
    exact this
  have e2 : Nat.Coprime (an * br + bn * ar).natAbs br := by
    have := coprime_sum (an := bn) (bn := an) (ar := br) (br := ar) (ad := bd) b5 hcop.symm (by rw [hbdn]; exact Nat.dvd_mul_right _ _)
    rw [Int.add_comm] at this
    exact this
  obtain ⟨S, hSn⟩ : ∃ S, (an * br + bn * ar).natAbs = S := ⟨_, rfl⟩
  have hSg : g ∣ S := by rw [← hSn, hg]; exact Nat.gcd_dvd_left _ _
  obtain ⟨S', rfl⟩ := hSg
  obtain ⟨c', rfl⟩ := hgc
  have h3 : Nat.Coprime S' c' := by
    rw [hSn] at hg
    rw [Nat.gcd_mul_left] at hg
    exact Nat.eq_of_mul_eq_mul_left hg0 (by omega)
  rw [hSn] at e1 e2 ⊢
  have f1 : Nat.Coprime S' ar := Nat.Coprime.coprime_dvd_left (Nat.dvd_mul_left _ _) e1
  have f2 : Nat.Coprime S' br := Nat.Coprime.coprime_dvd_left (Nat.dvd_mul_left _ _) e2
  have hbg : bd.natAbs / g = br * c' := by
    rw [hbdn, Nat.mul_left_comm, Nat.mul_div_cancel_left _ hg0]
  rw [Nat.mul_div_cancel_left _ hg0, hbg]
  unfold sumR
  have hneg : decide (an * bd + bn * ad < 0) = decide (an * br + bn * ar < 0) := by
    rw [hS]
    have : (0 : Int) < ((g * c' : Nat) : Int) := by omega
    apply decide_eq_decide.2
    constructor
    · intro h
      rcases Int.lt_or_le (an * br + bn * ar) 0 with h' | h'
      · exact h'
      · have := Int.mul_nonneg h' (Int.le_of_lt this); omega
    · intro h
      exact Int.mul_neg_of_neg_of_pos h this
  rw [hneg]
  refine lowR_of (k := g * (g * c')) ?_ ?_ (Nat.mul_pos hg0 hc0) (Nat.Coprime.mul_right f1 (Nat.Coprime.mul_right f2 h3))
  · rw [hS, Int.natAbs_mul, hSn, Int.natAbs_natCast, ← Nat.mul_assoc S', Nat.mul_comm S' g]
  · rw [Int.natAbs_mul, hadn, hbdn]
    simp only [Nat.mul_comm, Nat.mul_left_comm]

/-- The product, what is common taken out crosswise. -/
theorem prod_low {an ad bn bd : Int} (ha : vP an ad) (hb : vP bn bd) {g h : Nat} (hg : g = Nat.gcd an.natAbs bd.natAbs) (hh : h = Nat.gcd bn.natAbs ad.natAbs) :
    prodR an ad bn bd = if (an.natAbs / g) * (bn.natAbs / h) ≤ 4611686018427387904 ∧ (ad.natAbs / h) * (bd.natAbs / g) ≤ 4611686018427387904 then
      ((if decide (an * bn < 0) then -(((an.natAbs / g) * (bn.natAbs / h) : Nat) : Int) else (((an.natAbs / g) * (bn.natAbs / h) : Nat) : Int)), (((ad.natAbs / h) * (bd.natAbs / g) : Nat) : Int), 0) else (0, 0, 5) := by
  obtain ⟨a1, _, _, _, a5⟩ := ha
  obtain ⟨b1, _, _, _, b5⟩ := hb
  have hg0 : 0 < g := by rw [hg]; exact Nat.gcd_pos_of_pos_right _ (by omega)
  have hh0 : 0 < h := by rw [hh]; exact Nat.gcd_pos_of_pos_right _ (by omega)
  have d1 : g ∣ an.natAbs := hg ▸ Nat.gcd_dvd_left _ _
  have d2 : g ∣ bd.natAbs := hg ▸ Nat.gcd_dvd_right _ _
  have d3 : h ∣ bn.natAbs := hh ▸ Nat.gcd_dvd_left _ _
  have d4 : h ∣ ad.natAbs := hh ▸ Nat.gcd_dvd_right _ _
  unfold prodR
  rw [Int.natAbs_mul, Int.natAbs_mul]
  generalize hxa : an.natAbs = A at *
  generalize hxb : bn.natAbs = B at *
  generalize hxc : ad.natAbs = C at *
  generalize hxd : bd.natAbs = D at *
  obtain ⟨A', rfl⟩ := d1
  obtain ⟨D', rfl⟩ := d2
  obtain ⟨B', rfl⟩ := d3
  obtain ⟨C', rfl⟩ := d4
  rw [Nat.mul_div_cancel_left _ hg0, Nat.mul_div_cancel_left _ hh0, Nat.mul_div_cancel_left _ hh0, Nat.mul_div_cancel_left _ hg0]
  have c1 : Nat.Coprime A' D' := by
    rw [Nat.gcd_mul_left] at hg
    exact Nat.eq_of_mul_eq_mul_left hg0 (by omega)
  have c2 : Nat.Coprime B' C' := by
    rw [Nat.gcd_mul_left] at hh
    exact Nat.eq_of_mul_eq_mul_left hh0 (by omega)
  have c3 : Nat.Coprime A' C' := Nat.Coprime.coprime_dvd_left (Nat.dvd_mul_left _ _) (Nat.Coprime.coprime_dvd_right (Nat.dvd_mul_left _ _) a5)
  have c4 : Nat.Coprime B' D' := Nat.Coprime.coprime_dvd_left (Nat.dvd_mul_left _ _) (Nat.Coprime.coprime_dvd_right (Nat.dvd_mul_left _ _) b5)
  refine lowR_of (k := g * h) ?_ ?_ (Nat.mul_pos hg0 hh0) (Nat.Coprime.mul_right (Nat.Coprime.mul_left c3 c2) (Nat.Coprime.mul_left c1 c4))
  · simp only [Nat.mul_comm, Nat.mul_left_comm]
  · simp only [Nat.mul_comm, Nat.mul_left_comm]
end Go.Proofs.Yteppamchbgnlfaa
