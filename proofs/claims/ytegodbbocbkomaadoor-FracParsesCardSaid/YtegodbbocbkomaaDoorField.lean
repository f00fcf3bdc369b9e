/- The laws of fractions that FracField speaks of, for results that are in range. Conditions: as each states. -/
import Derived.Test.YtegodbbocbkomaaDoorOf
namespace Go.Proofs.YtegodbbocbkomaaDoor

/-- A sum in range. -/
theorem addR_ok {an ad bn bd : Int} (ha : vP an ad) (hb : vP bn bd) (hz : (an * bd + bn * ad).natAbs ≤ 4611686018427387904) (hd : ad * bd ≤ 4611686018427387904) :
    ∃ r1 r2 k : Int, addR an ad bn bd = (r1, r2, 0) ∧ vP r1 r2 ∧ 0 < k ∧ an * bd + bn * ad = r1 * k ∧ ad * bd = r2 * k ∧ r1.natAbs ≤ (an * bd + bn * ad).natAbs ∧ r2 ≤ ad * bd := by
  have hp : 0 < ad * bd := Int.mul_pos (by have := ha.1; omega) (by have := hb.1; omega)
  obtain ⟨r1, r2, k, h1, h2⟩ := new_small hp hd hz
  refine ⟨r1, r2, k, ?_, h2⟩
  rw [← h1]
  unfold addR sumR newR
  rw [if_pos ⟨ha, hb⟩, if_neg (by omega), if_neg (by omega), decide_eq_false (by omega : ¬ ad * bd < 0)]
  congr 1
  cases decide (an * bd + bn * ad < 0) <;> rfl
/-- A product in range. -/
theorem mulR_ok {an ad bn bd : Int} (ha : vP an ad) (hb : vP bn bd) (hz : (an * bn).natAbs ≤ 4611686018427387904) (hd : ad * bd ≤ 4611686018427387904) :
    ∃ r1 r2 k : Int, mulR an ad bn bd = (r1, r2, 0) ∧ vP r1 r2 ∧ 0 < k ∧ an * bn = r1 * k ∧ ad * bd = r2 * k ∧ r1.natAbs ≤ (an * bn).natAbs ∧ r2 ≤ ad * bd := by
  have hp : 0 < ad * bd := Int.mul_pos (by have := ha.1; omega) (by have := hb.1; omega)
  obtain ⟨r1, r2, k, h1, h2⟩ := new_small hp hd hz
  refine ⟨r1, r2, k, ?_, h2⟩
  rw [← h1]
  unfold mulR prodR newR
  rw [if_pos ⟨ha, hb⟩, if_neg (by omega), if_neg (by omega), decide_eq_false (by omega : ¬ ad * bd < 0)]
  congr 1
  cases decide (an * bn < 0) <;> rfl

/-- Two fractions in lowest terms whose cross products agree up to a positive factor are the same. -/
theorem vP_same {x1 x2 y1 y2 k : Int} (hx : vP x1 x2) (hy : vP y1 y2) (hk : 0 < k) (h : x1 * y2 * k = y1 * x2 * k) : x1 = y1 ∧ x2 = y2 :=
  vP_eq hx hy (Int.eq_of_mul_eq_mul_right (by omega) h)

/-- (a + b) + c = a + (b + c). -/
theorem add_assocR {an ad bn bd cn cd p1 p2 q1 q2 x1 x2 y1 y2 k1 k2 k3 k4 : Int} (hx : vP x1 x2) (hy : vP y1 y2) (g1 : 0 < k1) (g2 : 0 < k2) (g3 : 0 < k3) (g4 : 0 < k4)
    (e1 : an * bd + bn * ad = p1 * k1) (e2 : ad * bd = p2 * k1) (e3 : bn * cd + cn * bd = q1 * k2) (e4 : bd * cd = q2 * k2)
    (e5 : p1 * cd + cn * p2 = x1 * k3) (e6 : p2 * cd = x2 * k3) (e7 : an * q2 + q1 * ad = y1 * k4) (e8 : ad * q2 = y2 * k4) : x1 = y1 ∧ x2 = y2 := by
  refine vP_same hx hy (Int.mul_pos (Int.mul_pos g1 g2) (Int.mul_pos g3 g4)) ?_
  have a1 : x1 * k3 * k1 = (an * bd + bn * ad) * cd + cn * (ad * bd) := by rw [← e5, e1, e2]; grind
  have a2 : x2 * k3 * k1 = ad * bd * cd := by rw [← e6, e2]; grind
  have a3 : y1 * k4 * k2 = an * (bd * cd) + (bn * cd + cn * bd) * ad := by rw [← e7, e3, e4]; grind
  have a4 : y2 * k4 * k2 = ad * (bd * cd) := by rw [← e8, e4]; grind
  have : x1 * k3 * k1 * (y2 * k4 * k2) = y1 * k4 * k2 * (x2 * k3 * k1) := by rw [a1, a2, a3, a4]; grind
  grind
/-- (a * b) * c = (a * c) * b. -/
theorem mul_assocR {an ad bn bd cn cd p1 p2 q1 q2 x1 x2 y1 y2 k1 k2 k3 k4 : Int} (hx : vP x1 x2) (hy : vP y1 y2) (g1 : 0 < k1) (g2 : 0 < k2) (g3 : 0 < k3) (g4 : 0 < k4)
    (e1 : an * bn = p1 * k1) (e2 : ad * bd = p2 * k1) (e3 : an * cn = q1 * k2) (e4 : ad * cd = q2 * k2)
    (e5 : p1 * cn = x1 * k3) (e6 : p2 * cd = x2 * k3) (e7 : q1 * bn = y1 * k4) (e8 : q2 * bd = y2 * k4) : x1 = y1 ∧ x2 = y2 := by
  refine vP_same hx hy (Int.mul_pos (Int.mul_pos g1 g2) (Int.mul_pos g3 g4)) ?_
  have a1 : x1 * k3 * k1 = an * bn * cn := by rw [← e5, e1]; grind
  have a2 : x2 * k3 * k1 = ad * bd * cd := by rw [← e6, e2]; grind
  have a3 : y1 * k4 * k2 = an * cn * bn := by rw [← e7, e3]; grind
  have a4 : y2 * k4 * k2 = ad * cd * bd := by rw [← e8, e4]; grind
  have : x1 * k3 * k1 * (y2 * k4 * k2) = y1 * k4 * k2 * (x2 * k3 * k1) := by rw [a1, a2, a3, a4]; grind
  grind
/-- a * (b + c) = a * b + a * c. -/
theorem distribR {an ad bn bd cn cd q1 q2 m1 m2 n1 n2 x1 x2 y1 y2 k1 k2 k3 k4 k5 : Int} (hx : vP x1 x2) (hy : vP y1 y2) (g1 : 0 < k1) (g2 : 0 < k2) (g3 : 0 < k3) (g4 : 0 < k4) (g5 : 0 < k5)
    (e1 : bn * cd + cn * bd = q1 * k1) (e2 : bd * cd = q2 * k1) (e3 : an * q1 = x1 * k2) (e4 : ad * q2 = x2 * k2)
    (e5 : an * bn = m1 * k3) (e6 : ad * bd = m2 * k3) (e7 : an * cn = n1 * k4) (e8 : ad * cd = n2 * k4) (e9 : m1 * n2 + n1 * m2 = y1 * k5) (e10 : m2 * n2 = y2 * k5) : x1 = y1 ∧ x2 = y2 := by
  refine vP_same hx hy (Int.mul_pos (Int.mul_pos g1 g2) (Int.mul_pos (Int.mul_pos g3 g4) g5)) ?_
  have a1 : x1 * k2 * k1 = an * (bn * cd + cn * bd) := by rw [← e3, e1]; grind
  have a2 : x2 * k2 * k1 = ad * (bd * cd) := by rw [← e4, e2]; grind
  have a3 : y1 * k5 * (k3 * k4) = an * bn * (ad * cd) + an * cn * (ad * bd) := by rw [← e9, e5, e6, e7, e8]; grind
  have a4 : y2 * k5 * (k3 * k4) = ad * bd * (ad * cd) := by rw [← e10, e6, e8]; grind
  have : x1 * k2 * k1 * (y2 * k5 * (k3 * k4)) = y1 * k5 * (k3 * k4) * (x2 * k2 * k1) := by rw [a1, a2, a3, a4]; grind
  grind
end Go.Proofs.YtegodbbocbkomaaDoor
