/- What FracField says of three small fractions. Conditions: as it states. -/
import Derived.Test.YtegodbbocbkomaaDoorField2
namespace Go.Proofs.YtegodbbocbkomaaDoor
open Go.RowKit

theorem abs_sum {x y z t : Int} {A B C D : Nat} (hx : x.natAbs ≤ A) (hy : y.natAbs ≤ B) (hz : z.natAbs ≤ C) (ht : t.natAbs ≤ D) : (x * y + z * t).natAbs ≤ A * B + C * D :=
  Nat.le_trans (Int.natAbs_add_le _ _) (Nat.add_le_add (abs_mul hx hy) (abs_mul hz ht))
theorem mul_le {x y : Int} {A B : Nat} (hx : x.natAbs ≤ A) (hy : y.natAbs ≤ B) : x * y ≤ ((A * B : Nat) : Int) := by
  have := abs_mul hx hy; omega
theorem den_bd {x y n d : Int} {A B : Nat} (hv : vP n d) (h : d ≤ x * y) (hx : x.natAbs ≤ A) (hy : y.natAbs ≤ B) : d.natAbs ≤ A * B := by
  have := mul_le hx hy; have := hv.1; omega
theorem vP_inv {n d : Int} (hv : vP n d) (h : 0 < n) : vP d n := ⟨by omega, hv.2.2.2.1, by have := hv.1; omega, hv.2.1, by rw [Nat.gcd_comm]; exact hv.2.2.2.2⟩
theorem vP_inv2 {n d : Int} (hv : vP n d) (h : n < 0) : vP (-d) (-n) := ⟨by omega, by have := hv.2.2.1; omega, by have := hv.2.1; omega, by have := hv.1; omega, by rw [Int.natAbs_neg, Int.natAbs_neg, Nat.gcd_comm]; exact hv.2.2.2.2⟩

theorem pos_of {n : Int} (h : ¬ n = 0) (h2 : ¬ n < 0) : 0 < n := by omega
theorem back1 {an ad bn bd p1 p2 w1 k1 k : Int} (e1 : an * bd + bn * ad = p1 * k1) (e2 : ad * bd = p2 * k1) (h : p1 * bd + -bn * p2 = w1 * k) : w1 * k * k1 = an * (bd * bd) := by rw [← h]; grind
theorem back2 {ad bd p2 w2 k1 k : Int} (e2 : ad * bd = p2 * k1) (h : p2 * bd = w2 * k) : w2 * k * k1 = ad * (bd * bd) := by rw [← h]; grind
theorem back3 {an bn bd m1 w1 k1 k : Int} (e : an * bn = m1 * k1) (h : m1 * -bd = w1 * k) : w1 * k * k1 = an * -(bn * bd) := by rw [← h]; grind
theorem back4 {ad bn bd m2 w2 k1 k : Int} (e : ad * bd = m2 * k1) (h : m2 * -bn = w2 * k) : w2 * k * k1 = ad * -(bn * bd) := by rw [← h]; grind
theorem back5 {an bn bd m1 w1 k1 k : Int} (e : an * bn = m1 * k1) (h : m1 * bd = w1 * k) : w1 * k * k1 = an * (bn * bd) := by rw [← h]; grind
theorem back6 {ad bn bd m2 w2 k1 k : Int} (e : ad * bd = m2 * k1) (h : m2 * bn = w2 * k) : w2 * k * k1 = ad * (bn * bd) := by rw [← h]; grind

set_option maxHeartbeats 4000000 in
/-- What FracField says of three small fractions. -/
theorem field_math {an ad bn bd cn cd : Int} (ha : vP an ad) (hb : vP bn bd) (hc : vP cn cd) (a5 : an.natAbs ≤ 500) (a6 : ad ≤ 500) (b5 : bn.natAbs ≤ 500) (b6 : bd ≤ 500) (c5 : cn.natAbs ≤ 500) (c6 : cd ≤ 500) :
    ∃ p1 p2 q1 q2 x1 x2 m1 m2 n1 n2 s1 s2 u1 u2 : Int, vP p1 p2 ∧ vP q1 q2 ∧ vP m1 m2 ∧ vP n1 n2 ∧
      addR an ad bn bd = (p1, p2, 0) ∧ addR bn bd cn cd = (q1, q2, 0) ∧ addR p1 p2 cn cd = (x1, x2, 0) ∧ addR an ad q1 q2 = (x1, x2, 0) ∧
      mulR an ad bn bd = (m1, m2, 0) ∧ mulR an ad cn cd = (n1, n2, 0) ∧ mulR an ad q1 q2 = (s1, s2, 0) ∧ addR m1 m2 n1 n2 = (s1, s2, 0) ∧
      mulR m1 m2 cn cd = (u1, u2, 0) ∧ mulR n1 n2 bn bd = (u1, u2, 0) ∧ subR p1 p2 bn bd = (an, ad, 0) ∧ divR m1 m2 bn bd = (if bn = 0 then (0, 0, 6) else (an, ad, 0)) := by
  have a7 : ad.natAbs ≤ 500 := by have := ha.1; omega
  have b7 : bd.natAbs ≤ 500 := by have := hb.1; omega
  have c7 : cd.natAbs ≤ 500 := by have := hc.1; omega
  have b8 : (-bn).natAbs ≤ 500 := by rw [Int.natAbs_neg]; exact b5
  have b9 : (-bd).natAbs ≤ 500 := by rw [Int.natAbs_neg]; exact b7
  obtain ⟨p1, p2, k1, hp, vp, g1, e1, e2, bp1, bp2⟩ := addR_ok ha hb (Nat.le_trans (abs_sum a5 b7 b5 a7) (by decide)) (Int.le_trans (mul_le a7 b7) (by decide))
  have p5 := Nat.le_trans bp1 (abs_sum a5 b7 b5 a7)
  have p7 := den_bd vp bp2 a7 b7
  obtain ⟨q1, q2, k2, hq, vq, g2, e3, e4, bq1, bq2⟩ := addR_ok hb hc (Nat.le_trans (abs_sum b5 c7 c5 b7) (by decide)) (Int.le_trans (mul_le b7 c7) (by decide))
  have q5 := Nat.le_trans bq1 (abs_sum b5 c7 c5 b7)
  have q7 := den_bd vq bq2 b7 c7
  obtain ⟨x1, x2, k3, hx, vx, g3, e5, e6, -, -⟩ := addR_ok vp hc (Nat.le_trans (abs_sum p5 c7 c5 p7) (by decide)) (Int.le_trans (mul_le p7 c7) (by decide))
  obtain ⟨y1, y2, k4, hy, vy, g4, e7, e8, -, -⟩ := addR_ok ha vq (Nat.le_trans (abs_sum a5 q7 q5 a7) (by decide)) (Int.le_trans (mul_le a7 q7) (by decide))
  obtain ⟨rfl, rfl⟩ := add_assocR vx vy g1 g2 g3 g4 e1 e2 e3 e4 e5 e6 e7 e8
  obtain ⟨m1, m2, k5, hm, vm, g5, f1, f2, bm1, bm2⟩ := mulR_ok ha hb (Nat.le_trans (abs_mul a5 b5) (by decide)) (Int.le_trans (mul_le a7 b7) (by decide))
  have m5 := Nat.le_trans bm1 (abs_mul a5 b5)
  have m7 := den_bd vm bm2 a7 b7
  obtain ⟨n1, n2, k6, hn, vn, g6, f3, f4, bn1, bn2⟩ := mulR_ok ha hc (Nat.le_trans (abs_mul a5 c5) (by decide)) (Int.le_trans (mul_le a7 c7) (by decide))
  have n5 := Nat.le_trans bn1 (abs_mul a5 c5)
  have n7 := den_bd vn bn2 a7 c7
  obtain ⟨s1, s2, k7, hs, vs, g7, f5, f6, -, -⟩ := mulR_ok ha vq (Nat.le_trans (abs_mul a5 q5) (by decide)) (Int.le_trans (mul_le a7 q7) (by decide))
  obtain ⟨t1, t2, k8, ht, vt, g8, f7, f8, -, -⟩ := addR_ok vm vn (Nat.le_trans (abs_sum m5 n7 n5 m7) (by decide)) (Int.le_trans (mul_le m7 n7) (by decide))
  obtain ⟨rfl, rfl⟩ := distribR vs vt g2 g7 g5 g6 g8 e3 e4 f5 f6 f1 f2 f3 f4 f7 f8
  obtain ⟨u1, u2, k9, hu, vu, g9, h1, h2, -, -⟩ := mulR_ok vm hc (Nat.le_trans (abs_mul m5 c5) (by decide)) (Int.le_trans (mul_le m7 c7) (by decide))
  obtain ⟨v1, v2, k10, hv, vv, g10, h3, h4, -, -⟩ := mulR_ok vn hb (Nat.le_trans (abs_mul n5 b5) (by decide)) (Int.le_trans (mul_le n7 b7) (by decide))
  obtain ⟨rfl, rfl⟩ := mul_assocR vu vv g5 g6 g9 g10 f1 f2 f3 f4 h1 h2 h3 h4
  obtain ⟨w1, w2, k11, hw, vw, g11, h5, h6, -, -⟩ := addR_ok vp (vP_neg.2 hb) (Nat.le_trans (abs_sum p5 b7 b8 p7) (by decide)) (Int.le_trans (mul_le p7 b7) (by decide))
  have hback := back_same (c := bd * bd) ha vw g1 g11 (back1 e1 e2 h5) (back2 e2 h6)
  obtain ⟨hw1, hw2⟩ := hback
  rw [hw1, hw2] at hw
  refine ⟨p1, p2, q1, q2, _, _, m1, m2, n1, n2, _, _, _, _, vp, vq, vm, vn, hp, hq, hx, hy, hm, hn, hs, ht, hu, hv, hw, ?_⟩
  unfold divR
  rw [if_pos ⟨vm, hb⟩]
  by_cases z : bn = 0
  · rw [if_pos z, if_pos z]
  · rw [if_neg z, if_neg z]
    by_cases z2 : bn < 0
    · rw [if_pos z2]
      obtain ⟨d1, d2, k12, hd, vd, g12, h7, h8, -, -⟩ := mulR_ok vm (vP_inv2 hb z2) (Nat.le_trans (abs_mul m5 b9) (by decide)) (Int.le_trans (mul_le m7 b8) (by decide))
      obtain ⟨i1, i2⟩ := back_same (c := -(bn * bd)) ha vd g5 g12 (back3 f1 h7) (back4 f2 h8)
      rw [i1, i2] at hd
      exact hd
    · rw [if_neg z2]
      obtain ⟨d1, d2, k12, hd, vd, g12, h7, h8, -, -⟩ := mulR_ok vm (vP_inv hb (pos_of z z2)) (Nat.le_trans (abs_mul m5 b7) (by decide)) (Int.le_trans (mul_le m7 b5) (by decide))
      obtain ⟨i1, i2⟩ := back_same (c := bn * bd) ha vd g5 g12 (back5 f1 h7) (back6 f2 h8)
      rw [i1, i2] at hd
      exact hd
end Go.Proofs.YtegodbbocbkomaaDoor
