/- The reference's fractions of any size: Bound and Of; how Compare goes with sums and products. Conditions: numbers of 64 bits. -/
import Derived.Test.YtkdbffhmnkkbcaaDoorMid
import Derived.Test.YtkdbffhmnkkbcaaDoorLawBetween
namespace Go.Proofs.YtkdbffhmnkkbcaaDoor
open Go.RowKit

theorem bound_any (n : Int) (w : World) (h1 : -9223372036854775808 ≤ n) (h2 : n ≤ 9223372036854775807) :
    Calls Tryd.prog 17 #[.int .i64 n, .int .i64 2305843009213693952] w fun e w' => e = .returned (.int .i64 (aroundI n 4611686018427387905 - 2305843009213693952)) ∧ w = w' := by
  have AR := fun W => around_any n 4611686018427387905 W h1 h2 (by decide) (by decide)
  have k0 := aroundI_lo n 4611686018427387905 (by decide)
  have k1 := aroundI_hi n 4611686018427387905 (by decide)
  generalize aroundI n 4611686018427387905 = k at AR k0 k1 ⊢
  have s1 : IntKind.i64.wrap (k - 2305843009213693952) = k - 2305843009213693952 := by rw [IntKind.wrap_i64]; omega
  have AR := Lib.hid AR
  clear h1 h2
  go_enter Tryd.func17, Tryd.ntmps17
  go_wp2_with fail
  refine (AR.out _).mono ?_
  rintro e w1 ⟨rfl, rfl⟩
  go_wp2
  go_ret
  exact ⟨rfl, rfl⟩

set_option maxRecDepth 100000 in
set_option maxHeartbeats 1000000 in
theorem of_any (n d : Int) (w : World) (n0 : -9223372036854775808 ≤ n) (n1 : n ≤ 9223372036854775807) (d0 : -9223372036854775808 ≤ d) (d1 : d ≤ 9223372036854775807) :
    Calls Tryd.prog 4 #[.int .i64 n, .int .i64 d] w fun e w' => (∃ r1 r2 : Int, e = .returned (.agg #[.int .i64 r1, .int .i64 r2]) ∧ vP r1 r2) ∧ Below w.heap.size w w' := by
  have BO := fun W => bound_any n W n0 n1
  have AR := fun W => around_any d 2305843009213693952 W d0 d1 (by decide) (by decide)
  have k0 := aroundI_lo n 4611686018427387905 (by decide)
  have k1 := aroundI_hi n 4611686018427387905 (by decide)
  have k2 := aroundI_lo d 2305843009213693952 (by decide)
  have k3 := aroundI_hi d 2305843009213693952 (by decide)
  generalize aroundI n 4611686018427387905 = k at BO k0 k1
  generalize aroundI d 2305843009213693952 = m at AR k2 k3
  obtain ⟨u, hu⟩ : ∃ u, k - 2305843009213693952 = u := ⟨_, rfl⟩
  rw [hu] at BO
  have u0 : -2305843009213693952 ≤ u := by omega
  have u1 : u ≤ 2305843009213693952 := by omega
  have s1 : IntKind.i64.wrap (1 + m) = 1 + m := by rw [IntKind.wrap_i64]; omega
  obtain ⟨r1, r2, g, hr, hvr, -, -, -, b1, b2⟩ := new_small (n := u) (d := 1 + m) (by omega) (by omega) (by omega)
  have NW := fun W => rnew_any u (1 + m) W (by omega) (by omega) (by omega) (by omega)
  rw [hr] at NW
  unfold RV at NW
  simp only at NW
  have BO := Lib.hid BO
  have AR := Lib.hid AR
  have NW := Lib.hid NW
  have hst := C1.start w
  have HR := Lib.hid hvr
  clear hr hvr b1 b2 n0 n1 d0 d1 hu k0 k1 u0 u1 k2 k3
  go_enter Tryd.func4, Tryd.ntmps4
  go_wp2_with fail
  refine (BO.out _).mono ?_
  rintro e w1 ⟨rfl, rfl⟩
  go_wp2_with fail
  refine (AR.out _).mono ?_
  rintro e w1 ⟨rfl, rfl⟩
  go_wp2_with fail
  refine (NW.out _).mono ?_
  rintro e w1 ⟨rfl, hB⟩
  have h1 := hst.call hB
  obtain ⟨c0, c1, c2, c3⟩ := h1.cells
  have H1 := Lib.hid h1
  have hz := h1.2.2
  clear h1 hB hst
  go_wp2
  exact ret_one (p := 4) (by kernel_rfl) rfl (H1.out.putal r1 r2 _).1 ⟨⟨r1, r2, rfl, HR.out⟩, (H1.out.putal r1 r2 _).2⟩

/-- In lowest terms: by what the result was shortened. -/
theorem lowR_mul {z d r1 r2 : Int} (hd : 0 < d) (h : lowR (decide (z < 0)) z.natAbs d.natAbs = (r1, r2, 0)) : vP r1 r2 ∧ ∃ k : Int, 0 < k ∧ z = r1 * k ∧ d = r2 * k := by
  have hv := lowR_good (by omega) h
  refine ⟨hv, ((Nat.gcd z.natAbs d.natAbs : Nat) : Int), ?_, ?_⟩
  · have := Nat.gcd_pos_of_pos_right z.natAbs (n := d.natAbs) (by omega); omega
  · have e1 : z.natAbs / Nat.gcd z.natAbs d.natAbs * Nat.gcd z.natAbs d.natAbs = z.natAbs := Nat.div_mul_cancel (Nat.gcd_dvd_left _ _)
    have e2 : d.natAbs / Nat.gcd z.natAbs d.natAbs * Nat.gcd z.natAbs d.natAbs = d.natAbs := Nat.div_mul_cancel (Nat.gcd_dvd_right _ _)
    unfold lowR at h
    split at h
    · injection h with h1 h2
      injection h2 with h3 h4
      obtain ⟨x, hx⟩ : ∃ x, z.natAbs / Nat.gcd z.natAbs d.natAbs = x := ⟨_, rfl⟩
      obtain ⟨y, hy⟩ : ∃ y, d.natAbs / Nat.gcd z.natAbs d.natAbs = y := ⟨_, rfl⟩
      rw [hx] at e1 h1
      rw [hy] at e2 h3
      have e3 : (x : Int) * ((Nat.gcd z.natAbs d.natAbs : Nat) : Int) = (z.natAbs : Int) := by rw [← Int.natCast_mul, e1]
      have e4 : (y : Int) * ((Nat.gcd z.natAbs d.natAbs : Nat) : Int) = (d.natAbs : Int) := by rw [← Int.natCast_mul, e2]
      refine ⟨?_, by rw [← h3, e4]; omega⟩
      rcases Int.lt_or_le z 0 with s | s
      · rw [decide_eq_true s] at h1; simp only [if_true] at h1; rw [← h1, Int.neg_mul, e3]; omega
      · rw [decide_eq_false (by omega : ¬ z < 0)] at h1; simp only [Bool.false_eq_true, if_false] at h1; rw [← h1, e3]; omega
    · injection h with _ h2
      injection h2 with _ h4
      simp at h4
theorem addR_mul {an ad bn bd r1 r2 : Int} (ha : vP an ad) (hb : vP bn bd) (h : addR an ad bn bd = (r1, r2, 0)) : vP r1 r2 ∧ ∃ k : Int, 0 < k ∧ an * bd + bn * ad = r1 * k ∧ ad * bd = r2 * k := by
  unfold addR sumR at h
  rw [if_pos ⟨ha, hb⟩] at h
  exact lowR_mul (Int.mul_pos (by have := ha.1; omega) (by have := hb.1; omega)) h
theorem mulR_mul {an ad bn bd r1 r2 : Int} (ha : vP an ad) (hb : vP bn bd) (h : mulR an ad bn bd = (r1, r2, 0)) : vP r1 r2 ∧ ∃ k : Int, 0 < k ∧ an * bn = r1 * k ∧ ad * bd = r2 * k := by
  unfold mulR prodR at h
  rw [if_pos ⟨ha, hb⟩] at h
  exact lowR_mul (Int.mul_pos (by have := ha.1; omega) (by have := hb.1; omega)) h

/-- Two fractions in lowest terms that are equal as numbers are the same. -/
theorem vP_eq {an ad bn bd : Int} (ha : vP an ad) (hb : vP bn bd) (h : an * bd = bn * ad) : an = bn ∧ ad = bd := by
  have a1 := ha.1
  have b1 := hb.1
  have hN : an.natAbs * bd.natAbs = bn.natAbs * ad.natAbs := by rw [← Int.natAbs_mul, h, Int.natAbs_mul]
  have d1 : ad.natAbs ∣ bd.natAbs := by
    have : ad.natAbs ∣ an.natAbs * bd.natAbs := by rw [hN]; exact Nat.dvd_mul_left _ _
    exact Nat.Coprime.dvd_of_dvd_mul_left (Nat.Coprime.symm ha.2.2.2.2) this
  have d2 : bd.natAbs ∣ ad.natAbs := by
    have : bd.natAbs ∣ bn.natAbs * ad.natAbs := by rw [← hN]; exact Nat.dvd_mul_left _ _
    exact Nat.Coprime.dvd_of_dvd_mul_left (Nat.Coprime.symm hb.2.2.2.2) this
  have e : ad.natAbs = bd.natAbs := Nat.dvd_antisymm d1 d2
  have e2 : ad = bd := by omega
  subst e2
  exact ⟨Int.eq_of_mul_eq_mul_right (by omega) h, rfl⟩
theorem sgn_zero {z : Int} : sgn z = 0 ↔ z = 0 := by unfold sgn; split <;> (try split) <;> omega
theorem sgn_le {z : Int} : sgn z ≤ 0 ↔ z ≤ 0 := by unfold sgn; split <;> (try split) <;> omega
/-- Compare is 0 exactly for the same fraction. -/
theorem cmp_zero {an ad bn bd : Int} (ha : vP an ad) (hb : vP bn bd) : cmpR an ad bn bd = 0 ↔ (an = bn ∧ ad = bd) := by
  unfold cmpR
  rw [if_pos ⟨ha, hb⟩, sgn_zero]
  constructor
  · intro h; exact vP_eq ha hb (by omega)
  · rintro ⟨rfl, rfl⟩; omega
/-- Compare is transitive. -/
theorem cmp_trans {an ad bn bd cn cd : Int} (ha : vP an ad) (hb : vP bn bd) (hc : vP cn cd) (h1 : cmpR an ad bn bd ≤ 0) (h2 : cmpR bn bd cn cd ≤ 0) : cmpR an ad cn cd ≤ 0 := by
  unfold cmpR at *
  rw [if_pos ⟨ha, hb⟩, sgn_le] at h1
  rw [if_pos ⟨hb, hc⟩, sgn_le] at h2
  rw [if_pos ⟨ha, hc⟩, sgn_le]
  have a1 := ha.1
  have b1 := hb.1
  have c1 := hc.1
  have k1 : an * bd * cd ≤ bn * ad * cd := Int.mul_le_mul_of_nonneg_right (by omega) (by omega)
  have k2 : bn * cd * ad ≤ cn * bd * ad := Int.mul_le_mul_of_nonneg_right (by omega) (by omega)
  have e1 : bn * ad * cd = bn * cd * ad := Int.mul_right_comm _ _ _
  have k3 : (an * cd) * bd ≤ (cn * ad) * bd := by
    rw [Int.mul_right_comm, Int.mul_right_comm cn ad bd]; omega
  have := Int.le_of_mul_le_mul_right k3 (by omega : 0 < bd)
  omega
theorem cmp_scale {z z' k l m : Int} (hk : 0 < k) (hl : 0 < l) (hm : 0 < m) (h : z * (k * l) = z' * m) : sgn z = sgn z' := by
  rw [← sgn_mul (z := z) (Int.mul_pos hk hl), h, sgn_mul hm]
/-- Adding the same keeps the order. -/
theorem cmp_add {an ad bn bd cn cd x1 x2 y1 y2 : Int} (ha : vP an ad) (hb : vP bn bd) (hc : vP cn cd) (hx : addR an ad cn cd = (x1, x2, 0)) (hy : addR bn bd cn cd = (y1, y2, 0)) :
    vP x1 x2 ∧ vP y1 y2 ∧ cmpR x1 x2 y1 y2 = cmpR an ad bn bd := by
  obtain ⟨vx, k, hk, e1, e2⟩ := addR_mul ha hc hx
  obtain ⟨vy, l, hl, e3, e4⟩ := addR_mul hb hc hy
  refine ⟨vx, vy, ?_⟩
  unfold cmpR
  rw [if_pos ⟨vx, vy⟩, if_pos ⟨ha, hb⟩]
  exact cmp_scale hk hl (Int.mul_pos (by have := hc.1; omega) (by have := hc.1; omega) : 0 < cd * cd) (by grind)
/-- Multiplying both by the same positive keeps the order. -/
theorem cmp_mul {an ad bn bd cn cd x1 x2 y1 y2 : Int} (ha : vP an ad) (hb : vP bn bd) (hc : vP cn cd) (h0 : 0 < cn) (hx : mulR an ad cn cd = (x1, x2, 0)) (hy : mulR bn bd cn cd = (y1, y2, 0)) :
    vP x1 x2 ∧ vP y1 y2 ∧ cmpR x1 x2 y1 y2 = cmpR an ad bn bd := by
  obtain ⟨vx, k, hk, e1, e2⟩ := mulR_mul ha hc hx
  obtain ⟨vy, l, hl, e3, e4⟩ := mulR_mul hb hc hy
  refine ⟨vx, vy, ?_⟩
  unfold cmpR
  rw [if_pos ⟨vx, vy⟩, if_pos ⟨ha, hb⟩]
  exact cmp_scale hk hl (Int.mul_pos h0 (by have := hc.1; omega) : 0 < cn * cd) (by grind)
end Go.Proofs.YtkdbffhmnkkbcaaDoor
