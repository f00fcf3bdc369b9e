/- Exact fractions: what sums, products and comparisons have to do with each other; small fractions of the reference; several fractions in memory. Conditions: numbers of 64 bits. -/
import Derived.Test.YteppamchbgnlfaaFrac4
import Derived.Test.YteppamchbgnlfaaFS
namespace Go.Proofs.Yteppamchbgnlfaa
open Go.RowKit

/-- The result's block in a later world. -/
def C1 (w W : World) : Prop := Blk W w.heap.size 23 #[.int .i64 0, .int .i64 0] ∧ Below w.heap.size w W ∧ w.heap.size < W.heap.size

theorem C1.start (w : World) : C1 w (w.alloc (.cells #[.int .i64 0, .int .i64 0] 23)) := ⟨Blk.new w _ _, (Below.refl _ w).alloc (Nat.le_refl _) _, by simp⟩

theorem C1.call {w W W' : World} (h : C1 w W) (hb : Below W.heap.size W W') : C1 w W' := ⟨h.1.below hb h.1.lt, below_st h.2.1 hb, by have := hb.size; have := h.2.2; omega⟩

theorem C1.cells {w W : World} (h : C1 w W) : W.cell? ⟨w.heap.size, 0, none⟩ = some (.int .i64 0) ∧ W.cell? ⟨w.heap.size, 1, none⟩ = some (.int .i64 0) ∧ W.frozen? ⟨w.heap.size, 0, none⟩ = false ∧ W.frozen? ⟨w.heap.size, 1, none⟩ = false := ⟨h.1.cell 0, h.1.cell 1, h.1.frozen 0, h.1.frozen 1⟩

theorem C1.put {w W : World} (h : C1 w W) (n d : Int) : Blk ((W.setCell ⟨w.heap.size, 0, none⟩ (.int .i64 n)).setCell ⟨w.heap.size, 1, none⟩ (.int .i64 d)) w.heap.size 23 #[.int .i64 n, .int .i64 d] ∧
    Below w.heap.size w ((W.setCell ⟨w.heap.size, 0, none⟩ (.int .i64 n)).setCell ⟨w.heap.size, 1, none⟩ (.int .i64 d)) :=
  ⟨(h.1.put 0 _).put 1 _, (h.2.1.setCell (by simp) _).setCell (by simp) _⟩

theorem C1.putal {w W : World} (h : C1 w W) (n d : Int) (o : Obj) : Blk (((W.setCell ⟨w.heap.size, 0, none⟩ (.int .i64 n)).setCell ⟨w.heap.size, 1, none⟩ (.int .i64 d)).alloc o) w.heap.size 23 #[.int .i64 n, .int .i64 d] ∧
    Below w.heap.size w (((W.setCell ⟨w.heap.size, 0, none⟩ (.int .i64 n)).setCell ⟨w.heap.size, 1, none⟩ (.int .i64 d)).alloc o) :=
  ⟨(h.put n d).1.alloc o, (h.put n d).2.alloc (h.put n d).2.size o⟩

theorem lowR_good {neg : Bool} {N D : Nat} (hD : 0 < D) {r1 r2 : Int} (h : lowR neg N D = (r1, r2, 0)) : vP r1 r2 := by
  unfold lowR at h
  split at h
  · rename_i hb
    have hg : 0 < Nat.gcd N D := Nat.gcd_pos_of_pos_right _ hD
    have hc : Nat.gcd (N / Nat.gcd N D) (D / Nat.gcd N D) = 1 := Nat.coprime_div_gcd_div_gcd hg
    have hp : 0 < D / Nat.gcd N D := Nat.div_pos (Nat.gcd_le_right _ hD) hg
    generalize N / Nat.gcd N D = x at *
    generalize D / Nat.gcd N D = y at *
    injection h with h1 h2
    injection h2 with h3 h4
    have hx : r1.natAbs = x := by
      rw [← h1]; split <;> omega
    refine ⟨by omega, by omega, by omega, by omega, ?_⟩
    rw [hx, show r2.natAbs = y by omega]
    exact hc
  · injection h with _ h2
    injection h2 with _ h4
    simp at h4

theorem newR_good {n d r1 r2 : Int} (h : newR n d = (r1, r2, 0)) : vP r1 r2 := by
  unfold newR at h
  split at h
  · injection h with _ h2
    injection h2 with _ h4
    simp at h4
  · rename_i hd
    split at h
    · injection h with _ h2
      injection h2 with _ h4
      simp at h4
    · exact lowR_good (by omega) h

def aroundI (n most : Int) : Int := (if n < 0 then -(n + 1) else n) % most

theorem aroundI_lo (n most : Int) (h : 1 ≤ most) : 0 ≤ aroundI n most := Int.emod_nonneg _ (by omega)

theorem aroundI_hi (n most : Int) (h : 1 ≤ most) : aroundI n most < most := Int.emod_lt_of_pos _ (by omega)

theorem around_any (n most : Int) (w : World) (h1 : -9223372036854775808 ≤ n) (h2 : n ≤ 9223372036854775807) (h3 : 1 ≤ most) (h4 : most ≤ 9223372036854775807) :
    Calls Try.prog 19 #[.int .i64 n, .int .i64 most] w fun e w' => e = .returned (.int .i64 (aroundI n most)) ∧ w = w' := by
  by_cases hn : n < 0
  · have ha : aroundI n most = (-(n + 1)) % most := by unfold aroundI; rw [if_pos hn]
    have Ha := Lib.hid ha
    clear ha
    go_enter Try.func19, Try.ntmps19
    go_wp2
    go_ret
    exact ⟨ret_int (by rw [Ha.out, ← Int.neg_tmod, Int.tmod_eq_emod_of_nonneg (by omega)]), rfl⟩
  · have ha : aroundI n most = n % most := by unfold aroundI; rw [if_neg hn]
    have Ha := Lib.hid ha
    clear ha
    go_enter Try.func19, Try.ntmps19
    go_wp2
    go_ret
    exact ⟨ret_int Ha.out.symm, rfl⟩

/-- A positive denominator within the bounds: New's result, and by what it was shortened. -/
theorem new_small {n d : Int} (hd : 0 < d) (hd1 : d ≤ 4611686018427387904) (hn : n.natAbs ≤ 4611686018427387904) :
    ∃ r1 r2 k : Int, newR n d = (r1, r2, 0) ∧ vP r1 r2 ∧ 0 < k ∧ n = r1 * k ∧ d = r2 * k ∧ r1.natAbs ≤ n.natAbs ∧ r2 ≤ d := by
  have hg : 0 < Nat.gcd n.natAbs d.natAbs := Nat.gcd_pos_of_pos_right _ (by omega)
  have e1 : n.natAbs / Nat.gcd n.natAbs d.natAbs * Nat.gcd n.natAbs d.natAbs = n.natAbs := Nat.div_mul_cancel (Nat.gcd_dvd_left _ _)
  have e2 : d.natAbs / Nat.gcd n.natAbs d.natAbs * Nat.gcd n.natAbs d.natAbs = d.natAbs := Nat.div_mul_cancel (Nat.gcd_dvd_right _ _)
  have l1 : n.natAbs / Nat.gcd n.natAbs d.natAbs ≤ n.natAbs := Nat.div_le_self _ _
  have l2 : d.natAbs / Nat.gcd n.natAbs d.natAbs ≤ d.natAbs := Nat.div_le_self _ _
  have hdf : decide (d < 0) = false := decide_eq_false (by omega)
  obtain ⟨x, hx⟩ : ∃ x, n.natAbs / Nat.gcd n.natAbs d.natAbs = x := ⟨_, rfl⟩
  obtain ⟨y, hy⟩ : ∃ y, d.natAbs / Nat.gcd n.natAbs d.natAbs = y := ⟨_, rfl⟩
  have hr : newR n d = ((if (decide (n < 0) != decide (d < 0)) then -(x : Int) else (x : Int)), (y : Int), 0) := by
    unfold newR lowR
    rw [if_neg (by omega), if_neg (by omega), hx, hy, if_pos (by omega)]
  have hv := newR_good hr
  refine ⟨_, _, ((Nat.gcd n.natAbs d.natAbs : Nat) : Int), hr, hv, by omega, ?_, ?_, ?_, by omega⟩
  · rw [hx] at e1
    have e3 : (x : Int) * ((Nat.gcd n.natAbs d.natAbs : Nat) : Int) = (n.natAbs : Int) := by rw [← Int.natCast_mul, e1]
    rw [hdf]
    rcases Int.lt_or_le n 0 with s | s
    · rw [decide_eq_true s]; simp only [Bool.true_bne, Bool.not_false, if_true]; rw [Int.neg_mul, e3]; omega
    · rw [decide_eq_false (by omega : ¬ n < 0)]; simp only [bne_self_eq_false, Bool.false_eq_true, if_false]; rw [e3]; omega
  · rw [hy] at e2
    have e3 : (y : Int) * ((Nat.gcd n.natAbs d.natAbs : Nat) : Int) = (d.natAbs : Int) := by rw [← Int.natCast_mul, e2]
    rw [e3]; omega
  · split <;> omega

theorem ret_one {fn : Func} {p : Tmp} (hr : fn.results = #[.cell p 23]) {tmps : Array Value} {w : World} {g : Nat} {n d : Int} {R : Ending → World → Prop}
    (hp : tmps.getD p undef = .pointer (some ⟨g, 0, none⟩)) (h : Blk w g 23 #[.int .i64 n, .int .i64 d]) (hR : R (.returned (.agg #[.int .i64 n, .int .i64 d])) w) :
    bodyPost Try.prog fn R .ret { tmps := tmps, defers := [] } w := by
  refine bodyPost_ret (v := .agg #[.int .i64 n, .int .i64 d]) ?_ rfl hR
  have hp' : tmps[p]?.getD undef = .pointer (some ⟨g, 0, none⟩) := by simpa using hp
  have hl := run_loadVar_row (P := Try.prog) w g 23 23 _ (0, 0) _ h Try.underlying23 rfl (by kernel_rfl)
  simp [results, hr, hp', asAddr, hl]

theorem sgn_mul {z k : Int} (hk : 0 < k) : sgn (z * k) = sgn z := by
  unfold sgn
  rcases Int.lt_trichotomy z 0 with h | h | h
  · rw [if_pos (Int.mul_neg_of_neg_of_pos h hk), if_pos h]
  · subst h; simp
  · have := Int.mul_pos h hk
    rw [if_neg (by omega), if_pos this, if_neg (by omega), if_pos h]

theorem cmp_from (w0 W : World) (hW : Below w0.heap.size w0 W) (an ad bn bd : Int) (ha : vP an ad) (hb : vP bn bd) :
    Calls Try.prog 33 #[.agg #[.int .i64 an, .int .i64 ad], .agg #[.int .i64 bn, .int .i64 bd]] W fun e w' => e = .returned (.int .i64 (cmpR an ad bn bd)) ∧ Below w0.heap.size w0 w' :=
  (cmp_any an ad bn bd W (by have := ha.2.2.1; omega) (by have := ha.2.2.2.1; omega) (by have := ha.1; omega) (by have := ha.2.1; omega) (by have := hb.2.2.1; omega) (by have := hb.2.2.2.1; omega) (by have := hb.1; omega) (by have := hb.2.1; omega)).mono fun e w' ⟨he, hB⟩ => ⟨he, below_step hW hB⟩

/-- In lowest terms: by what the result was shortened. -/
theorem lowR_mul {z d r1 r2 : Int} (hd : 0 < d) (h : lowR (decide (z < 0)) z.natAbs d.natAbs = (r1, r2, 0)) : vP r1 r2 ∧ ∃ k : Int, 0 < k ∧ z = r1 * k ∧ d = r2 * k := by
  have hv := lowR_good (by omega) h
  refine ⟨hv, ((Nat.gcd z.natAbs d.natAbs : Nat) : Int), ?_, ?_⟩
  · have := Nat.gcd_pos_of_pos_right z.natAbs (n := d.natAbs) (by omega); omega
  · have e1 : z.natAbs / Nat.gcd z.natAbs d.natAbs * Nat.gcd z.natAbs d.natAbs = z.natAbs := Nat.div_mul_cancel (Nat.gcd_dvd_left _ _)
    have e2 : d.natAbs / Nat.gcd z.natAbs d.natAbs * Nat.gcd z.natAbs d.natAbs = d.natAbs := Nat.div_mul_cancel (Nat.gcd_dvd_right _ _)
    unfold lowR at h
    split at h
    · injection h with h1 h2
      injection h2 with h3 h4
      obtain ⟨x, hx⟩ : ∃ x, z.natAbs / Nat.gcd z.natAbs d.natAbs = x := ⟨_, rfl⟩
      obtain ⟨y, hy⟩ : ∃ y, d.natAbs / Nat.gcd z.natAbs d.natAbs = y := ⟨_, rfl⟩
      rw [hx] at e1 h1
      rw [hy] at e2 h3
      have e3 : (x : Int) * ((Nat.gcd z.natAbs d.natAbs : Nat) : Int) = (z.natAbs : Int) := by rw [← Int.natCast_mul, e1]
      have e4 : (y : Int) * ((Nat.gcd z.natAbs d.natAbs : Nat) : Int) = (d.natAbs : Int) := by rw [← Int.natCast_mul, e2]
      refine ⟨?_, by rw [← h3, e4]; omega⟩
      rcases Int.lt_or_le z 0 with s | s
      · rw [decide_eq_true s] at h1; simp only [if_true] at h1; rw [← h1, Int.neg_mul, e3]; omega
      · rw [decide_eq_false (by omega : ¬ z < 0)] at h1; simp only [Bool.false_eq_true, if_false] at h1; rw [← h1, e3]; omega
    · injection h with _ h2
      injection h2 with _ h4
      simp at h4

theorem addR_mul {an ad bn bd r1 r2 : Int} (ha : vP an ad) (hb : vP bn bd) (h : addR an ad bn bd = (r1, r2, 0)) : vP r1 r2 ∧ ∃ k : Int, 0 < k ∧ an * bd + bn * ad = r1 * k ∧ ad * bd = r2 * k := by
  unfold addR sumR at h
  rw [if_pos ⟨ha, hb⟩] at h
  exact lowR_mul (Int.mul_pos (by have := ha.1; omega) (by have := hb.1; omega)) h

theorem mulR_mul {an ad bn bd r1 r2 : Int} (ha : vP an ad) (hb : vP bn bd) (h : mulR an ad bn bd = (r1, r2, 0)) : vP r1 r2 ∧ ∃ k : Int, 0 < k ∧ an * bn = r1 * k ∧ ad * bd = r2 * k := by
  unfold mulR prodR at h
  rw [if_pos ⟨ha, hb⟩] at h
  exact lowR_mul (Int.mul_pos (by have := ha.1; omega) (by have := hb.1; omega)) h

/-- Two fractions in lowest terms that are equal as numbers are the same. -/
theorem vP_eq {an ad bn bd : Int} (ha : vP an ad) (hb : vP bn bd) (h : an * bd = bn * ad) : an = bn ∧ ad = bd := by
  have a1 := ha.1
  have b1 := hb.1
  have hN : an.natAbs * bd.natAbs = bn.natAbs * ad.natAbs := by rw [← Int.natAbs_mul, h, Int.natAbs_mul]
  have d1 : ad.natAbs ∣ bd.natAbs := by
    have : ad.natAbs ∣ an.natAbs * bd.natAbs := by rw [hN]; exact Nat.dvd_mul_left _ _
    exact Nat.Coprime.dvd_of_dvd_mul_left (Nat.Coprime.symm ha.2.2.2.2) this
  have d2 : bd.natAbs ∣ ad.natAbs := by
    have : bd.natAbs ∣ bn.natAbs * ad.natAbs := by rw [← hN]; exact Nat.dvd_mul_left _ _
    exact Nat.Coprime.dvd_of_dvd_mul_left (Nat.Coprime.symm hb.2.2.2.2) this
  have e : ad.natAbs = bd.natAbs := Nat.dvd_antisymm d1 d2
  have e2 : ad = bd := by omega
  subst e2
  exact ⟨Int.eq_of_mul_eq_mul_right (by omega) h, rfl⟩

theorem sgn_zero {z : Int} : sgn z = 0 ↔ z = 0 := by unfold sgn; split <;> (try split) <;> omega

theorem sgn_le {z : Int} : sgn z ≤ 0 ↔ z ≤ 0 := by unfold sgn; split <;> (try split) <;> omega

/-- Compare is 0 exactly for the same fraction. -/
theorem cmp_zero {an ad bn bd : Int} (ha : vP an ad) (hb : vP bn bd) : cmpR an ad bn bd = 0 ↔ (an = bn ∧ ad = bd) := by
  unfold cmpR
  rw [if_pos ⟨ha, hb⟩, sgn_zero]
  constructor
  · intro h; exact vP_eq ha hb (by omega)
  · rintro ⟨rfl, rfl⟩; omega

/-- Compare is transitive. -/
theorem cmp_trans {an ad bn bd cn cd : Int} (ha : vP an ad) (hb : vP bn bd) (hc : vP cn cd) (h1 : cmpR an ad bn bd ≤ 0) (h2 : cmpR bn bd cn cd ≤ 0) : cmpR an ad cn cd ≤ 0 := by
  unfold cmpR at *
  rw [if_pos ⟨ha, hb⟩, sgn_le] at h1
  rw [if_pos ⟨hb, hc⟩, sgn_le] at h2
  rw [if_pos ⟨ha, hc⟩, sgn_le]
  have a1 := ha.1
  have b1 := hb.1
  have c1 := hc.1
  have k1 : an * bd * cd ≤ bn * ad * cd := Int.mul_le_mul_of_nonneg_right (by omega) (by omega)
  have k2 : bn * cd * ad ≤ cn * bd * ad := Int.mul_le_mul_of_nonneg_right (by omega) (by omega)
  have e1 : bn * ad * cd = bn * cd * ad := Int.mul_right_comm _ _ _
  have k3 : (an * cd) * bd ≤ (cn * ad) * bd := by
    rw [Int.mul_right_comm, Int.mul_right_comm cn ad bd]; omega
  have := Int.le_of_mul_le_mul_right k3 (by omega : 0 < bd)
  omega

theorem cmp_scale {z z' k l m : Int} (hk : 0 < k) (hl : 0 < l) (hm : 0 < m) (h : z * (k * l) = z' * m) : sgn z = sgn z' := by
  rw [← sgn_mul (z := z) (Int.mul_pos hk hl), h, sgn_mul hm]

/-- Adding the same keeps the order. -/
theorem cmp_add {an ad bn bd cn cd x1 x2 y1 y2 : Int} (ha : vP an ad) (hb : vP bn bd) (hc : vP cn cd) (hx : addR an ad cn cd = (x1, x2, 0)) (hy : addR bn bd cn cd = (y1, y2, 0)) :
    vP x1 x2 ∧ vP y1 y2 ∧ cmpR x1 x2 y1 y2 = cmpR an ad bn bd := by
  obtain ⟨vx, k, hk, e1, e2⟩ := addR_mul ha hc hx
  obtain ⟨vy, l, hl, e3, e4⟩ := addR_mul hb hc hy
  refine ⟨vx, vy, ?_⟩
  unfold cmpR
  rw [if_pos ⟨vx, vy⟩, if_pos ⟨ha, hb⟩]
  exact cmp_scale hk hl (Int.mul_pos (by have := hc.1; omega) (by have := hc.1; omega) : 0 < cd * cd) (by grind)

/-- Multiplying both by the same positive keeps the order. -/
theorem cmp_mul {an ad bn bd cn cd x1 x2 y1 y2 : Int} (ha : vP an ad) (hb : vP bn bd) (hc : vP cn cd) (h0 : 0 < cn) (hx : mulR an ad cn cd = (x1, x2, 0)) (hy : mulR bn bd cn cd = (y1, y2, 0)) :
    vP x1 x2 ∧ vP y1 y2 ∧ cmpR x1 x2 y1 y2 = cmpR an ad bn bd := by
  obtain ⟨vx, k, hk, e1, e2⟩ := mulR_mul ha hc hx
  obtain ⟨vy, l, hl, e3, e4⟩ := mulR_mul hb hc hy
  refine ⟨vx, vy, ?_⟩
  unfold cmpR
  rw [if_pos ⟨vx, vy⟩, if_pos ⟨ha, hb⟩]
  exact cmp_scale hk hl (Int.mul_pos h0 (by have := hc.1; omega) : 0 < cn * cd) (by grind)

theorem sgn_neg {z : Int} : sgn (-z) = -sgn z := by
  unfold sgn
  split <;> (try split) <;> (try split) <;> (try split) <;> omega

theorem vP_neg {n d : Int} : vP (-n) d ↔ vP n d := by
  unfold vP
  rw [Int.natAbs_neg]
  constructor <;> rintro ⟨h1, h2, h3, h4, h5⟩ <;> exact ⟨h1, h2, by omega, by omega, h5⟩

/-- Where the difference is in range, Compare is the sign of its numerator. -/
theorem sub_cmp {an ad bn bd d1 d2 : Int} (h : subR an ad bn bd = (d1, d2, 0)) : cmpR an ad bn bd = sgn d1 := by
  unfold subR at h
  by_cases hv : vP an ad ∧ vP (-bn) bd
  · obtain ⟨_, k, hk, e1, -⟩ := addR_mul hv.1 hv.2 h
    unfold cmpR
    rw [if_pos ⟨hv.1, vP_neg.1 hv.2⟩, ← sgn_mul (z := d1) hk, ← e1, Int.neg_mul]
    congr 1
  · unfold addR at h
    rw [if_neg hv] at h
    injection h with _ h2
    injection h2 with _ h4
    simp at h4

theorem cmp_anti (an ad bn bd : Int) : cmpR bn bd an ad = -cmpR an ad bn bd := by
  unfold cmpR
  by_cases hv : vP an ad ∧ vP bn bd
  · rw [if_pos hv, if_pos ⟨hv.2, hv.1⟩, ← sgn_neg]; congr 1; omega
  · rw [if_neg hv, if_neg (fun h => hv ⟨h.2, h.1⟩)]; rfl

theorem cmp_bd (an ad bn bd : Int) : -1 ≤ cmpR an ad bn bd ∧ cmpR an ad bn bd ≤ 1 := by
  unfold cmpR sgn
  split <;> (try split) <;> (try split) <;> omega

/-- A sum in range. -/
theorem addR_ok {an ad bn bd : Int} (ha : vP an ad) (hb : vP bn bd) (hz : (an * bd + bn * ad).natAbs ≤ 4611686018427387904) (hd : ad * bd ≤ 4611686018427387904) :
    ∃ r1 r2 k : Int, addR an ad bn bd = (r1, r2, 0) ∧ vP r1 r2 ∧ 0 < k ∧ an * bd + bn * ad = r1 * k ∧ ad * bd = r2 * k ∧ r1.natAbs ≤ (an * bd + bn * ad).natAbs ∧ r2 ≤ ad * bd := by
  have hp : 0 < ad * bd := Int.mul_pos (by have := ha.1; omega) (by have := hb.1; omega)
  obtain ⟨r1, r2, k, h1, h2⟩ := new_small hp hd hz
  refine ⟨r1, r2, k, ?_, h2⟩
  rw [← h1]
  unfold addR sumR newR
  rw [if_pos ⟨ha, hb⟩, if_neg (by omega), if_neg (by omega), decide_eq_false (by omega : ¬ ad * bd < 0)]
  congr 1
  cases decide (an * bd + bn * ad < 0) <;> rfl

/-- A product in range. -/
theorem mulR_ok {an ad bn bd : Int} (ha : vP an ad) (hb : vP bn bd) (hz : (an * bn).natAbs ≤ 4611686018427387904) (hd : ad * bd ≤ 4611686018427387904) :
    ∃ r1 r2 k : Int, mulR an ad bn bd = (r1, r2, 0) ∧ vP r1 r2 ∧ 0 < k ∧ an * bn = r1 * k ∧ ad * bd = r2 * k ∧ r1.natAbs ≤ (an * bn).natAbs ∧ r2 ≤ ad * bd := by
  have hp : 0 < ad * bd := Int.mul_pos (by have := ha.1; omega) (by have := hb.1; omega)
  obtain ⟨r1, r2, k, h1, h2⟩ := new_small hp hd hz
  refine ⟨r1, r2, k, ?_, h2⟩
  rw [← h1]
  unfold mulR prodR newR
  rw [if_pos ⟨ha, hb⟩, if_neg (by omega), if_neg (by omega), decide_eq_false (by omega : ¬ ad * bd < 0)]
  congr 1
  cases decide (an * bn < 0) <;> rfl

/-- Two fractions in lowest terms whose cross products agree up to a positive factor are the same. -/
theorem vP_same {x1 x2 y1 y2 k : Int} (hx : vP x1 x2) (hy : vP y1 y2) (hk : 0 < k) (h : x1 * y2 * k = y1 * x2 * k) : x1 = y1 ∧ x2 = y2 :=
  vP_eq hx hy (Int.eq_of_mul_eq_mul_right (by omega) h)

/-- These fractions lie in these blocks. -/
def Frs (W : World) (l : List (Nat × Int × Int)) : Prop := ∀ x ∈ l, Blk W x.1 23 #[.int .i64 x.2.1, .int .i64 x.2.2]

theorem Frs.below {W W' : World} {l : List (Nat × Int × Int)} (h : Frs W l) (hb : Below W.heap.size W W') : Frs W' l := fun x hx => (h x hx).below hb (h x hx).lt

theorem Frs.new {W : World} {l : List (Nat × Int × Int)} (h : Frs W l) (n d : Int) : Frs (W.alloc (.cells #[.int .i64 n, .int .i64 d] 23)) ((W.heap.size, n, d) :: l) := by
  intro x hx
  rcases List.mem_cons.1 hx with rfl | hx
  · exact Blk.new W _ _
  · exact (h x hx).alloc _

theorem Frs.get {W : World} {l : List (Nat × Int × Int)} (h : Frs W l) {g : Nat} {n d : Int} (hm : (g, n, d) ∈ l) : W.cell? ⟨g, 0, none⟩ = some (.int .i64 n) ∧ W.cell? ⟨g, 1, none⟩ = some (.int .i64 d) ∧ g < W.heap.size :=
  ⟨(h _ hm).cell 0, (h _ hm).cell 1, (h _ hm).lt⟩

theorem abs_mul {x y : Int} {A B : Nat} (hx : x.natAbs ≤ A) (hy : y.natAbs ≤ B) : (x * y).natAbs ≤ A * B := by rw [Int.natAbs_mul]; exact Nat.mul_le_mul hx hy

theorem abs_sum {x y z t : Int} {A B C D : Nat} (hx : x.natAbs ≤ A) (hy : y.natAbs ≤ B) (hz : z.natAbs ≤ C) (ht : t.natAbs ≤ D) : (x * y + z * t).natAbs ≤ A * B + C * D :=
  Nat.le_trans (Int.natAbs_add_le _ _) (Nat.add_le_add (abs_mul hx hy) (abs_mul hz ht))

theorem mul_le {x y : Int} {A B : Nat} (hx : x.natAbs ≤ A) (hy : y.natAbs ≤ B) : x * y ≤ ((A * B : Nat) : Int) := by
  have := abs_mul hx hy; omega

theorem den_bd {x y n d : Int} {A B : Nat} (hv : vP n d) (h : d ≤ x * y) (hx : x.natAbs ≤ A) (hy : y.natAbs ≤ B) : d.natAbs ≤ A * B := by
  have := mul_le hx hy; have := hv.1; omega

theorem vP_inv {n d : Int} (hv : vP n d) (h : 0 < n) : vP d n := ⟨by omega, hv.2.2.2.1, by have := hv.1; omega, hv.2.1, by rw [Nat.gcd_comm]; exact hv.2.2.2.2⟩

theorem vP_inv2 {n d : Int} (hv : vP n d) (h : n < 0) : vP (-d) (-n) := ⟨by omega, by have := hv.2.2.1; omega, by have := hv.2.1; omega, by have := hv.1; omega, by rw [Int.natAbs_neg, Int.natAbs_neg, Nat.gcd_comm]; exact hv.2.2.2.2⟩

theorem Frs.put2 {W : World} {l : List (Nat × Int × Int)} (h : Frs W l) {g : Nat} {n d : Int} (hm : (g, n, d) ∈ l) (n' d' : Int) (l' : List (Nat × Int × Int)) (hl : ∀ x ∈ l', x = (g, n', d') ∨ (x ∈ l ∧ x.1 ≠ g)) :
    Frs ((W.setCell ⟨g, 0, none⟩ (.int .i64 n')).setCell ⟨g, 1, none⟩ (.int .i64 d')) l' := by
  intro x hx
  rcases hl x hx with rfl | ⟨h1, h2⟩
  · exact ((h _ hm).put 0 _).put 1 _
  · exact ((h x h1).far (p := ⟨g, 0, none⟩) h2 _).far (p := ⟨g, 1, none⟩) h2 _

theorem Frs.fr {W : World} {l : List (Nat × Int × Int)} (h : Frs W l) {g : Nat} {n d : Int} (hm : (g, n, d) ∈ l) : W.frozen? ⟨g, 0, none⟩ = false ∧ W.frozen? ⟨g, 1, none⟩ = false := ⟨(h _ hm).frozen 0, (h _ hm).frozen 1⟩

theorem vP64 {n d : Int} (h : vP n d) : (-9223372036854775808 ≤ n ∧ n ≤ 9223372036854775807) ∧ (-9223372036854775808 ≤ d ∧ d ≤ 9223372036854775807) :=
  ⟨⟨by have := h.2.2.1; omega, by have := h.2.2.2.1; omega⟩, ⟨by have := h.1; omega, by have := h.2.1; omega⟩⟩

theorem mulV {an ad bn bd : Int} (ha : vP an ad) (hb : vP bn bd) (W : World) :
    Calls Try.prog 58 #[.agg #[.int .i64 an, .int .i64 ad], .agg #[.int .i64 bn, .int .i64 bd]] W fun e w' => e = .returned (RV (mulR an ad bn bd)) ∧ Below W.heap.size W w' :=
  mul_any an ad bn bd W (vP64 ha).1.1 (vP64 ha).1.2 (vP64 ha).2.1 (vP64 ha).2.2 (vP64 hb).1.1 (vP64 hb).1.2 (vP64 hb).2.1 (vP64 hb).2.2

theorem cmpV {an ad bn bd c : Int} (ha : vP an ad) (hb : vP bn bd) (h : cmpR an ad bn bd = c) (W : World) :
    Calls Try.prog 33 #[.agg #[.int .i64 an, .int .i64 ad], .agg #[.int .i64 bn, .int .i64 bd]] W fun e w' => e = .returned (.int .i64 c) ∧ Below W.heap.size W w' := by
  rw [← h]
  exact cmp_any an ad bn bd W (vP64 ha).1.1 (vP64 ha).1.2 (vP64 ha).2.1 (vP64 ha).2.2 (vP64 hb).1.1 (vP64 hb).1.2 (vP64 hb).2.1 (vP64 hb).2.2

end Go.Proofs.Yteppamchbgnlfaa
