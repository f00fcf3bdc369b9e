/- Exact fractions: what sums, products and comparisons have to do with each other; small fractions of the reference; several fractions in memory. Conditions: numbers of 64 bits. -/
import Derived.Test.YteppamchbgnlfaaFrac4
import Derived.Test.YteppamchbgnlfaaFS
namespace Go.Proofs.Yteppamchbgnlfaa
open Go.RowKit

/-- The result's block in a later world. -/
def C1 (w W : World) : Prop := Blk W w.heap.size 23 #[.int .i64 0, .int .i64 0] ∧ Below w.heap.size w W ∧ w.heap.size < W.heap.size

theorem C1.start (w : World) : C1 w (w.alloc (.cells #[.int .i64 0, .int .i64 0] 23)) := ⟨Blk.new w _ _, (Below.refl _ w).alloc (Nat.le_refl _) _, by simp⟩

theorem C1.call {w W W' : World} (h : C1 w W) (hb : Below W.heap.size W W') : C1 w W' := ⟨h.1.below hb h.1.lt, below_st h.2.1 hb, by have := hb.size; have := h.2.2; omega⟩

theorem C1.cells {w W : World} (h : C1 w W) : W.cell? ⟨w.heap.size, 0, none⟩ = some (.int .i64 0) ∧ W.cell? ⟨w.heap.size, 1, none⟩ = some (.int .i64 0) ∧ W.frozen? ⟨w.heap.size, 0, none⟩ = false ∧ W.frozen? ⟨w.heap.size, 1, none⟩ = false := ⟨h.1.cell 0, h.1.cell 1, h.1.frozen 0, h.1.frozen 1⟩

theorem C1.put {w W : World} (h : C1 w W) (n d : Int) : Blk ((W.setCell ⟨w.heap.size, 0, none⟩ (.int .i64 n)).setCell ⟨w.heap.size, 1, none⟩ (.int .i64 d)) w.heap.size 23 #[.int .i64 n, .int .i64 d] ∧
    Below w.heap.size w ((W.setCell ⟨w.heap.size, 0, none⟩ (.int .i64 n)).setCell ⟨w.heap.size, 1, none⟩ (.int .i64 d)) :=
  ⟨(h.1.put 0 _).put 1 _, (h.2.1.setCell (by simp) _).setCell (by simp) _⟩

theorem lowR_good {neg : Bool} {N D : Nat} (hD : 0 < D) {r1 r2 : Int} (h : lowR neg N D = (r1, r2, 0)) : vP r1 r2 := by
  unfold lowR at h
  split at h
  · rename_i hb
    have hg : 0 < Nat.gcd N D := Nat.gcd_pos_of_pos_right _ hD
    have hc : Nat.gcd (N / Nat.gcd N D) (D / Nat.gcd N D) = 1 := Nat.coprime_div_gcd_div_gcd hg
    have hp : 0 < D / Nat.gcd N D := Nat.div_pos (Nat.gcd_le_right _ hD) hg
    generalize N / Nat.gcd N D = x at *
    generalize D / Nat.gcd N D = y at *
    injection h with h1 h2
    injection h2 with h3 h4
    have hx : r1.natAbs = x := by
      rw [← h1]; split <;> omega
    refine ⟨by omega, by omega, by omega, by omega, ?_⟩
    rw [hx, show r2.natAbs = y by omega]
    exact hc
  · injection h with _ h2
    injection h2 with _ h4
    simp at h4

theorem ret_one {fn : Func} {p : Tmp} (hr : fn.results = #[.cell p 23]) {tmps : Array Value} {w : World} {g : Nat} {n d : Int} {R : Ending → World → Prop}
    (hp : tmps.getD p undef = .pointer (some ⟨g, 0, none⟩)) (h : Blk w g 23 #[.int .i64 n, .int .i64 d]) (hR : R (.returned (.agg #[.int .i64 n, .int .i64 d])) w) :
    bodyPost Try.prog fn R .ret { tmps := tmps, defers := [] } w := by
  refine bodyPost_ret (v := .agg #[.int .i64 n, .int .i64 d]) ?_ rfl hR
  have hp' : tmps[p]?.getD undef = .pointer (some ⟨g, 0, none⟩) := by simpa using hp
  have hl := run_loadVar_row (P := Try.prog) w g 23 23 _ (0, 0) _ h Try.underlying23 rfl (by kernel_rfl)
  simp [results, hr, hp', asAddr, hl]

/-- In lowest terms: by what the result was shortened. -/
theorem lowR_mul {z d r1 r2 : Int} (hd : 0 < d) (h : lowR (decide (z < 0)) z.natAbs d.natAbs = (r1, r2, 0)) : vP r1 r2 ∧ ∃ k : Int, 0 < k ∧ z = r1 * k ∧ d = r2 * k := by
  have hv := lowR_good (by omega) h
  refine ⟨hv, ((Nat.gcd z.natAbs d.natAbs : Nat) : Int), ?_, ?_⟩
  · have := Nat.gcd_pos_of_pos_right z.natAbs (n := d.natAbs) (by omega); omega
  · have e1 : z.natAbs / Nat.gcd z.natAbs d.natAbs * Nat.gcd z.natAbs d.natAbs = z.natAbs := Nat.div_mul_cancel (Nat.gcd_dvd_left _ _)
    have e2 : d.natAbs / Nat.gcd z.natAbs d.natAbs * Nat.gcd z.natAbs d.natAbs = d.natAbs := Nat.div_mul_cancel (Nat.gcd_dvd_right _ _)
    unfold lowR at h
    split at h
    · injection h with h1 h2
      injection h2 with h3 h4
      obtain ⟨x, hx⟩ : ∃ x, z.natAbs / Nat.gcd z.natAbs d.natAbs = x := ⟨_, rfl⟩
      obtain ⟨y, hy⟩ : ∃ y, d.natAbs / Nat.gcd z.natAbs d.natAbs = y := ⟨_, rfl⟩
      rw [hx] at e1 h1
      rw [hy] at e2 h3
      have e3 : (x : Int) * ((Nat.gcd z.natAbs d.natAbs : Nat) : Int) = (z.natAbs : Int) := by rw [← Int.natCast_mul, e1]
      have e4 : (y : Int) * ((Nat.gcd z.natAbs d.natAbs : Nat) : Int) = (d.natAbs : Int) := by rw [← Int.natCast_mul, e2]
      refine ⟨?_, by rw [← h3, e4]; omega⟩
      rcases Int.lt_or_le z 0 with s | s
      · rw [decide_eq_true s] at h1; simp only [if_true] at h1; rw [← h1, Int.neg_mul, e3]; omega
      · rw [decide_eq_false (by omega : ¬ z < 0)] at h1; simp only [Bool.false_eq_true, if_false] at h1; rw [← h1, e3]; omega
    · injection h with _ h2
      injection h2 with _ h4
      simp at h4

theorem mulR_mul {an ad bn bd r1 r2 : Int} (ha : vP an ad) (hb : vP bn bd) (h : mulR an ad bn bd = (r1, r2, 0)) : vP r1 r2 ∧ ∃ k : Int, 0 < k ∧ an * bn = r1 * k ∧ ad * bd = r2 * k := by
  unfold mulR prodR at h
  rw [if_pos ⟨ha, hb⟩] at h
  exact lowR_mul (Int.mul_pos (by have := ha.1; omega) (by have := hb.1; omega)) h

/-- Two fractions in lowest terms that are equal as numbers are the same. -/
theorem vP_eq {an ad bn bd : Int} (ha : vP an ad) (hb : vP bn bd) (h : an * bd = bn * ad) : an = bn ∧ ad = bd := by
  have a1 := ha.1
  have b1 := hb.1
  have hN : an.natAbs * bd.natAbs = bn.natAbs * ad.natAbs := by rw [← Int.natAbs_mul, h, Int.natAbs_mul]
  have d1 : ad.natAbs ∣ bd.natAbs := by
    have : ad.natAbs ∣ an.natAbs * bd.natAbs := by rw [hN]; exact Nat.dvd_mul_left _ _
    exact Nat.Coprime.dvd_of_dvd_mul_left (Nat.Coprime.symm ha.2.2.2.2) this
  have d2 : bd.natAbs ∣ ad.natAbs := by
    have : bd.natAbs ∣ bn.natAbs * ad.natAbs := by rw [← hN]; exact Nat.dvd_mul_left _ _
    exact Nat.Coprime.dvd_of_dvd_mul_left (Nat.Coprime.symm hb.2.2.2.2) this
  have e : ad.natAbs = bd.natAbs := Nat.dvd_antisymm d1 d2
  have e2 : ad = bd := by omega
  subst e2
  exact ⟨Int.eq_of_mul_eq_mul_right (by omega) h, rfl⟩

theorem sgn_zero {z : Int} : sgn z = 0 ↔ z = 0 := by unfold sgn; split <;> (try split) <;> omega

theorem sgn_le {z : Int} : sgn z ≤ 0 ↔ z ≤ 0 := by unfold sgn; split <;> (try split) <;> omega

/-- Compare is 0 exactly for the same fraction. -/
theorem cmp_zero {an ad bn bd : Int} (ha : vP an ad) (hb : vP bn bd) : cmpR an ad bn bd = 0 ↔ (an = bn ∧ ad = bd) := by
  unfold cmpR
  rw [if_pos ⟨ha, hb⟩, sgn_zero]
  constructor
  · intro h; exact vP_eq ha hb (by omega)
  · rintro ⟨rfl, rfl⟩; omega

/-- Compare is transitive. -/
theorem cmp_trans {an ad bn bd cn cd : Int} (ha : vP an ad) (hb : vP bn bd) (hc : vP cn cd) (h1 : cmpR an ad bn bd ≤ 0) (h2 : cmpR bn bd cn cd ≤ 0) : cmpR an ad cn cd ≤ 0 := by
  unfold cmpR at *
  rw [if_pos ⟨ha, hb⟩, sgn_le] at h1
  rw [if_pos ⟨hb, hc⟩, sgn_le] at h2
  rw [if_pos ⟨ha, hc⟩, sgn_le]
  have a1 := ha.1
  have b1 := hb.1
  have c1 := hc.1
  have k1 : an * bd * cd ≤ bn * ad * cd := Int.mul_le_mul_of_nonneg_right (by omega) (by omega)
  have k2 : bn * cd * ad ≤ cn * bd * ad := Int.mul_le_mul_of_nonneg_right (by omega) (by omega)
  have e1 : bn * ad * cd = bn * cd * ad := Int.mul_right_comm _ _ _
  have k3 : (an * cd) * bd ≤ (cn * ad) * bd := by
    rw [Int.mul_right_comm, Int.mul_right_comm cn ad bd]; omega
  have := Int.le_of_mul_le_mul_right k3 (by omega : 0 < bd)
  omega

theorem sgn_neg {z : Int} : sgn (-z) = -sgn z := by
  unfold sgn
  split <;> (try split) <;> (try split) <;> (try split) <;> omega

theorem vP_neg {n d : Int} : vP (-n) d ↔ vP n d := by
  unfold vP
  rw [Int.natAbs_neg]
  constructor <;> rintro ⟨h1, h2, h3, h4, h5⟩ <;> exact ⟨h1, h2, by omega, by omega, h5⟩

theorem cmp_anti (an ad bn bd : Int) : cmpR bn bd an ad = -cmpR an ad bn bd := by
  unfold cmpR
  by_cases hv : vP an ad ∧ vP bn bd
  · rw [if_pos hv, if_pos ⟨hv.2, hv.1⟩, ← sgn_neg]; congr 1; omega
  · rw [if_neg hv, if_neg (fun h => hv ⟨h.2, h.1⟩)]; rfl

/-- These fractions lie in these blocks. -/
def Frs (W : World) (l : List (Nat × Int × Int)) : Prop := ∀ x ∈ l, Blk W x.1 23 #[.int .i64 x.2.1, .int .i64 x.2.2]

theorem Frs.below {W W' : World} {l : List (Nat × Int × Int)} (h : Frs W l) (hb : Below W.heap.size W W') : Frs W' l := fun x hx => (h x hx).below hb (h x hx).lt

theorem Frs.new {W : World} {l : List (Nat × Int × Int)} (h : Frs W l) (n d : Int) : Frs (W.alloc (.cells #[.int .i64 n, .int .i64 d] 23)) ((W.heap.size, n, d) :: l) := by
  intro x hx
  rcases List.mem_cons.1 hx with rfl | hx
  · exact Blk.new W _ _
  · exact (h x hx).alloc _

theorem Frs.get {W : World} {l : List (Nat × Int × Int)} (h : Frs W l) {g : Nat} {n d : Int} (hm : (g, n, d) ∈ l) : W.cell? ⟨g, 0, none⟩ = some (.int .i64 n) ∧ W.cell? ⟨g, 1, none⟩ = some (.int .i64 d) ∧ g < W.heap.size :=
  ⟨(h _ hm).cell 0, (h _ hm).cell 1, (h _ hm).lt⟩

theorem Frs.put2 {W : World} {l : List (Nat × Int × Int)} (h : Frs W l) {g : Nat} {n d : Int} (hm : (g, n, d) ∈ l) (n' d' : Int) (l' : List (Nat × Int × Int)) (hl : ∀ x ∈ l', x = (g, n', d') ∨ (x ∈ l ∧ x.1 ≠ g)) :
    Frs ((W.setCell ⟨g, 0, none⟩ (.int .i64 n')).setCell ⟨g, 1, none⟩ (.int .i64 d')) l' := by
  intro x hx
  rcases hl x hx with rfl | ⟨h1, h2⟩
  · exact ((h _ hm).put 0 _).put 1 _
  · exact ((h x h1).far (p := ⟨g, 0, none⟩) h2 _).far (p := ⟨g, 1, none⟩) h2 _

theorem Frs.fr {W : World} {l : List (Nat × Int × Int)} (h : Frs W l) {g : Nat} {n d : Int} (hm : (g, n, d) ∈ l) : W.frozen? ⟨g, 0, none⟩ = false ∧ W.frozen? ⟨g, 1, none⟩ = false := ⟨(h _ hm).frozen 0, (h _ hm).frozen 1⟩

theorem vP64 {n d : Int} (h : vP n d) : (-9223372036854775808 ≤ n ∧ n ≤ 9223372036854775807) ∧ (-9223372036854775808 ≤ d ∧ d ≤ 9223372036854775807) :=
  ⟨⟨by have := h.2.2.1; omega, by have := h.2.2.2.1; omega⟩, ⟨by have := h.1; omega, by have := h.2.1; omega⟩⟩

end Go.Proofs.Yteppamchbgnlfaa
