/- Intervals: each operation is the reference's. Conditions: numbers of 64 bits. -/
import Derived.Test.YtkdbffhmnkkbcaaRDo1
import Derived.Test.YtkdbffhmnkkbcaaRDo2
import Derived.Test.YtkdbffhmnkkbcaaRDo3
import Derived.Test.YtkdbffhmnkkbcaaLives4
namespace Go.Proofs.Ytkdbffhmnkkbcaa
open Go.RowKit

theorem rv_zero' (d : Int) : rv 0 d = 0 := by
  unfold rv
  rw [show ((0 : Int) : Rat) = 0 from rfl]
  grind
theorem lowR_err (s : Bool) (n d : Nat) : (lowR s n d).2.2 = 0 ∨ (lowR s n d).2.2 = 5 := by
  unfold lowR
  split
  · exact .inl rfl
  · exact .inr rfl
theorem addR_err {a b c d : Int} (h : vP a b) (k : vP c d) : (addR a b c d).2.2 = 0 ∨ (addR a b c d).2.2 = 5 := by
  unfold addR sumR
  rw [if_pos ⟨h, k⟩]
  exact lowR_err _ _ _
theorem mulR_err {a b c d : Int} (h : vP a b) (k : vP c d) : (mulR a b c d).2.2 = 0 ∨ (mulR a b c d).2.2 = 5 := by
  unfold mulR prodR
  rw [if_pos ⟨h, k⟩]
  exact lowR_err _ _ _
theorem divR_err {a b c d : Int} (h : vP a b) (k : vP c d) (h0 : c ≠ 0) : (divR a b c d).2.2 = 0 ∨ (divR a b c d).2.2 = 5 := by
  unfold divR
  rw [if_pos ⟨h, k⟩, if_neg h0]
  split
  · rename_i hn
    exact mulR_err h (vP_inv2 k hn)
  · exact mulR_err h (vP_inv k (by omega))
theorem addR_rv {a b c d r1 r2 : Int} (h : vP a b) (k : vP c d) (hr : addR a b c d = (r1, r2, 0)) : vP r1 r2 ∧ rv r1 r2 = rv a b + rv c d := by
  unfold addR sumR at hr
  rw [if_pos ⟨h, k⟩] at hr
  have hp : 0 < b * d := Int.mul_pos h.pos k.pos
  obtain ⟨hv, q, hq, e1, e2⟩ := lowR_mul hp hr
  exact ⟨hv, by rw [rv_add h.pos k.pos, rv_scale hq hv.pos e1 e2]⟩
theorem addR_good {a b c d : Int} (h : vP a b) (k : vP c d) (hr : (addR a b c d).2.2 = 0) : vP (addR a b c d).1 (addR a b c d).2.1 := by
  obtain ⟨⟨r1, r2, r3⟩, e⟩ : ∃ r, addR a b c d = r := ⟨_, rfl⟩
  rw [e] at hr ⊢
  simp only at hr ⊢
  subst hr
  exact (addR_rv h k e).1
theorem pair_min {p q r s : Int} (h : vP p q) (k : vP r s) (hle : rv p q ≤ rv r s) : minL [(p, q), (r, s)] = (p, q) := by
  have h2 : minL [(p, q), (r, s)] = stepMin (p, q) (r, s) := rfl
  rw [h2]
  unfold stepMin
  rw [if_neg]
  intro hc
  have := (cmp_ge k h).2 hle
  simp only at hc
  omega
theorem pair_max {p q r s : Int} (h : vP p q) (k : vP r s) (hle : rv p q ≤ rv r s) : maxL [(p, q), (r, s)] = (r, s) := by
  have h2 : maxL [(p, q), (r, s)] = stepMax (p, q) (r, s) := rfl
  rw [h2]
  unfold stepMax
  by_cases hc : 0 < cmpR r s p q
  · rw [if_pos hc]
  · rw [if_neg hc]
    have h3 := (cmp_le k h).1 (by omega)
    obtain ⟨e1, e2⟩ := rv_inj h k (by grind)
    rw [e1, e2]
theorem two_way {r0 r1 : R3} (h0 : r0.2.2 = 0 ∨ r0.2.2 = 5) (h1 : r1.2.2 = 0 ∨ r1.2.2 = 5) (g0 : r0.2.2 = 0 → vP r0.1 r0.2.1) (g1 : r1.2.2 = 0 → vP r1.1 r1.2.1) (hle : r0.2.2 = 0 → r1.2.2 = 0 → rv r0.1 r0.2.1 ≤ rv r1.1 r1.2.1) :
    (if r0.2.2 = 0 then (if r1.2.2 = 0 then (r0.1, r0.2.1, r1.1, r1.2.1, 0) else (0, 0, 0, 0, r1.2.2)) else (0, 0, 0, 0, r0.2.2)) = frR [r0, r1] := by
  obtain ⟨p0, q0, e0⟩ := r0
  obtain ⟨p1, q1, e1⟩ := r1
  simp only at h0 h1 g0 g1 hle ⊢
  by_cases k0 : e0 = 0
  · by_cases k1 : e1 = 0
    · subst k0 k1
      rw [if_pos rfl, if_pos rfl]
      unfold frR
      rw [if_pos (by simp)]
      have a1 := pair_min (g0 rfl) (g1 rfl) (hle rfl rfl)
      have a2 := pair_max (g0 rfl) (g1 rfl) (hle rfl rfl)
      have e : pts [(p0, q0, 0), (p1, q1, 0)] = [(p0, q0), (p1, q1)] := rfl
      rw [e, a1, a2]
    · rw [if_pos k0, if_neg k1, frR_err (r := (p1, q1, e1)) (by simp) k1]
      have : e1 = 5 := by omega
      rw [this]
  · rw [if_neg k0, frR_err (r := (p0, q0, e0)) (by simp) k0]
    have : e0 = 5 := by omega
    rw [this]
theorem four_way {r0 r1 r2 r3 : R3} (h0 : r0.2.2 = 0 ∨ r0.2.2 = 5) (h1 : r1.2.2 = 0 ∨ r1.2.2 = 5) (h2 : r2.2.2 = 0 ∨ r2.2.2 = 5) (h3 : r3.2.2 = 0 ∨ r3.2.2 = 5) (g0 : r0.2.2 = 0 → vP r0.1 r0.2.1) (g1 : r1.2.2 = 0 → vP r1.1 r1.2.1) (g2 : r2.2.2 = 0 → vP r2.1 r2.2.1) (g3 : r3.2.2 = 0 → vP r3.1 r3.2.1) :
    exR r0 r1 r2 r3 = frR [r0, r3, r1, r2] := by
  obtain ⟨p0, q0, e0⟩ := r0
  obtain ⟨p1, q1, e1⟩ := r1
  obtain ⟨p2, q2, e2⟩ := r2
  obtain ⟨p3, q3, e3⟩ := r3
  simp only at h0 h1 h2 h3 g0 g1 g2 g3
  unfold exR
  simp only
  by_cases k0 : e0 = 0
  · by_cases k1 : e1 = 0
    · by_cases k2 : e2 = 0
      · by_cases k3 : e3 = 0
        · subst k0 k1 k2 k3
          rw [if_neg (by simp), if_neg (by simp), if_neg (by simp), if_neg (by simp)]
          unfold frR
          rw [if_pos (by simp)]
          have e : pts [(p0, q0, 0), (p3, q3, 0), (p1, q1, 0), (p2, q2, 0)] = [(p0, q0), (p3, q3), (p1, q1), (p2, q2)] := rfl
          have hv : VL [(p0, q0), (p3, q3), (p1, q1), (p2, q2)] := by
            intro x hm
            simp only [List.mem_cons, List.not_mem_nil, or_false] at hm
            rcases hm with rfl | rfl | rfl | rfl
            · exact g0 rfl
            · exact g3 rfl
            · exact g1 rfl
            · exact g2 rfl
          have hw : VL [(p0, q0), (p1, q1), (p2, q2), (p3, q3)] := fun x hm => hv x (by simp only [List.mem_cons, List.not_mem_nil, or_false] at hm ⊢; grind)
          have i1 := minL_is (by simp) hw
          have i2 := minL_is (by simp) hv
          have i3 := maxL_is (by simp) hw
          have i4 := maxL_is (by simp) hv
          have a1 : minL [(p0, q0), (p1, q1), (p2, q2), (p3, q3)] = minL [(p0, q0), (p3, q3), (p1, q1), (p2, q2)] :=
            IsMin.eq hv ⟨by have := i1.1; simp only [List.mem_cons, List.not_mem_nil, or_false] at this ⊢; grind, fun y hy => i1.2 y (by simp only [List.mem_cons, List.not_mem_nil, or_false] at hy ⊢; grind)⟩ i2
          have a2 : maxL [(p0, q0), (p1, q1), (p2, q2), (p3, q3)] = maxL [(p0, q0), (p3, q3), (p1, q1), (p2, q2)] :=
            IsMax.eq hv ⟨by have := i3.1; simp only [List.mem_cons, List.not_mem_nil, or_false] at this ⊢; grind, fun y hy => i3.2 y (by simp only [List.mem_cons, List.not_mem_nil, or_false] at hy ⊢; grind)⟩ i4
          rw [e, a1, a2]
        · rw [if_neg (by simp [k0]), if_neg (by simp [k1]), if_neg (by simp [k2]), if_pos k3, frR_err (r := (p3, q3, e3)) (by simp) k3, show e3 = 5 by omega]
      · rw [if_neg (by simp [k0]), if_neg (by simp [k1]), if_pos k2, frR_err (r := (p2, q2, e2)) (by simp) k2, show e2 = 5 by omega]
    · rw [if_neg (by simp [k0]), if_pos k1, frR_err (r := (p1, q1, e1)) (by simp) k1, show e1 = 5 by omega]
  · rw [if_pos k0, frR_err (r := (p0, q0, e0)) (by simp) k0, show e0 = 5 by omega]

section
variable {a b c d a' b' c' d' : Int}
theorem ng_vP {n d : Int} (h : vP n d) : ng n = -n := if_neg (by have := h.2.2.1; omega)
theorem ng_back {n d : Int} (h : vP (ng n) d) : vP n d := by
  by_cases h0 : n = -9223372036854775808
  · subst h0
    have := h.2.2.1
    unfold ng at this
    rw [if_pos rfl] at this
    omega
  · have e : ng n = -n := if_neg h0
    rw [e] at h
    exact vP_neg.1 h
theorem vI_ng : vI (ng c') d' (ng a') b' ↔ vI a' b' c' d' := by
  constructor
  · rintro ⟨⟨h1, h2⟩, h3⟩
    have k1 := ng_back h1
    have k2 := ng_back h2
    rw [ng_vP k1, ng_vP k2] at h3
    have := (cmp_le (vP_neg.2 k1) (vP_neg.2 k2)).1 h3
    rw [rv_neg, rv_neg] at this
    exact ⟨⟨k2, k1⟩, (cmp_le k2 k1).2 (by grind)⟩
  · rintro ⟨⟨k2, k1⟩, h3⟩
    rw [ng_vP k1, ng_vP k2]
    have := (cmp_le k2 k1).1 h3
    exact ⟨⟨vP_neg.2 k1, vP_neg.2 k2⟩, (cmp_le (vP_neg.2 k1) (vP_neg.2 k2)).2 (by rw [rv_neg, rv_neg]; grind)⟩
theorem add_ref (hx : vI a b c d) (hy : vI a' b' c' d') : addI a b c d a' b' c' d' = frR [addR a b a' b', addR c d c' d'] := by
  unfold addI
  rw [if_pos ⟨hx, hy⟩]
  refine two_way (addR_err hx.1.1 hy.1.1) (addR_err hx.1.2 hy.1.2) (addR_good hx.1.1 hy.1.1) (addR_good hx.1.2 hy.1.2) (fun h0 h1 => ?_)
  obtain ⟨⟨p0, q0, e0⟩, f0⟩ : ∃ r, addR a b a' b' = r := ⟨_, rfl⟩
  obtain ⟨⟨p1, q1, e1⟩, f1⟩ : ∃ r, addR c d c' d' = r := ⟨_, rfl⟩
  rw [f0] at h0 ⊢
  rw [f1] at h1 ⊢
  simp only at h0 h1 ⊢
  subst h0 h1
  have t0 := (addR_rv hx.1.1 hy.1.1 f0).2
  have t1 := (addR_rv hx.1.2 hy.1.2 f1).2
  have o1 := (cmp_le hx.1.1 hx.1.2).1 hx.2
  have o2 := (cmp_le hy.1.1 hy.1.2).1 hy.2
  grind
theorem sub_ref (hx : vI a b c d) (hy : vI a' b' c' d') : subI a b c d a' b' c' d' = frR [subR a b c' d', subR c d a' b'] := by
  unfold subI subR
  rw [add_ref hx (vI_ng.2 hy), ng_vP hy.1.1, ng_vP hy.1.2]
theorem mul_ref (hx : vI a b c d) (hy : vI a' b' c' d') : mulI a b c d a' b' c' d' = frR [mulR a b a' b', mulR c d c' d', mulR a b c' d', mulR c d a' b'] := by
  unfold mulI
  rw [if_pos ⟨hx, hy⟩]
  exact four_way (mulR_err hx.1.1 hy.1.1) (mulR_err hx.1.1 hy.1.2) (mulR_err hx.1.2 hy.1.1) (mulR_err hx.1.2 hy.1.2) mulR_good mulR_good mulR_good mulR_good
theorem rv_sign {n d : Int} (h : vP n d) : (rv n d ≤ 0 ↔ n ≤ 0) ∧ (0 ≤ rv n d ↔ 0 ≤ n) := by
  have e1 := rv_le (an := n) (ad := d) (bn := 0) (bd := 1) h.pos (by decide)
  have e2 := rv_le (an := 0) (ad := 1) (bn := n) (bd := d) (by decide) h.pos
  rw [rv_zero'] at e1 e2
  constructor
  · rw [e1]; omega
  · rw [e2]; omega
theorem con_iff (hy : vI a' b' c' d') : conB a' b' c' d' 0 1 = true ↔ a' ≤ 0 ∧ 0 ≤ c' := by
  have hz : vP 0 1 := by decide
  have hp : ptI 0 1 = (0, 1, 0, 1) := if_pos hz
  unfold conB
  rw [hp]
  unfold inB
  rw [decide_eq_true_eq, cmp_le hy.1.1 hz, cmp_le hz hy.1.2, rv_zero', (rv_sign hy.1.1).1, (rv_sign hy.1.2).2]
  exact ⟨fun k => k.2, fun k => ⟨⟨(vI_self 0 1).2 hz, hy⟩, k⟩⟩
theorem div_ref (hx : vI a b c d) (hy : vI a' b' c' d') (hz : ¬ (a' ≤ 0 ∧ 0 ≤ c')) : divI a b c d a' b' c' d' = frR [divR a b a' b', divR c d c' d', divR a b c' d', divR c d a' b'] := by
  unfold divI
  rw [if_pos ⟨hx, hy⟩, if_neg (fun k => hz ((con_iff hy).1 k))]
  have o2 := (cmp_le hy.1.1 hy.1.2).1 hy.2
  have s1 := rv_sign hy.1.1
  have s2 := rv_sign hy.1.2
  have n1 : a' ≠ 0 := by
    intro e
    subst e
    exact hz ⟨by omega, s2.2.1 (by have := s1.2.2 (by omega); grind)⟩
  have n2 : c' ≠ 0 := by
    intro e
    subst e
    exact hz ⟨s1.1.1 (by have := s2.1.2 (by omega); grind), by omega⟩
  exact four_way (divR_err hx.1.1 hy.1.1 n1) (divR_err hx.1.1 hy.1.2 n2) (divR_err hx.1.2 hy.1.1 n1) (divR_err hx.1.2 hy.1.2 n2) divR_good divR_good divR_good divR_good
end
set_option maxRecDepth 100000 in
set_option maxHeartbeats 8000000 in
theorem rdoI_w {a b c d a' b' c' d' : Int} (h : W2 a b) (k : W2 c d) (h' : W2 a' b') (k' : W2 c' d') (o : Int) (hv : (vIB a b c d && vIB a' b' c' d') = false) (w : World) :
    Calls Try.prog 20 #[.int .i64 o, .agg #[.int .i64 a, .int .i64 b, .int .i64 c, .int .i64 d], .agg #[.int .i64 a', .int .i64 b', .int .i64 c', .int .i64 d']] w fun e w' => e = .returned (RI (0, 0, 0, 0, 1)) ∧ Below w.heap.size w w' := by
  have BW := both_w h k h' k'
  rw [hv] at BW
  replace BW := Lib.hid BW
  obtain ⟨hA, hE, hR, hW⟩ := start3 w 25 #[.int .i64 a, .int .i64 b, .int .i64 c, .int .i64 d] 25 #[.int .i64 a', .int .i64 b', .int .i64 c', .int .i64 d'] 25 #[.int .i64 0, .int .i64 0, .int .i64 0, .int .i64 0]
  clear h k h' k' hv
  have cA0 := hA.cell 0
  have cA1 := hA.cell 1
  have cA2 := hA.cell 2
  have cA3 := hA.cell 3
  have zA := hA.lt
  have cE0 := hE.cell 0
  have cE1 := hE.cell 1
  have cE2 := hE.cell 2
  have cE3 := hE.cell 3
  have zE := hE.lt
  go_enter Try.func20, Try.ntmps20
  go_wp2_with fail
  (with_reducible refine (BW.out _).mono ?_)
  rintro e w1 ⟨rfl, hB⟩
  replace hA := hA.below hB hA.lt
  replace hE := hE.below hB hE.lt
  replace hR := hR.below hB hR.lt
  replace hW := below_st hW hB
  clear hB cA0 cA1 cA2 cA3 zA cE0 cE1 cE2 cE3 zE BW
  have cA0 := hA.cell 0
  have cA1 := hA.cell 1
  have cA2 := hA.cell 2
  have cA3 := hA.cell 3
  have zA := hA.lt
  have cE0 := hE.cell 0
  have cE1 := hE.cell 1
  have cE2 := hE.cell 2
  have cE3 := hE.cell 3
  have zE := hE.lt
  have fR := hR.frozen
  have r0 := hR.cell 0
  have r1 := hR.cell 1
  have r2 := hR.cell 2
  have r3 := hR.cell 3
  have HR := Lib.hid hR
  have HW := Lib.hid hW
  clear hR hW
  go_wp2
  have k := put4 HR.out HW.out (by omega) 0 0 0 0
  exact ret_iv (p := 6) (q := 7) (by kernel_rfl) rfl rfl k.1 ⟨rfl, k.2⟩
set_option maxRecDepth 100000 in
set_option maxHeartbeats 8000000 in
theorem rdoZ_w {a b c d a' b' c' d' : Int} (h : W2 a b) (k : W2 c d) (h' : W2 a' b') (k' : W2 c' d') (hv : (vIB a b c d && vIB a' b' c' d') = true) (_z1 : a' ≤ 0) (_z2 : 0 ≤ c') (w : World) :
    Calls Try.prog 20 #[.int .i64 3, .agg #[.int .i64 a, .int .i64 b, .int .i64 c, .int .i64 d], .agg #[.int .i64 a', .int .i64 b', .int .i64 c', .int .i64 d']] w fun e w' => e = .returned (RI (0, 0, 0, 0, 6)) ∧ Below w.heap.size w w' := by
  have BW := both_w h k h' k'
  rw [hv] at BW
  replace BW := Lib.hid BW
  obtain ⟨hA, hE, hR, hW⟩ := start3 w 25 #[.int .i64 a, .int .i64 b, .int .i64 c, .int .i64 d] 25 #[.int .i64 a', .int .i64 b', .int .i64 c', .int .i64 d'] 25 #[.int .i64 0, .int .i64 0, .int .i64 0, .int .i64 0]
  clear h k h' k' hv
  have cA0 := hA.cell 0
  have cA1 := hA.cell 1
  have cA2 := hA.cell 2
  have cA3 := hA.cell 3
  have zA := hA.lt
  have cE0 := hE.cell 0
  have cE1 := hE.cell 1
  have cE2 := hE.cell 2
  have cE3 := hE.cell 3
  have zE := hE.lt
  go_enter Try.func20, Try.ntmps20
  go_wp2_with fail
  (with_reducible refine (BW.out _).mono ?_)
  rintro e w1 ⟨rfl, hB⟩
  replace hA := hA.below hB hA.lt
  replace hE := hE.below hB hE.lt
  replace hR := hR.below hB hR.lt
  replace hW := below_st hW hB
  clear hB cA0 cA1 cA2 cA3 zA cE0 cE1 cE2 cE3 zE BW
  have cA0 := hA.cell 0
  have cA1 := hA.cell 1
  have cA2 := hA.cell 2
  have cA3 := hA.cell 3
  have zA := hA.lt
  have cE0 := hE.cell 0
  have cE1 := hE.cell 1
  have cE2 := hE.cell 2
  have cE3 := hE.cell 3
  have zE := hE.lt
  have fR := hR.frozen
  have r0 := hR.cell 0
  have r1 := hR.cell 1
  have r2 := hR.cell 2
  have r3 := hR.cell 3
  have HR := Lib.hid hR
  have HW := Lib.hid hW
  clear hR hW
  go_wp2
  have k := put4 HR.out HW.out (by omega) 0 0 0 0
  exact ret_iv (p := 6) (q := 7) (by kernel_rfl) rfl rfl k.1 ⟨rfl, k.2⟩
/-- What the law asks of one operation. -/
theorem ar_ops {a b c d a' b' c' d' : Int} (h : W2 a b) (k : W2 c d) (h' : W2 a' b') (k' : W2 c' d') (o : Nat) (ho : o < 4) : ∃ z1 z2 z3 z4 e : Int,
    (∀ w, Calls Try.prog 19 #[.int .i64 o, .agg #[.int .i64 a, .int .i64 b, .int .i64 c, .int .i64 d], .agg #[.int .i64 a', .int .i64 b', .int .i64 c', .int .i64 d']] w fun r w' => r = .returned (.tuple #[.agg #[.int .i64 z1, .int .i64 z2, .int .i64 z3, .int .i64 z4], .int .i64 e]) ∧ Below w.heap.size w w') ∧
    (∀ w, Calls Try.prog 20 #[.int .i64 o, .agg #[.int .i64 a, .int .i64 b, .int .i64 c, .int .i64 d], .agg #[.int .i64 a', .int .i64 b', .int .i64 c', .int .i64 d']] w fun r w' => r = .returned (.tuple #[.agg #[.int .i64 z1, .int .i64 z2, .int .i64 z3, .int .i64 z4], .int .i64 e]) ∧ Below w.heap.size w w') := by
  by_cases hv : vI a b c d ∧ vI a' b' c' d'
  · obtain ⟨hx, hy⟩ := hv
    match o, ho with
    | 0, _ =>
      obtain ⟨⟨z1, z2, z3, z4, e⟩, hz⟩ : ∃ x, addI a b c d a' b' c' d' = x := ⟨_, rfl⟩
      refine ⟨z1, z2, z3, z4, e, fun w => ?_, fun w => ?_⟩
      · have := do0_w h k h' k' w
        rw [hz] at this
        exact this
      · have := rdo0_w hx hy (by intro r hr; simp only [List.mem_cons, List.not_mem_nil, or_false] at hr; rcases hr with rfl | rfl; exact addR_good hx.1.1 hy.1.1; exact addR_good hx.1.2 hy.1.2) w
        rw [← add_ref hx hy, hz] at this
        exact this
    | 1, _ =>
      obtain ⟨⟨z1, z2, z3, z4, e⟩, hz⟩ : ∃ x, subI a b c d a' b' c' d' = x := ⟨_, rfl⟩
      refine ⟨z1, z2, z3, z4, e, fun w => ?_, fun w => ?_⟩
      · have := do1_w h k h' k' w
        rw [hz] at this
        exact this
      · have := rdo1_w hx hy (by intro r hr; simp only [List.mem_cons, List.not_mem_nil, or_false] at hr; rcases hr with rfl | rfl; exact addR_good hx.1.1 (vP_neg.2 hy.1.2); exact addR_good hx.1.2 (vP_neg.2 hy.1.1)) w
        rw [← sub_ref hx hy, hz] at this
        exact this
    | 2, _ =>
      obtain ⟨⟨z1, z2, z3, z4, e⟩, hz⟩ : ∃ x, mulI a b c d a' b' c' d' = x := ⟨_, rfl⟩
      refine ⟨z1, z2, z3, z4, e, fun w => ?_, fun w => ?_⟩
      · have := do2_w h k h' k' w
        rw [hz] at this
        exact this
      · have := rdo2_w hx hy (by intro r hr; simp only [List.mem_cons, List.not_mem_nil, or_false] at hr; rcases hr with rfl | rfl | rfl | rfl <;> exact mulR_good) w
        rw [← mul_ref hx hy, hz] at this
        exact this
    | 3, _ =>
      by_cases hq : a' ≤ 0 ∧ 0 ≤ c'
      · refine ⟨0, 0, 0, 0, 6, fun w => ?_, fun w => ?_⟩
        · have := do3_w h k h' k' w
          have hz : divI a b c d a' b' c' d' = (0, 0, 0, 0, 6) := by unfold divI; rw [if_pos ⟨hx, hy⟩, if_pos ((con_iff hy).2 hq)]
          rw [hz] at this
          exact this
        · exact rdoZ_w h k h' k' (by rw [show vIB a b c d = true from decide_eq_true hx, show vIB a' b' c' d' = true from decide_eq_true hy]; rfl) hq.1 hq.2 w
      · obtain ⟨⟨z1, z2, z3, z4, e⟩, hz⟩ : ∃ x, divI a b c d a' b' c' d' = x := ⟨_, rfl⟩
        refine ⟨z1, z2, z3, z4, e, fun w => ?_, fun w => ?_⟩
        · have := do3_w h k h' k' w
          rw [hz] at this
          exact this
        · by_cases ha : a' ≤ 0
          · have := rdo3b_w hx hy ha (by omega) (by omega) (by intro r hr; simp only [List.mem_cons, List.not_mem_nil, or_false] at hr; rcases hr with rfl | rfl | rfl | rfl <;> exact divR_good) w
            rw [← div_ref hx hy hq, hz] at this
            exact this
          · have := rdo3a_w hx hy (by omega) ha (by intro r hr; simp only [List.mem_cons, List.not_mem_nil, or_false] at hr; rcases hr with rfl | rfl | rfl | rfl <;> exact divR_good) w
            rw [← div_ref hx hy hq, hz] at this
            exact this
  · have hb : (vIB a b c d && vIB a' b' c' d') = false := by
      rw [Bool.and_eq_false_iff]
      by_cases h1 : vI a b c d
      · exact .inr (decide_eq_false (fun h2 => hv ⟨h1, h2⟩))
      · exact .inl (decide_eq_false h1)
    refine ⟨0, 0, 0, 0, 1, fun w => ?_, fun w => rdoI_w h k h' k' o hb w⟩
    match o, ho with
    | 0, _ =>
      have := do0_w h k h' k' w
      rw [show addI a b c d a' b' c' d' = (0, 0, 0, 0, 1) by unfold addI; exact if_neg hv] at this
      exact this
    | 1, _ =>
      have := do1_w h k h' k' w
      rw [show subI a b c d a' b' c' d' = (0, 0, 0, 0, 1) by unfold subI addI; exact if_neg (fun q => hv ⟨q.1, vI_ng.1 q.2⟩)] at this
      exact this
    | 2, _ =>
      have := do2_w h k h' k' w
      rw [show mulI a b c d a' b' c' d' = (0, 0, 0, 0, 1) by unfold mulI; exact if_neg hv] at this
      exact this
    | 3, _ =>
      have := do3_w h k h' k' w
      rw [show divI a b c d a' b' c' d' = (0, 0, 0, 0, 1) by unfold divI; exact if_neg hv] at this
      exact this

set_option maxRecDepth 100000 in
set_option maxHeartbeats 16000000 in
theorem law_ar {a b c d a' b' c' d' : Int} (h : W2 a b) (k : W2 c d) (h' : W2 a' b') (k' : W2 c' d') (w : World) :
    Calls Try.prog 4 #[.agg #[.int .i64 a, .int .i64 b, .int .i64 c, .int .i64 d], .agg #[.int .i64 a', .int .i64 b', .int .i64 c', .int .i64 d']] w fun e w' => e = .returned (.bool true) ∧ Below w.heap.size w w' := by
  have T := Lib.hid (fun o ho => ar_ops h k h' k' o ho)
  obtain ⟨hX, hY, hW⟩ := start2 w 25 #[.int .i64 a, .int .i64 b, .int .i64 c, .int .i64 d] 25 #[.int .i64 a', .int .i64 b', .int .i64 c', .int .i64 d']
  clear h k h' k'
  go_enter Try.func4, Try.ntmps4
  go_wp2_with fail
  obtain ⟨wo, hwo⟩ : ∃ wo : World, (w.alloc (.cells #[.int .i64 a, .int .i64 b, .int .i64 c, .int .i64 d] 25)).alloc (.cells #[.int .i64 a', .int .i64 b', .int .i64 c', .int .i64 d'] 25) = wo := ⟨_, rfl⟩
  rw [hwo] at hX hY hW ⊢
  clear hwo
  have HX := Lib.hid hX
  have HY := Lib.hid hY
  have HW := Lib.hid hW
  clear hX hY hW
  go_loopw [5] (fun ov wr => ∃ o : Nat, o ≤ 4 ∧ ov = .int .i64 o ∧ Below wo.heap.size wo wr) (fun ov _ => 4 - (intOf ov).toNat)
  case atStart => exact ⟨0, by omega, rfl, Below.refl _ _⟩
  case round =>
    obtain ⟨o, ho, rfl, hB⟩ := hrel
    have HB := Lib.hid hB
    have hX := HX.out.below hB HX.out.lt
    have hY := HY.out.below hB HY.out.lt
    clear hB
    by_cases ho4 : o < 4
    · obtain ⟨z1, z2, z3, z4, e, D1, D2⟩ := T.out o ho4
      replace D1 := Lib.hid D1
      replace D2 := Lib.hid D2
      have ho4' : (o : Int) < 4 := by omega
      have X0 := hX.cell 0
      have X1 := hX.cell 1
      have X2 := hX.cell 2
      have X3 := hX.cell 3
      have zX := hX.lt
      have Y0 := hY.cell 0
      have Y1 := hY.cell 1
      have Y2 := hY.cell 2
      have Y3 := hY.cell 3
      have zY := hY.lt
      go_wp2_with fail
      (with_reducible refine (D1.out _).mono ?_)
      rintro r v1 ⟨rfl, hb⟩
      clear X0 X1 X2 X3 Y0 Y1 Y2 Y3 zX zY
      replace hX := hX.below hb hX.lt
      replace hY := hY.below hb hY.lt
      replace HB := Lib.hid (below_st HB.out hb)
      have hZ := Blk.new v1 25 #[.int .i64 z1, .int .i64 z2, .int .i64 z3, .int .i64 z4]
      replace hX := hX.alloc (.cells #[.int .i64 z1, .int .i64 z2, .int .i64 z3, .int .i64 z4] 25)
      replace hY := hY.alloc (.cells #[.int .i64 z1, .int .i64 z2, .int .i64 z3, .int .i64 z4] 25)
      replace HB := Lib.hid (HB.out.alloc HB.out.size (.cells #[.int .i64 z1, .int .i64 z2, .int .i64 z3, .int .i64 z4] 25))
      clear hb
      have X0 := hX.cell 0
      have X1 := hX.cell 1
      have X2 := hX.cell 2
      have X3 := hX.cell 3
      have zX := hX.lt
      have Y0 := hY.cell 0
      have Y1 := hY.cell 1
      have Y2 := hY.cell 2
      have Y3 := hY.cell 3
      have zY := hY.lt
      have Z0 := hZ.cell 0
      have Z1 := hZ.cell 1
      have Z2 := hZ.cell 2
      have Z3 := hZ.cell 3
      have zZ := hZ.lt
      go_wp2_with fail
      (with_reducible refine (D2.out _).mono ?_)
      rintro r v2 ⟨rfl, hb⟩
      clear X0 X1 X2 X3 Y0 Y1 Y2 Y3 Z0 Z1 Z2 Z3 zX zY zZ
      replace hX := hX.below hb hX.lt
      replace hY := hY.below hb hY.lt
      replace hZ := hZ.below hb hZ.lt
      replace HB := Lib.hid (below_st HB.out hb)
      have hK := Blk.new v2 25 #[.int .i64 z1, .int .i64 z2, .int .i64 z3, .int .i64 z4]
      replace hX := hX.alloc (.cells #[.int .i64 z1, .int .i64 z2, .int .i64 z3, .int .i64 z4] 25)
      replace hY := hY.alloc (.cells #[.int .i64 z1, .int .i64 z2, .int .i64 z3, .int .i64 z4] 25)
      replace hZ := hZ.alloc (.cells #[.int .i64 z1, .int .i64 z2, .int .i64 z3, .int .i64 z4] 25)
      replace HB := Lib.hid (HB.out.alloc HB.out.size (.cells #[.int .i64 z1, .int .i64 z2, .int .i64 z3, .int .i64 z4] 25))
      clear hb
      have X0 := hX.cell 0
      have X1 := hX.cell 1
      have X2 := hX.cell 2
      have X3 := hX.cell 3
      have zX := hX.lt
      have Y0 := hY.cell 0
      have Y1 := hY.cell 1
      have Y2 := hY.cell 2
      have Y3 := hY.cell 3
      have zY := hY.lt
      have Z0 := hZ.cell 0
      have Z1 := hZ.cell 1
      have Z2 := hZ.cell 2
      have Z3 := hZ.cell 3
      have zZ := hZ.lt
      have K0 := hK.cell 0
      have K1 := hK.cell 1
      have K2 := hK.cell 2
      have K3 := hK.cell 3
      have zK := hK.lt
      go_wp2_with fail
      go_roundw
      case rel => exact ⟨o + 1, by omega, by go_num, HB.out⟩
      case measure => simp [intOf]; omega
    · go_wp2_with fail
      refine (lives_any _).mono ?_
      rintro e v1 ⟨rfl, hb⟩
      have hW := below_st (below_st HW.out HB.out) hb
      go_wp2
      go_ret
      exact ⟨rfl, hW⟩
end Go.Proofs.Ytkdbffhmnkkbcaa
