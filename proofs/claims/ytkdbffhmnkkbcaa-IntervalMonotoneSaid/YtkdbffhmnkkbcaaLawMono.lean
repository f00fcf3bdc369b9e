/- Small intervals: each operation maps parts into the operation's interval; the walk of IntervalMonotone. Conditions: numbers of bounded size. -/
import Derived.Test.YtkdbffhmnkkbcaaSoundM
import Derived.Test.YtkdbffhmnkkbcaaLat
import Derived.Test.YtkdbffhmnkkbcaaLives4
namespace Go.Proofs.Ytkdbffhmnkkbcaa
open Go.RowKit

theorem in_of {a b c d a' b' c' d' : Int} (h1 : vP a b) (h2 : vP c d) (h3 : vP a' b') (h4 : vP c' d') (k0 : rv a b ≤ rv c d) (k1 : rv a' b' ≤ rv a b) (k2 : rv c d ≤ rv c' d') : inB a b c d a' b' c' d' = true := by
  unfold inB
  rw [decide_eq_true_eq]
  exact ⟨⟨⟨⟨h1, h2⟩, (cmp_le h1 h2).2 k0⟩, ⟨h3, h4⟩, (cmp_le h3 h4).2 (by grind)⟩, (cmp_le h3 h1).2 k1, (cmp_le h2 h4).2 k2⟩
theorem four_any {p q r s : F2} (h : VL [p, q, r, s]) {m n : Rat} (hp : m ≤ rv p.1 p.2 ∧ rv p.1 p.2 ≤ n) (hq : m ≤ rv q.1 q.2 ∧ rv q.1 q.2 ≤ n) (hr : m ≤ rv r.1 r.2 ∧ rv r.1 r.2 ≤ n) (hs : m ≤ rv s.1 s.2 ∧ rv s.1 s.2 ≤ n) :
    m ≤ rv (minL [p, q, r, s]).1 (minL [p, q, r, s]).2 ∧ rv (maxL [p, q, r, s]).1 (maxL [p, q, r, s]).2 ≤ n := by
  have k1 := minL_mem4 p q r s h
  have k2 := maxL_mem4 p q r s h
  simp only [List.mem_cons, List.not_mem_nil, or_false] at k1 k2
  constructor
  · rcases k1 with e | e | e | e <;> rw [e]
    · exact hp.1
    · exact hq.1
    · exact hr.1
    · exact hs.1
  · rcases k2 with e | e | e | e <;> rw [e]
    · exact hp.2
    · exact hq.2
    · exact hr.2
    · exact hs.2
theorem con_out {a b c d : Int} (h : vI a b c d) (k : conB a b c d 0 1 = true) : rv a b ≤ 0 ∧ 0 ≤ rv c d := by
  have hz : vP 0 1 := by decide
  have hp : ptI 0 1 = (0, 1, 0, 1) := if_pos hz
  unfold conB at k
  rw [hp] at k
  unfold inB at k
  rw [decide_eq_true_eq] at k
  have k1 := (cmp_le h.1.1 hz).1 k.2.1
  have k2 := (cmp_le hz h.1.2).1 k.2.2
  rw [rv_zero] at k1 k2
  exact ⟨k1, k2⟩

section
variable {A B : Nat} {a b c d a' b' c' d' u1 u2 u3 u4 v1 v2 v3 v4 : Int} (hx : SmI 50 12 a b c d) (hy : SmI 50 12 a' b' c' d') (hu : SmI A B u1 u2 u3 u4) (hv : SmI A B v1 v2 v3 v4) (h1 : rv a b ≤ rv u1 u2) (h2 : rv u3 u4 ≤ rv c d) (h3 : rv a' b' ≤ rv v1 v2) (h4 : rv v3 v4 ≤ rv c' d')
  (G : A * B + A * B ≤ 4611686018427387904 ∧ B * B ≤ 4611686018427387904 ∧ A * A ≤ 4611686018427387904 ∧ A * B ≤ 4611686018427387904 ∧ B * A ≤ 4611686018427387904 ∧ A ≤ 4611686018427387904)
include hx hy hu hv h1 h2 h3 h4 G
theorem mono_add : ∃ z1 z2 z3 z4 w1 w2 w3 w4 : Int, addI a b c d a' b' c' d' = (z1, z2, z3, z4, 0) ∧ addI u1 u2 u3 u4 v1 v2 v3 v4 = (w1, w2, w3, w4, 0) ∧ ((vP z1 z2 ∧ vP z3 z4) ∧ vP w1 w2 ∧ vP w3 w4) ∧ inB w1 w2 w3 w4 z1 z2 z3 z4 = true := by
  have o1 := hu.2.2
  have o2 := hv.2.2
  obtain ⟨p0, q0, e0, k0, r0⟩ := add_sm hx.1 hy.1 (by decide) (by decide)
  obtain ⟨p3, q3, e3, k3, r3⟩ := add_sm hx.2.1 hy.2.1 (by decide) (by decide)
  obtain ⟨s0, t0, f0, l0, y0⟩ := add_sm hu.1 hv.1 G.1 G.2.1
  obtain ⟨s3, t3, f3, l3, y3⟩ := add_sm hu.2.1 hv.2.1 G.1 G.2.1
  refine ⟨p0, q0, p3, q3, s0, t0, s3, t3, ?_, ?_, ⟨⟨k0.1, k3.1⟩, l0.1, l3.1⟩, in_of l0.1 l3.1 k0.1 k3.1 (by grind) (by grind) (by grind)⟩
  · unfold addI
    rw [if_pos ⟨hx.vI, hy.vI⟩, e0, e3]
    rfl
  · unfold addI
    rw [if_pos ⟨hu.vI, hv.vI⟩, f0, f3]
    rfl
theorem mono_sub : ∃ z1 z2 z3 z4 w1 w2 w3 w4 : Int, subI a b c d a' b' c' d' = (z1, z2, z3, z4, 0) ∧ subI u1 u2 u3 u4 v1 v2 v3 v4 = (w1, w2, w3, w4, 0) ∧ ((vP z1 z2 ∧ vP z3 z4) ∧ vP w1 w2 ∧ vP w3 w4) ∧ inB w1 w2 w3 w4 z1 z2 z3 z4 = true := by
  have o1 := hu.2.2
  have o2 := hv.2.2
  obtain ⟨p1, q1, e1, k1, r1⟩ := sub_sm hx.2.1 hy.1 (by decide) (by decide)
  obtain ⟨p2, q2, e2, k2, r2⟩ := sub_sm hx.1 hy.2.1 (by decide) (by decide)
  obtain ⟨s1, t1, f1, l1, y1⟩ := sub_sm hu.2.1 hv.1 G.1 G.2.1
  obtain ⟨s2, t2, f2, l2, y2⟩ := sub_sm hu.1 hv.2.1 G.1 G.2.1
  refine ⟨p2, q2, p1, q1, s2, t2, s1, t1, ?_, ?_, ⟨⟨k2.1, k1.1⟩, l2.1, l1.1⟩, in_of l2.1 l1.1 k2.1 k1.1 (by grind) (by grind) (by grind)⟩
  · unfold subI
    rw [ng_small hy.1 (by decide), ng_small hy.2.1 (by decide)]
    unfold addI
    have hq : vI (-c') d' (-a') b' := ⟨⟨vP_neg.2 hy.2.1.1, vP_neg.2 hy.1.1⟩, (cmp_le (vP_neg.2 hy.2.1.1) (vP_neg.2 hy.1.1)).2 (by rw [rv_neg, rv_neg]; have := hy.2.2; grind)⟩
    unfold subR at e1 e2
    rw [if_pos ⟨hx.vI, hq⟩, e1, e2]
    rfl
  · unfold subI
    rw [ng_small hv.1 G.2.2.2.2.2, ng_small hv.2.1 G.2.2.2.2.2]
    unfold addI
    have hq : vI (-v3) v4 (-v1) v2 := ⟨⟨vP_neg.2 hv.2.1.1, vP_neg.2 hv.1.1⟩, (cmp_le (vP_neg.2 hv.2.1.1) (vP_neg.2 hv.1.1)).2 (by rw [rv_neg, rv_neg]; grind)⟩
    unfold subR at f1 f2
    rw [if_pos ⟨hu.vI, hq⟩, f1, f2]
    rfl
theorem mono_mul : ∃ z1 z2 z3 z4 w1 w2 w3 w4 : Int, mulI a b c d a' b' c' d' = (z1, z2, z3, z4, 0) ∧ mulI u1 u2 u3 u4 v1 v2 v3 v4 = (w1, w2, w3, w4, 0) ∧ ((vP z1 z2 ∧ vP z3 z4) ∧ vP w1 w2 ∧ vP w3 w4) ∧ inB w1 w2 w3 w4 z1 z2 z3 z4 = true := by
  have o1 := hu.2.2
  have o2 := hv.2.2
  obtain ⟨p0, q0, e0, k0, r0⟩ := mul_sm hx.1 hy.1 (by decide) (by decide)
  obtain ⟨p1, q1, e1, k1, r1⟩ := mul_sm hx.2.1 hy.1 (by decide) (by decide)
  obtain ⟨p2, q2, e2, k2, r2⟩ := mul_sm hx.1 hy.2.1 (by decide) (by decide)
  obtain ⟨p3, q3, e3, k3, r3⟩ := mul_sm hx.2.1 hy.2.1 (by decide) (by decide)
  obtain ⟨s0, t0, f0, l0, y0⟩ := mul_sm hu.1 hv.1 G.2.2.1 G.2.1
  obtain ⟨s1, t1, f1, l1, y1⟩ := mul_sm hu.2.1 hv.1 G.2.2.1 G.2.1
  obtain ⟨s2, t2, f2, l2, y2⟩ := mul_sm hu.1 hv.2.1 G.2.2.1 G.2.1
  obtain ⟨s3, t3, f3, l3, y3⟩ := mul_sm hu.2.1 hv.2.1 G.2.2.1 G.2.1
  have hz : VL [(p0, q0), (p2, q2), (p1, q1), (p3, q3)] := by
    intro x hm
    simp only [List.mem_cons, List.not_mem_nil, or_false] at hm
    rcases hm with rfl | rfl | rfl | rfl
    · exact k0.1
    · exact k2.1
    · exact k1.1
    · exact k3.1
  have hw : VL [(s0, t0), (s2, t2), (s1, t1), (s3, t3)] := by
    intro x hm
    simp only [List.mem_cons, List.not_mem_nil, or_false] at hm
    rcases hm with rfl | rfl | rfl | rfl
    · exact l0.1
    · exact l2.1
    · exact l1.1
    · exact l3.1
  obtain ⟨⟨z1, z2⟩, hf⟩ := four hz
  obtain ⟨⟨w1, w2⟩, hg⟩ := four hw
  have i0 := hf (p0, q0) (by simp)
  have i1 := hf (p1, q1) (by simp)
  have i2 := hf (p2, q2) (by simp)
  have i3 := hf (p3, q3) (by simp)
  have j0 := hg (s0, t0) (by simp)
  simp only at i0 i1 i2 i3
  rw [r0] at i0
  rw [r1] at i1
  rw [r2] at i2
  rw [r3] at i3
  have hr := fun (x y : Rat) (g1 : rv u1 u2 ≤ x) (g2 : x ≤ rv u3 u4) (g3 : rv v1 v2 ≤ y) (g4 : y ≤ rv v3 v4) => mul_range (a := x) (b := y) (show rv a b ≤ x by grind) (show x ≤ rv c d by grind) (show rv a' b' ≤ y by grind) (show y ≤ rv c' d' by grind) i0.1 i2.1 i1.1 i3.1 i0.2 i2.2 i1.2 i3.2
  have hi := four_any hw (by simp only; rw [y0]; exact hr _ _ Rat.le_refl o1 Rat.le_refl o2) (by simp only; rw [y2]; exact hr _ _ Rat.le_refl o1 o2 Rat.le_refl) (by simp only; rw [y1]; exact hr _ _ o1 Rat.le_refl Rat.le_refl o2) (by simp only; rw [y3]; exact hr _ _ o1 Rat.le_refl o2 Rat.le_refl)
  refine ⟨_, _, _, _, _, _, _, _, ?_, ?_, ⟨⟨z1, z2⟩, w1, w2⟩, in_of w1 w2 z1 z2 (by grind) hi.1 hi.2⟩
  · unfold mulI
    rw [if_pos ⟨hx.vI, hy.vI⟩, e0, e1, e2, e3]
    rfl
  · unfold mulI
    rw [if_pos ⟨hu.vI, hv.vI⟩, f0, f1, f2, f3]
    rfl
theorem mono_div (hc : conB a' b' c' d' 0 1 = false) : ∃ z1 z2 z3 z4 w1 w2 w3 w4 : Int, divI a b c d a' b' c' d' = (z1, z2, z3, z4, 0) ∧ divI u1 u2 u3 u4 v1 v2 v3 v4 = (w1, w2, w3, w4, 0) ∧ ((vP z1 z2 ∧ vP z3 z4) ∧ vP w1 w2 ∧ vP w3 w4) ∧ inB w1 w2 w3 w4 z1 z2 z3 z4 = true := by
  have o1 := hu.2.2
  have o2 := hv.2.2
  have hs : 0 < rv a' b' ∨ rv c' d' < 0 := by
    by_cases s1 : 0 < rv a' b'
    · exact .inl s1
    · by_cases s2 : rv c' d' < 0
      · exact .inr s2
      · have := con_of hy.1.1 hy.2.1.1 (show vP 0 1 by decide) (by rw [rv_zero]; grind) (by rw [rv_zero]; grind)
        rw [this] at hc
        cases hc
  have hcv : conB v1 v2 v3 v4 0 1 = false := by
    cases hq : conB v1 v2 v3 v4 0 1 with
    | false => rfl
    | true =>
      have := con_out hv.vI hq
      grind
  have m1 : rv a' b' ≠ 0 := by have := hy.2.2; grind
  have m2 : rv c' d' ≠ 0 := by have := hy.2.2; grind
  have m3 : rv v1 v2 ≠ 0 := by grind
  have m4 : rv v3 v4 ≠ 0 := by grind
  have n1 : a' ≠ 0 := fun e => m1 (by rw [e]; exact rv_zero _)
  have n2 : c' ≠ 0 := fun e => m2 (by rw [e]; exact rv_zero _)
  have n3 : v1 ≠ 0 := fun e => m3 (by rw [e]; exact rv_zero _)
  have n4 : v3 ≠ 0 := fun e => m4 (by rw [e]; exact rv_zero _)
  obtain ⟨p0, q0, e0, k0, r0⟩ := div_sm hx.1 hy.1 n1 (by decide) (by decide)
  obtain ⟨p1, q1, e1, k1, r1⟩ := div_sm hx.2.1 hy.1 n1 (by decide) (by decide)
  obtain ⟨p2, q2, e2, k2, r2⟩ := div_sm hx.1 hy.2.1 n2 (by decide) (by decide)
  obtain ⟨p3, q3, e3, k3, r3⟩ := div_sm hx.2.1 hy.2.1 n2 (by decide) (by decide)
  obtain ⟨s0, t0, f0, l0, y0⟩ := div_sm hu.1 hv.1 n3 G.2.2.2.1 G.2.2.2.2.1
  obtain ⟨s1, t1, f1, l1, y1⟩ := div_sm hu.2.1 hv.1 n3 G.2.2.2.1 G.2.2.2.2.1
  obtain ⟨s2, t2, f2, l2, y2⟩ := div_sm hu.1 hv.2.1 n4 G.2.2.2.1 G.2.2.2.2.1
  obtain ⟨s3, t3, f3, l3, y3⟩ := div_sm hu.2.1 hv.2.1 n4 G.2.2.2.1 G.2.2.2.2.1
  have hz : VL [(p0, q0), (p2, q2), (p1, q1), (p3, q3)] := by
    intro x hm
    simp only [List.mem_cons, List.not_mem_nil, or_false] at hm
    rcases hm with rfl | rfl | rfl | rfl
    · exact k0.1
    · exact k2.1
    · exact k1.1
    · exact k3.1
  have hw : VL [(s0, t0), (s2, t2), (s1, t1), (s3, t3)] := by
    intro x hm
    simp only [List.mem_cons, List.not_mem_nil, or_false] at hm
    rcases hm with rfl | rfl | rfl | rfl
    · exact l0.1
    · exact l2.1
    · exact l1.1
    · exact l3.1
  obtain ⟨⟨z1, z2⟩, hf⟩ := four hz
  obtain ⟨⟨w1, w2⟩, hg⟩ := four hw
  have i0 := hf (p0, q0) (by simp)
  have i1 := hf (p1, q1) (by simp)
  have i2 := hf (p2, q2) (by simp)
  have i3 := hf (p3, q3) (by simp)
  have j0 := hg (s0, t0) (by simp)
  simp only at i0 i1 i2 i3
  rw [r0, Rat.div_def] at i0
  rw [r1, Rat.div_def] at i1
  rw [r2, Rat.div_def] at i2
  rw [r3, Rat.div_def] at i3
  rw [Rat.div_def] at y0 y1 y2 y3
  have x1 : (rv a' b')⁻¹ * rv a' b' = 1 := by grind
  have x2 : (rv c' d')⁻¹ * rv c' d' = 1 := by grind
  have x3 : (rv v1 v2)⁻¹ * rv v1 v2 = 1 := by grind
  have x4 : (rv v3 v4)⁻¹ * rv v3 v4 = 1 := by grind
  have b1 := inv_range hs h3 (show rv v1 v2 ≤ rv c' d' by grind) x1 x2 x3
  have b2 := inv_range hs (show rv a' b' ≤ rv v3 v4 by grind) h4 x1 x2 x4
  have hr := fun (x y : Rat) (g1 : rv u1 u2 ≤ x) (g2 : x ≤ rv u3 u4) (g3 : (rv c' d')⁻¹ ≤ y) (g4 : y ≤ (rv a' b')⁻¹) => mul_range (a := x) (b := y) (show rv a b ≤ x by grind) (show x ≤ rv c d by grind) g3 g4 i2.1 i0.1 i3.1 i1.1 i2.2 i0.2 i3.2 i1.2
  have hi := four_any hw (by simp only; rw [y0]; exact hr _ _ Rat.le_refl o1 b1.1 b1.2) (by simp only; rw [y2]; exact hr _ _ Rat.le_refl o1 b2.1 b2.2) (by simp only; rw [y1]; exact hr _ _ o1 Rat.le_refl b1.1 b1.2) (by simp only; rw [y3]; exact hr _ _ o1 Rat.le_refl b2.1 b2.2)
  refine ⟨_, _, _, _, _, _, _, _, ?_, ?_, ⟨⟨z1, z2⟩, w1, w2⟩, in_of w1 w2 z1 z2 (by grind) hi.1 hi.2⟩
  · unfold divI
    rw [if_pos ⟨hx.vI, hy.vI⟩, hc, if_neg (by decide), e0, e1, e2, e3]
    rfl
  · unfold divI
    rw [if_pos ⟨hu.vI, hv.vI⟩, hcv, if_neg (by decide), f0, f1, f2, f3]
    rfl
/-- What the law asks of one operation. -/
theorem mono_ops (o : Nat) (ho : o < 4) : ∃ z1 z2 z3 z4 e w1 w2 w3 w4 f : Int,
    (∀ w, Calls Try.prog 19 #[.int .i64 o, .agg #[.int .i64 a, .int .i64 b, .int .i64 c, .int .i64 d], .agg #[.int .i64 a', .int .i64 b', .int .i64 c', .int .i64 d']] w fun r w' => r = .returned (.tuple #[.agg #[.int .i64 z1, .int .i64 z2, .int .i64 z3, .int .i64 z4], .int .i64 e]) ∧ Below w.heap.size w w') ∧
    (∀ w, Calls Try.prog 19 #[.int .i64 o, .agg #[.int .i64 u1, .int .i64 u2, .int .i64 u3, .int .i64 u4], .agg #[.int .i64 v1, .int .i64 v2, .int .i64 v3, .int .i64 v4]] w fun r w' => r = .returned (.tuple #[.agg #[.int .i64 w1, .int .i64 w2, .int .i64 w3, .int .i64 w4], .int .i64 f]) ∧ Below w.heap.size w w') ∧
    (e = 6 ∨ (e = 0 ∧ f = 0 ∧ ∀ w, Calls Try.prog 29 #[.agg #[.int .i64 w1, .int .i64 w2, .int .i64 w3, .int .i64 w4], .agg #[.int .i64 z1, .int .i64 z2, .int .i64 z3, .int .i64 z4]] w fun r w' => r = .returned (.bool true) ∧ Below w.heap.size w w')) := by
  have x1 := hx.1.1.w2
  have x2 := hx.2.1.1.w2
  have x3 := hy.1.1.w2
  have x4 := hy.2.1.1.w2
  have y1 := hu.1.1.w2
  have y2 := hu.2.1.1.w2
  have y3 := hv.1.1.w2
  have y4 := hv.2.1.1.w2
  match o, ho with
  | 0, _ =>
    obtain ⟨z1, z2, z3, z4, w1, w2, w3, w4, hz, hw, ⟨⟨q1, q2⟩, q3, q4⟩, hi⟩ := mono_add hx hy hu hv h1 h2 h3 h4 G
    refine ⟨z1, z2, z3, z4, 0, w1, w2, w3, w4, 0, fun w => by have := do0_w x1 x2 x3 x4 w; rw [hz] at this; exact this, fun w => by have := do0_w y1 y2 y3 y4 w; rw [hw] at this; exact this, .inr ⟨rfl, rfl, fun w => by have := iwithin_w q3.w2 q4.w2 q1.w2 q2.w2 w; rw [hi] at this; exact this⟩⟩
  | 1, _ =>
    obtain ⟨z1, z2, z3, z4, w1, w2, w3, w4, hz, hw, ⟨⟨q1, q2⟩, q3, q4⟩, hi⟩ := mono_sub hx hy hu hv h1 h2 h3 h4 G
    refine ⟨z1, z2, z3, z4, 0, w1, w2, w3, w4, 0, fun w => by have := do1_w x1 x2 x3 x4 w; rw [hz] at this; exact this, fun w => by have := do1_w y1 y2 y3 y4 w; rw [hw] at this; exact this, .inr ⟨rfl, rfl, fun w => by have := iwithin_w q3.w2 q4.w2 q1.w2 q2.w2 w; rw [hi] at this; exact this⟩⟩
  | 2, _ =>
    obtain ⟨z1, z2, z3, z4, w1, w2, w3, w4, hz, hw, ⟨⟨q1, q2⟩, q3, q4⟩, hi⟩ := mono_mul hx hy hu hv h1 h2 h3 h4 G
    refine ⟨z1, z2, z3, z4, 0, w1, w2, w3, w4, 0, fun w => by have := do2_w x1 x2 x3 x4 w; rw [hz] at this; exact this, fun w => by have := do2_w y1 y2 y3 y4 w; rw [hw] at this; exact this, .inr ⟨rfl, rfl, fun w => by have := iwithin_w q3.w2 q4.w2 q1.w2 q2.w2 w; rw [hi] at this; exact this⟩⟩
  | 3, _ =>
    cases hc0 : conB a' b' c' d' 0 1 with
    | true =>
      obtain ⟨⟨w1, w2, w3, w4, f⟩, hw⟩ : ∃ x, divI u1 u2 u3 u4 v1 v2 v3 v4 = x := ⟨_, rfl⟩
      refine ⟨0, 0, 0, 0, 6, w1, w2, w3, w4, f, fun w => ?_, fun w => ?_, .inl rfl⟩
      · have := do3_w x1 x2 x3 x4 w
        have hz : divI a b c d a' b' c' d' = (0, 0, 0, 0, 6) := by unfold divI; rw [if_pos ⟨hx.vI, hy.vI⟩, if_pos hc0]
        rw [hz] at this
        exact this
      · have := do3_w y1 y2 y3 y4 w
        rw [hw] at this
        exact this
    | false =>
      obtain ⟨z1, z2, z3, z4, w1, w2, w3, w4, hz, hw, ⟨⟨q1, q2⟩, q3, q4⟩, hi⟩ := mono_div hx hy hu hv h1 h2 h3 h4 G hc0
      refine ⟨z1, z2, z3, z4, 0, w1, w2, w3, w4, 0, fun w => by have := do3_w x1 x2 x3 x4 w; rw [hz] at this; exact this, fun w => by have := do3_w y1 y2 y3 y4 w; rw [hw] at this; exact this, .inr ⟨rfl, rfl, fun w => by have := iwithin_w q3.w2 q4.w2 q1.w2 q2.w2 w; rw [hi] at this; exact this⟩⟩
end
section
variable {A B : Nat} {a b c d a' b' c' d' u1 u2 u3 u4 v1 v2 v3 v4 : Int} (hx : SmI 50 12 a b c d) (hy : SmI 50 12 a' b' c' d') (hu : SmI A B u1 u2 u3 u4) (hv : SmI A B v1 v2 v3 v4) (h1 : rv a b ≤ rv u1 u2) (h2 : rv u3 u4 ≤ rv c d) (h3 : rv a' b' ≤ rv v1 v2) (h4 : rv v3 v4 ≤ rv c' d')
include hx hy hu hv h1 h2 h3 h4
theorem mono_min : (vP (minL [(u1, u2), (v1, v2)]).1 (minL [(u1, u2), (v1, v2)]).2 ∧ vP (minL [(u3, u4), (v3, v4)]).1 (minL [(u3, u4), (v3, v4)]).2 ∧ vP (minL [(a, b), (a', b')]).1 (minL [(a, b), (a', b')]).2 ∧ vP (minL [(c, d), (c', d')]).1 (minL [(c, d), (c', d')]).2) ∧
    inB (minL [(u1, u2), (v1, v2)]).1 (minL [(u1, u2), (v1, v2)]).2 (minL [(u3, u4), (v3, v4)]).1 (minL [(u3, u4), (v3, v4)]).2 (minL [(a, b), (a', b')]).1 (minL [(a, b), (a', b')]).2 (minL [(c, d), (c', d')]).1 (minL [(c, d), (c', d')]).2 = true := by
  have o1 := hu.2.2
  have o2 := hv.2.2
  have a1 := two hu.1.1 hv.1.1
  have a2 := two hu.2.1.1 hv.2.1.1
  have a3 := two hx.1.1 hy.1.1
  have a4 := two hx.2.1.1 hy.2.1.1
  refine ⟨⟨a1.1.1, a2.1.1, a3.1.1, a4.1.1⟩, in_of a1.1.1 a2.1.1 a3.1.1 a4.1.1 ?_ ?_ ?_⟩
  · rcases a1.2.1 with e | e <;> rcases a2.2.1 with e' | e' <;> rw [e, e'] <;> grind
  · rcases a1.2.1 with e | e <;> rcases a3.2.1 with e' | e' <;> rw [e, e'] <;> grind
  · rcases a2.2.1 with e | e <;> rcases a4.2.1 with e' | e' <;> rw [e, e'] <;> grind
theorem mono_max : (vP (maxL [(u1, u2), (v1, v2)]).1 (maxL [(u1, u2), (v1, v2)]).2 ∧ vP (maxL [(u3, u4), (v3, v4)]).1 (maxL [(u3, u4), (v3, v4)]).2 ∧ vP (maxL [(a, b), (a', b')]).1 (maxL [(a, b), (a', b')]).2 ∧ vP (maxL [(c, d), (c', d')]).1 (maxL [(c, d), (c', d')]).2) ∧
    inB (maxL [(u1, u2), (v1, v2)]).1 (maxL [(u1, u2), (v1, v2)]).2 (maxL [(u3, u4), (v3, v4)]).1 (maxL [(u3, u4), (v3, v4)]).2 (maxL [(a, b), (a', b')]).1 (maxL [(a, b), (a', b')]).2 (maxL [(c, d), (c', d')]).1 (maxL [(c, d), (c', d')]).2 = true := by
  have o1 := hu.2.2
  have o2 := hv.2.2
  have a1 := two hu.1.1 hv.1.1
  have a2 := two hu.2.1.1 hv.2.1.1
  have a3 := two hx.1.1 hy.1.1
  have a4 := two hx.2.1.1 hy.2.1.1
  refine ⟨⟨a1.1.2, a2.1.2, a3.1.2, a4.1.2⟩, in_of a1.1.2 a2.1.2 a3.1.2 a4.1.2 ?_ ?_ ?_⟩
  · rcases a1.2.2.1 with e | e <;> rcases a2.2.2.1 with e' | e' <;> rw [e, e'] <;> grind
  · rcases a1.2.2.1 with e | e <;> rcases a3.2.2.1 with e' | e' <;> rw [e, e'] <;> grind
  · rcases a2.2.2.1 with e | e <;> rcases a4.2.2.1 with e' | e' <;> rw [e, e'] <;> grind
theorem mono_hull : (vP (minL [(u1, u2), (v1, v2)]).1 (minL [(u1, u2), (v1, v2)]).2 ∧ vP (maxL [(u3, u4), (v3, v4)]).1 (maxL [(u3, u4), (v3, v4)]).2 ∧ vP (minL [(a, b), (a', b')]).1 (minL [(a, b), (a', b')]).2 ∧ vP (maxL [(c, d), (c', d')]).1 (maxL [(c, d), (c', d')]).2) ∧
    inB (minL [(u1, u2), (v1, v2)]).1 (minL [(u1, u2), (v1, v2)]).2 (maxL [(u3, u4), (v3, v4)]).1 (maxL [(u3, u4), (v3, v4)]).2 (minL [(a, b), (a', b')]).1 (minL [(a, b), (a', b')]).2 (maxL [(c, d), (c', d')]).1 (maxL [(c, d), (c', d')]).2 = true := by
  have o1 := hu.2.2
  have o2 := hv.2.2
  have a1 := two hu.1.1 hv.1.1
  have a2 := two hu.2.1.1 hv.2.1.1
  have a3 := two hx.1.1 hy.1.1
  have a4 := two hx.2.1.1 hy.2.1.1
  refine ⟨⟨a1.1.1, a2.1.2, a3.1.1, a4.1.2⟩, in_of a1.1.1 a2.1.2 a3.1.1 a4.1.2 ?_ ?_ ?_⟩
  · rcases a1.2.1 with e | e <;> rcases a2.2.2.1 with e' | e' <;> rw [e, e'] <;> grind
  · rcases a1.2.1 with e | e <;> rcases a3.2.1 with e' | e' <;> rw [e, e'] <;> grind
  · rcases a2.2.2.1 with e | e <;> rcases a4.2.2.1 with e' | e' <;> rw [e, e'] <;> grind
end

set_option maxRecDepth 100000 in
set_option maxHeartbeats 16000000 in
theorem law_mono (l0 l1 l2 l3 l4 l5 l6 l7 : Int) (w : World) (b0 : -9223372036854775808 ≤ l0 ∧ l0 ≤ 9223372036854775807) (b1 : -9223372036854775808 ≤ l1 ∧ l1 ≤ 9223372036854775807) (b2 : -9223372036854775808 ≤ l2 ∧ l2 ≤ 9223372036854775807) (b3 : -9223372036854775808 ≤ l3 ∧ l3 ≤ 9223372036854775807) (b4 : -9223372036854775808 ≤ l4 ∧ l4 ≤ 9223372036854775807) (b5 : -9223372036854775808 ≤ l5 ∧ l5 ≤ 9223372036854775807) (b6 : -9223372036854775808 ≤ l6 ∧ l6 ≤ 9223372036854775807) (b7 : -9223372036854775808 ≤ l7 ∧ l7 ≤ 9223372036854775807) :
    Calls Try.prog 10 #[.agg #[.int .i64 l0, .int .i64 l1, .int .i64 l2, .int .i64 l3, .int .i64 l4, .int .i64 l5, .int .i64 l6, .int .i64 l7]] w fun e w' => e = .returned (.bool true) ∧ Below w.heap.size w w' := by
  have S1 := Lib.hid (fun W => ismall_any l0 l1 W b0 b1)
  have S2 := Lib.hid (fun W => ismall_any l2 l3 W b2 b3)
  have J1 := Lib.hid (fun (a b c d : Int) (h : SmI 50 12 a b c d) => part_any l4 l5 h b4 b5 (by decide) (by decide) (by decide) (by decide) (by decide) (by decide) (by decide) (by decide))
  have J2 := Lib.hid (fun (a b c d : Int) (h : SmI 50 12 a b c d) => part_any l6 l7 h b6 b7 (by decide) (by decide) (by decide) (by decide) (by decide) (by decide) (by decide) (by decide))
  obtain ⟨hL, hW⟩ := start1 w 56 #[.int .i64 l0, .int .i64 l1, .int .i64 l2, .int .i64 l3, .int .i64 l4, .int .i64 l5, .int .i64 l6, .int .i64 l7]
  clear b0 b1 b2 b3 b4 b5 b6 b7
  go_enter Try.func10, Try.ntmps10
  go_wp2_with fail
  (with_reducible refine (S1.out _).mono ?_)
  rintro e u1 ⟨⟨a, b, c, d, rfl, hx⟩, hb⟩
  replace hL := hL.below hb hL.lt
  replace hW := below_st hW hb
  have L0 := hL.cell 0
  have L1 := hL.cell 1
  have L2 := hL.cell 2
  have L3 := hL.cell 3
  have L4 := hL.cell 4
  have L5 := hL.cell 5
  have L6 := hL.cell 6
  have L7 := hL.cell 7
  have zL := hL.lt
  clear hb S1
  have hX := Blk.new u1 25 #[.int .i64 a, .int .i64 b, .int .i64 c, .int .i64 d]
  replace hL := hL.alloc (.cells #[.int .i64 a, .int .i64 b, .int .i64 c, .int .i64 d] 25)
  replace hW := hW.alloc hW.size (.cells #[.int .i64 a, .int .i64 b, .int .i64 c, .int .i64 d] 25)
  go_wp2_with fail
  (with_reducible refine (S2.out _).mono ?_)
  rintro e u2 ⟨⟨a', b', c', d', rfl, hy⟩, hb⟩
  replace hL := hL.below hb hL.lt
  replace hX := hX.below hb hX.lt
  replace hW := below_st hW hb
  have L0 := hL.cell 0
  have L1 := hL.cell 1
  have L2 := hL.cell 2
  have L3 := hL.cell 3
  have L4 := hL.cell 4
  have L5 := hL.cell 5
  have L6 := hL.cell 6
  have L7 := hL.cell 7
  have zL := hL.lt
  have X0 := hX.cell 0
  have X1 := hX.cell 1
  have X2 := hX.cell 2
  have X3 := hX.cell 3
  have zX := hX.lt
  clear hb S2
  have hY := Blk.new u2 25 #[.int .i64 a', .int .i64 b', .int .i64 c', .int .i64 d']
  replace hL := hL.alloc (.cells #[.int .i64 a', .int .i64 b', .int .i64 c', .int .i64 d'] 25)
  replace hX := hX.alloc (.cells #[.int .i64 a', .int .i64 b', .int .i64 c', .int .i64 d'] 25)
  replace hW := hW.alloc hW.size (.cells #[.int .i64 a', .int .i64 b', .int .i64 c', .int .i64 d'] 25)
  obtain ⟨p1, p2, p3, p4, ⟨hu, h1, h2⟩, IC⟩ := J1.out _ _ _ _ hx
  obtain ⟨q1, q2, q3, q4, ⟨hv, h3, h4⟩, JC⟩ := J2.out _ _ _ _ hy
  replace IC := Lib.hid IC
  replace JC := Lib.hid JC
  have T := Lib.hid (mono_ops hx hy hu hv h1 h2 h3 h4 (by decide))
  obtain ⟨⟨e1, e2, e3, e4⟩, hmin⟩ := mono_min hx hy hu hv h1 h2 h3 h4
  obtain ⟨⟨f1, f2, f3, f4⟩, hmax⟩ := mono_max hx hy hu hv h1 h2 h3 h4
  obtain ⟨⟨g1, g2, g3, g4⟩, hhul⟩ := mono_hull hx hy hu hv h1 h2 h3 h4
  have MIx := imin_w hx.vI hy.vI
  have MIu := imin_w hu.vI hv.vI
  have MAx := imax_w hx.vI hy.vI
  have MAu := imax_w hu.vI hv.vI
  have MHx := ihull_w hx.vI hy.vI
  have MHu := ihull_w hu.vI hv.vI
  have WI := iwithin_w e1.w2 e2.w2 e3.w2 e4.w2
  have WA := iwithin_w f1.w2 f2.w2 f3.w2 f4.w2
  have WH := iwithin_w g1.w2 g2.w2 g3.w2 g4.w2
  rw [hmin] at WI
  rw [hmax] at WA
  rw [hhul] at WH
  obtain ⟨⟨i1', i2'⟩, hie⟩ : ∃ x, minL [(a, b), (a', b')] = x := ⟨_, rfl⟩
  obtain ⟨⟨j1', j2'⟩, hje⟩ : ∃ x, minL [(c, d), (c', d')] = x := ⟨_, rfl⟩
  obtain ⟨⟨k1', k2'⟩, hke⟩ : ∃ x, minL [(p1, p2), (q1, q2)] = x := ⟨_, rfl⟩
  obtain ⟨⟨l1', l2'⟩, hle⟩ : ∃ x, minL [(p3, p4), (q3, q4)] = x := ⟨_, rfl⟩
  obtain ⟨⟨r1', r2'⟩, hre⟩ : ∃ x, maxL [(a, b), (a', b')] = x := ⟨_, rfl⟩
  obtain ⟨⟨s1', s2'⟩, hse⟩ : ∃ x, maxL [(c, d), (c', d')] = x := ⟨_, rfl⟩
  obtain ⟨⟨t1', t2'⟩, hte⟩ : ∃ x, maxL [(p1, p2), (q1, q2)] = x := ⟨_, rfl⟩
  obtain ⟨⟨y1', y2'⟩, hye⟩ : ∃ x, maxL [(p3, p4), (q3, q4)] = x := ⟨_, rfl⟩
  rw [hie, hje] at MIx
  rw [hke, hle] at MIu
  rw [hre, hse] at MAx
  rw [hte, hye] at MAu
  rw [hie, hse] at MHx
  rw [hke, hye] at MHu
  rw [hke, hle, hie, hje] at WI
  rw [hte, hye, hre, hse] at WA
  rw [hke, hye, hie, hse] at WH
  simp only at MIx MIu MAx MAu MHx MHu WI WA WH
  replace MIx := Lib.hid MIx
  replace MIu := Lib.hid MIu
  replace MAx := Lib.hid MAx
  replace MAu := Lib.hid MAu
  replace MHx := Lib.hid MHx
  replace MHu := Lib.hid MHu
  replace WI := Lib.hid WI
  replace WA := Lib.hid WA
  replace WH := Lib.hid WH
  clear hx hy hu hv h1 h2 h3 h4 J1 J2 e1 e2 e3 e4 f1 f2 f3 f4 g1 g2 g3 g4 hmin hmax hhul hie hje hke hle hre hse hte hye
  go_wp2_with fail
  (with_reducible refine (IC.out _).mono ?_)
  rintro e u3 ⟨rfl, hb⟩
  replace hL := hL.below hb hL.lt
  replace hX := hX.below hb hX.lt
  replace hY := hY.below hb hY.lt
  replace hW := below_st hW hb
  have L0 := hL.cell 0
  have L1 := hL.cell 1
  have L2 := hL.cell 2
  have L3 := hL.cell 3
  have L4 := hL.cell 4
  have L5 := hL.cell 5
  have L6 := hL.cell 6
  have L7 := hL.cell 7
  have zL := hL.lt
  have X0 := hX.cell 0
  have X1 := hX.cell 1
  have X2 := hX.cell 2
  have X3 := hX.cell 3
  have zX := hX.lt
  have Y0 := hY.cell 0
  have Y1 := hY.cell 1
  have Y2 := hY.cell 2
  have Y3 := hY.cell 3
  have zY := hY.lt
  clear hb IC
  have hU := Blk.new u3 25 #[.int .i64 p1, .int .i64 p2, .int .i64 p3, .int .i64 p4]
  replace hL := hL.alloc (.cells #[.int .i64 p1, .int .i64 p2, .int .i64 p3, .int .i64 p4] 25)
  replace hX := hX.alloc (.cells #[.int .i64 p1, .int .i64 p2, .int .i64 p3, .int .i64 p4] 25)
  replace hY := hY.alloc (.cells #[.int .i64 p1, .int .i64 p2, .int .i64 p3, .int .i64 p4] 25)
  replace hW := hW.alloc hW.size (.cells #[.int .i64 p1, .int .i64 p2, .int .i64 p3, .int .i64 p4] 25)
  go_wp2_with fail
  (with_reducible refine (JC.out _).mono ?_)
  rintro e u4 ⟨rfl, hb⟩
  replace hL := hL.below hb hL.lt
  replace hX := hX.below hb hX.lt
  replace hY := hY.below hb hY.lt
  replace hU := hU.below hb hU.lt
  replace hW := below_st hW hb
  have L0 := hL.cell 0
  have L1 := hL.cell 1
  have L2 := hL.cell 2
  have L3 := hL.cell 3
  have L4 := hL.cell 4
  have L5 := hL.cell 5
  have L6 := hL.cell 6
  have L7 := hL.cell 7
  have zL := hL.lt
  have X0 := hX.cell 0
  have X1 := hX.cell 1
  have X2 := hX.cell 2
  have X3 := hX.cell 3
  have zX := hX.lt
  have Y0 := hY.cell 0
  have Y1 := hY.cell 1
  have Y2 := hY.cell 2
  have Y3 := hY.cell 3
  have zY := hY.lt
  have U0 := hU.cell 0
  have U1 := hU.cell 1
  have U2 := hU.cell 2
  have U3 := hU.cell 3
  have zU := hU.lt
  clear hb JC
  have hV := Blk.new u4 25 #[.int .i64 q1, .int .i64 q2, .int .i64 q3, .int .i64 q4]
  replace hL := hL.alloc (.cells #[.int .i64 q1, .int .i64 q2, .int .i64 q3, .int .i64 q4] 25)
  replace hX := hX.alloc (.cells #[.int .i64 q1, .int .i64 q2, .int .i64 q3, .int .i64 q4] 25)
  replace hY := hY.alloc (.cells #[.int .i64 q1, .int .i64 q2, .int .i64 q3, .int .i64 q4] 25)
  replace hU := hU.alloc (.cells #[.int .i64 q1, .int .i64 q2, .int .i64 q3, .int .i64 q4] 25)
  replace hW := hW.alloc hW.size (.cells #[.int .i64 q1, .int .i64 q2, .int .i64 q3, .int .i64 q4] 25)
  go_wp2_with fail
  obtain ⟨wo, hwo⟩ : ∃ wo : World, u4.alloc (.cells #[.int .i64 q1, .int .i64 q2, .int .i64 q3, .int .i64 q4] 25) = wo := ⟨_, rfl⟩
  rw [hwo] at hX hY hU hV hW ⊢
  obtain ⟨gX, hgX⟩ : ∃ g, u1.heap.size = g := ⟨_, rfl⟩
  obtain ⟨gY, hgY⟩ : ∃ g, u2.heap.size = g := ⟨_, rfl⟩
  obtain ⟨gU, hgU⟩ : ∃ g, u3.heap.size = g := ⟨_, rfl⟩
  obtain ⟨gV, hgV⟩ : ∃ g, u4.heap.size = g := ⟨_, rfl⟩
  rw [hgX] at hX ⊢
  rw [hgY] at hY ⊢
  rw [hgU] at hU ⊢
  rw [hgV] at hV ⊢
  clear hwo hgX hgY hgU hgV hL X0 X1 X2 X3 zX Y0 Y1 Y2 Y3 zY U0 U1 U2 U3 zU L0 L1 L2 L3 L4 L5 L6 L7 zL
  have HX := Lib.hid hX
  have HY := Lib.hid hY
  have HU := Lib.hid hU
  have HV := Lib.hid hV
  have HW := Lib.hid hW
  clear hX hY hU hV hW
  go_loopw [7] (fun ov wr => ∃ o : Nat, o ≤ 4 ∧ ov = .int .i64 o ∧ Below wo.heap.size wo wr) (fun ov _ => 4 - (intOf ov).toNat)
  case atStart => exact ⟨0, by omega, rfl, Below.refl _ _⟩
  case round =>
    obtain ⟨o, ho, rfl, hB⟩ := hrel
    have HB := Lib.hid hB
    have hX := HX.out.below hB HX.out.lt
    have hY := HY.out.below hB HY.out.lt
    have hU := HU.out.below hB HU.out.lt
    have hV := HV.out.below hB HV.out.lt
    clear hB
    by_cases ho4 : o < 4
    · obtain ⟨z1, z2, z3, z4, e, w1, w2, w3, w4, f, D1, D2, hC⟩ := T.out o ho4
      have HC := Lib.hid hC
      replace D1 := Lib.hid D1
      replace D2 := Lib.hid D2
      clear hC
      have ho4' : (o : Int) < 4 := by omega
      have X0 := hX.cell 0
      have X1 := hX.cell 1
      have X2 := hX.cell 2
      have X3 := hX.cell 3
      have zX := hX.lt
      have Y0 := hY.cell 0
      have Y1 := hY.cell 1
      have Y2 := hY.cell 2
      have Y3 := hY.cell 3
      have zY := hY.lt
      have U0 := hU.cell 0
      have U1 := hU.cell 1
      have U2 := hU.cell 2
      have U3 := hU.cell 3
      have zU := hU.lt
      have V0 := hV.cell 0
      have V1 := hV.cell 1
      have V2 := hV.cell 2
      have V3 := hV.cell 3
      have zV := hV.lt
      go_wp2_with fail
      (with_reducible refine (D1.out _).mono ?_)
      rintro r v1 ⟨rfl, hb⟩
      clear X0 X1 X2 X3 Y0 Y1 Y2 Y3 U0 U1 U2 U3 V0 V1 V2 V3 zX zY zU zV
      replace hX := hX.below hb hX.lt
      replace hY := hY.below hb hY.lt
      replace hU := hU.below hb hU.lt
      replace hV := hV.below hb hV.lt
      replace HB := Lib.hid (below_st HB.out hb)
      have hZ := Blk.new v1 25 #[.int .i64 z1, .int .i64 z2, .int .i64 z3, .int .i64 z4]
      replace hX := hX.alloc (.cells #[.int .i64 z1, .int .i64 z2, .int .i64 z3, .int .i64 z4] 25)
      replace hY := hY.alloc (.cells #[.int .i64 z1, .int .i64 z2, .int .i64 z3, .int .i64 z4] 25)
      replace hU := hU.alloc (.cells #[.int .i64 z1, .int .i64 z2, .int .i64 z3, .int .i64 z4] 25)
      replace hV := hV.alloc (.cells #[.int .i64 z1, .int .i64 z2, .int .i64 z3, .int .i64 z4] 25)
      replace HB := Lib.hid (HB.out.alloc HB.out.size (.cells #[.int .i64 z1, .int .i64 z2, .int .i64 z3, .int .i64 z4] 25))
      clear hb
      have X0 := hX.cell 0
      have X1 := hX.cell 1
      have X2 := hX.cell 2
      have X3 := hX.cell 3
      have zX := hX.lt
      have Y0 := hY.cell 0
      have Y1 := hY.cell 1
      have Y2 := hY.cell 2
      have Y3 := hY.cell 3
      have zY := hY.lt
      have U0 := hU.cell 0
      have U1 := hU.cell 1
      have U2 := hU.cell 2
      have U3 := hU.cell 3
      have zU := hU.lt
      have V0 := hV.cell 0
      have V1 := hV.cell 1
      have V2 := hV.cell 2
      have V3 := hV.cell 3
      have zV := hV.lt
      have Z0 := hZ.cell 0
      have Z1 := hZ.cell 1
      have Z2 := hZ.cell 2
      have Z3 := hZ.cell 3
      have zZ := hZ.lt
      go_wp2_with fail
      (with_reducible refine (D2.out _).mono ?_)
      rintro r v2 ⟨rfl, hb⟩
      clear X0 X1 X2 X3 Y0 Y1 Y2 Y3 U0 U1 U2 U3 V0 V1 V2 V3 Z0 Z1 Z2 Z3 zX zY zU zV zZ
      replace hX := hX.below hb hX.lt
      replace hY := hY.below hb hY.lt
      replace hU := hU.below hb hU.lt
      replace hV := hV.below hb hV.lt
      replace hZ := hZ.below hb hZ.lt
      replace HB := Lib.hid (below_st HB.out hb)
      have hK := Blk.new v2 25 #[.int .i64 w1, .int .i64 w2, .int .i64 w3, .int .i64 w4]
      replace hX := hX.alloc (.cells #[.int .i64 w1, .int .i64 w2, .int .i64 w3, .int .i64 w4] 25)
      replace hY := hY.alloc (.cells #[.int .i64 w1, .int .i64 w2, .int .i64 w3, .int .i64 w4] 25)
      replace hU := hU.alloc (.cells #[.int .i64 w1, .int .i64 w2, .int .i64 w3, .int .i64 w4] 25)
      replace hV := hV.alloc (.cells #[.int .i64 w1, .int .i64 w2, .int .i64 w3, .int .i64 w4] 25)
      replace hZ := hZ.alloc (.cells #[.int .i64 w1, .int .i64 w2, .int .i64 w3, .int .i64 w4] 25)
      replace HB := Lib.hid (HB.out.alloc HB.out.size (.cells #[.int .i64 w1, .int .i64 w2, .int .i64 w3, .int .i64 w4] 25))
      clear hb
      have X0 := hX.cell 0
      have X1 := hX.cell 1
      have X2 := hX.cell 2
      have X3 := hX.cell 3
      have zX := hX.lt
      have Y0 := hY.cell 0
      have Y1 := hY.cell 1
      have Y2 := hY.cell 2
      have Y3 := hY.cell 3
      have zY := hY.lt
      have U0 := hU.cell 0
      have U1 := hU.cell 1
      have U2 := hU.cell 2
      have U3 := hU.cell 3
      have zU := hU.lt
      have V0 := hV.cell 0
      have V1 := hV.cell 1
      have V2 := hV.cell 2
      have V3 := hV.cell 3
      have zV := hV.lt
      have Z0 := hZ.cell 0
      have Z1 := hZ.cell 1
      have Z2 := hZ.cell 2
      have Z3 := hZ.cell 3
      have zZ := hZ.lt
      have K0 := hK.cell 0
      have K1 := hK.cell 1
      have K2 := hK.cell 2
      have K3 := hK.cell 3
      have zK := hK.lt
      clear D1 D2
      rcases HC.out with rfl | ⟨rfl, rfl, A2⟩
      · go_wp2_with fail
        go_roundw
        case rel => exact ⟨o + 1, by omega, by go_num, HB.out⟩
        case measure => simp [intOf]; omega
      · replace A2 := Lib.hid A2
        clear HC
        go_wp2_with fail
        (with_reducible refine (A2.out _).mono ?_)
        rintro r v3 ⟨rfl, hb⟩
        clear X0 X1 X2 X3 Y0 Y1 Y2 Y3 U0 U1 U2 U3 V0 V1 V2 V3 Z0 Z1 Z2 Z3 K0 K1 K2 K3 zX zY zU zV zZ zK
        replace hX := hX.below hb hX.lt
        replace hY := hY.below hb hY.lt
        replace hU := hU.below hb hU.lt
        replace hV := hV.below hb hV.lt
        replace hZ := hZ.below hb hZ.lt
        replace hK := hK.below hb hK.lt
        replace HB := Lib.hid (below_st HB.out hb)
        clear hb
        have X0 := hX.cell 0
        have X1 := hX.cell 1
        have X2 := hX.cell 2
        have X3 := hX.cell 3
        have zX := hX.lt
        have Y0 := hY.cell 0
        have Y1 := hY.cell 1
        have Y2 := hY.cell 2
        have Y3 := hY.cell 3
        have zY := hY.lt
        have U0 := hU.cell 0
        have U1 := hU.cell 1
        have U2 := hU.cell 2
        have U3 := hU.cell 3
        have zU := hU.lt
        have V0 := hV.cell 0
        have V1 := hV.cell 1
        have V2 := hV.cell 2
        have V3 := hV.cell 3
        have zV := hV.lt
        have Z0 := hZ.cell 0
        have Z1 := hZ.cell 1
        have Z2 := hZ.cell 2
        have Z3 := hZ.cell 3
        have zZ := hZ.lt
        have K0 := hK.cell 0
        have K1 := hK.cell 1
        have K2 := hK.cell 2
        have K3 := hK.cell 3
        have zK := hK.lt
        go_wp2_with fail
        go_roundw
        case rel => exact ⟨o + 1, by omega, by go_num, HB.out⟩
        case measure => simp [intOf]; omega
    · have HT := Lib.hid (below_st HW.out HB.out)
      have keep : ∀ W : World, Below wr.heap.size wr W → W.cell? ⟨gX, 0, none⟩ = some (.int .i64 a) ∧ W.cell? ⟨gX, 1, none⟩ = some (.int .i64 b) ∧ W.cell? ⟨gX, 2, none⟩ = some (.int .i64 c) ∧ W.cell? ⟨gX, 3, none⟩ = some (.int .i64 d) ∧ W.cell? ⟨gY, 0, none⟩ = some (.int .i64 a') ∧ W.cell? ⟨gY, 1, none⟩ = some (.int .i64 b') ∧ W.cell? ⟨gY, 2, none⟩ = some (.int .i64 c') ∧ W.cell? ⟨gY, 3, none⟩ = some (.int .i64 d') ∧ W.cell? ⟨gU, 0, none⟩ = some (.int .i64 p1) ∧ W.cell? ⟨gU, 1, none⟩ = some (.int .i64 p2) ∧ W.cell? ⟨gU, 2, none⟩ = some (.int .i64 p3) ∧ W.cell? ⟨gU, 3, none⟩ = some (.int .i64 p4) ∧ W.cell? ⟨gV, 0, none⟩ = some (.int .i64 q1) ∧ W.cell? ⟨gV, 1, none⟩ = some (.int .i64 q2) ∧ W.cell? ⟨gV, 2, none⟩ = some (.int .i64 q3) ∧ W.cell? ⟨gV, 3, none⟩ = some (.int .i64 q4) := fun W hB =>
        ⟨(hX.below hB hX.lt).cell 0, (hX.below hB hX.lt).cell 1, (hX.below hB hX.lt).cell 2, (hX.below hB hX.lt).cell 3, (hY.below hB hY.lt).cell 0, (hY.below hB hY.lt).cell 1, (hY.below hB hY.lt).cell 2, (hY.below hB hY.lt).cell 3, (hU.below hB hU.lt).cell 0, (hU.below hB hU.lt).cell 1, (hU.below hB hU.lt).cell 2, (hU.below hB hU.lt).cell 3, (hV.below hB hV.lt).cell 0, (hV.below hB hV.lt).cell 1, (hV.below hB hV.lt).cell 2, (hV.below hB hV.lt).cell 3⟩
      have Keep := Lib.hid keep
      have h00 := Below.refl wr.heap.size wr
      have h0d : Below wr.heap.size wr wr.drew := h00.drew
      obtain ⟨c0, c1, c2, c3, c4, c5, c6, c7, c8, c9, c10, c11, c12, c13, c14, c15⟩ := keep wr h00
      have MIxn := Lib.hid (fun (W : World) (hb : Below wr.heap.size wr W) => calls_step hb (MIx.out W))
      have MIun := Lib.hid (fun (W : World) (hb : Below wr.heap.size wr W) => calls_step hb (MIu.out W))
      have MAxn := Lib.hid (fun (W : World) (hb : Below wr.heap.size wr W) => calls_step hb (MAx.out W))
      have MAun := Lib.hid (fun (W : World) (hb : Below wr.heap.size wr W) => calls_step hb (MAu.out W))
      have MHxn := Lib.hid (fun (W : World) (hb : Below wr.heap.size wr W) => calls_step hb (MHx.out W))
      have MHun := Lib.hid (fun (W : World) (hb : Below wr.heap.size wr W) => calls_step hb (MHu.out W))
      have WIn := Lib.hid (fun (W : World) (hb : Below wr.heap.size wr W) => calls_step hb (WI.out W))
      have WAn := Lib.hid (fun (W : World) (hb : Below wr.heap.size wr W) => calls_step hb (WA.out W))
      have WHn := Lib.hid (fun (W : World) (hb : Below wr.heap.size wr W) => calls_step hb (WH.out W))
      have LVn := Lib.hid (fun (W : World) (hb : Below wr.heap.size wr W) => calls_step hb (lives_any W))
      clear keep hX hY hU hV MIx MIu MAx MAu MHx MHu WI WA WH HX HY HU HV HW HB T
      go_wp2_with fail
      go_region_held3 (fun W => W.cell? ⟨gX, 0, none⟩ = some (.int .i64 a) ∧ W.cell? ⟨gX, 1, none⟩ = some (.int .i64 b) ∧ W.cell? ⟨gX, 2, none⟩ = some (.int .i64 c) ∧ W.cell? ⟨gX, 3, none⟩ = some (.int .i64 d) ∧ W.cell? ⟨gY, 0, none⟩ = some (.int .i64 a') ∧ W.cell? ⟨gY, 1, none⟩ = some (.int .i64 b') ∧ W.cell? ⟨gY, 2, none⟩ = some (.int .i64 c') ∧ W.cell? ⟨gY, 3, none⟩ = some (.int .i64 d') ∧ W.cell? ⟨gU, 0, none⟩ = some (.int .i64 p1) ∧ W.cell? ⟨gU, 1, none⟩ = some (.int .i64 p2) ∧ W.cell? ⟨gU, 2, none⟩ = some (.int .i64 p3) ∧ W.cell? ⟨gU, 3, none⟩ = some (.int .i64 p4) ∧ W.cell? ⟨gV, 0, none⟩ = some (.int .i64 q1) ∧ W.cell? ⟨gV, 1, none⟩ = some (.int .i64 q2) ∧ W.cell? ⟨gV, 2, none⟩ = some (.int .i64 q3) ∧ W.cell? ⟨gV, 3, none⟩ = some (.int .i64 q4))
        (first | (with_reducible exact Keep.out _ (by with_reducible assumption)))
        (first | (go_at_call 23; first | ((with_reducible refine (MIun.out _ (by with_reducible assumption)).mono ?_); rintro e w' ⟨rfl, hb⟩; obtain ⟨c0, c1, c2, c3, c4, c5, c6, c7, c8, c9, c10, c11, c12, c13, c14, c15⟩ := Keep.out _ hb) | ((with_reducible refine (MIxn.out _ (by with_reducible assumption)).mono ?_); rintro e w' ⟨rfl, hb⟩; obtain ⟨c0, c1, c2, c3, c4, c5, c6, c7, c8, c9, c10, c11, c12, c13, c14, c15⟩ := Keep.out _ hb) | fail) | (go_at_call 25; first | ((with_reducible refine (MAun.out _ (by with_reducible assumption)).mono ?_); rintro e w' ⟨rfl, hb⟩; obtain ⟨c0, c1, c2, c3, c4, c5, c6, c7, c8, c9, c10, c11, c12, c13, c14, c15⟩ := Keep.out _ hb) | ((with_reducible refine (MAxn.out _ (by with_reducible assumption)).mono ?_); rintro e w' ⟨rfl, hb⟩; obtain ⟨c0, c1, c2, c3, c4, c5, c6, c7, c8, c9, c10, c11, c12, c13, c14, c15⟩ := Keep.out _ hb) | fail) | (go_at_call 27; first | ((with_reducible refine (MHun.out _ (by with_reducible assumption)).mono ?_); rintro e w' ⟨rfl, hb⟩; obtain ⟨c0, c1, c2, c3, c4, c5, c6, c7, c8, c9, c10, c11, c12, c13, c14, c15⟩ := Keep.out _ hb) | ((with_reducible refine (MHxn.out _ (by with_reducible assumption)).mono ?_); rintro e w' ⟨rfl, hb⟩; obtain ⟨c0, c1, c2, c3, c4, c5, c6, c7, c8, c9, c10, c11, c12, c13, c14, c15⟩ := Keep.out _ hb) | fail) | (go_at_call 18; ((with_reducible refine (LVn.out _ (by with_reducible assumption)).mono ?_); rintro e w' ⟨rfl, hb⟩; obtain ⟨c0, c1, c2, c3, c4, c5, c6, c7, c8, c9, c10, c11, c12, c13, c14, c15⟩ := Keep.out _ hb)) | (go_at_call 29; first | ((with_reducible refine (WIn.out _ (by with_reducible assumption)).mono ?_); rintro e w' ⟨rfl, hb⟩; obtain ⟨c0, c1, c2, c3, c4, c5, c6, c7, c8, c9, c10, c11, c12, c13, c14, c15⟩ := Keep.out _ hb) | ((with_reducible refine (WAn.out _ (by with_reducible assumption)).mono ?_); rintro e w' ⟨rfl, hb⟩; obtain ⟨c0, c1, c2, c3, c4, c5, c6, c7, c8, c9, c10, c11, c12, c13, c14, c15⟩ := Keep.out _ hb) | ((with_reducible refine (WHn.out _ (by with_reducible assumption)).mono ?_); rintro e w' ⟨rfl, hb⟩; obtain ⟨c0, c1, c2, c3, c4, c5, c6, c7, c8, c9, c10, c11, c12, c13, c14, c15⟩ := Keep.out _ hb) | fail))
      all_goals
        go_wp2
        go_ret
        exact ⟨rfl, below_st HT.out (by with_reducible assumption)⟩
end Go.Proofs.Ytkdbffhmnkkbcaa
