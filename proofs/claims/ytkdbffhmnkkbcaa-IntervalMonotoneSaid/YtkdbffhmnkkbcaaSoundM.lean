/- Small intervals: each operation's result for numbers of the intervals is in the operation's interval. Conditions: numbers of bounded size. -/
import Derived.Test.YtkdbffhmnkkbcaaTightM
namespace Go.Proofs.Ytkdbffhmnkkbcaa
open Go.RowKit

theorem mul_up {c p q : Rat} (hc : 0 ≤ c) (h : p ≤ q) : c * p ≤ c * q := Rat.mul_le_mul_of_nonneg_left h hc
theorem mul_dn {c p q : Rat} (hc : c ≤ 0) (h : p ≤ q) : c * q ≤ c * p := by
  have := mul_up (c := -c) (by grind) h
  grind
theorem mul_range {x1 x2 y1 y2 a b m n : Rat} (h1 : x1 ≤ a) (h2 : a ≤ x2) (h3 : y1 ≤ b) (h4 : b ≤ y2)
    (m1 : m ≤ x1 * y1) (m2 : m ≤ x1 * y2) (m3 : m ≤ x2 * y1) (m4 : m ≤ x2 * y2) (n1 : x1 * y1 ≤ n) (n2 : x1 * y2 ≤ n) (n3 : x2 * y1 ≤ n) (n4 : x2 * y2 ≤ n) : m ≤ a * b ∧ a * b ≤ n := by
  have hx1 : m ≤ x1 * b ∧ x1 * b ≤ n := by
    rcases Rat.le_total (a := 0) (b := x1) with k | k
    · have e1 := mul_up k h3
      have e2 := mul_up k h4
      grind
    · have e1 := mul_dn k h3
      have e2 := mul_dn k h4
      grind
  have hx2 : m ≤ x2 * b ∧ x2 * b ≤ n := by
    rcases Rat.le_total (a := 0) (b := x2) with k | k
    · have e1 := mul_up k h3
      have e2 := mul_up k h4
      grind
    · have e1 := mul_dn k h3
      have e2 := mul_dn k h4
      grind
  rcases Rat.le_total (a := 0) (b := b) with k | k
  · have e1 := mul_up k h1
    have e2 := mul_up k h2
    grind
  · have e1 := mul_dn k h1
    have e2 := mul_dn k h2
    grind
theorem inv_up {p q u v : Rat} (hp : 0 < p) (h : p ≤ q) (hu : u * p = 1) (hv : v * q = 1) : v ≤ u := by
  have hu0 : 0 ≤ u := by
    rcases Rat.le_total (a := 0) (b := u) with k | k
    · exact k
    · have := mul_up (c := p) (by grind) k
      grind
  have hv0 : 0 ≤ v := by
    rcases Rat.le_total (a := 0) (b := v) with k | k
    · exact k
    · have := mul_up (c := q) (by grind) k
      grind
  rcases Rat.le_total (a := v) (b := u) with k | k
  · exact k
  · have e1 := mul_up (c := p) (by grind) k
    have e2 := mul_up hv0 h
    have e3 : v * p = 1 := by grind
    have e4 : u = v := by grind
    grind
theorem inv_range {p q b u v t : Rat} (hs : 0 < p ∨ q < 0) (h1 : p ≤ b) (h2 : b ≤ q) (hu : u * p = 1) (hv : v * q = 1) (ht : t * b = 1) : v ≤ t ∧ t ≤ u := by
  rcases hs with k | k
  · exact ⟨inv_up (p := b) (q := q) (by grind) h2 ht hv, inv_up (p := p) (q := b) k h1 hu ht⟩
  · have e1 := inv_up (p := -q) (q := -b) (u := -v) (v := -t) (by grind) (by grind) (by grind) (by grind)
    have e2 := inv_up (p := -b) (q := -p) (u := -t) (v := -u) (by grind) (by grind) (by grind) (by grind)
    grind
theorem rv_zero (d : Int) : rv 0 d = 0 := by
  unfold rv
  rw [show ((0 : Int) : Rat) = 0 from rfl]
  grind
theorem con_of {z1 z2 z3 z4 c1 c2 : Int} (h1 : vP z1 z2) (h2 : vP z3 z4) (hc : vP c1 c2) (k1 : rv z1 z2 ≤ rv c1 c2) (k2 : rv c1 c2 ≤ rv z3 z4) : conB z1 z2 z3 z4 c1 c2 = true := by
  have hp : ptI c1 c2 = (c1, c2, c1, c2) := if_pos hc
  unfold conB
  rw [hp]
  unfold inB
  rw [decide_eq_true_eq]
  exact ⟨⟨(vI_self c1 c2).2 hc, ⟨h1, h2⟩, (cmp_le h1 h2).2 (by grind)⟩, (cmp_le h1 hc).2 k1, (cmp_le hc h2).2 k2⟩
/-- The least and the greatest of four valid fractions. -/
theorem four {p q r s : F2} (h : VL [p, q, r, s]) : (vP (minL [p, q, r, s]).1 (minL [p, q, r, s]).2 ∧ vP (maxL [p, q, r, s]).1 (maxL [p, q, r, s]).2) ∧ ∀ y ∈ [p, q, r, s], rv (minL [p, q, r, s]).1 (minL [p, q, r, s]).2 ≤ rv y.1 y.2 ∧ rv y.1 y.2 ≤ rv (maxL [p, q, r, s]).1 (maxL [p, q, r, s]).2 := by
  have k1 := minL_is (l := [p, q, r, s]) (by simp) h
  have k2 := maxL_is (l := [p, q, r, s]) (by simp) h
  exact ⟨⟨h _ k1.1, h _ k2.1⟩, fun y hy => ⟨(cmp_le (h _ k1.1) (h y hy)).1 (k1.2 y hy), (cmp_le (h y hy) (h _ k2.1)).1 (k2.2 y hy)⟩⟩

/-- The least and the greatest of two valid fractions. -/
theorem two {n m n' m' : Int} (h : vP n m) (k : vP n' m') : (vP (minL [(n, m), (n', m')]).1 (minL [(n, m), (n', m')]).2 ∧ vP (maxL [(n, m), (n', m')]).1 (maxL [(n, m), (n', m')]).2) ∧
    (rv (minL [(n, m), (n', m')]).1 (minL [(n, m), (n', m')]).2 = rv n m ∨ rv (minL [(n, m), (n', m')]).1 (minL [(n, m), (n', m')]).2 = rv n' m') ∧
    (rv (maxL [(n, m), (n', m')]).1 (maxL [(n, m), (n', m')]).2 = rv n m ∨ rv (maxL [(n, m), (n', m')]).1 (maxL [(n, m), (n', m')]).2 = rv n' m') ∧
    (rv (minL [(n, m), (n', m')]).1 (minL [(n, m), (n', m')]).2 ≤ rv n m ∧ rv (minL [(n, m), (n', m')]).1 (minL [(n, m), (n', m')]).2 ≤ rv n' m') ∧
    (rv n m ≤ rv (maxL [(n, m), (n', m')]).1 (maxL [(n, m), (n', m')]).2 ∧ rv n' m' ≤ rv (maxL [(n, m), (n', m')]).1 (maxL [(n, m), (n', m')]).2) := by
  have hv : VL [(n, m), (n', m')] := vl_two h k
  have k1 := minL_is (l := [(n, m), (n', m')]) (by simp) hv
  have k2 := maxL_is (l := [(n, m), (n', m')]) (by simp) hv
  have p1 := hv _ k1.1
  have p2 := hv _ k2.1
  refine ⟨⟨p1, p2⟩, ?_, ?_, ⟨(cmp_le p1 h).1 (k1.2 (n, m) (by simp)), (cmp_le p1 k).1 (k1.2 (n', m') (by simp))⟩, ⟨(cmp_le h p2).1 (k2.2 (n, m) (by simp)), (cmp_le k p2).1 (k2.2 (n', m') (by simp))⟩⟩
  · have := k1.1
    simp only [List.mem_cons, List.not_mem_nil, or_false] at this
    rcases this with e | e <;> rw [e]
    · exact .inl rfl
    · exact .inr rfl
  · have := k2.1
    simp only [List.mem_cons, List.not_mem_nil, or_false] at this
    rcases this with e | e <;> rw [e]
    · exact .inl rfl
    · exact .inr rfl

section
variable {A B : Nat} {a b c d a' b' c' d' n m n' m' : Int} (hx : SmI 50 12 a b c d) (hy : SmI 50 12 a' b' c' d') (ha : Sm A B n m) (hb : Sm A B n' m') (h1 : rv a b ≤ rv n m) (h2 : rv n m ≤ rv c d) (h3 : rv a' b' ≤ rv n' m') (h4 : rv n' m' ≤ rv c' d')
  (G : A * B + A * B ≤ 4611686018427387904 ∧ B * B ≤ 4611686018427387904 ∧ A * A ≤ 4611686018427387904 ∧ A * B ≤ 4611686018427387904 ∧ B * A ≤ 4611686018427387904)
include hx hy ha hb h1 h2 h3 h4 G
theorem sound_add : ∃ z1 z2 z3 z4 c1 c2 : Int, addI a b c d a' b' c' d' = (z1, z2, z3, z4, 0) ∧ (vP z1 z2 ∧ vP z3 z4) ∧ addR n m n' m' = (c1, c2, 0) ∧ vP c1 c2 ∧ conB z1 z2 z3 z4 c1 c2 = true := by
  obtain ⟨p0, q0, e0, k0, r0⟩ := add_sm hx.1 hy.1 (by decide) (by decide)
  obtain ⟨p3, q3, e3, k3, r3⟩ := add_sm hx.2.1 hy.2.1 (by decide) (by decide)
  obtain ⟨c1, c2, e, k, r⟩ := add_sm ha hb G.1 G.2.1
  refine ⟨p0, q0, p3, q3, c1, c2, ?_, ⟨k0.1, k3.1⟩, e, k.1, con_of k0.1 k3.1 k.1 (by grind) (by grind)⟩
  unfold addI
  rw [if_pos ⟨hx.vI, hy.vI⟩, e0, e3]
  rfl
theorem sound_sub : ∃ z1 z2 z3 z4 c1 c2 : Int, subI a b c d a' b' c' d' = (z1, z2, z3, z4, 0) ∧ (vP z1 z2 ∧ vP z3 z4) ∧ subR n m n' m' = (c1, c2, 0) ∧ vP c1 c2 ∧ conB z1 z2 z3 z4 c1 c2 = true := by
  obtain ⟨p1, q1, e1, k1, r1⟩ := sub_sm hx.2.1 hy.1 (by decide) (by decide)
  obtain ⟨p2, q2, e2, k2, r2⟩ := sub_sm hx.1 hy.2.1 (by decide) (by decide)
  obtain ⟨c1, c2, e, k, r⟩ := sub_sm ha hb G.1 G.2.1
  refine ⟨p2, q2, p1, q1, c1, c2, ?_, ⟨k2.1, k1.1⟩, e, k.1, con_of k2.1 k1.1 k.1 (by grind) (by grind)⟩
  unfold subI
  rw [ng_small hy.1 (by decide), ng_small hy.2.1 (by decide)]
  unfold addI
  have hv : vI (-c') d' (-a') b' := ⟨⟨vP_neg.2 hy.2.1.1, vP_neg.2 hy.1.1⟩, (cmp_le (vP_neg.2 hy.2.1.1) (vP_neg.2 hy.1.1)).2 (by rw [rv_neg, rv_neg]; have := hy.2.2; grind)⟩
  unfold subR at e1 e2
  rw [if_pos ⟨hx.vI, hv⟩, e1, e2]
  rfl
theorem sound_mul : ∃ z1 z2 z3 z4 c1 c2 : Int, mulI a b c d a' b' c' d' = (z1, z2, z3, z4, 0) ∧ (vP z1 z2 ∧ vP z3 z4) ∧ mulR n m n' m' = (c1, c2, 0) ∧ vP c1 c2 ∧ conB z1 z2 z3 z4 c1 c2 = true := by
  obtain ⟨p0, q0, e0, k0, r0⟩ := mul_sm hx.1 hy.1 (by decide) (by decide)
  obtain ⟨p1, q1, e1, k1, r1⟩ := mul_sm hx.2.1 hy.1 (by decide) (by decide)
  obtain ⟨p2, q2, e2, k2, r2⟩ := mul_sm hx.1 hy.2.1 (by decide) (by decide)
  obtain ⟨p3, q3, e3, k3, r3⟩ := mul_sm hx.2.1 hy.2.1 (by decide) (by decide)
  obtain ⟨c1, c2, e, k, r⟩ := mul_sm ha hb G.2.2.1 G.2.1
  have hv : VL [(p0, q0), (p2, q2), (p1, q1), (p3, q3)] := by
    intro x hm
    simp only [List.mem_cons, List.not_mem_nil, or_false] at hm
    rcases hm with rfl | rfl | rfl | rfl
    · exact k0.1
    · exact k2.1
    · exact k1.1
    · exact k3.1
  obtain ⟨⟨v1, v2⟩, hf⟩ := four hv
  have f0 := hf (p0, q0) (by simp)
  have f1 := hf (p1, q1) (by simp)
  have f2 := hf (p2, q2) (by simp)
  have f3 := hf (p3, q3) (by simp)
  simp only at f0 f1 f2 f3
  rw [r0] at f0
  rw [r1] at f1
  rw [r2] at f2
  rw [r3] at f3
  have hr := mul_range h1 h2 h3 h4 f0.1 f2.1 f1.1 f3.1 f0.2 f2.2 f1.2 f3.2
  rw [← r] at hr
  refine ⟨_, _, _, _, c1, c2, ?_, ⟨v1, v2⟩, e, k.1, con_of v1 v2 k.1 hr.1 hr.2⟩
  unfold mulI
  rw [if_pos ⟨hx.vI, hy.vI⟩, e0, e1, e2, e3]
  rfl
theorem sound_div (hc : conB a' b' c' d' 0 1 = false) : ∃ z1 z2 z3 z4 c1 c2 : Int, divI a b c d a' b' c' d' = (z1, z2, z3, z4, 0) ∧ (vP z1 z2 ∧ vP z3 z4) ∧ divR n m n' m' = (c1, c2, 0) ∧ vP c1 c2 ∧ conB z1 z2 z3 z4 c1 c2 = true := by
  have hs : 0 < rv a' b' ∨ rv c' d' < 0 := by
    by_cases s1 : 0 < rv a' b'
    · exact .inl s1
    · by_cases s2 : rv c' d' < 0
      · exact .inr s2
      · have := con_of hy.1.1 hy.2.1.1 (show vP 0 1 by decide) (by rw [rv_zero]; grind) (by rw [rv_zero]; grind)
        rw [this] at hc
        cases hc
  have i1 : rv a' b' ≠ 0 := by have := hy.2.2; grind
  have i2 : rv c' d' ≠ 0 := by have := hy.2.2; grind
  have i3 : rv n' m' ≠ 0 := by grind
  have n1 : a' ≠ 0 := fun e => i1 (by rw [e]; exact rv_zero _)
  have n2 : c' ≠ 0 := fun e => i2 (by rw [e]; exact rv_zero _)
  have n3 : n' ≠ 0 := fun e => i3 (by rw [e]; exact rv_zero _)
  obtain ⟨p0, q0, e0, k0, r0⟩ := div_sm hx.1 hy.1 n1 (by decide) (by decide)
  obtain ⟨p1, q1, e1, k1, r1⟩ := div_sm hx.2.1 hy.1 n1 (by decide) (by decide)
  obtain ⟨p2, q2, e2, k2, r2⟩ := div_sm hx.1 hy.2.1 n2 (by decide) (by decide)
  obtain ⟨p3, q3, e3, k3, r3⟩ := div_sm hx.2.1 hy.2.1 n2 (by decide) (by decide)
  obtain ⟨c1, c2, e, k, r⟩ := div_sm ha hb n3 G.2.2.2.1 G.2.2.2.2
  have hv : VL [(p0, q0), (p2, q2), (p1, q1), (p3, q3)] := by
    intro x hm
    simp only [List.mem_cons, List.not_mem_nil, or_false] at hm
    rcases hm with rfl | rfl | rfl | rfl
    · exact k0.1
    · exact k2.1
    · exact k1.1
    · exact k3.1
  obtain ⟨⟨v1, v2⟩, hf⟩ := four hv
  have f0 := hf (p0, q0) (by simp)
  have f1 := hf (p1, q1) (by simp)
  have f2 := hf (p2, q2) (by simp)
  have f3 := hf (p3, q3) (by simp)
  simp only at f0 f1 f2 f3
  rw [r0, Rat.div_def] at f0
  rw [r1, Rat.div_def] at f1
  rw [r2, Rat.div_def] at f2
  rw [r3, Rat.div_def] at f3
  rw [Rat.div_def] at r
  have j1 : (rv a' b')⁻¹ * rv a' b' = 1 := by grind
  have j2 : (rv c' d')⁻¹ * rv c' d' = 1 := by grind
  have j3 : (rv n' m')⁻¹ * rv n' m' = 1 := by grind
  have hi := inv_range hs h3 h4 j1 j2 j3
  have hr := mul_range h1 h2 hi.1 hi.2 f2.1 f0.1 f3.1 f1.1 f2.2 f0.2 f3.2 f1.2
  rw [← r] at hr
  refine ⟨_, _, _, _, c1, c2, ?_, ⟨v1, v2⟩, e, k.1, con_of v1 v2 k.1 hr.1 hr.2⟩
  unfold divI
  rw [if_pos ⟨hx.vI, hy.vI⟩, hc, if_neg (by decide), e0, e1, e2, e3]
  rfl
/-- What the law asks of one operation. -/
theorem sound_ops (o : Nat) (ho : o < 4) : ∃ z1 z2 z3 z4 e : Int,
    (∀ w, Calls Try.prog 19 #[.int .i64 o, .agg #[.int .i64 a, .int .i64 b, .int .i64 c, .int .i64 d], .agg #[.int .i64 a', .int .i64 b', .int .i64 c', .int .i64 d']] w fun r w' => r = .returned (.tuple #[.agg #[.int .i64 z1, .int .i64 z2, .int .i64 z3, .int .i64 z4], .int .i64 e]) ∧ Below w.heap.size w w') ∧
    ((e = 6 ∧ o = 3) ∨ (e = 0 ∧ ∃ c1 c2 : Int,
      (∀ w, Calls Try.prog 44 #[.int .i64 o, .agg #[.int .i64 n, .int .i64 m], .agg #[.int .i64 n', .int .i64 m']] w fun r w' => r = .returned (.tuple #[.agg #[.int .i64 c1, .int .i64 c2], .int .i64 0]) ∧ Below w.heap.size w w') ∧
      (∀ w, Calls Try.prog 31 #[.agg #[.int .i64 z1, .int .i64 z2, .int .i64 z3, .int .i64 z4], .agg #[.int .i64 c1, .int .i64 c2]] w fun r w' => r = .returned (.bool true) ∧ Below w.heap.size w w'))) := by
  have w1 := hx.1.1.w2
  have w2 := hx.2.1.1.w2
  have w3 := hy.1.1.w2
  have w4 := hy.2.1.1.w2
  have w5 := ha.1.w2
  have w6 := hb.1.w2
  match o, ho with
  | 0, _ =>
    obtain ⟨z1, z2, z3, z4, c1, c2, hz, ⟨v1, v2⟩, e, v, hc⟩ := sound_add hx hy ha hb h1 h2 h3 h4 G
    refine ⟨z1, z2, z3, z4, 0, fun w => by have := do0_w w1 w2 w3 w4 w; rw [hz] at this; exact this, .inr ⟨rfl, c1, c2, fun w => by have := apply0_w w5 w6 w; rw [e] at this; exact this, fun w => by have := icon_w v1.w2 v2.w2 v.w2 w; rw [hc] at this; exact this⟩⟩
  | 1, _ =>
    obtain ⟨z1, z2, z3, z4, c1, c2, hz, ⟨v1, v2⟩, e, v, hc⟩ := sound_sub hx hy ha hb h1 h2 h3 h4 G
    refine ⟨z1, z2, z3, z4, 0, fun w => by have := do1_w w1 w2 w3 w4 w; rw [hz] at this; exact this, .inr ⟨rfl, c1, c2, fun w => by have := apply1_w w5 w6 w; rw [e] at this; exact this, fun w => by have := icon_w v1.w2 v2.w2 v.w2 w; rw [hc] at this; exact this⟩⟩
  | 2, _ =>
    obtain ⟨z1, z2, z3, z4, c1, c2, hz, ⟨v1, v2⟩, e, v, hc⟩ := sound_mul hx hy ha hb h1 h2 h3 h4 G
    refine ⟨z1, z2, z3, z4, 0, fun w => by have := do2_w w1 w2 w3 w4 w; rw [hz] at this; exact this, .inr ⟨rfl, c1, c2, fun w => by have := apply2_w w5 w6 w; rw [e] at this; exact this, fun w => by have := icon_w v1.w2 v2.w2 v.w2 w; rw [hc] at this; exact this⟩⟩
  | 3, _ =>
    cases hc0 : conB a' b' c' d' 0 1 with
    | true =>
      refine ⟨0, 0, 0, 0, 6, fun w => ?_, .inl ⟨rfl, rfl⟩⟩
      have := do3_w w1 w2 w3 w4 w
      have hz : divI a b c d a' b' c' d' = (0, 0, 0, 0, 6) := by unfold divI; rw [if_pos ⟨hx.vI, hy.vI⟩, if_pos hc0]
      rw [hz] at this
      exact this
    | false =>
      obtain ⟨z1, z2, z3, z4, c1, c2, hz, ⟨v1, v2⟩, e, v, hc⟩ := sound_div hx hy ha hb h1 h2 h3 h4 G hc0
      refine ⟨z1, z2, z3, z4, 0, fun w => by have := do3_w w1 w2 w3 w4 w; rw [hz] at this; exact this, .inr ⟨rfl, c1, c2, fun w => by have := apply3_w w5 w6 w; rw [e] at this; exact this, fun w => by have := icon_w v1.w2 v2.w2 v.w2 w; rw [hc] at this; exact this⟩⟩
end
section
variable {A B : Nat} {a b c d a' b' c' d' n m n' m' : Int} (hx : SmI 50 12 a b c d) (hy : SmI 50 12 a' b' c' d') (ha : Sm A B n m) (hb : Sm A B n' m') (h1 : rv a b ≤ rv n m) (h2 : rv n m ≤ rv c d) (h3 : rv a' b' ≤ rv n' m') (h4 : rv n' m' ≤ rv c' d')
include hx hy ha hb h1 h2 h3 h4
theorem sound_min : (vP (minL [(a, b), (a', b')]).1 (minL [(a, b), (a', b')]).2 ∧ vP (minL [(c, d), (c', d')]).1 (minL [(c, d), (c', d')]).2 ∧ vP (minL [(n, m), (n', m')]).1 (minL [(n, m), (n', m')]).2) ∧
    conB (minL [(a, b), (a', b')]).1 (minL [(a, b), (a', b')]).2 (minL [(c, d), (c', d')]).1 (minL [(c, d), (c', d')]).2 (minL [(n, m), (n', m')]).1 (minL [(n, m), (n', m')]).2 = true := by
  obtain ⟨u1, u2⟩ := two hx.1.1 hy.1.1
  obtain ⟨v1, v2⟩ := two hx.2.1.1 hy.2.1.1
  obtain ⟨t1, t2⟩ := two ha.1 hb.1
  refine ⟨⟨u1.1, v1.1, t1.1⟩, con_of u1.1 v1.1 t1.1 ?_ ?_⟩
  · rcases t2.1 with e | e <;> rw [e] <;> grind
  · rcases v2.1 with e | e <;> rw [e] <;> grind
theorem sound_max : (vP (maxL [(a, b), (a', b')]).1 (maxL [(a, b), (a', b')]).2 ∧ vP (maxL [(c, d), (c', d')]).1 (maxL [(c, d), (c', d')]).2 ∧ vP (maxL [(n, m), (n', m')]).1 (maxL [(n, m), (n', m')]).2) ∧
    conB (maxL [(a, b), (a', b')]).1 (maxL [(a, b), (a', b')]).2 (maxL [(c, d), (c', d')]).1 (maxL [(c, d), (c', d')]).2 (maxL [(n, m), (n', m')]).1 (maxL [(n, m), (n', m')]).2 = true := by
  obtain ⟨u1, u2⟩ := two hx.1.1 hy.1.1
  obtain ⟨v1, v2⟩ := two hx.2.1.1 hy.2.1.1
  obtain ⟨t1, t2⟩ := two ha.1 hb.1
  refine ⟨⟨u1.2, v1.2, t1.2⟩, con_of u1.2 v1.2 t1.2 ?_ ?_⟩
  · rcases u2.2.1 with e | e <;> rw [e] <;> grind
  · rcases t2.2.1 with e | e <;> rw [e] <;> grind
end
end Go.Proofs.Ytkdbffhmnkkbcaa
