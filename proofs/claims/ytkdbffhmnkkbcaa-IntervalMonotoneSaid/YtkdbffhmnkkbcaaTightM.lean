/- Small intervals: each operation's ends are among the four results for the ends. Conditions: ends of bounded size. -/
import Derived.Test.YtkdbffhmnkkbcaaDo
namespace Go.Proofs.Ytkdbffhmnkkbcaa
open Go.RowKit

theorem minL_mem4 (p q r s : F2) (h : VL [p, q, r, s]) : minL [p, q, r, s] ∈ [p, q, r, s] := (minL_is (by simp) h).1
theorem maxL_mem4 (p q r s : F2) (h : VL [p, q, r, s]) : maxL [p, q, r, s] ∈ [p, q, r, s] := (maxL_is (by simp) h).1
theorem ng_small {A B : Nat} {n d : Int} (h : Sm A B n d) (hA : A ≤ 4611686018427387904) : ng n = -n := if_neg (by have := h.2.1; omega)
theorem zero_in {a b c d : Int} (h : vI a b c d) (h0 : a = 0 ∨ c = 0) : conB a b c d 0 1 = true := by
  have hz : vP 0 1 := by decide
  have hp : ptI 0 1 = (0, 1, 0, 1) := if_pos hz
  have h1 := (cmp_le h.1.1 h.1.2).1 h.2
  have p1 := h.1.1.pos
  have p2 := h.1.2.pos
  have h2 := (rv_le p1 p2).1 h1
  unfold conB
  rw [hp]
  unfold inB
  rw [decide_eq_true_eq]
  refine ⟨⟨(vI_self 0 1).2 hz, h⟩, (cmp_le h.1.1 hz).2 ((rv_le p1 (by decide)).2 ?_), (cmp_le hz h.1.2).2 ((rv_le (by decide) p2).2 ?_)⟩
  · rcases h0 with e | e
    · subst e; omega
    · subst e
      rw [Int.zero_mul] at h2
      have : a ≤ 0 := by
        rcases Int.lt_or_le 0 a with k | k
        · have := Int.mul_pos k p2; omega
        · exact k
      omega
  · rcases h0 with e | e
    · subst e
      rw [Int.zero_mul] at h2
      have : 0 ≤ c := by
        rcases Int.lt_or_le c 0 with k | k
        · have := Int.mul_neg_of_neg_of_pos k p1; omega
        · exact k
      omega
    · subst e; omega

/-- The four results for the ends of two small intervals, and the interval of the results. -/
def Ends (r : Int → Int → Int → Int → R3) (z : R5) (a b c d a' b' c' d' : Int) (p0 q0 p1 q1 p2 q2 p3 q3 : Int) : Prop :=
  r a b a' b' = (p0, q0, 0) ∧ r c d a' b' = (p1, q1, 0) ∧ r a b c' d' = (p2, q2, 0) ∧ r c d c' d' = (p3, q3, 0) ∧
    ∃ z1 z2 z3 z4, z = (z1, z2, z3, z4, 0) ∧ (z1, z2) ∈ [(p0, q0), (p1, q1), (p2, q2), (p3, q3)] ∧ (z3, z4) ∈ [(p0, q0), (p1, q1), (p2, q2), (p3, q3)]

section
variable {a b c d a' b' c' d' : Int} (hx : SmI 50 12 a b c d) (hy : SmI 50 12 a' b' c' d')
include hx hy
theorem ends_add : ∃ p0 q0 p1 q1 p2 q2 p3 q3, Ends addR (addI a b c d a' b' c' d') a b c d a' b' c' d' p0 q0 p1 q1 p2 q2 p3 q3 := by
  obtain ⟨p0, q0, e0, -, -⟩ := add_sm hx.1 hy.1 (by decide) (by decide)
  obtain ⟨p1, q1, e1, -, -⟩ := add_sm hx.2.1 hy.1 (by decide) (by decide)
  obtain ⟨p2, q2, e2, -, -⟩ := add_sm hx.1 hy.2.1 (by decide) (by decide)
  obtain ⟨p3, q3, e3, -, -⟩ := add_sm hx.2.1 hy.2.1 (by decide) (by decide)
  refine ⟨p0, q0, p1, q1, p2, q2, p3, q3, e0, e1, e2, e3, p0, q0, p3, q3, ?_, by simp, by simp⟩
  unfold addI
  rw [if_pos ⟨hx.vI, hy.vI⟩, e0, e3]
  rfl
theorem ends_sub : ∃ p0 q0 p1 q1 p2 q2 p3 q3, Ends subR (subI a b c d a' b' c' d') a b c d a' b' c' d' p0 q0 p1 q1 p2 q2 p3 q3 := by
  obtain ⟨p0, q0, e0, -, -⟩ := sub_sm hx.1 hy.1 (by decide) (by decide)
  obtain ⟨p1, q1, e1, -, -⟩ := sub_sm hx.2.1 hy.1 (by decide) (by decide)
  obtain ⟨p2, q2, e2, -, -⟩ := sub_sm hx.1 hy.2.1 (by decide) (by decide)
  obtain ⟨p3, q3, e3, -, -⟩ := sub_sm hx.2.1 hy.2.1 (by decide) (by decide)
  refine ⟨p0, q0, p1, q1, p2, q2, p3, q3, e0, e1, e2, e3, p2, q2, p1, q1, ?_, by simp, by simp⟩
  unfold subI
  rw [ng_small hy.1 (by decide), ng_small hy.2.1 (by decide)]
  unfold addI
  have hv : vI (-c') d' (-a') b' := ⟨⟨vP_neg.2 hy.2.1.1, vP_neg.2 hy.1.1⟩, (cmp_le (vP_neg.2 hy.2.1.1) (vP_neg.2 hy.1.1)).2 (by rw [rv_neg, rv_neg]; have := hy.2.2; grind)⟩
  unfold subR at e1 e2
  rw [if_pos ⟨hx.vI, hv⟩, e1, e2]
  rfl
theorem ends_mul : ∃ p0 q0 p1 q1 p2 q2 p3 q3, Ends mulR (mulI a b c d a' b' c' d') a b c d a' b' c' d' p0 q0 p1 q1 p2 q2 p3 q3 := by
  obtain ⟨p0, q0, e0, k0, -⟩ := mul_sm hx.1 hy.1 (by decide) (by decide)
  obtain ⟨p1, q1, e1, k1, -⟩ := mul_sm hx.2.1 hy.1 (by decide) (by decide)
  obtain ⟨p2, q2, e2, k2, -⟩ := mul_sm hx.1 hy.2.1 (by decide) (by decide)
  obtain ⟨p3, q3, e3, k3, -⟩ := mul_sm hx.2.1 hy.2.1 (by decide) (by decide)
  have hv : VL [(p0, q0), (p2, q2), (p1, q1), (p3, q3)] := by
    intro x hm
    simp only [List.mem_cons, List.not_mem_nil, or_false] at hm
    rcases hm with rfl | rfl | rfl | rfl
    · exact k0.1
    · exact k2.1
    · exact k1.1
    · exact k3.1
  refine ⟨p0, q0, p1, q1, p2, q2, p3, q3, e0, e1, e2, e3, _, _, _, _, ?_, (?_ : minL [(p0, q0), (p2, q2), (p1, q1), (p3, q3)] ∈ _), (?_ : maxL [(p0, q0), (p2, q2), (p1, q1), (p3, q3)] ∈ _)⟩
  · unfold mulI
    rw [if_pos ⟨hx.vI, hy.vI⟩, e0, e1, e2, e3]
    rfl
  · have := minL_mem4 _ _ _ _ hv
    grind
  · have := maxL_mem4 _ _ _ _ hv
    grind
theorem ends_div (hc : conB a' b' c' d' 0 1 = false) : ∃ p0 q0 p1 q1 p2 q2 p3 q3, Ends divR (divI a b c d a' b' c' d') a b c d a' b' c' d' p0 q0 p1 q1 p2 q2 p3 q3 := by
  have n1 : a' ≠ 0 := fun e => by rw [zero_in hy.vI (.inl e)] at hc; cases hc
  have n2 : c' ≠ 0 := fun e => by rw [zero_in hy.vI (.inr e)] at hc; cases hc
  obtain ⟨p0, q0, e0, k0, -⟩ := div_sm hx.1 hy.1 n1 (by decide) (by decide)
  obtain ⟨p1, q1, e1, k1, -⟩ := div_sm hx.2.1 hy.1 n1 (by decide) (by decide)
  obtain ⟨p2, q2, e2, k2, -⟩ := div_sm hx.1 hy.2.1 n2 (by decide) (by decide)
  obtain ⟨p3, q3, e3, k3, -⟩ := div_sm hx.2.1 hy.2.1 n2 (by decide) (by decide)
  have hv : VL [(p0, q0), (p2, q2), (p1, q1), (p3, q3)] := by
    intro x hm
    simp only [List.mem_cons, List.not_mem_nil, or_false] at hm
    rcases hm with rfl | rfl | rfl | rfl
    · exact k0.1
    · exact k2.1
    · exact k1.1
    · exact k3.1
  refine ⟨p0, q0, p1, q1, p2, q2, p3, q3, e0, e1, e2, e3, _, _, _, _, ?_, (?_ : minL [(p0, q0), (p2, q2), (p1, q1), (p3, q3)] ∈ _), (?_ : maxL [(p0, q0), (p2, q2), (p1, q1), (p3, q3)] ∈ _)⟩
  · unfold divI
    rw [if_pos ⟨hx.vI, hy.vI⟩, hc, if_neg (by decide), e0, e1, e2, e3]
    rfl
  · have := minL_mem4 _ _ _ _ hv
    grind
  · have := maxL_mem4 _ _ _ _ hv
    grind
/-- What the law asks of one operation. -/
theorem tight_ops (o : Nat) (ho : o < 4) : ∃ z1 z2 z3 z4 e : Int,
    (∀ w, Calls Try.prog 19 #[.int .i64 o, .agg #[.int .i64 a, .int .i64 b, .int .i64 c, .int .i64 d], .agg #[.int .i64 a', .int .i64 b', .int .i64 c', .int .i64 d']] w fun r w' => r = .returned (.tuple #[.agg #[.int .i64 z1, .int .i64 z2, .int .i64 z3, .int .i64 z4], .int .i64 e]) ∧ Below w.heap.size w w') ∧
    ((e = 6 ∧ o = 3) ∨ (e = 0 ∧ ∃ p0 q0 p1 q1 p2 q2 p3 q3 : Int, ((z1, z2) ∈ [(p0, q0), (p1, q1), (p2, q2), (p3, q3)] ∧ (z3, z4) ∈ [(p0, q0), (p1, q1), (p2, q2), (p3, q3)]) ∧
      (∀ w, Calls Try.prog 44 #[.int .i64 o, .agg #[.int .i64 a, .int .i64 b], .agg #[.int .i64 a', .int .i64 b']] w fun r w' => r = .returned (.tuple #[.agg #[.int .i64 p0, .int .i64 q0], .int .i64 0]) ∧ Below w.heap.size w w') ∧
      (∀ w, Calls Try.prog 44 #[.int .i64 o, .agg #[.int .i64 c, .int .i64 d], .agg #[.int .i64 a', .int .i64 b']] w fun r w' => r = .returned (.tuple #[.agg #[.int .i64 p1, .int .i64 q1], .int .i64 0]) ∧ Below w.heap.size w w') ∧
      (∀ w, Calls Try.prog 44 #[.int .i64 o, .agg #[.int .i64 a, .int .i64 b], .agg #[.int .i64 c', .int .i64 d']] w fun r w' => r = .returned (.tuple #[.agg #[.int .i64 p2, .int .i64 q2], .int .i64 0]) ∧ Below w.heap.size w w') ∧
      (∀ w, Calls Try.prog 44 #[.int .i64 o, .agg #[.int .i64 c, .int .i64 d], .agg #[.int .i64 c', .int .i64 d']] w fun r w' => r = .returned (.tuple #[.agg #[.int .i64 p3, .int .i64 q3], .int .i64 0]) ∧ Below w.heap.size w w'))) := by
  have w1 := hx.1.1.w2
  have w2 := hx.2.1.1.w2
  have w3 := hy.1.1.w2
  have w4 := hy.2.1.1.w2
  match o, ho with
  | 0, _ =>
    obtain ⟨p0, q0, p1, q1, p2, q2, p3, q3, e0, e1, e2, e3, z1, z2, z3, z4, hz, m1, m2⟩ := ends_add hx hy
    refine ⟨z1, z2, z3, z4, 0, fun w => by have := do0_w w1 w2 w3 w4 w; rw [hz] at this; exact this, .inr ⟨rfl, p0, q0, p1, q1, p2, q2, p3, q3, ⟨m1, m2⟩, fun w => ?_, fun w => ?_, fun w => ?_, fun w => ?_⟩⟩
    · have := apply0_w w1 w3 w; rw [e0] at this; exact this
    · have := apply0_w w2 w3 w; rw [e1] at this; exact this
    · have := apply0_w w1 w4 w; rw [e2] at this; exact this
    · have := apply0_w w2 w4 w; rw [e3] at this; exact this
  | 1, _ =>
    obtain ⟨p0, q0, p1, q1, p2, q2, p3, q3, e0, e1, e2, e3, z1, z2, z3, z4, hz, m1, m2⟩ := ends_sub hx hy
    refine ⟨z1, z2, z3, z4, 0, fun w => by have := do1_w w1 w2 w3 w4 w; rw [hz] at this; exact this, .inr ⟨rfl, p0, q0, p1, q1, p2, q2, p3, q3, ⟨m1, m2⟩, fun w => ?_, fun w => ?_, fun w => ?_, fun w => ?_⟩⟩
    · have := apply1_w w1 w3 w; rw [e0] at this; exact this
    · have := apply1_w w2 w3 w; rw [e1] at this; exact this
    · have := apply1_w w1 w4 w; rw [e2] at this; exact this
    · have := apply1_w w2 w4 w; rw [e3] at this; exact this
  | 2, _ =>
    obtain ⟨p0, q0, p1, q1, p2, q2, p3, q3, e0, e1, e2, e3, z1, z2, z3, z4, hz, m1, m2⟩ := ends_mul hx hy
    refine ⟨z1, z2, z3, z4, 0, fun w => by have := do2_w w1 w2 w3 w4 w; rw [hz] at this; exact this, .inr ⟨rfl, p0, q0, p1, q1, p2, q2, p3, q3, ⟨m1, m2⟩, fun w => ?_, fun w => ?_, fun w => ?_, fun w => ?_⟩⟩
    · have := apply2_w w1 w3 w; rw [e0] at this; exact this
    · have := apply2_w w2 w3 w; rw [e1] at this; exact this
    · have := apply2_w w1 w4 w; rw [e2] at this; exact this
    · have := apply2_w w2 w4 w; rw [e3] at this; exact this
  | 3, _ =>
    cases hc : conB a' b' c' d' 0 1 with
    | true =>
      refine ⟨0, 0, 0, 0, 6, fun w => ?_, .inl ⟨rfl, rfl⟩⟩
      have := do3_w w1 w2 w3 w4 w
      have hz : divI a b c d a' b' c' d' = (0, 0, 0, 0, 6) := by unfold divI; rw [if_pos ⟨hx.vI, hy.vI⟩, if_pos hc]
      rw [hz] at this
      exact this
    | false =>
      obtain ⟨p0, q0, p1, q1, p2, q2, p3, q3, e0, e1, e2, e3, z1, z2, z3, z4, hz, m1, m2⟩ := ends_div hx hy hc
      refine ⟨z1, z2, z3, z4, 0, fun w => by have := do3_w w1 w2 w3 w4 w; rw [hz] at this; exact this, .inr ⟨rfl, p0, q0, p1, q1, p2, q2, p3, q3, ⟨m1, m2⟩, fun w => ?_, fun w => ?_, fun w => ?_, fun w => ?_⟩⟩
      · have := apply3_w w1 w3 w; rw [e0] at this; exact this
      · have := apply3_w w2 w3 w; rw [e1] at this; exact this
      · have := apply3_w w1 w4 w; rw [e2] at this; exact this
      · have := apply3_w w2 w4 w; rw [e3] at this; exact this
end
end Go.Proofs.Ytkdbffhmnkkbcaa
