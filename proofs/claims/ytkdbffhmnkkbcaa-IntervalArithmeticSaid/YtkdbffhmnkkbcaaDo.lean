/- The law's do and the reference's Apply at each of the four operations. Conditions: numbers of 64 bits. -/
import Derived.Test.YtkdbffhmnkkbcaaVal
import Derived.Test.YtkdbffhmnkkbcaaIv6
namespace Go.Proofs.Ytkdbffhmnkkbcaa
open Go.RowKit

set_option maxRecDepth 100000 in
set_option maxHeartbeats 4000000 in
theorem do0_w {a b c d a' b' c' d' : Int} (h : W2 a b) (k : W2 c d) (h' : W2 a' b') (k' : W2 c' d') (w : World) :
    Calls Try.prog 19 #[.int .i64 0, .agg #[.int .i64 a, .int .i64 b, .int .i64 c, .int .i64 d], .agg #[.int .i64 a', .int .i64 b', .int .i64 c', .int .i64 d']] w fun e w' => e = .returned (RI (addI a b c d a' b' c' d')) ∧ Below w.heap.size w w' := by
  have AD := iadd_w h k h' k'
  obtain ⟨⟨x1, x2, x3, x4, x5⟩, hx⟩ : ∃ x, addI a b c d a' b' c' d' = x := ⟨_, rfl⟩
  rw [hx] at AD ⊢
  unfold RI at AD ⊢
  simp only at AD ⊢
  replace AD := Lib.hid AD
  clear h k h' k' hx
  obtain ⟨hA, hE, hR, hW⟩ := start3 w 25 #[.int .i64 a, .int .i64 b, .int .i64 c, .int .i64 d] 25 #[.int .i64 a', .int .i64 b', .int .i64 c', .int .i64 d'] 25 #[.int .i64 0, .int .i64 0, .int .i64 0, .int .i64 0]
  have cA0 := hA.cell 0
  have cA1 := hA.cell 1
  have cA2 := hA.cell 2
  have cA3 := hA.cell 3
  have zA := hA.lt
  have cE0 := hE.cell 0
  have cE1 := hE.cell 1
  have cE2 := hE.cell 2
  have cE3 := hE.cell 3
  have zE := hE.lt
  go_enter Try.func19, Try.ntmps19
  go_wp2_with fail
  (with_reducible refine (AD.out _).mono ?_)
  rintro e w1 ⟨rfl, hB⟩
  replace hR := hR.below hB hR.lt
  replace hW := below_st hW hB
  clear hB cA0 cA1 cA2 cA3 zA cE0 cE1 cE2 cE3 zE hA hE
  have fR := hR.frozen
  have cR0 := hR.cell 0
  have cR1 := hR.cell 1
  have cR2 := hR.cell 2
  have cR3 := hR.cell 3
  have zR := hR.lt
  go_wp2
  have k := put4 hR hW (by omega) x1 x2 x3 x4
  exact ret_iv (p := 6) (q := 7) (by kernel_rfl) rfl rfl k.1 ⟨rfl, k.2⟩
set_option maxRecDepth 100000 in
set_option maxHeartbeats 4000000 in
theorem do1_w {a b c d a' b' c' d' : Int} (h : W2 a b) (k : W2 c d) (h' : W2 a' b') (k' : W2 c' d') (w : World) :
    Calls Try.prog 19 #[.int .i64 1, .agg #[.int .i64 a, .int .i64 b, .int .i64 c, .int .i64 d], .agg #[.int .i64 a', .int .i64 b', .int .i64 c', .int .i64 d']] w fun e w' => e = .returned (RI (subI a b c d a' b' c' d')) ∧ Below w.heap.size w w' := by
  have AD := isub_w h k h' k'
  obtain ⟨⟨x1, x2, x3, x4, x5⟩, hx⟩ : ∃ x, subI a b c d a' b' c' d' = x := ⟨_, rfl⟩
  rw [hx] at AD ⊢
  unfold RI at AD ⊢
  simp only at AD ⊢
  replace AD := Lib.hid AD
  clear h k h' k' hx
  obtain ⟨hA, hE, hR, hW⟩ := start3 w 25 #[.int .i64 a, .int .i64 b, .int .i64 c, .int .i64 d] 25 #[.int .i64 a', .int .i64 b', .int .i64 c', .int .i64 d'] 25 #[.int .i64 0, .int .i64 0, .int .i64 0, .int .i64 0]
  have cA0 := hA.cell 0
  have cA1 := hA.cell 1
  have cA2 := hA.cell 2
  have cA3 := hA.cell 3
  have zA := hA.lt
  have cE0 := hE.cell 0
  have cE1 := hE.cell 1
  have cE2 := hE.cell 2
  have cE3 := hE.cell 3
  have zE := hE.lt
  go_enter Try.func19, Try.ntmps19
  go_wp2_with fail
  (with_reducible refine (AD.out _).mono ?_)
  rintro e w1 ⟨rfl, hB⟩
  replace hR := hR.below hB hR.lt
  replace hW := below_st hW hB
  clear hB cA0 cA1 cA2 cA3 zA cE0 cE1 cE2 cE3 zE hA hE
  have fR := hR.frozen
  have cR0 := hR.cell 0
  have cR1 := hR.cell 1
  have cR2 := hR.cell 2
  have cR3 := hR.cell 3
  have zR := hR.lt
  go_wp2
  have k := put4 hR hW (by omega) x1 x2 x3 x4
  exact ret_iv (p := 6) (q := 7) (by kernel_rfl) rfl rfl k.1 ⟨rfl, k.2⟩
set_option maxRecDepth 100000 in
set_option maxHeartbeats 4000000 in
theorem do2_w {a b c d a' b' c' d' : Int} (h : W2 a b) (k : W2 c d) (h' : W2 a' b') (k' : W2 c' d') (w : World) :
    Calls Try.prog 19 #[.int .i64 2, .agg #[.int .i64 a, .int .i64 b, .int .i64 c, .int .i64 d], .agg #[.int .i64 a', .int .i64 b', .int .i64 c', .int .i64 d']] w fun e w' => e = .returned (RI (mulI a b c d a' b' c' d')) ∧ Below w.heap.size w w' := by
  have AD := imul_w h k h' k'
  obtain ⟨⟨x1, x2, x3, x4, x5⟩, hx⟩ : ∃ x, mulI a b c d a' b' c' d' = x := ⟨_, rfl⟩
  rw [hx] at AD ⊢
  unfold RI at AD ⊢
  simp only at AD ⊢
  replace AD := Lib.hid AD
  clear h k h' k' hx
  obtain ⟨hA, hE, hR, hW⟩ := start3 w 25 #[.int .i64 a, .int .i64 b, .int .i64 c, .int .i64 d] 25 #[.int .i64 a', .int .i64 b', .int .i64 c', .int .i64 d'] 25 #[.int .i64 0, .int .i64 0, .int .i64 0, .int .i64 0]
  have cA0 := hA.cell 0
  have cA1 := hA.cell 1
  have cA2 := hA.cell 2
  have cA3 := hA.cell 3
  have zA := hA.lt
  have cE0 := hE.cell 0
  have cE1 := hE.cell 1
  have cE2 := hE.cell 2
  have cE3 := hE.cell 3
  have zE := hE.lt
  go_enter Try.func19, Try.ntmps19
  go_wp2_with fail
  (with_reducible refine (AD.out _).mono ?_)
  rintro e w1 ⟨rfl, hB⟩
  replace hR := hR.below hB hR.lt
  replace hW := below_st hW hB
  clear hB cA0 cA1 cA2 cA3 zA cE0 cE1 cE2 cE3 zE hA hE
  have fR := hR.frozen
  have cR0 := hR.cell 0
  have cR1 := hR.cell 1
  have cR2 := hR.cell 2
  have cR3 := hR.cell 3
  have zR := hR.lt
  go_wp2
  have k := put4 hR hW (by omega) x1 x2 x3 x4
  exact ret_iv (p := 6) (q := 7) (by kernel_rfl) rfl rfl k.1 ⟨rfl, k.2⟩
set_option maxRecDepth 100000 in
set_option maxHeartbeats 4000000 in
theorem do3_w {a b c d a' b' c' d' : Int} (h : W2 a b) (k : W2 c d) (h' : W2 a' b') (k' : W2 c' d') (w : World) :
    Calls Try.prog 19 #[.int .i64 3, .agg #[.int .i64 a, .int .i64 b, .int .i64 c, .int .i64 d], .agg #[.int .i64 a', .int .i64 b', .int .i64 c', .int .i64 d']] w fun e w' => e = .returned (RI (divI a b c d a' b' c' d')) ∧ Below w.heap.size w w' := by
  have AD := idiv_w h k h' k'
  obtain ⟨⟨x1, x2, x3, x4, x5⟩, hx⟩ : ∃ x, divI a b c d a' b' c' d' = x := ⟨_, rfl⟩
  rw [hx] at AD ⊢
  unfold RI at AD ⊢
  simp only at AD ⊢
  replace AD := Lib.hid AD
  clear h k h' k' hx
  obtain ⟨hA, hE, hR, hW⟩ := start3 w 25 #[.int .i64 a, .int .i64 b, .int .i64 c, .int .i64 d] 25 #[.int .i64 a', .int .i64 b', .int .i64 c', .int .i64 d'] 25 #[.int .i64 0, .int .i64 0, .int .i64 0, .int .i64 0]
  have cA0 := hA.cell 0
  have cA1 := hA.cell 1
  have cA2 := hA.cell 2
  have cA3 := hA.cell 3
  have zA := hA.lt
  have cE0 := hE.cell 0
  have cE1 := hE.cell 1
  have cE2 := hE.cell 2
  have cE3 := hE.cell 3
  have zE := hE.lt
  go_enter Try.func19, Try.ntmps19
  go_wp2_with fail
  (with_reducible refine (AD.out _).mono ?_)
  rintro e w1 ⟨rfl, hB⟩
  replace hR := hR.below hB hR.lt
  replace hW := below_st hW hB
  clear hB cA0 cA1 cA2 cA3 zA cE0 cE1 cE2 cE3 zE hA hE
  have fR := hR.frozen
  have cR0 := hR.cell 0
  have cR1 := hR.cell 1
  have cR2 := hR.cell 2
  have cR3 := hR.cell 3
  have zR := hR.lt
  go_wp2
  have k := put4 hR hW (by omega) x1 x2 x3 x4
  exact ret_iv (p := 6) (q := 7) (by kernel_rfl) rfl rfl k.1 ⟨rfl, k.2⟩
set_option maxRecDepth 100000 in
set_option maxHeartbeats 4000000 in
theorem apply0_w {a b c d : Int} (h : W2 a b) (k : W2 c d) (w : World) :
    Calls Try.prog 44 #[.int .i64 0, .agg #[.int .i64 a, .int .i64 b], .agg #[.int .i64 c, .int .i64 d]] w fun e w' => e = .returned (RV (addR a b c d)) ∧ Below w.heap.size w w' := by
  have AD := radd_w h k
  obtain ⟨⟨x1, x2, x5⟩, hx⟩ : ∃ x, addR a b c d = x := ⟨_, rfl⟩
  rw [hx] at AD ⊢
  unfold RV at AD ⊢
  simp only at AD ⊢
  replace AD := Lib.hid AD
  clear h k hx
  obtain ⟨hA, hE, hR, hW⟩ := start3 w 23 #[.int .i64 a, .int .i64 b] 23 #[.int .i64 c, .int .i64 d] 23 #[.int .i64 0, .int .i64 0]
  have cA0 := hA.cell 0
  have cA1 := hA.cell 1
  have zA := hA.lt
  have cE0 := hE.cell 0
  have cE1 := hE.cell 1
  have zE := hE.lt
  go_enter Try.func44, Try.ntmps44
  go_wp2_with fail
  (with_reducible refine (AD.out _).mono ?_)
  rintro e w1 ⟨rfl, hB⟩
  replace hR := hR.below hB hR.lt
  replace hW := below_st hW hB
  clear hB cA0 cA1 zA cE0 cE1 zE hA hE
  have fR := hR.frozen
  have cR0 := hR.cell 0
  have cR1 := hR.cell 1
  have zR := hR.lt
  go_wp2
  have k := put2 hR hW (by omega) x1 x2
  exact ret_frac (p := 6) (q := 7) (by kernel_rfl) rfl rfl k.1 ⟨rfl, k.2⟩
set_option maxRecDepth 100000 in
set_option maxHeartbeats 4000000 in
theorem apply1_w {a b c d : Int} (h : W2 a b) (k : W2 c d) (w : World) :
    Calls Try.prog 44 #[.int .i64 1, .agg #[.int .i64 a, .int .i64 b], .agg #[.int .i64 c, .int .i64 d]] w fun e w' => e = .returned (RV (subR a b c d)) ∧ Below w.heap.size w w' := by
  have AD := rsub_w h k
  obtain ⟨⟨x1, x2, x5⟩, hx⟩ : ∃ x, subR a b c d = x := ⟨_, rfl⟩
  rw [hx] at AD ⊢
  unfold RV at AD ⊢
  simp only at AD ⊢
  replace AD := Lib.hid AD
  clear h k hx
  obtain ⟨hA, hE, hR, hW⟩ := start3 w 23 #[.int .i64 a, .int .i64 b] 23 #[.int .i64 c, .int .i64 d] 23 #[.int .i64 0, .int .i64 0]
  have cA0 := hA.cell 0
  have cA1 := hA.cell 1
  have zA := hA.lt
  have cE0 := hE.cell 0
  have cE1 := hE.cell 1
  have zE := hE.lt
  go_enter Try.func44, Try.ntmps44
  go_wp2_with fail
  (with_reducible refine (AD.out _).mono ?_)
  rintro e w1 ⟨rfl, hB⟩
  replace hR := hR.below hB hR.lt
  replace hW := below_st hW hB
  clear hB cA0 cA1 zA cE0 cE1 zE hA hE
  have fR := hR.frozen
  have cR0 := hR.cell 0
  have cR1 := hR.cell 1
  have zR := hR.lt
  go_wp2
  have k := put2 hR hW (by omega) x1 x2
  exact ret_frac (p := 6) (q := 7) (by kernel_rfl) rfl rfl k.1 ⟨rfl, k.2⟩
set_option maxRecDepth 100000 in
set_option maxHeartbeats 4000000 in
theorem apply2_w {a b c d : Int} (h : W2 a b) (k : W2 c d) (w : World) :
    Calls Try.prog 44 #[.int .i64 2, .agg #[.int .i64 a, .int .i64 b], .agg #[.int .i64 c, .int .i64 d]] w fun e w' => e = .returned (RV (mulR a b c d)) ∧ Below w.heap.size w w' := by
  have AD := rmul_w h k
  obtain ⟨⟨x1, x2, x5⟩, hx⟩ : ∃ x, mulR a b c d = x := ⟨_, rfl⟩
  rw [hx] at AD ⊢
  unfold RV at AD ⊢
  simp only at AD ⊢
  replace AD := Lib.hid AD
  clear h k hx
  obtain ⟨hA, hE, hR, hW⟩ := start3 w 23 #[.int .i64 a, .int .i64 b] 23 #[.int .i64 c, .int .i64 d] 23 #[.int .i64 0, .int .i64 0]
  have cA0 := hA.cell 0
  have cA1 := hA.cell 1
  have zA := hA.lt
  have cE0 := hE.cell 0
  have cE1 := hE.cell 1
  have zE := hE.lt
  go_enter Try.func44, Try.ntmps44
  go_wp2_with fail
  (with_reducible refine (AD.out _).mono ?_)
  rintro e w1 ⟨rfl, hB⟩
  replace hR := hR.below hB hR.lt
  replace hW := below_st hW hB
  clear hB cA0 cA1 zA cE0 cE1 zE hA hE
  have fR := hR.frozen
  have cR0 := hR.cell 0
  have cR1 := hR.cell 1
  have zR := hR.lt
  go_wp2
  have k := put2 hR hW (by omega) x1 x2
  exact ret_frac (p := 6) (q := 7) (by kernel_rfl) rfl rfl k.1 ⟨rfl, k.2⟩
set_option maxRecDepth 100000 in
set_option maxHeartbeats 4000000 in
theorem apply3_w {a b c d : Int} (h : W2 a b) (k : W2 c d) (w : World) :
    Calls Try.prog 44 #[.int .i64 3, .agg #[.int .i64 a, .int .i64 b], .agg #[.int .i64 c, .int .i64 d]] w fun e w' => e = .returned (RV (divR a b c d)) ∧ Below w.heap.size w w' := by
  have AD := rdiv_w h k
  obtain ⟨⟨x1, x2, x5⟩, hx⟩ : ∃ x, divR a b c d = x := ⟨_, rfl⟩
  rw [hx] at AD ⊢
  unfold RV at AD ⊢
  simp only at AD ⊢
  replace AD := Lib.hid AD
  clear h k hx
  obtain ⟨hA, hE, hR, hW⟩ := start3 w 23 #[.int .i64 a, .int .i64 b] 23 #[.int .i64 c, .int .i64 d] 23 #[.int .i64 0, .int .i64 0]
  have cA0 := hA.cell 0
  have cA1 := hA.cell 1
  have zA := hA.lt
  have cE0 := hE.cell 0
  have cE1 := hE.cell 1
  have zE := hE.lt
  go_enter Try.func44, Try.ntmps44
  go_wp2_with fail
  (with_reducible refine (AD.out _).mono ?_)
  rintro e w1 ⟨rfl, hB⟩
  replace hR := hR.below hB hR.lt
  replace hW := below_st hW hB
  clear hB cA0 cA1 zA cE0 cE1 zE hA hE
  have fR := hR.frozen
  have cR0 := hR.cell 0
  have cR1 := hR.cell 1
  have zR := hR.lt
  go_wp2
  have k := put2 hR hW (by omega) x1 x2
  exact ret_frac (p := 6) (q := 7) (by kernel_rfl) rfl rfl k.1 ⟨rfl, k.2⟩
end Go.Proofs.Ytkdbffhmnkkbcaa
