/- Package interval: Mul, Div; the examples of the chapter. Conditions: numbers of 64 bits. -/
import Derived.Test.YteppamchbgnlfaaExt
import Derived.Test.YteppamchbgnlfaaIv3
import Derived.Test.YteppamchbgnlfaaKth2
namespace Go.Proofs.Yteppamchbgnlfaa
open Go.RowKit

theorem mulR_good {a b c d : Int} (h : (mulR a b c d).2.2 = 0) : vP (mulR a b c d).1 (mulR a b c d).2.1 := by
  obtain ⟨⟨r1, r2, r3⟩, hr⟩ : ∃ r, mulR a b c d = r := ⟨_, rfl⟩
  rw [hr] at h ⊢
  simp only at h ⊢
  subst h
  by_cases hv : vP a b ∧ vP c d
  · exact (mulR_mul hv.1 hv.2 hr).1
  · unfold mulR at hr
    rw [if_neg hv] at hr
    injection hr with _ h2
    injection h2 with _ h3
    simp at h3
theorem divR_good {a b c d : Int} (h : (divR a b c d).2.2 = 0) : vP (divR a b c d).1 (divR a b c d).2.1 := by
  unfold divR at h ⊢
  by_cases hv : vP a b ∧ vP c d
  · rw [if_pos hv] at h ⊢
    by_cases h0 : c = 0
    · rw [if_pos h0] at h; simp at h
    · rw [if_neg h0] at h ⊢
      by_cases h1 : c < 0
      · rw [if_pos h1] at h ⊢; exact mulR_good h
      · rw [if_neg h1] at h ⊢; exact mulR_good h
  · rw [if_neg hv] at h; simp at h
def mulI (a b c d a' b' c' d' : Int) : R5 := if vI a b c d ∧ vI a' b' c' d' then exR (mulR a b a' b') (mulR a b c' d') (mulR c d a' b') (mulR c d c' d') else (0, 0, 0, 0, 1)
def divI (a b c d a' b' c' d' : Int) : R5 := if vI a b c d ∧ vI a' b' c' d' then (if conB a' b' c' d' 0 1 = true then (0, 0, 0, 0, 6) else exR (divR a b a' b') (divR a b c' d') (divR c d a' b') (divR c d c' d')) else (0, 0, 0, 0, 1)

set_option maxRecDepth 100000 in
set_option maxHeartbeats 4000000 in
theorem imul_w {a b c d a' b' c' d' : Int} (h : W2 a b) (k : W2 c d) (h' : W2 a' b') (k' : W2 c' d') (w : World) :
    Calls Try.prog 37 #[.agg #[.int .i64 a, .int .i64 b, .int .i64 c, .int .i64 d], .agg #[.int .i64 a', .int .i64 b', .int .i64 c', .int .i64 d']] w fun e w' => e = .returned (RI (mulI a b c d a' b' c' d')) ∧ Below w.heap.size w w' := by
  have V1 := ivalid_w h k
  have V2 := ivalid_w h' k'
  have EX := fun (W : World) => extremes_mul a b c d a' b' c' d' _ _ _ _ (mul_w h h') (mul_w h k') (mul_w k h') (mul_w k k') mulR_good mulR_good mulR_good mulR_good W
  obtain ⟨hA, hE, hR, hW⟩ := start3 w 25 #[.int .i64 a, .int .i64 b, .int .i64 c, .int .i64 d] 25 #[.int .i64 a', .int .i64 b', .int .i64 c', .int .i64 d'] 25 #[.int .i64 0, .int .i64 0, .int .i64 0, .int .i64 0]
  clear h k h' k'
  by_cases p1 : vI a b c d
  · rw [show vIB a b c d = true from decide_eq_true p1] at V1
    by_cases p2 : vI a' b' c' d'
    · rw [show vIB a' b' c' d' = true from decide_eq_true p2] at V2
      rw [show mulI a b c d a' b' c' d' = exR (mulR a b a' b') (mulR a b c' d') (mulR c d a' b') (mulR c d c' d') from if_pos ⟨p1, p2⟩]
      obtain ⟨⟨x1, x2, x3, x4, x5⟩, hx⟩ : ∃ x, exR (mulR a b a' b') (mulR a b c' d') (mulR c d a' b') (mulR c d c' d') = x := ⟨_, rfl⟩
      rw [hx] at EX ⊢
      unfold RI at EX
      simp only at EX
      replace V1 := Lib.hid V1
      replace V2 := Lib.hid V2
      replace EX := Lib.hid EX
      clear p1 p2 hx
      have cA0 := hA.cell 0
      have cA1 := hA.cell 1
      have cA2 := hA.cell 2
      have cA3 := hA.cell 3
      have zA := hA.lt
      have cE0 := hE.cell 0
      have cE1 := hE.cell 1
      have cE2 := hE.cell 2
      have cE3 := hE.cell 3
      have zE := hE.lt
      have cR0 := hR.cell 0
      have cR1 := hR.cell 1
      have cR2 := hR.cell 2
      have cR3 := hR.cell 3
      have zR := hR.lt
      go_enter Try.func37, Try.ntmps37
      go_wp2_with fail
      (with_reducible refine (V1.out _).mono ?_)
      rintro e w1 ⟨rfl, hB⟩
      replace hA := hA.below hB hA.lt
      replace hE := hE.below hB hE.lt
      replace hR := hR.below hB hR.lt
      replace hW := below_st hW hB
      clear hB cA0 cA1 cA2 cA3 zA cE0 cE1 cE2 cE3 zE cR0 cR1 cR2 cR3 zR V1
      have cA0 := hA.cell 0
      have cA1 := hA.cell 1
      have cA2 := hA.cell 2
      have cA3 := hA.cell 3
      have zA := hA.lt
      have cE0 := hE.cell 0
      have cE1 := hE.cell 1
      have cE2 := hE.cell 2
      have cE3 := hE.cell 3
      have zE := hE.lt
      have cR0 := hR.cell 0
      have cR1 := hR.cell 1
      have cR2 := hR.cell 2
      have cR3 := hR.cell 3
      have zR := hR.lt
      go_wp2_with fail
      (with_reducible refine (V2.out _).mono ?_)
      rintro e w2 ⟨rfl, hB⟩
      replace hA := hA.below hB hA.lt
      replace hE := hE.below hB hE.lt
      replace hR := hR.below hB hR.lt
      replace hW := below_st hW hB
      clear hB cA0 cA1 cA2 cA3 zA cE0 cE1 cE2 cE3 zE cR0 cR1 cR2 cR3 zR V2
      have cA0 := hA.cell 0
      have cA1 := hA.cell 1
      have cA2 := hA.cell 2
      have cA3 := hA.cell 3
      have zA := hA.lt
      have cE0 := hE.cell 0
      have cE1 := hE.cell 1
      have cE2 := hE.cell 2
      have cE3 := hE.cell 3
      have zE := hE.lt
      have cR0 := hR.cell 0
      have cR1 := hR.cell 1
      have cR2 := hR.cell 2
      have cR3 := hR.cell 3
      have zR := hR.lt
      go_wp2_with fail
      (with_reducible refine (EX.out _).mono ?_)
      rintro e w3 ⟨rfl, hB⟩
      replace hA := hA.below hB hA.lt
      replace hE := hE.below hB hE.lt
      replace hR := hR.below hB hR.lt
      replace hW := below_st hW hB
      clear hB cA0 cA1 cA2 cA3 zA cE0 cE1 cE2 cE3 zE cR0 cR1 cR2 cR3 zR EX
      have cA0 := hA.cell 0
      have cA1 := hA.cell 1
      have cA2 := hA.cell 2
      have cA3 := hA.cell 3
      have zA := hA.lt
      have cE0 := hE.cell 0
      have cE1 := hE.cell 1
      have cE2 := hE.cell 2
      have cE3 := hE.cell 3
      have zE := hE.lt
      have cR0 := hR.cell 0
      have cR1 := hR.cell 1
      have cR2 := hR.cell 2
      have cR3 := hR.cell 3
      have zR := hR.lt
      have fR := hR.frozen
      have HQ := Lib.hid hR
      have HW := Lib.hid hW
      clear hA hE hR hW
      go_wp2
      exact ret_iv (p := 4) (q := 5) (by kernel_rfl) rfl rfl (put4 HQ.out HW.out (by omega) x1 x2 x3 x4).1 ⟨rfl, (put4 HQ.out HW.out (by omega) x1 x2 x3 x4).2⟩
    · rw [show vIB a' b' c' d' = false from decide_eq_false p2] at V2
      rw [show mulI a b c d a' b' c' d' = (0, 0, 0, 0, 1) from if_neg (fun h => p2 h.2)]
      replace V1 := Lib.hid V1
      replace V2 := Lib.hid V2
      clear p1 p2 EX
      have cA0 := hA.cell 0
      have cA1 := hA.cell 1
      have cA2 := hA.cell 2
      have cA3 := hA.cell 3
      have zA := hA.lt
      have cE0 := hE.cell 0
      have cE1 := hE.cell 1
      have cE2 := hE.cell 2
      have cE3 := hE.cell 3
      have zE := hE.lt
      have cR0 := hR.cell 0
      have cR1 := hR.cell 1
      have cR2 := hR.cell 2
      have cR3 := hR.cell 3
      have zR := hR.lt
      go_enter Try.func37, Try.ntmps37
      go_wp2_with fail
      (with_reducible refine (V1.out _).mono ?_)
      rintro e w1 ⟨rfl, hB⟩
      replace hA := hA.below hB hA.lt
      replace hE := hE.below hB hE.lt
      replace hR := hR.below hB hR.lt
      replace hW := below_st hW hB
      clear hB cA0 cA1 cA2 cA3 zA cE0 cE1 cE2 cE3 zE cR0 cR1 cR2 cR3 zR V1
      have cA0 := hA.cell 0
      have cA1 := hA.cell 1
      have cA2 := hA.cell 2
      have cA3 := hA.cell 3
      have zA := hA.lt
      have cE0 := hE.cell 0
      have cE1 := hE.cell 1
      have cE2 := hE.cell 2
      have cE3 := hE.cell 3
      have zE := hE.lt
      have cR0 := hR.cell 0
      have cR1 := hR.cell 1
      have cR2 := hR.cell 2
      have cR3 := hR.cell 3
      have zR := hR.lt
      go_wp2_with fail
      (with_reducible refine (V2.out _).mono ?_)
      rintro e w2 ⟨rfl, hB⟩
      replace hA := hA.below hB hA.lt
      replace hE := hE.below hB hE.lt
      replace hR := hR.below hB hR.lt
      replace hW := below_st hW hB
      clear hB cA0 cA1 cA2 cA3 zA cE0 cE1 cE2 cE3 zE cR0 cR1 cR2 cR3 zR V2
      have cA0 := hA.cell 0
      have cA1 := hA.cell 1
      have cA2 := hA.cell 2
      have cA3 := hA.cell 3
      have zA := hA.lt
      have cE0 := hE.cell 0
      have cE1 := hE.cell 1
      have cE2 := hE.cell 2
      have cE3 := hE.cell 3
      have zE := hE.lt
      have cR0 := hR.cell 0
      have cR1 := hR.cell 1
      have cR2 := hR.cell 2
      have cR3 := hR.cell 3
      have zR := hR.lt
      have fR := hR.frozen
      have HQ := Lib.hid hR
      have HW := Lib.hid hW
      clear hA hE hR hW
      go_wp2
      exact ret_iv (p := 4) (q := 5) (by kernel_rfl) rfl rfl (put4 HQ.out HW.out (by omega) 0 0 0 0).1 ⟨rfl, (put4 HQ.out HW.out (by omega) 0 0 0 0).2⟩
  · rw [show vIB a b c d = false from decide_eq_false p1] at V1
    rw [show mulI a b c d a' b' c' d' = (0, 0, 0, 0, 1) from if_neg (fun h => p1 h.1)]
    replace V1 := Lib.hid V1
    clear p1 V2 EX
    have cA0 := hA.cell 0
    have cA1 := hA.cell 1
    have cA2 := hA.cell 2
    have cA3 := hA.cell 3
    have zA := hA.lt
    have cE0 := hE.cell 0
    have cE1 := hE.cell 1
    have cE2 := hE.cell 2
    have cE3 := hE.cell 3
    have zE := hE.lt
    have cR0 := hR.cell 0
    have cR1 := hR.cell 1
    have cR2 := hR.cell 2
    have cR3 := hR.cell 3
    have zR := hR.lt
    go_enter Try.func37, Try.ntmps37
    go_wp2_with fail
    (with_reducible refine (V1.out _).mono ?_)
    rintro e w1 ⟨rfl, hB⟩
    replace hA := hA.below hB hA.lt
    replace hE := hE.below hB hE.lt
    replace hR := hR.below hB hR.lt
    replace hW := below_st hW hB
    clear hB cA0 cA1 cA2 cA3 zA cE0 cE1 cE2 cE3 zE cR0 cR1 cR2 cR3 zR V1
    have cA0 := hA.cell 0
    have cA1 := hA.cell 1
    have cA2 := hA.cell 2
    have cA3 := hA.cell 3
    have zA := hA.lt
    have cE0 := hE.cell 0
    have cE1 := hE.cell 1
    have cE2 := hE.cell 2
    have cE3 := hE.cell 3
    have zE := hE.lt
    have cR0 := hR.cell 0
    have cR1 := hR.cell 1
    have cR2 := hR.cell 2
    have cR3 := hR.cell 3
    have zR := hR.lt
    have fR := hR.frozen
    have HQ := Lib.hid hR
    have HW := Lib.hid hW
    clear hA hE hR hW
    go_wp2
    exact ret_iv (p := 4) (q := 5) (by kernel_rfl) rfl rfl (put4 HQ.out HW.out (by omega) 0 0 0 0).1 ⟨rfl, (put4 HQ.out HW.out (by omega) 0 0 0 0).2⟩
set_option maxRecDepth 100000 in
set_option maxHeartbeats 4000000 in
theorem idiv_w {a b c d a' b' c' d' : Int} (h : W2 a b) (k : W2 c d) (h' : W2 a' b') (k' : W2 c' d') (w : World) :
    Calls Try.prog 39 #[.agg #[.int .i64 a, .int .i64 b, .int .i64 c, .int .i64 d], .agg #[.int .i64 a', .int .i64 b', .int .i64 c', .int .i64 d']] w fun e w' => e = .returned (RI (divI a b c d a' b' c' d')) ∧ Below w.heap.size w w' := by
  have V1 := ivalid_w h k
  have V2 := ivalid_w h' k'
  have CN := icon_w h' k' (show W2 0 1 by unfold W2; decide)
  have EX := fun (W : World) => extremes_div a b c d a' b' c' d' _ _ _ _ (div_w h h') (div_w h k') (div_w k h') (div_w k k') divR_good divR_good divR_good divR_good W
  obtain ⟨hA, hE, hR, hW⟩ := start3 w 25 #[.int .i64 a, .int .i64 b, .int .i64 c, .int .i64 d] 25 #[.int .i64 a', .int .i64 b', .int .i64 c', .int .i64 d'] 25 #[.int .i64 0, .int .i64 0, .int .i64 0, .int .i64 0]
  clear h k h' k'
  by_cases p1 : vI a b c d
  · rw [show vIB a b c d = true from decide_eq_true p1] at V1
    by_cases p2 : vI a' b' c' d'
    · rw [show vIB a' b' c' d' = true from decide_eq_true p2] at V2
      have hs : divI a b c d a' b' c' d' = if conB a' b' c' d' 0 1 = true then (0, 0, 0, 0, 6) else exR (divR a b a' b') (divR a b c' d') (divR c d a' b') (divR c d c' d') := if_pos ⟨p1, p2⟩
      rw [hs]
      cases hz : conB a' b' c' d' 0 1
      · rw [hz] at CN
        rw [if_neg (by decide)]
        obtain ⟨⟨x1, x2, x3, x4, x5⟩, hx⟩ : ∃ x, exR (divR a b a' b') (divR a b c' d') (divR c d a' b') (divR c d c' d') = x := ⟨_, rfl⟩
        rw [hx] at EX ⊢
        unfold RI at EX
        simp only at EX
        replace V1 := Lib.hid V1
        replace V2 := Lib.hid V2
        replace CN := Lib.hid CN
        replace EX := Lib.hid EX
        clear p1 p2 hx hs hz
        have cA0 := hA.cell 0
        have cA1 := hA.cell 1
        have cA2 := hA.cell 2
        have cA3 := hA.cell 3
        have zA := hA.lt
        have cE0 := hE.cell 0
        have cE1 := hE.cell 1
        have cE2 := hE.cell 2
        have cE3 := hE.cell 3
        have zE := hE.lt
        have cR0 := hR.cell 0
        have cR1 := hR.cell 1
        have cR2 := hR.cell 2
        have cR3 := hR.cell 3
        have zR := hR.lt
        go_enter Try.func39, Try.ntmps39
        go_wp2_with fail
        (with_reducible refine (V1.out _).mono ?_)
        rintro e w1 ⟨rfl, hB⟩
        replace hA := hA.below hB hA.lt
        replace hE := hE.below hB hE.lt
        replace hR := hR.below hB hR.lt
        replace hW := below_st hW hB
        clear hB cA0 cA1 cA2 cA3 zA cE0 cE1 cE2 cE3 zE cR0 cR1 cR2 cR3 zR V1
        have cA0 := hA.cell 0
        have cA1 := hA.cell 1
        have cA2 := hA.cell 2
        have cA3 := hA.cell 3
        have zA := hA.lt
        have cE0 := hE.cell 0
        have cE1 := hE.cell 1
        have cE2 := hE.cell 2
        have cE3 := hE.cell 3
        have zE := hE.lt
        have cR0 := hR.cell 0
        have cR1 := hR.cell 1
        have cR2 := hR.cell 2
        have cR3 := hR.cell 3
        have zR := hR.lt
        go_wp2_with fail
        (with_reducible refine (V2.out _).mono ?_)
        rintro e w2 ⟨rfl, hB⟩
        replace hA := hA.below hB hA.lt
        replace hE := hE.below hB hE.lt
        replace hR := hR.below hB hR.lt
        replace hW := below_st hW hB
        clear hB cA0 cA1 cA2 cA3 zA cE0 cE1 cE2 cE3 zE cR0 cR1 cR2 cR3 zR V2
        have cA0 := hA.cell 0
        have cA1 := hA.cell 1
        have cA2 := hA.cell 2
        have cA3 := hA.cell 3
        have zA := hA.lt
        have cE0 := hE.cell 0
        have cE1 := hE.cell 1
        have cE2 := hE.cell 2
        have cE3 := hE.cell 3
        have zE := hE.lt
        have cR0 := hR.cell 0
        have cR1 := hR.cell 1
        have cR2 := hR.cell 2
        have cR3 := hR.cell 3
        have zR := hR.lt
        go_wp2_with fail
        (with_reducible refine (CN.out _).mono ?_)
        rintro e w3 ⟨rfl, hB⟩
        replace hA := hA.below hB hA.lt
        replace hE := hE.below hB hE.lt
        replace hR := hR.below hB hR.lt
        replace hW := below_st hW hB
        clear hB cA0 cA1 cA2 cA3 zA cE0 cE1 cE2 cE3 zE cR0 cR1 cR2 cR3 zR CN
        have cA0 := hA.cell 0
        have cA1 := hA.cell 1
        have cA2 := hA.cell 2
        have cA3 := hA.cell 3
        have zA := hA.lt
        have cE0 := hE.cell 0
        have cE1 := hE.cell 1
        have cE2 := hE.cell 2
        have cE3 := hE.cell 3
        have zE := hE.lt
        have cR0 := hR.cell 0
        have cR1 := hR.cell 1
        have cR2 := hR.cell 2
        have cR3 := hR.cell 3
        have zR := hR.lt
        go_wp2_with fail
        (with_reducible refine (EX.out _).mono ?_)
        rintro e w4 ⟨rfl, hB⟩
        replace hA := hA.below hB hA.lt
        replace hE := hE.below hB hE.lt
        replace hR := hR.below hB hR.lt
        replace hW := below_st hW hB
        clear hB cA0 cA1 cA2 cA3 zA cE0 cE1 cE2 cE3 zE cR0 cR1 cR2 cR3 zR EX
        have cA0 := hA.cell 0
        have cA1 := hA.cell 1
        have cA2 := hA.cell 2
        have cA3 := hA.cell 3
        have zA := hA.lt
        have cE0 := hE.cell 0
        have cE1 := hE.cell 1
        have cE2 := hE.cell 2
        have cE3 := hE.cell 3
        have zE := hE.lt
        have cR0 := hR.cell 0
        have cR1 := hR.cell 1
        have cR2 := hR.cell 2
        have cR3 := hR.cell 3
        have zR := hR.lt
        have fR := hR.frozen
        have HQ := Lib.hid hR
        have HW := Lib.hid hW
        clear hA hE hR hW
        go_wp2
        exact ret_iv (p := 4) (q := 5) (by kernel_rfl) rfl rfl (put4 HQ.out HW.out (by omega) x1 x2 x3 x4).1 ⟨rfl, (put4 HQ.out HW.out (by omega) x1 x2 x3 x4).2⟩
      · rw [hz] at CN
        rw [if_pos rfl]
        replace V1 := Lib.hid V1
        replace V2 := Lib.hid V2
        replace CN := Lib.hid CN
        clear p1 p2 hs hz EX
        have cA0 := hA.cell 0
        have cA1 := hA.cell 1
        have cA2 := hA.cell 2
        have cA3 := hA.cell 3
        have zA := hA.lt
        have cE0 := hE.cell 0
        have cE1 := hE.cell 1
        have cE2 := hE.cell 2
        have cE3 := hE.cell 3
        have zE := hE.lt
        have cR0 := hR.cell 0
        have cR1 := hR.cell 1
        have cR2 := hR.cell 2
        have cR3 := hR.cell 3
        have zR := hR.lt
        go_enter Try.func39, Try.ntmps39
        go_wp2_with fail
        (with_reducible refine (V1.out _).mono ?_)
        rintro e w1 ⟨rfl, hB⟩
        replace hA := hA.below hB hA.lt
        replace hE := hE.below hB hE.lt
        replace hR := hR.below hB hR.lt
        replace hW := below_st hW hB
        clear hB cA0 cA1 cA2 cA3 zA cE0 cE1 cE2 cE3 zE cR0 cR1 cR2 cR3 zR V1
        have cA0 := hA.cell 0
        have cA1 := hA.cell 1
        have cA2 := hA.cell 2
        have cA3 := hA.cell 3
        have zA := hA.lt
        have cE0 := hE.cell 0
        have cE1 := hE.cell 1
        have cE2 := hE.cell 2
        have cE3 := hE.cell 3
        have zE := hE.lt
        have cR0 := hR.cell 0
        have cR1 := hR.cell 1
        have cR2 := hR.cell 2
        have cR3 := hR.cell 3
        have zR := hR.lt
        go_wp2_with fail
        (with_reducible refine (V2.out _).mono ?_)
        rintro e w2 ⟨rfl, hB⟩
        replace hA := hA.below hB hA.lt
        replace hE := hE.below hB hE.lt
        replace hR := hR.below hB hR.lt
        replace hW := below_st hW hB
        clear hB cA0 cA1 cA2 cA3 zA cE0 cE1 cE2 cE3 zE cR0 cR1 cR2 cR3 zR V2
        have cA0 := hA.cell 0
        have cA1 := hA.cell 1
        have cA2 := hA.cell 2
        have cA3 := hA.cell 3
        have zA := hA.lt
        have cE0 := hE.cell 0
        have cE1 := hE.cell 1
        have cE2 := hE.cell 2
        have cE3 := hE.cell 3
        have zE := hE.lt
        have cR0 := hR.cell 0
        have cR1 := hR.cell 1
        have cR2 := hR.cell 2
        have cR3 := hR.cell 3
        have zR := hR.lt
        go_wp2_with fail
        (with_reducible refine (CN.out _).mono ?_)
        rintro e w3 ⟨rfl, hB⟩
        replace hA := hA.below hB hA.lt
        replace hE := hE.below hB hE.lt
        replace hR := hR.below hB hR.lt
        replace hW := below_st hW hB
        clear hB cA0 cA1 cA2 cA3 zA cE0 cE1 cE2 cE3 zE cR0 cR1 cR2 cR3 zR CN
        have cA0 := hA.cell 0
        have cA1 := hA.cell 1
        have cA2 := hA.cell 2
        have cA3 := hA.cell 3
        have zA := hA.lt
        have cE0 := hE.cell 0
        have cE1 := hE.cell 1
        have cE2 := hE.cell 2
        have cE3 := hE.cell 3
        have zE := hE.lt
        have cR0 := hR.cell 0
        have cR1 := hR.cell 1
        have cR2 := hR.cell 2
        have cR3 := hR.cell 3
        have zR := hR.lt
        have fR := hR.frozen
        have HQ := Lib.hid hR
        have HW := Lib.hid hW
        clear hA hE hR hW
        go_wp2
        exact ret_iv (p := 4) (q := 5) (by kernel_rfl) rfl rfl (put4 HQ.out HW.out (by omega) 0 0 0 0).1 ⟨rfl, (put4 HQ.out HW.out (by omega) 0 0 0 0).2⟩
    · rw [show vIB a' b' c' d' = false from decide_eq_false p2] at V2
      rw [show divI a b c d a' b' c' d' = (0, 0, 0, 0, 1) from if_neg (fun h => p2 h.2)]
      replace V1 := Lib.hid V1
      replace V2 := Lib.hid V2
      clear p1 p2 EX CN
      have cA0 := hA.cell 0
      have cA1 := hA.cell 1
      have cA2 := hA.cell 2
      have cA3 := hA.cell 3
      have zA := hA.lt
      have cE0 := hE.cell 0
      have cE1 := hE.cell 1
      have cE2 := hE.cell 2
      have cE3 := hE.cell 3
      have zE := hE.lt
      have cR0 := hR.cell 0
      have cR1 := hR.cell 1
      have cR2 := hR.cell 2
      have cR3 := hR.cell 3
      have zR := hR.lt
      go_enter Try.func39, Try.ntmps39
      go_wp2_with fail
      (with_reducible refine (V1.out _).mono ?_)
      rintro e w1 ⟨rfl, hB⟩
      replace hA := hA.below hB hA.lt
      replace hE := hE.below hB hE.lt
      replace hR := hR.below hB hR.lt
      replace hW := below_st hW hB
      clear hB cA0 cA1 cA2 cA3 zA cE0 cE1 cE2 cE3 zE cR0 cR1 cR2 cR3 zR V1
      have cA0 := hA.cell 0
      have cA1 := hA.cell 1
      have cA2 := hA.cell 2
      have cA3 := hA.cell 3
      have zA := hA.lt
      have cE0 := hE.cell 0
      have cE1 := hE.cell 1
      have cE2 := hE.cell 2
      have cE3 := hE.cell 3
      have zE := hE.lt
      have cR0 := hR.cell 0
      have cR1 := hR.cell 1
      have cR2 := hR.cell 2
      have cR3 := hR.cell 3
      have zR := hR.lt
      go_wp2_with fail
      (with_reducible refine (V2.out _).mono ?_)
      rintro e w2 ⟨rfl, hB⟩
      replace hA := hA.below hB hA.lt
      replace hE := hE.below hB hE.lt
      replace hR := hR.below hB hR.lt
      replace hW := below_st hW hB
      clear hB cA0 cA1 cA2 cA3 zA cE0 cE1 cE2 cE3 zE cR0 cR1 cR2 cR3 zR V2
      have cA0 := hA.cell 0
      have cA1 := hA.cell 1
      have cA2 := hA.cell 2
      have cA3 := hA.cell 3
      have zA := hA.lt
      have cE0 := hE.cell 0
      have cE1 := hE.cell 1
      have cE2 := hE.cell 2
      have cE3 := hE.cell 3
      have zE := hE.lt
      have cR0 := hR.cell 0
      have cR1 := hR.cell 1
      have cR2 := hR.cell 2
      have cR3 := hR.cell 3
      have zR := hR.lt
      have fR := hR.frozen
      have HQ := Lib.hid hR
      have HW := Lib.hid hW
      clear hA hE hR hW
      go_wp2
      exact ret_iv (p := 4) (q := 5) (by kernel_rfl) rfl rfl (put4 HQ.out HW.out (by omega) 0 0 0 0).1 ⟨rfl, (put4 HQ.out HW.out (by omega) 0 0 0 0).2⟩
  · rw [show vIB a b c d = false from decide_eq_false p1] at V1
    rw [show divI a b c d a' b' c' d' = (0, 0, 0, 0, 1) from if_neg (fun h => p1 h.1)]
    replace V1 := Lib.hid V1
    clear p1 V2 EX CN
    have cA0 := hA.cell 0
    have cA1 := hA.cell 1
    have cA2 := hA.cell 2
    have cA3 := hA.cell 3
    have zA := hA.lt
    have cE0 := hE.cell 0
    have cE1 := hE.cell 1
    have cE2 := hE.cell 2
    have cE3 := hE.cell 3
    have zE := hE.lt
    have cR0 := hR.cell 0
    have cR1 := hR.cell 1
    have cR2 := hR.cell 2
    have cR3 := hR.cell 3
    have zR := hR.lt
    go_enter Try.func39, Try.ntmps39
    go_wp2_with fail
    (with_reducible refine (V1.out _).mono ?_)
    rintro e w1 ⟨rfl, hB⟩
    replace hA := hA.below hB hA.lt
    replace hE := hE.below hB hE.lt
    replace hR := hR.below hB hR.lt
    replace hW := below_st hW hB
    clear hB cA0 cA1 cA2 cA3 zA cE0 cE1 cE2 cE3 zE cR0 cR1 cR2 cR3 zR V1
    have cA0 := hA.cell 0
    have cA1 := hA.cell 1
    have cA2 := hA.cell 2
    have cA3 := hA.cell 3
    have zA := hA.lt
    have cE0 := hE.cell 0
    have cE1 := hE.cell 1
    have cE2 := hE.cell 2
    have cE3 := hE.cell 3
    have zE := hE.lt
    have cR0 := hR.cell 0
    have cR1 := hR.cell 1
    have cR2 := hR.cell 2
    have cR3 := hR.cell 3
    have zR := hR.lt
    have fR := hR.frozen
    have HQ := Lib.hid hR
    have HW := Lib.hid hW
    clear hA hE hR hW
    go_wp2
    exact ret_iv (p := 4) (q := 5) (by kernel_rfl) rfl rfl (put4 HQ.out HW.out (by omega) 0 0 0 0).1 ⟨rfl, (put4 HQ.out HW.out (by omega) 0 0 0 0).2⟩
end Go.Proofs.Yteppamchbgnlfaa
