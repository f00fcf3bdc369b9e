/- Package interval: Add. Conditions: numbers of 64 bits. -/
import Derived.Test.YtkdbffhmnkkbcaaIv3
namespace Go.Proofs.Ytkdbffhmnkkbcaa
open Go.RowKit

def addI (a b c d a' b' c' d' : Int) : R5 :=
  if vI a b c d ∧ vI a' b' c' d' then
    (if (addR a b a' b').2.2 = 0 then (if (addR c d c' d').2.2 = 0 then ((addR a b a' b').1, (addR a b a' b').2.1, (addR c d c' d').1, (addR c d c' d').2.1, 0) else (0, 0, 0, 0, (addR c d c' d').2.2)) else (0, 0, 0, 0, (addR a b a' b').2.2))
  else (0, 0, 0, 0, 1)

set_option maxRecDepth 100000 in
set_option maxHeartbeats 4000000 in
theorem iadd_w {a b c d a' b' c' d' : Int} (h : W2 a b) (k : W2 c d) (h' : W2 a' b') (k' : W2 c' d') (w : World) :
    Calls Try.prog 57 #[.agg #[.int .i64 a, .int .i64 b, .int .i64 c, .int .i64 d], .agg #[.int .i64 a', .int .i64 b', .int .i64 c', .int .i64 d']] w fun e w' => e = .returned (RI (addI a b c d a' b' c' d')) ∧ Below w.heap.size w w' := by
  have V1 := ivalid_w h k
  have V2 := ivalid_w h' k'
  have AD := add_w h h'
  have AE := add_w k k'
  unfold RV at AD AE
  obtain ⟨hA, hE, hR, hW⟩ := start3 w 25 #[.int .i64 a, .int .i64 b, .int .i64 c, .int .i64 d] 25 #[.int .i64 a', .int .i64 b', .int .i64 c', .int .i64 d'] 25 #[.int .i64 0, .int .i64 0, .int .i64 0, .int .i64 0]
  clear h k h' k'
  by_cases p1 : vI a b c d
  · rw [show vIB a b c d = true from decide_eq_true p1] at V1
    by_cases p2 : vI a' b' c' d'
    · rw [show vIB a' b' c' d' = true from decide_eq_true p2] at V2
      rw [show addI a b c d a' b' c' d' = (if (addR a b a' b').2.2 = 0 then (if (addR c d c' d').2.2 = 0 then ((addR a b a' b').1, (addR a b a' b').2.1, (addR c d c' d').1, (addR c d c' d').2.1, 0) else (0, 0, 0, 0, (addR c d c' d').2.2)) else (0, 0, 0, 0, (addR a b a' b').2.2)) from if_pos ⟨p1, p2⟩]
      obtain ⟨⟨x1, x2, x3⟩, hx⟩ : ∃ x, addR a b a' b' = x := ⟨_, rfl⟩
      obtain ⟨⟨y1, y2, y3⟩, hy⟩ : ∃ x, addR c d c' d' = x := ⟨_, rfl⟩
      rw [hx] at AD ⊢
      rw [hy] at AE ⊢
      simp only at AD AE ⊢
      clear p1 p2 hx hy
      by_cases e1 : x3 = 0
      · rw [if_pos e1]
        subst e1
        by_cases e2 : y3 = 0
        · rw [if_pos e2]
          subst e2
          replace V1 := Lib.hid V1
          replace V2 := Lib.hid V2
          replace AD := Lib.hid AD
          replace AE := Lib.hid AE
          have cA0 := hA.cell 0
          have cA1 := hA.cell 1
          have cA2 := hA.cell 2
          have cA3 := hA.cell 3
          have zA := hA.lt
          have cE0 := hE.cell 0
          have cE1 := hE.cell 1
          have cE2 := hE.cell 2
          have cE3 := hE.cell 3
          have zE := hE.lt
          have cR0 := hR.cell 0
          have cR1 := hR.cell 1
          have cR2 := hR.cell 2
          have cR3 := hR.cell 3
          have zR := hR.lt
          go_enter Try.func57, Try.ntmps57
          go_wp2_with fail
          (with_reducible refine (V1.out _).mono ?_)
          rintro e w1 ⟨rfl, hB⟩
          replace hA := hA.below hB hA.lt
          replace hE := hE.below hB hE.lt
          replace hR := hR.below hB hR.lt
          replace hW := below_st hW hB
          clear hB cA0 cA1 cA2 cA3 zA cE0 cE1 cE2 cE3 zE cR0 cR1 cR2 cR3 zR V1
          have cA0 := hA.cell 0
          have cA1 := hA.cell 1
          have cA2 := hA.cell 2
          have cA3 := hA.cell 3
          have zA := hA.lt
          have cE0 := hE.cell 0
          have cE1 := hE.cell 1
          have cE2 := hE.cell 2
          have cE3 := hE.cell 3
          have zE := hE.lt
          have cR0 := hR.cell 0
          have cR1 := hR.cell 1
          have cR2 := hR.cell 2
          have cR3 := hR.cell 3
          have zR := hR.lt
          go_wp2_with fail
          (with_reducible refine (V2.out _).mono ?_)
          rintro e w2 ⟨rfl, hB⟩
          replace hA := hA.below hB hA.lt
          replace hE := hE.below hB hE.lt
          replace hR := hR.below hB hR.lt
          replace hW := below_st hW hB
          clear hB cA0 cA1 cA2 cA3 zA cE0 cE1 cE2 cE3 zE cR0 cR1 cR2 cR3 zR V2
          have cA0 := hA.cell 0
          have cA1 := hA.cell 1
          have cA2 := hA.cell 2
          have cA3 := hA.cell 3
          have zA := hA.lt
          have cE0 := hE.cell 0
          have cE1 := hE.cell 1
          have cE2 := hE.cell 2
          have cE3 := hE.cell 3
          have zE := hE.lt
          have cR0 := hR.cell 0
          have cR1 := hR.cell 1
          have cR2 := hR.cell 2
          have cR3 := hR.cell 3
          have zR := hR.lt
          go_wp2_with fail
          (with_reducible refine (AD.out _).mono ?_)
          rintro e w3 ⟨rfl, hB⟩
          replace hA := hA.below hB hA.lt
          replace hE := hE.below hB hE.lt
          replace hR := hR.below hB hR.lt
          replace hW := below_st hW hB
          clear hB cA0 cA1 cA2 cA3 zA cE0 cE1 cE2 cE3 zE cR0 cR1 cR2 cR3 zR AD
          have cA0 := hA.cell 0
          have cA1 := hA.cell 1
          have cA2 := hA.cell 2
          have cA3 := hA.cell 3
          have zA := hA.lt
          have cE0 := hE.cell 0
          have cE1 := hE.cell 1
          have cE2 := hE.cell 2
          have cE3 := hE.cell 3
          have zE := hE.lt
          have cR0 := hR.cell 0
          have cR1 := hR.cell 1
          have cR2 := hR.cell 2
          have cR3 := hR.cell 3
          have zR := hR.lt
          go_wp2_with fail
          clear cA0 cA1 cA2 cA3 zA cE0 cE1 cE2 cE3 zE cR0 cR1 cR2 cR3 zR
          replace hA := hA.alloc (.cells #[.int .i64 x1, .int .i64 x2] 23)
          replace hE := hE.alloc (.cells #[.int .i64 x1, .int .i64 x2] 23)
          replace hR := hR.alloc (.cells #[.int .i64 x1, .int .i64 x2] 23)
          have hL := Blk.new w3 23 #[.int .i64 x1, .int .i64 x2]
          replace hW := hW.alloc hW.size (.cells #[.int .i64 x1, .int .i64 x2] 23)
          (with_reducible refine (AE.out _).mono ?_)
          rintro e w4 ⟨rfl, hB⟩
          replace hA := hA.below hB hA.lt
          replace hE := hE.below hB hE.lt
          replace hR := hR.below hB hR.lt
          replace hL := hL.below hB hL.lt
          replace hW := below_st hW hB
          clear hB  AE
          have cA0 := hA.cell 0
          have cA1 := hA.cell 1
          have cA2 := hA.cell 2
          have cA3 := hA.cell 3
          have zA := hA.lt
          have cE0 := hE.cell 0
          have cE1 := hE.cell 1
          have cE2 := hE.cell 2
          have cE3 := hE.cell 3
          have zE := hE.lt
          have cR0 := hR.cell 0
          have cR1 := hR.cell 1
          have cR2 := hR.cell 2
          have cR3 := hR.cell 3
          have zR := hR.lt
          have cL0 := hL.cell 0
          have cL1 := hL.cell 1
          have zL := hL.lt
          have fR := hR.frozen
          have HQ := Lib.hid hR
          have HW := Lib.hid hW
          clear hA hE hR hL hW
          go_wp2
          have hp := put4 HQ.out HW.out (by omega) x1 x2 y1 y2
          exact ret_iv (p := 4) (q := 5) (by kernel_rfl) rfl rfl (hp.1.alloc _) ⟨rfl, hp.2.alloc hp.2.size _⟩
        · rw [if_neg e2]
          have e3 : (y3 == 0) = false := by rw [beq_eq_false_iff_ne]; exact e2
          replace V1 := Lib.hid V1
          replace V2 := Lib.hid V2
          replace AD := Lib.hid AD
          replace AE := Lib.hid AE
          have cA0 := hA.cell 0
          have cA1 := hA.cell 1
          have cA2 := hA.cell 2
          have cA3 := hA.cell 3
          have zA := hA.lt
          have cE0 := hE.cell 0
          have cE1 := hE.cell 1
          have cE2 := hE.cell 2
          have cE3 := hE.cell 3
          have zE := hE.lt
          have cR0 := hR.cell 0
          have cR1 := hR.cell 1
          have cR2 := hR.cell 2
          have cR3 := hR.cell 3
          have zR := hR.lt
          go_enter Try.func57, Try.ntmps57
          go_wp2_with fail
          (with_reducible refine (V1.out _).mono ?_)
          rintro e w1 ⟨rfl, hB⟩
          replace hA := hA.below hB hA.lt
          replace hE := hE.below hB hE.lt
          replace hR := hR.below hB hR.lt
          replace hW := below_st hW hB
          clear hB cA0 cA1 cA2 cA3 zA cE0 cE1 cE2 cE3 zE cR0 cR1 cR2 cR3 zR V1
          have cA0 := hA.cell 0
          have cA1 := hA.cell 1
          have cA2 := hA.cell 2
          have cA3 := hA.cell 3
          have zA := hA.lt
          have cE0 := hE.cell 0
          have cE1 := hE.cell 1
          have cE2 := hE.cell 2
          have cE3 := hE.cell 3
          have zE := hE.lt
          have cR0 := hR.cell 0
          have cR1 := hR.cell 1
          have cR2 := hR.cell 2
          have cR3 := hR.cell 3
          have zR := hR.lt
          go_wp2_with fail
          (with_reducible refine (V2.out _).mono ?_)
          rintro e w2 ⟨rfl, hB⟩
          replace hA := hA.below hB hA.lt
          replace hE := hE.below hB hE.lt
          replace hR := hR.below hB hR.lt
          replace hW := below_st hW hB
          clear hB cA0 cA1 cA2 cA3 zA cE0 cE1 cE2 cE3 zE cR0 cR1 cR2 cR3 zR V2
          have cA0 := hA.cell 0
          have cA1 := hA.cell 1
          have cA2 := hA.cell 2
          have cA3 := hA.cell 3
          have zA := hA.lt
          have cE0 := hE.cell 0
          have cE1 := hE.cell 1
          have cE2 := hE.cell 2
          have cE3 := hE.cell 3
          have zE := hE.lt
          have cR0 := hR.cell 0
          have cR1 := hR.cell 1
          have cR2 := hR.cell 2
          have cR3 := hR.cell 3
          have zR := hR.lt
          go_wp2_with fail
          (with_reducible refine (AD.out _).mono ?_)
          rintro e w3 ⟨rfl, hB⟩
          replace hA := hA.below hB hA.lt
          replace hE := hE.below hB hE.lt
          replace hR := hR.below hB hR.lt
          replace hW := below_st hW hB
          clear hB cA0 cA1 cA2 cA3 zA cE0 cE1 cE2 cE3 zE cR0 cR1 cR2 cR3 zR AD
          have cA0 := hA.cell 0
          have cA1 := hA.cell 1
          have cA2 := hA.cell 2
          have cA3 := hA.cell 3
          have zA := hA.lt
          have cE0 := hE.cell 0
          have cE1 := hE.cell 1
          have cE2 := hE.cell 2
          have cE3 := hE.cell 3
          have zE := hE.lt
          have cR0 := hR.cell 0
          have cR1 := hR.cell 1
          have cR2 := hR.cell 2
          have cR3 := hR.cell 3
          have zR := hR.lt
          go_wp2_with fail
          clear cA0 cA1 cA2 cA3 zA cE0 cE1 cE2 cE3 zE cR0 cR1 cR2 cR3 zR
          replace hA := hA.alloc (.cells #[.int .i64 x1, .int .i64 x2] 23)
          replace hE := hE.alloc (.cells #[.int .i64 x1, .int .i64 x2] 23)
          replace hR := hR.alloc (.cells #[.int .i64 x1, .int .i64 x2] 23)
          have hL := Blk.new w3 23 #[.int .i64 x1, .int .i64 x2]
          replace hW := hW.alloc hW.size (.cells #[.int .i64 x1, .int .i64 x2] 23)
          (with_reducible refine (AE.out _).mono ?_)
          rintro e w4 ⟨rfl, hB⟩
          replace hA := hA.below hB hA.lt
          replace hE := hE.below hB hE.lt
          replace hR := hR.below hB hR.lt
          replace hL := hL.below hB hL.lt
          replace hW := below_st hW hB
          clear hB  AE
          have cA0 := hA.cell 0
          have cA1 := hA.cell 1
          have cA2 := hA.cell 2
          have cA3 := hA.cell 3
          have zA := hA.lt
          have cE0 := hE.cell 0
          have cE1 := hE.cell 1
          have cE2 := hE.cell 2
          have cE3 := hE.cell 3
          have zE := hE.lt
          have cR0 := hR.cell 0
          have cR1 := hR.cell 1
          have cR2 := hR.cell 2
          have cR3 := hR.cell 3
          have zR := hR.lt
          have cL0 := hL.cell 0
          have cL1 := hL.cell 1
          have zL := hL.lt
          have fR := hR.frozen
          have HQ := Lib.hid hR
          have HW := Lib.hid hW
          clear hA hE hR hL hW
          go_wp2
          have hp := put4 HQ.out HW.out (by omega) 0 0 0 0
          exact ret_iv (p := 4) (q := 5) (by kernel_rfl) rfl rfl (hp.1.alloc _) ⟨rfl, hp.2.alloc hp.2.size _⟩
      · rw [if_neg e1]
        have e3 : (x3 == 0) = false := by rw [beq_eq_false_iff_ne]; exact e1
        replace V1 := Lib.hid V1
        replace V2 := Lib.hid V2
        replace AD := Lib.hid AD
        clear AE
        have cA0 := hA.cell 0
        have cA1 := hA.cell 1
        have cA2 := hA.cell 2
        have cA3 := hA.cell 3
        have zA := hA.lt
        have cE0 := hE.cell 0
        have cE1 := hE.cell 1
        have cE2 := hE.cell 2
        have cE3 := hE.cell 3
        have zE := hE.lt
        have cR0 := hR.cell 0
        have cR1 := hR.cell 1
        have cR2 := hR.cell 2
        have cR3 := hR.cell 3
        have zR := hR.lt
        go_enter Try.func57, Try.ntmps57
        go_wp2_with fail
        (with_reducible refine (V1.out _).mono ?_)
        rintro e w1 ⟨rfl, hB⟩
        replace hA := hA.below hB hA.lt
        replace hE := hE.below hB hE.lt
        replace hR := hR.below hB hR.lt
        replace hW := below_st hW hB
        clear hB cA0 cA1 cA2 cA3 zA cE0 cE1 cE2 cE3 zE cR0 cR1 cR2 cR3 zR V1
        have cA0 := hA.cell 0
        have cA1 := hA.cell 1
        have cA2 := hA.cell 2
        have cA3 := hA.cell 3
        have zA := hA.lt
        have cE0 := hE.cell 0
        have cE1 := hE.cell 1
        have cE2 := hE.cell 2
        have cE3 := hE.cell 3
        have zE := hE.lt
        have cR0 := hR.cell 0
        have cR1 := hR.cell 1
        have cR2 := hR.cell 2
        have cR3 := hR.cell 3
        have zR := hR.lt
        go_wp2_with fail
        (with_reducible refine (V2.out _).mono ?_)
        rintro e w2 ⟨rfl, hB⟩
        replace hA := hA.below hB hA.lt
        replace hE := hE.below hB hE.lt
        replace hR := hR.below hB hR.lt
        replace hW := below_st hW hB
        clear hB cA0 cA1 cA2 cA3 zA cE0 cE1 cE2 cE3 zE cR0 cR1 cR2 cR3 zR V2
        have cA0 := hA.cell 0
        have cA1 := hA.cell 1
        have cA2 := hA.cell 2
        have cA3 := hA.cell 3
        have zA := hA.lt
        have cE0 := hE.cell 0
        have cE1 := hE.cell 1
        have cE2 := hE.cell 2
        have cE3 := hE.cell 3
        have zE := hE.lt
        have cR0 := hR.cell 0
        have cR1 := hR.cell 1
        have cR2 := hR.cell 2
        have cR3 := hR.cell 3
        have zR := hR.lt
        go_wp2_with fail
        (with_reducible refine (AD.out _).mono ?_)
        rintro e w3 ⟨rfl, hB⟩
        replace hA := hA.below hB hA.lt
        replace hE := hE.below hB hE.lt
        replace hR := hR.below hB hR.lt
        replace hW := below_st hW hB
        clear hB cA0 cA1 cA2 cA3 zA cE0 cE1 cE2 cE3 zE cR0 cR1 cR2 cR3 zR AD
        have cA0 := hA.cell 0
        have cA1 := hA.cell 1
        have cA2 := hA.cell 2
        have cA3 := hA.cell 3
        have zA := hA.lt
        have cE0 := hE.cell 0
        have cE1 := hE.cell 1
        have cE2 := hE.cell 2
        have cE3 := hE.cell 3
        have zE := hE.lt
        have cR0 := hR.cell 0
        have cR1 := hR.cell 1
        have cR2 := hR.cell 2
        have cR3 := hR.cell 3
        have zR := hR.lt
        have fR := hR.frozen
        have HQ := Lib.hid hR
        have HW := Lib.hid hW
        clear hA hE hR hW
        go_wp2
        have hp := put4 HQ.out HW.out (by omega) 0 0 0 0
        exact ret_iv (p := 4) (q := 5) (by kernel_rfl) rfl rfl (hp.1.alloc _) ⟨rfl, hp.2.alloc hp.2.size _⟩
    · rw [show vIB a' b' c' d' = false from decide_eq_false p2] at V2
      rw [show addI a b c d a' b' c' d' = (0, 0, 0, 0, 1) from if_neg (fun h => p2 h.2)]
      replace V1 := Lib.hid V1
      replace V2 := Lib.hid V2
      clear p1 p2 AD AE
      have cA0 := hA.cell 0
      have cA1 := hA.cell 1
      have cA2 := hA.cell 2
      have cA3 := hA.cell 3
      have zA := hA.lt
      have cE0 := hE.cell 0
      have cE1 := hE.cell 1
      have cE2 := hE.cell 2
      have cE3 := hE.cell 3
      have zE := hE.lt
      have cR0 := hR.cell 0
      have cR1 := hR.cell 1
      have cR2 := hR.cell 2
      have cR3 := hR.cell 3
      have zR := hR.lt
      go_enter Try.func57, Try.ntmps57
      go_wp2_with fail
      (with_reducible refine (V1.out _).mono ?_)
      rintro e w1 ⟨rfl, hB⟩
      replace hA := hA.below hB hA.lt
      replace hE := hE.below hB hE.lt
      replace hR := hR.below hB hR.lt
      replace hW := below_st hW hB
      clear hB cA0 cA1 cA2 cA3 zA cE0 cE1 cE2 cE3 zE cR0 cR1 cR2 cR3 zR V1
      have cA0 := hA.cell 0
      have cA1 := hA.cell 1
      have cA2 := hA.cell 2
      have cA3 := hA.cell 3
      have zA := hA.lt
      have cE0 := hE.cell 0
      have cE1 := hE.cell 1
      have cE2 := hE.cell 2
      have cE3 := hE.cell 3
      have zE := hE.lt
      have cR0 := hR.cell 0
      have cR1 := hR.cell 1
      have cR2 := hR.cell 2
      have cR3 := hR.cell 3
      have zR := hR.lt
      go_wp2_with fail
      (with_reducible refine (V2.out _).mono ?_)
      rintro e w2 ⟨rfl, hB⟩
      replace hA := hA.below hB hA.lt
      replace hE := hE.below hB hE.lt
      replace hR := hR.below hB hR.lt
      replace hW := below_st hW hB
      clear hB cA0 cA1 cA2 cA3 zA cE0 cE1 cE2 cE3 zE cR0 cR1 cR2 cR3 zR V2
      have cA0 := hA.cell 0
      have cA1 := hA.cell 1
      have cA2 := hA.cell 2
      have cA3 := hA.cell 3
      have zA := hA.lt
      have cE0 := hE.cell 0
      have cE1 := hE.cell 1
      have cE2 := hE.cell 2
      have cE3 := hE.cell 3
      have zE := hE.lt
      have cR0 := hR.cell 0
      have cR1 := hR.cell 1
      have cR2 := hR.cell 2
      have cR3 := hR.cell 3
      have zR := hR.lt
      have fR := hR.frozen
      have HQ := Lib.hid hR
      have HW := Lib.hid hW
      clear hA hE hR hW
      go_wp2
      exact ret_iv (p := 4) (q := 5) (by kernel_rfl) rfl rfl (put4 HQ.out HW.out (by omega) 0 0 0 0).1 ⟨rfl, (put4 HQ.out HW.out (by omega) 0 0 0 0).2⟩
  · rw [show vIB a b c d = false from decide_eq_false p1] at V1
    rw [show addI a b c d a' b' c' d' = (0, 0, 0, 0, 1) from if_neg (fun h => p1 h.1)]
    replace V1 := Lib.hid V1
    clear p1 V2 AD AE
    have cA0 := hA.cell 0
    have cA1 := hA.cell 1
    have cA2 := hA.cell 2
    have cA3 := hA.cell 3
    have zA := hA.lt
    have cE0 := hE.cell 0
    have cE1 := hE.cell 1
    have cE2 := hE.cell 2
    have cE3 := hE.cell 3
    have zE := hE.lt
    have cR0 := hR.cell 0
    have cR1 := hR.cell 1
    have cR2 := hR.cell 2
    have cR3 := hR.cell 3
    have zR := hR.lt
    go_enter Try.func57, Try.ntmps57
    go_wp2_with fail
    (with_reducible refine (V1.out _).mono ?_)
    rintro e w1 ⟨rfl, hB⟩
    replace hA := hA.below hB hA.lt
    replace hE := hE.below hB hE.lt
    replace hR := hR.below hB hR.lt
    replace hW := below_st hW hB
    clear hB cA0 cA1 cA2 cA3 zA cE0 cE1 cE2 cE3 zE cR0 cR1 cR2 cR3 zR V1
    have cA0 := hA.cell 0
    have cA1 := hA.cell 1
    have cA2 := hA.cell 2
    have cA3 := hA.cell 3
    have zA := hA.lt
    have cE0 := hE.cell 0
    have cE1 := hE.cell 1
    have cE2 := hE.cell 2
    have cE3 := hE.cell 3
    have zE := hE.lt
    have cR0 := hR.cell 0
    have cR1 := hR.cell 1
    have cR2 := hR.cell 2
    have cR3 := hR.cell 3
    have zR := hR.lt
    have fR := hR.frozen
    have HQ := Lib.hid hR
    have HW := Lib.hid hW
    clear hA hE hR hW
    go_wp2
    exact ret_iv (p := 4) (q := 5) (by kernel_rfl) rfl rfl (put4 HQ.out HW.out (by omega) 0 0 0 0).1 ⟨rfl, (put4 HQ.out HW.out (by omega) 0 0 0 0).2⟩
end Go.Proofs.Ytkdbffhmnkkbcaa
