/- Package interval: Width, AtLeast, AtMost; AtLeast and AtMost of the reference. Conditions: numbers of 64 bits. -/
import Derived.Test.YteppamchbgnlfaaIv2
namespace Go.Proofs.Yteppamchbgnlfaa
open Go.RowKit

set_option maxRecDepth 100000 in
set_option maxHeartbeats 4000000 in
theorem ileast_w {a b c d n m : Int} (h : W2 a b) (k : W2 c d) (j : W2 n m) (w : World) :
    Calls Try.prog 40 #[.agg #[.int .i64 a, .int .i64 b, .int .i64 c, .int .i64 d], .agg #[.int .i64 n, .int .i64 m]] w fun e w' => e = .returned (.int .i64 (leastV a b c d n m)) ∧ Below w.heap.size w w' := by
  have V1 := ivalid_w h k
  have V2 := valid_w j
  have C1 := cmp_w h j
  have C2 := cmp_w k j
  obtain ⟨hA, hE, hW⟩ := start2 w 25 #[.int .i64 a, .int .i64 b, .int .i64 c, .int .i64 d] 23 #[.int .i64 n, .int .i64 m]
  clear h k j
  by_cases p1 : vI a b c d
  · rw [show vIB a b c d = true from decide_eq_true p1] at V1
    by_cases p2 : vP n m
    · rw [show vB n m = true from decide_eq_true p2] at V2
      have hr : leastV a b c d n m = if 0 ≤ (cmpR a b n m) then 2 else if (cmpR c d n m) < 0 then 0 else 1 := by unfold leastV; rw [if_pos ⟨p1, p2⟩]
      obtain ⟨z1, hz1⟩ : ∃ z, cmpR a b n m = z := ⟨_, rfl⟩
      obtain ⟨z2, hz2⟩ : ∃ z, cmpR c d n m = z := ⟨_, rfl⟩
      rw [hz1, hz2] at hr
      rw [hz1] at C1
      rw [hz2] at C2
      by_cases q1 : 0 ≤ z1
      · have HR := Lib.hid (show leastV a b c d n m = 2 by rw [hr, if_pos q1])
        have b1 : decide (0 ≤ z1) = true := decide_eq_true q1
        replace V1 := Lib.hid V1
        replace V2 := Lib.hid V2
        replace C1 := Lib.hid C1
        clear p1 p2 hz1 hz2 hr q1 C2
        have cA0 := hA.cell 0
        have cA1 := hA.cell 1
        have cA2 := hA.cell 2
        have cA3 := hA.cell 3
        have zA := hA.lt
        have cE0 := hE.cell 0
        have cE1 := hE.cell 1
        have zE := hE.lt
        go_enter Try.func40, Try.ntmps40
        go_wp2_with fail
        (with_reducible refine (V1.out _).mono ?_)
        rintro e w1 ⟨rfl, hB⟩
        replace hA := hA.below hB hA.lt
        replace hE := hE.below hB hE.lt
        replace hW := below_st hW hB
        clear hB cA0 cA1 cA2 cA3 zA cE0 cE1 zE V1
        have cA0 := hA.cell 0
        have cA1 := hA.cell 1
        have cA2 := hA.cell 2
        have cA3 := hA.cell 3
        have zA := hA.lt
        have cE0 := hE.cell 0
        have cE1 := hE.cell 1
        have zE := hE.lt
        go_wp2_with fail
        (with_reducible refine (V2.out _).mono ?_)
        rintro e w2 ⟨rfl, hB⟩
        replace hA := hA.below hB hA.lt
        replace hE := hE.below hB hE.lt
        replace hW := below_st hW hB
        clear hB cA0 cA1 cA2 cA3 zA cE0 cE1 zE V2
        have cA0 := hA.cell 0
        have cA1 := hA.cell 1
        have cA2 := hA.cell 2
        have cA3 := hA.cell 3
        have zA := hA.lt
        have cE0 := hE.cell 0
        have cE1 := hE.cell 1
        have zE := hE.lt
        go_wp2_with fail
        (with_reducible refine (C1.out _).mono ?_)
        rintro e w3 ⟨rfl, hB⟩
        replace hA := hA.below hB hA.lt
        replace hE := hE.below hB hE.lt
        replace hW := below_st hW hB
        clear hB cA0 cA1 cA2 cA3 zA cE0 cE1 zE C1
        have cA0 := hA.cell 0
        have cA1 := hA.cell 1
        have cA2 := hA.cell 2
        have cA3 := hA.cell 3
        have zA := hA.lt
        have cE0 := hE.cell 0
        have cE1 := hE.cell 1
        have zE := hE.lt
        go_wp2
        go_ret
        exact ⟨ret_int HR.out.symm, hW⟩
      · have b1 : decide (0 ≤ z1) = false := decide_eq_false q1
        rw [if_neg q1] at hr
        by_cases q2 : z2 < 0
        · have HR := Lib.hid (show leastV a b c d n m = 0 by rw [hr, if_pos q2])
          have b2 : decide (z2 < 0) = true := decide_eq_true q2
          replace V1 := Lib.hid V1
          replace V2 := Lib.hid V2
          replace C1 := Lib.hid C1
          replace C2 := Lib.hid C2
          clear p1 p2 hz1 hz2 hr q1 q2
          have cA0 := hA.cell 0
          have cA1 := hA.cell 1
          have cA2 := hA.cell 2
          have cA3 := hA.cell 3
          have zA := hA.lt
          have cE0 := hE.cell 0
          have cE1 := hE.cell 1
          have zE := hE.lt
          go_enter Try.func40, Try.ntmps40
          go_wp2_with fail
          (with_reducible refine (V1.out _).mono ?_)
          rintro e w1 ⟨rfl, hB⟩
          replace hA := hA.below hB hA.lt
          replace hE := hE.below hB hE.lt
          replace hW := below_st hW hB
          clear hB cA0 cA1 cA2 cA3 zA cE0 cE1 zE V1
          have cA0 := hA.cell 0
          have cA1 := hA.cell 1
          have cA2 := hA.cell 2
          have cA3 := hA.cell 3
          have zA := hA.lt
          have cE0 := hE.cell 0
          have cE1 := hE.cell 1
          have zE := hE.lt
          go_wp2_with fail
          (with_reducible refine (V2.out _).mono ?_)
          rintro e w2 ⟨rfl, hB⟩
          replace hA := hA.below hB hA.lt
          replace hE := hE.below hB hE.lt
          replace hW := below_st hW hB
          clear hB cA0 cA1 cA2 cA3 zA cE0 cE1 zE V2
          have cA0 := hA.cell 0
          have cA1 := hA.cell 1
          have cA2 := hA.cell 2
          have cA3 := hA.cell 3
          have zA := hA.lt
          have cE0 := hE.cell 0
          have cE1 := hE.cell 1
          have zE := hE.lt
          go_wp2_with fail
          (with_reducible refine (C1.out _).mono ?_)
          rintro e w3 ⟨rfl, hB⟩
          replace hA := hA.below hB hA.lt
          replace hE := hE.below hB hE.lt
          replace hW := below_st hW hB
          clear hB cA0 cA1 cA2 cA3 zA cE0 cE1 zE C1
          have cA0 := hA.cell 0
          have cA1 := hA.cell 1
          have cA2 := hA.cell 2
          have cA3 := hA.cell 3
          have zA := hA.lt
          have cE0 := hE.cell 0
          have cE1 := hE.cell 1
          have zE := hE.lt
          go_wp2_with fail
          (with_reducible refine (C2.out _).mono ?_)
          rintro e w4 ⟨rfl, hB⟩
          replace hA := hA.below hB hA.lt
          replace hE := hE.below hB hE.lt
          replace hW := below_st hW hB
          clear hB cA0 cA1 cA2 cA3 zA cE0 cE1 zE C2
          have cA0 := hA.cell 0
          have cA1 := hA.cell 1
          have cA2 := hA.cell 2
          have cA3 := hA.cell 3
          have zA := hA.lt
          have cE0 := hE.cell 0
          have cE1 := hE.cell 1
          have zE := hE.lt
          go_wp2
          go_ret
          exact ⟨ret_int HR.out.symm, hW⟩
        · have HR := Lib.hid (show leastV a b c d n m = 1 by rw [hr, if_neg q2])
          have b2 : decide (z2 < 0) = false := decide_eq_false q2
          replace V1 := Lib.hid V1
          replace V2 := Lib.hid V2
          replace C1 := Lib.hid C1
          replace C2 := Lib.hid C2
          clear p1 p2 hz1 hz2 hr q1 q2
          have cA0 := hA.cell 0
          have cA1 := hA.cell 1
          have cA2 := hA.cell 2
          have cA3 := hA.cell 3
          have zA := hA.lt
          have cE0 := hE.cell 0
          have cE1 := hE.cell 1
          have zE := hE.lt
          go_enter Try.func40, Try.ntmps40
          go_wp2_with fail
          (with_reducible refine (V1.out _).mono ?_)
          rintro e w1 ⟨rfl, hB⟩
          replace hA := hA.below hB hA.lt
          replace hE := hE.below hB hE.lt
          replace hW := below_st hW hB
          clear hB cA0 cA1 cA2 cA3 zA cE0 cE1 zE V1
          have cA0 := hA.cell 0
          have cA1 := hA.cell 1
          have cA2 := hA.cell 2
          have cA3 := hA.cell 3
          have zA := hA.lt
          have cE0 := hE.cell 0
          have cE1 := hE.cell 1
          have zE := hE.lt
          go_wp2_with fail
          (with_reducible refine (V2.out _).mono ?_)
          rintro e w2 ⟨rfl, hB⟩
          replace hA := hA.below hB hA.lt
          replace hE := hE.below hB hE.lt
          replace hW := below_st hW hB
          clear hB cA0 cA1 cA2 cA3 zA cE0 cE1 zE V2
          have cA0 := hA.cell 0
          have cA1 := hA.cell 1
          have cA2 := hA.cell 2
          have cA3 := hA.cell 3
          have zA := hA.lt
          have cE0 := hE.cell 0
          have cE1 := hE.cell 1
          have zE := hE.lt
          go_wp2_with fail
          (with_reducible refine (C1.out _).mono ?_)
          rintro e w3 ⟨rfl, hB⟩
          replace hA := hA.below hB hA.lt
          replace hE := hE.below hB hE.lt
          replace hW := below_st hW hB
          clear hB cA0 cA1 cA2 cA3 zA cE0 cE1 zE C1
          have cA0 := hA.cell 0
          have cA1 := hA.cell 1
          have cA2 := hA.cell 2
          have cA3 := hA.cell 3
          have zA := hA.lt
          have cE0 := hE.cell 0
          have cE1 := hE.cell 1
          have zE := hE.lt
          go_wp2_with fail
          (with_reducible refine (C2.out _).mono ?_)
          rintro e w4 ⟨rfl, hB⟩
          replace hA := hA.below hB hA.lt
          replace hE := hE.below hB hE.lt
          replace hW := below_st hW hB
          clear hB cA0 cA1 cA2 cA3 zA cE0 cE1 zE C2
          have cA0 := hA.cell 0
          have cA1 := hA.cell 1
          have cA2 := hA.cell 2
          have cA3 := hA.cell 3
          have zA := hA.lt
          have cE0 := hE.cell 0
          have cE1 := hE.cell 1
          have zE := hE.lt
          go_wp2
          go_ret
          exact ⟨ret_int HR.out.symm, hW⟩
    · rw [show vB n m = false from decide_eq_false p2] at V2
      have HR := Lib.hid (show leastV a b c d n m = 1 from if_neg (fun h => p2 h.2))
      replace V1 := Lib.hid V1
      replace V2 := Lib.hid V2
      clear p1 p2 C1 C2
      have cA0 := hA.cell 0
      have cA1 := hA.cell 1
      have cA2 := hA.cell 2
      have cA3 := hA.cell 3
      have zA := hA.lt
      have cE0 := hE.cell 0
      have cE1 := hE.cell 1
      have zE := hE.lt
      go_enter Try.func40, Try.ntmps40
      go_wp2_with fail
      (with_reducible refine (V1.out _).mono ?_)
      rintro e w1 ⟨rfl, hB⟩
      replace hA := hA.below hB hA.lt
      replace hE := hE.below hB hE.lt
      replace hW := below_st hW hB
      clear hB cA0 cA1 cA2 cA3 zA cE0 cE1 zE V1
      have cA0 := hA.cell 0
      have cA1 := hA.cell 1
      have cA2 := hA.cell 2
      have cA3 := hA.cell 3
      have zA := hA.lt
      have cE0 := hE.cell 0
      have cE1 := hE.cell 1
      have zE := hE.lt
      go_wp2_with fail
      (with_reducible refine (V2.out _).mono ?_)
      rintro e w2 ⟨rfl, hB⟩
      replace hA := hA.below hB hA.lt
      replace hE := hE.below hB hE.lt
      replace hW := below_st hW hB
      clear hB cA0 cA1 cA2 cA3 zA cE0 cE1 zE V2
      have cA0 := hA.cell 0
      have cA1 := hA.cell 1
      have cA2 := hA.cell 2
      have cA3 := hA.cell 3
      have zA := hA.lt
      have cE0 := hE.cell 0
      have cE1 := hE.cell 1
      have zE := hE.lt
      go_wp2
      go_ret
      exact ⟨ret_int HR.out.symm, hW⟩
  · rw [show vIB a b c d = false from decide_eq_false p1] at V1
    have HR := Lib.hid (show leastV a b c d n m = 1 from if_neg (fun h => p1 h.1))
    replace V1 := Lib.hid V1
    clear p1 V2 C1 C2
    have cA0 := hA.cell 0
    have cA1 := hA.cell 1
    have cA2 := hA.cell 2
    have cA3 := hA.cell 3
    have zA := hA.lt
    have cE0 := hE.cell 0
    have cE1 := hE.cell 1
    have zE := hE.lt
    go_enter Try.func40, Try.ntmps40
    go_wp2_with fail
    (with_reducible refine (V1.out _).mono ?_)
    rintro e w1 ⟨rfl, hB⟩
    replace hA := hA.below hB hA.lt
    replace hE := hE.below hB hE.lt
    replace hW := below_st hW hB
    clear hB cA0 cA1 cA2 cA3 zA cE0 cE1 zE V1
    have cA0 := hA.cell 0
    have cA1 := hA.cell 1
    have cA2 := hA.cell 2
    have cA3 := hA.cell 3
    have zA := hA.lt
    have cE0 := hE.cell 0
    have cE1 := hE.cell 1
    have zE := hE.lt
    go_wp2
    go_ret
    exact ⟨ret_int HR.out.symm, hW⟩
end Go.Proofs.Yteppamchbgnlfaa
