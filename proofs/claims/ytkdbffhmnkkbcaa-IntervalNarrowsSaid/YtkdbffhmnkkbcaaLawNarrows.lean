/- The walk of IntervalNarrows. Conditions: numbers of 64 bits. -/
import Derived.Test.YtkdbffhmnkkbcaaPart
namespace Go.Proofs.Ytkdbffhmnkkbcaa
open Go.RowKit

theorem cmp_lt {an ad bn bd : Int} (ha : vP an ad) (hb : vP bn bd) : cmpR an ad bn bd < 0 ↔ ¬ rv bn bd ≤ rv an ad := by
  rw [← cmp_ge ha hb]; omega
theorem cmp_gt {an ad bn bd : Int} (ha : vP an ad) (hb : vP bn bd) : 0 < cmpR an ad bn bd ↔ ¬ rv an ad ≤ rv bn bd := by
  rw [← cmp_le ha hb]; omega
section
variable {a b c d u1 u2 u3 u4 p q n m : Int}
theorem least_narrow (hx : vI a b c d) (hu : vI u1 u2 u3 u4) (hp : vP p q) (hc : vP n m) (h1 : rv a b ≤ rv u1 u2) (h2 : rv u3 u4 ≤ rv c d) (h3 : rv u1 u2 ≤ rv p q) (h4 : rv p q ≤ rv u3 u4) :
    (leastV a b c d n m = 1 ∧ leastV u1 u2 u3 u4 n m = 1) ∨ (leastV a b c d n m = 1 ∧ leastV u1 u2 u3 u4 n m = 2 ∧ 0 ≤ cmpR p q n m) ∨ (leastV a b c d n m = 1 ∧ leastV u1 u2 u3 u4 n m = 0 ∧ cmpR p q n m < 0) ∨
      (leastV a b c d n m = 2 ∧ leastV u1 u2 u3 u4 n m = 2 ∧ 0 ≤ cmpR p q n m) ∨ (leastV a b c d n m = 0 ∧ leastV u1 u2 u3 u4 n m = 0 ∧ cmpR p q n m < 0) := by
  unfold leastV
  rw [if_pos (show vI a b c d ∧ vP n m from ⟨hx, hc⟩), if_pos (show vI u1 u2 u3 u4 ∧ vP n m from ⟨hu, hc⟩)]
  have e1 := cmp_ge hx.1.1 hc
  have e2 := cmp_lt hx.1.2 hc
  have e3 := cmp_ge hu.1.1 hc
  have e4 := cmp_lt hu.1.2 hc
  have e5 := cmp_ge hp hc
  have e6 := cmp_lt hp hc
  simp only [e1, e2, e3, e4, e5, e6]
  generalize rv a b = A at *
  generalize rv c d = C at *
  generalize rv u1 u2 = U at *
  generalize rv u3 u4 = V at *
  generalize rv p q = P at *
  generalize rv n m = N at *
  clear e1 e2 e3 e4 e5 e6
  by_cases g1 : N ≤ A
  · have g2 : N ≤ U := by grind
    have g3 : N ≤ P := by grind
    simp [g1, g2, g3]
  · by_cases g2 : N ≤ C
    · by_cases g3 : N ≤ U
      · have g4 : N ≤ P := by grind
        simp [g1, g2, g3, g4]
      · by_cases g4 : N ≤ V
        · simp [g1, g2, g3, g4]
        · have g5 : ¬ N ≤ P := by grind
          simp [g1, g2, g3, g4, g5]
    · have g3 : ¬ N ≤ U := by grind
      have g4 : ¬ N ≤ V := by grind
      have g5 : ¬ N ≤ P := by grind
      simp [g1, g2, g3, g4, g5]
theorem most_narrow (hx : vI a b c d) (hu : vI u1 u2 u3 u4) (hp : vP p q) (hc : vP n m) (h1 : rv a b ≤ rv u1 u2) (h2 : rv u3 u4 ≤ rv c d) (h3 : rv u1 u2 ≤ rv p q) (h4 : rv p q ≤ rv u3 u4) :
    (mostV a b c d n m = 1 ∧ mostV u1 u2 u3 u4 n m = 1) ∨ (mostV a b c d n m = 1 ∧ mostV u1 u2 u3 u4 n m = 2 ∧ cmpR p q n m ≤ 0) ∨ (mostV a b c d n m = 1 ∧ mostV u1 u2 u3 u4 n m = 0 ∧ 0 < cmpR p q n m) ∨
      (mostV a b c d n m = 2 ∧ mostV u1 u2 u3 u4 n m = 2 ∧ cmpR p q n m ≤ 0) ∨ (mostV a b c d n m = 0 ∧ mostV u1 u2 u3 u4 n m = 0 ∧ 0 < cmpR p q n m) := by
  unfold mostV
  rw [if_pos (show vI a b c d ∧ vP n m from ⟨hx, hc⟩), if_pos (show vI u1 u2 u3 u4 ∧ vP n m from ⟨hu, hc⟩)]
  have e1 := cmp_gt hx.1.1 hc
  have e2 := cmp_le hx.1.2 hc
  have e3 := cmp_gt hu.1.1 hc
  have e4 := cmp_le hu.1.2 hc
  have e5 := cmp_gt hp hc
  have e6 := cmp_le hp hc
  simp only [e1, e2, e3, e4, e5, e6]
  generalize rv a b = A at *
  generalize rv c d = C at *
  generalize rv u1 u2 = U at *
  generalize rv u3 u4 = V at *
  generalize rv p q = P at *
  generalize rv n m = N at *
  clear e1 e2 e3 e4 e5 e6
  by_cases g1 : C ≤ N
  · have g2 : V ≤ N := by grind
    have g3 : P ≤ N := by grind
    simp [g1, g2, g3]
  · by_cases g2 : A ≤ N
    · by_cases g3 : V ≤ N
      · have g4 : P ≤ N := by grind
        simp [g1, g2, g3, g4]
      · by_cases g4 : U ≤ N
        · simp [g1, g2, g3, g4]
        · have g5 : ¬ P ≤ N := by grind
          simp [g1, g2, g3, g4, g5]
    · have g3 : ¬ V ≤ N := by grind
      have g4 : ¬ U ≤ N := by grind
      have g5 : ¬ P ≤ N := by grind
      simp [g1, g2, g3, g4, g5]
end

set_option maxRecDepth 100000 in
set_option maxHeartbeats 16000000 in
theorem law_narrows (l0 l1 l2 l3 l4 l5 : Int) (w : World) (b0 : -9223372036854775808 ≤ l0 ∧ l0 ≤ 9223372036854775807) (b1 : -9223372036854775808 ≤ l1 ∧ l1 ≤ 9223372036854775807) (b2 : -9223372036854775808 ≤ l2 ∧ l2 ≤ 9223372036854775807) (b3 : -9223372036854775808 ≤ l3 ∧ l3 ≤ 9223372036854775807) (b4 : -9223372036854775808 ≤ l4 ∧ l4 ≤ 9223372036854775807) (b5 : -9223372036854775808 ≤ l5 ∧ l5 ≤ 9223372036854775807) :
    Calls Try.prog 11 #[.agg #[.int .i64 l0, .int .i64 l1, .int .i64 l2, .int .i64 l3, .int .i64 l4, .int .i64 l5]] w fun e w' => e = .returned (.bool true) ∧ Below w.heap.size w w' := by
  have S1 := Lib.hid (fun W => ismall_any l0 l1 W b0 b1)
  have S2 := Lib.hid (fun W => small_any l5 W b5.1 b5.2)
  have P1 := Lib.hid (fun (a b c d : Int) (h : SmI 50 12 a b c d) => part_any l2 l3 h b2 b3 (by decide) (by decide) (by decide) (by decide) (by decide) (by decide) (by decide) (by decide))
  have J1 := Lib.hid (fun (a b c d : Int) (h : SmI (50 * (12 * 12 * 8 * 1) + (50 * 12 + 50 * 12) * 1 * 8 * 12) (12 * (12 * 12 * 8 * 1)) a b c d) => inner_any l4 h b4 (by decide) (by decide) (by decide) (by decide) (by decide) (by decide) (by decide) (by decide))
  obtain ⟨hL, hW⟩ := start1 w 47 #[.int .i64 l0, .int .i64 l1, .int .i64 l2, .int .i64 l3, .int .i64 l4, .int .i64 l5]
  clear b0 b1 b2 b3 b4 b5
  go_enter Try.func11, Try.ntmps11
  go_wp2_with fail
  (with_reducible refine (S1.out _).mono ?_)
  rintro e u1 ⟨⟨a, b, c, d, rfl, hx⟩, hb⟩
  replace hL := hL.below hb hL.lt
  replace hW := below_st hW hb
  have L0 := hL.cell 0
  have L1 := hL.cell 1
  have L2 := hL.cell 2
  have L3 := hL.cell 3
  have L4 := hL.cell 4
  have L5 := hL.cell 5
  have zL := hL.lt
  clear hb S1
  have hX := Blk.new u1 25 #[.int .i64 a, .int .i64 b, .int .i64 c, .int .i64 d]
  replace hL := hL.alloc (.cells #[.int .i64 a, .int .i64 b, .int .i64 c, .int .i64 d] 25)
  replace hW := hW.alloc hW.size (.cells #[.int .i64 a, .int .i64 b, .int .i64 c, .int .i64 d] 25)
  obtain ⟨u1', u2', u3', u4', ⟨hu, hu1, hu2⟩, PC⟩ := P1.out _ _ _ _ hx
  obtain ⟨p, q, ⟨hp, hp1, hp2⟩, JC⟩ := J1.out _ _ _ _ hu
  replace PC := Lib.hid PC
  replace JC := Lib.hid JC
  have HV := Lib.hid (And.intro hx.vI (And.intro hu.vI (And.intro hp.1 (And.intro hu1 (And.intro hu2 (And.intro hp1 hp2))))))
  have HXW := Lib.hid (And.intro hx.1.1.w2 (And.intro hx.2.1.1.w2 (And.intro hu.1.1.w2 (And.intro hu.2.1.1.w2 hp.1.w2))))
  clear hx hu hu1 hu2 hp hp1 hp2 P1 J1
  go_wp2_with fail
  (with_reducible refine (PC.out _).mono ?_)
  rintro e u2 ⟨rfl, hb⟩
  replace hL := hL.below hb hL.lt
  replace hX := hX.below hb hX.lt
  replace hW := below_st hW hb
  have L0 := hL.cell 0
  have L1 := hL.cell 1
  have L2 := hL.cell 2
  have L3 := hL.cell 3
  have L4 := hL.cell 4
  have L5 := hL.cell 5
  have zL := hL.lt
  have X0 := hX.cell 0
  have X1 := hX.cell 1
  have X2 := hX.cell 2
  have X3 := hX.cell 3
  have zX := hX.lt
  clear hb PC
  have hU := Blk.new u2 25 #[.int .i64 u1', .int .i64 u2', .int .i64 u3', .int .i64 u4']
  replace hL := hL.alloc (.cells #[.int .i64 u1', .int .i64 u2', .int .i64 u3', .int .i64 u4'] 25)
  replace hX := hX.alloc (.cells #[.int .i64 u1', .int .i64 u2', .int .i64 u3', .int .i64 u4'] 25)
  replace hW := hW.alloc hW.size (.cells #[.int .i64 u1', .int .i64 u2', .int .i64 u3', .int .i64 u4'] 25)
  go_wp2_with fail
  (with_reducible refine (JC.out _).mono ?_)
  rintro e u3 ⟨rfl, hb⟩
  replace hL := hL.below hb hL.lt
  replace hX := hX.below hb hX.lt
  replace hU := hU.below hb hU.lt
  replace hW := below_st hW hb
  have L0 := hL.cell 0
  have L1 := hL.cell 1
  have L2 := hL.cell 2
  have L3 := hL.cell 3
  have L4 := hL.cell 4
  have L5 := hL.cell 5
  have zL := hL.lt
  have X0 := hX.cell 0
  have X1 := hX.cell 1
  have X2 := hX.cell 2
  have X3 := hX.cell 3
  have zX := hX.lt
  have U0 := hU.cell 0
  have U1 := hU.cell 1
  have U2 := hU.cell 2
  have U3 := hU.cell 3
  have zU := hU.lt
  clear hb JC
  have hA := Blk.new u3 23 #[.int .i64 p, .int .i64 q]
  replace hL := hL.alloc (.cells #[.int .i64 p, .int .i64 q] 23)
  replace hX := hX.alloc (.cells #[.int .i64 p, .int .i64 q] 23)
  replace hU := hU.alloc (.cells #[.int .i64 p, .int .i64 q] 23)
  replace hW := hW.alloc hW.size (.cells #[.int .i64 p, .int .i64 q] 23)
  go_wp2_with fail
  (with_reducible refine (S2.out _).mono ?_)
  rintro e u4 ⟨⟨n, m, rfl, hc⟩, hb⟩
  replace hL := hL.below hb hL.lt
  replace hX := hX.below hb hX.lt
  replace hU := hU.below hb hU.lt
  replace hA := hA.below hb hA.lt
  replace hW := below_st hW hb
  have L0 := hL.cell 0
  have L1 := hL.cell 1
  have L2 := hL.cell 2
  have L3 := hL.cell 3
  have L4 := hL.cell 4
  have L5 := hL.cell 5
  have zL := hL.lt
  have X0 := hX.cell 0
  have X1 := hX.cell 1
  have X2 := hX.cell 2
  have X3 := hX.cell 3
  have zX := hX.lt
  have U0 := hU.cell 0
  have U1 := hU.cell 1
  have U2 := hU.cell 2
  have U3 := hU.cell 3
  have zU := hU.lt
  have A0 := hA.cell 0
  have A1 := hA.cell 1
  have zA := hA.lt
  clear hb S2
  have hC := Blk.new u4 23 #[.int .i64 n, .int .i64 m]
  replace hL := hL.alloc (.cells #[.int .i64 n, .int .i64 m] 23)
  replace hX := hX.alloc (.cells #[.int .i64 n, .int .i64 m] 23)
  replace hU := hU.alloc (.cells #[.int .i64 n, .int .i64 m] 23)
  replace hA := hA.alloc (.cells #[.int .i64 n, .int .i64 m] 23)
  replace hW := hW.alloc hW.size (.cells #[.int .i64 n, .int .i64 m] 23)
  have AL := Lib.hid (ileast_w HXW.out.1 HXW.out.2.1 hc.1.w2)
  have AU := Lib.hid (ileast_w HXW.out.2.2.1 HXW.out.2.2.2.1 hc.1.w2)
  have ML := Lib.hid (imost_w HXW.out.1 HXW.out.2.1 hc.1.w2)
  have MU := Lib.hid (imost_w HXW.out.2.2.1 HXW.out.2.2.2.1 hc.1.w2)
  have CM := Lib.hid (cmp_w HXW.out.2.2.2.2 hc.1.w2)
  have hls := least_narrow HV.out.1 HV.out.2.1 HV.out.2.2.1 hc.1 HV.out.2.2.2.1 HV.out.2.2.2.2.1 HV.out.2.2.2.2.2.1 HV.out.2.2.2.2.2.2
  have hms := most_narrow HV.out.1 HV.out.2.1 HV.out.2.2.1 hc.1 HV.out.2.2.2.1 HV.out.2.2.2.2.1 HV.out.2.2.2.2.2.1 HV.out.2.2.2.2.2.2
  obtain ⟨W1, hW1⟩ : ∃ x, leastV a b c d n m = x := ⟨_, rfl⟩
  obtain ⟨N1, hN1⟩ : ∃ x, leastV u1' u2' u3' u4' n m = x := ⟨_, rfl⟩
  obtain ⟨W2x, hW2x⟩ : ∃ x, mostV a b c d n m = x := ⟨_, rfl⟩
  obtain ⟨N2, hN2⟩ : ∃ x, mostV u1' u2' u3' u4' n m = x := ⟨_, rfl⟩
  obtain ⟨K, hK⟩ : ∃ x, cmpR p q n m = x := ⟨_, rfl⟩
  rw [hW1] at AL hls
  rw [hN1] at AU hls
  rw [hW2x] at ML hms
  rw [hN2] at MU hms
  rw [hK] at CM hls hms
  have HMS := Lib.hid hms
  have HLS := Lib.hid hls
  clear hls hms hW1 hN1 hW2x hN2 hK hc HV HXW
  go_wp2_with fail
  (with_reducible refine (AL.out _).mono ?_)
  rintro e u5 ⟨rfl, hb⟩
  replace hL := hL.below hb hL.lt
  replace hX := hX.below hb hX.lt
  replace hU := hU.below hb hU.lt
  replace hA := hA.below hb hA.lt
  replace hC := hC.below hb hC.lt
  replace hW := below_st hW hb
  have L0 := hL.cell 0
  have L1 := hL.cell 1
  have L2 := hL.cell 2
  have L3 := hL.cell 3
  have L4 := hL.cell 4
  have L5 := hL.cell 5
  have zL := hL.lt
  have X0 := hX.cell 0
  have X1 := hX.cell 1
  have X2 := hX.cell 2
  have X3 := hX.cell 3
  have zX := hX.lt
  have U0 := hU.cell 0
  have U1 := hU.cell 1
  have U2 := hU.cell 2
  have U3 := hU.cell 3
  have zU := hU.lt
  have A0 := hA.cell 0
  have A1 := hA.cell 1
  have zA := hA.lt
  have C0 := hC.cell 0
  have C1 := hC.cell 1
  have zC := hC.lt
  clear hb AL
  go_wp2_with fail
  (with_reducible refine (AU.out _).mono ?_)
  rintro e u6 ⟨rfl, hb⟩
  replace hL := hL.below hb hL.lt
  replace hX := hX.below hb hX.lt
  replace hU := hU.below hb hU.lt
  replace hA := hA.below hb hA.lt
  replace hC := hC.below hb hC.lt
  replace hW := below_st hW hb
  have L0 := hL.cell 0
  have L1 := hL.cell 1
  have L2 := hL.cell 2
  have L3 := hL.cell 3
  have L4 := hL.cell 4
  have L5 := hL.cell 5
  have zL := hL.lt
  have X0 := hX.cell 0
  have X1 := hX.cell 1
  have X2 := hX.cell 2
  have X3 := hX.cell 3
  have zX := hX.lt
  have U0 := hU.cell 0
  have U1 := hU.cell 1
  have U2 := hU.cell 2
  have U3 := hU.cell 3
  have zU := hU.lt
  have A0 := hA.cell 0
  have A1 := hA.cell 1
  have zA := hA.lt
  have C0 := hC.cell 0
  have C1 := hC.cell 1
  have zC := hC.lt
  clear hb AU
  rcases HLS.out with ⟨rfl, rfl⟩ | ⟨rfl, rfl, hk⟩ | ⟨rfl, rfl, hk⟩ | ⟨rfl, rfl, hk⟩ | ⟨rfl, rfl, hk⟩
  · go_wp2_with fail
    (with_reducible refine (ML.out _).mono ?_)
    rintro e u7 ⟨rfl, hb⟩
    replace hL := hL.below hb hL.lt
    replace hX := hX.below hb hX.lt
    replace hU := hU.below hb hU.lt
    replace hA := hA.below hb hA.lt
    replace hC := hC.below hb hC.lt
    replace hW := below_st hW hb
    have L0 := hL.cell 0
    have L1 := hL.cell 1
    have L2 := hL.cell 2
    have L3 := hL.cell 3
    have L4 := hL.cell 4
    have L5 := hL.cell 5
    have zL := hL.lt
    have X0 := hX.cell 0
    have X1 := hX.cell 1
    have X2 := hX.cell 2
    have X3 := hX.cell 3
    have zX := hX.lt
    have U0 := hU.cell 0
    have U1 := hU.cell 1
    have U2 := hU.cell 2
    have U3 := hU.cell 3
    have zU := hU.lt
    have A0 := hA.cell 0
    have A1 := hA.cell 1
    have zA := hA.lt
    have C0 := hC.cell 0
    have C1 := hC.cell 1
    have zC := hC.lt
    clear hb ML
    go_wp2_with fail
    (with_reducible refine (MU.out _).mono ?_)
    rintro e u8 ⟨rfl, hb⟩
    replace hL := hL.below hb hL.lt
    replace hX := hX.below hb hX.lt
    replace hU := hU.below hb hU.lt
    replace hA := hA.below hb hA.lt
    replace hC := hC.below hb hC.lt
    replace hW := below_st hW hb
    have L0 := hL.cell 0
    have L1 := hL.cell 1
    have L2 := hL.cell 2
    have L3 := hL.cell 3
    have L4 := hL.cell 4
    have L5 := hL.cell 5
    have zL := hL.lt
    have X0 := hX.cell 0
    have X1 := hX.cell 1
    have X2 := hX.cell 2
    have X3 := hX.cell 3
    have zX := hX.lt
    have U0 := hU.cell 0
    have U1 := hU.cell 1
    have U2 := hU.cell 2
    have U3 := hU.cell 3
    have zU := hU.lt
    have A0 := hA.cell 0
    have A1 := hA.cell 1
    have zA := hA.lt
    have C0 := hC.cell 0
    have C1 := hC.cell 1
    have zC := hC.lt
    clear hb MU
    rcases HMS.out with ⟨rfl, rfl⟩ | ⟨rfl, rfl, hk2⟩ | ⟨rfl, rfl, hk2⟩ | ⟨rfl, rfl, hk2⟩ | ⟨rfl, rfl, hk2⟩
    · go_wp2_with fail
      refine (lives_any _).mono ?_
      rintro e u9 ⟨rfl, hb⟩
      replace hW := below_st hW hb
      go_wp2
      go_ret
      exact ⟨rfl, hW⟩
    · go_wp2_with fail
      (with_reducible refine (CM.out _).mono ?_)
      rintro e u9 ⟨rfl, hb⟩
      replace hL := hL.below hb hL.lt
      replace hX := hX.below hb hX.lt
      replace hU := hU.below hb hU.lt
      replace hA := hA.below hb hA.lt
      replace hC := hC.below hb hC.lt
      replace hW := below_st hW hb
      have L0 := hL.cell 0
      have L1 := hL.cell 1
      have L2 := hL.cell 2
      have L3 := hL.cell 3
      have L4 := hL.cell 4
      have L5 := hL.cell 5
      have zL := hL.lt
      have X0 := hX.cell 0
      have X1 := hX.cell 1
      have X2 := hX.cell 2
      have X3 := hX.cell 3
      have zX := hX.lt
      have U0 := hU.cell 0
      have U1 := hU.cell 1
      have U2 := hU.cell 2
      have U3 := hU.cell 3
      have zU := hU.lt
      have A0 := hA.cell 0
      have A1 := hA.cell 1
      have zA := hA.lt
      have C0 := hC.cell 0
      have C1 := hC.cell 1
      have zC := hC.lt
      clear hb
      go_wp2_with fail
      refine (lives_any _).mono ?_
      rintro e u10 ⟨rfl, hb⟩
      replace hW := below_st hW hb
      go_wp2
      go_ret
      exact ⟨rfl, hW⟩
    · go_wp2_with fail
      (with_reducible refine (CM.out _).mono ?_)
      rintro e u9 ⟨rfl, hb⟩
      replace hL := hL.below hb hL.lt
      replace hX := hX.below hb hX.lt
      replace hU := hU.below hb hU.lt
      replace hA := hA.below hb hA.lt
      replace hC := hC.below hb hC.lt
      replace hW := below_st hW hb
      have L0 := hL.cell 0
      have L1 := hL.cell 1
      have L2 := hL.cell 2
      have L3 := hL.cell 3
      have L4 := hL.cell 4
      have L5 := hL.cell 5
      have zL := hL.lt
      have X0 := hX.cell 0
      have X1 := hX.cell 1
      have X2 := hX.cell 2
      have X3 := hX.cell 3
      have zX := hX.lt
      have U0 := hU.cell 0
      have U1 := hU.cell 1
      have U2 := hU.cell 2
      have U3 := hU.cell 3
      have zU := hU.lt
      have A0 := hA.cell 0
      have A1 := hA.cell 1
      have zA := hA.lt
      have C0 := hC.cell 0
      have C1 := hC.cell 1
      have zC := hC.lt
      clear hb
      go_wp2_with fail
      refine (lives_any _).mono ?_
      rintro e u10 ⟨rfl, hb⟩
      replace hW := below_st hW hb
      go_wp2
      go_ret
      exact ⟨rfl, hW⟩
    · go_wp2_with fail
      (with_reducible refine (CM.out _).mono ?_)
      rintro e u9 ⟨rfl, hb⟩
      replace hL := hL.below hb hL.lt
      replace hX := hX.below hb hX.lt
      replace hU := hU.below hb hU.lt
      replace hA := hA.below hb hA.lt
      replace hC := hC.below hb hC.lt
      replace hW := below_st hW hb
      have L0 := hL.cell 0
      have L1 := hL.cell 1
      have L2 := hL.cell 2
      have L3 := hL.cell 3
      have L4 := hL.cell 4
      have L5 := hL.cell 5
      have zL := hL.lt
      have X0 := hX.cell 0
      have X1 := hX.cell 1
      have X2 := hX.cell 2
      have X3 := hX.cell 3
      have zX := hX.lt
      have U0 := hU.cell 0
      have U1 := hU.cell 1
      have U2 := hU.cell 2
      have U3 := hU.cell 3
      have zU := hU.lt
      have A0 := hA.cell 0
      have A1 := hA.cell 1
      have zA := hA.lt
      have C0 := hC.cell 0
      have C1 := hC.cell 1
      have zC := hC.lt
      clear hb
      go_wp2_with fail
      refine (lives_any _).mono ?_
      rintro e u10 ⟨rfl, hb⟩
      replace hW := below_st hW hb
      go_wp2
      go_ret
      exact ⟨rfl, hW⟩
    · go_wp2_with fail
      (with_reducible refine (CM.out _).mono ?_)
      rintro e u9 ⟨rfl, hb⟩
      replace hL := hL.below hb hL.lt
      replace hX := hX.below hb hX.lt
      replace hU := hU.below hb hU.lt
      replace hA := hA.below hb hA.lt
      replace hC := hC.below hb hC.lt
      replace hW := below_st hW hb
      have L0 := hL.cell 0
      have L1 := hL.cell 1
      have L2 := hL.cell 2
      have L3 := hL.cell 3
      have L4 := hL.cell 4
      have L5 := hL.cell 5
      have zL := hL.lt
      have X0 := hX.cell 0
      have X1 := hX.cell 1
      have X2 := hX.cell 2
      have X3 := hX.cell 3
      have zX := hX.lt
      have U0 := hU.cell 0
      have U1 := hU.cell 1
      have U2 := hU.cell 2
      have U3 := hU.cell 3
      have zU := hU.lt
      have A0 := hA.cell 0
      have A1 := hA.cell 1
      have zA := hA.lt
      have C0 := hC.cell 0
      have C1 := hC.cell 1
      have zC := hC.lt
      clear hb
      go_wp2_with fail
      refine (lives_any _).mono ?_
      rintro e u10 ⟨rfl, hb⟩
      replace hW := below_st hW hb
      go_wp2
      go_ret
      exact ⟨rfl, hW⟩
  · go_wp2_with fail
    (with_reducible refine (CM.out _).mono ?_)
    rintro e u7 ⟨rfl, hb⟩
    replace hL := hL.below hb hL.lt
    replace hX := hX.below hb hX.lt
    replace hU := hU.below hb hU.lt
    replace hA := hA.below hb hA.lt
    replace hC := hC.below hb hC.lt
    replace hW := below_st hW hb
    have L0 := hL.cell 0
    have L1 := hL.cell 1
    have L2 := hL.cell 2
    have L3 := hL.cell 3
    have L4 := hL.cell 4
    have L5 := hL.cell 5
    have zL := hL.lt
    have X0 := hX.cell 0
    have X1 := hX.cell 1
    have X2 := hX.cell 2
    have X3 := hX.cell 3
    have zX := hX.lt
    have U0 := hU.cell 0
    have U1 := hU.cell 1
    have U2 := hU.cell 2
    have U3 := hU.cell 3
    have zU := hU.lt
    have A0 := hA.cell 0
    have A1 := hA.cell 1
    have zA := hA.lt
    have C0 := hC.cell 0
    have C1 := hC.cell 1
    have zC := hC.lt
    clear hb
    go_wp2_with fail
    (with_reducible refine (ML.out _).mono ?_)
    rintro e u8 ⟨rfl, hb⟩
    replace hL := hL.below hb hL.lt
    replace hX := hX.below hb hX.lt
    replace hU := hU.below hb hU.lt
    replace hA := hA.below hb hA.lt
    replace hC := hC.below hb hC.lt
    replace hW := below_st hW hb
    have L0 := hL.cell 0
    have L1 := hL.cell 1
    have L2 := hL.cell 2
    have L3 := hL.cell 3
    have L4 := hL.cell 4
    have L5 := hL.cell 5
    have zL := hL.lt
    have X0 := hX.cell 0
    have X1 := hX.cell 1
    have X2 := hX.cell 2
    have X3 := hX.cell 3
    have zX := hX.lt
    have U0 := hU.cell 0
    have U1 := hU.cell 1
    have U2 := hU.cell 2
    have U3 := hU.cell 3
    have zU := hU.lt
    have A0 := hA.cell 0
    have A1 := hA.cell 1
    have zA := hA.lt
    have C0 := hC.cell 0
    have C1 := hC.cell 1
    have zC := hC.lt
    clear hb ML
    go_wp2_with fail
    (with_reducible refine (MU.out _).mono ?_)
    rintro e u9 ⟨rfl, hb⟩
    replace hL := hL.below hb hL.lt
    replace hX := hX.below hb hX.lt
    replace hU := hU.below hb hU.lt
    replace hA := hA.below hb hA.lt
    replace hC := hC.below hb hC.lt
    replace hW := below_st hW hb
    have L0 := hL.cell 0
    have L1 := hL.cell 1
    have L2 := hL.cell 2
    have L3 := hL.cell 3
    have L4 := hL.cell 4
    have L5 := hL.cell 5
    have zL := hL.lt
    have X0 := hX.cell 0
    have X1 := hX.cell 1
    have X2 := hX.cell 2
    have X3 := hX.cell 3
    have zX := hX.lt
    have U0 := hU.cell 0
    have U1 := hU.cell 1
    have U2 := hU.cell 2
    have U3 := hU.cell 3
    have zU := hU.lt
    have A0 := hA.cell 0
    have A1 := hA.cell 1
    have zA := hA.lt
    have C0 := hC.cell 0
    have C1 := hC.cell 1
    have zC := hC.lt
    clear hb MU
    rcases HMS.out with ⟨rfl, rfl⟩ | ⟨rfl, rfl, hk2⟩ | ⟨rfl, rfl, hk2⟩ | ⟨rfl, rfl, hk2⟩ | ⟨rfl, rfl, hk2⟩
    · go_wp2_with fail
      refine (lives_any _).mono ?_
      rintro e u10 ⟨rfl, hb⟩
      replace hW := below_st hW hb
      go_wp2
      go_ret
      exact ⟨rfl, hW⟩
    · go_wp2_with fail
      (with_reducible refine (CM.out _).mono ?_)
      rintro e u10 ⟨rfl, hb⟩
      replace hL := hL.below hb hL.lt
      replace hX := hX.below hb hX.lt
      replace hU := hU.below hb hU.lt
      replace hA := hA.below hb hA.lt
      replace hC := hC.below hb hC.lt
      replace hW := below_st hW hb
      have L0 := hL.cell 0
      have L1 := hL.cell 1
      have L2 := hL.cell 2
      have L3 := hL.cell 3
      have L4 := hL.cell 4
      have L5 := hL.cell 5
      have zL := hL.lt
      have X0 := hX.cell 0
      have X1 := hX.cell 1
      have X2 := hX.cell 2
      have X3 := hX.cell 3
      have zX := hX.lt
      have U0 := hU.cell 0
      have U1 := hU.cell 1
      have U2 := hU.cell 2
      have U3 := hU.cell 3
      have zU := hU.lt
      have A0 := hA.cell 0
      have A1 := hA.cell 1
      have zA := hA.lt
      have C0 := hC.cell 0
      have C1 := hC.cell 1
      have zC := hC.lt
      clear hb
      go_wp2_with fail
      refine (lives_any _).mono ?_
      rintro e u11 ⟨rfl, hb⟩
      replace hW := below_st hW hb
      go_wp2
      go_ret
      exact ⟨rfl, hW⟩
    · go_wp2_with fail
      (with_reducible refine (CM.out _).mono ?_)
      rintro e u10 ⟨rfl, hb⟩
      replace hL := hL.below hb hL.lt
      replace hX := hX.below hb hX.lt
      replace hU := hU.below hb hU.lt
      replace hA := hA.below hb hA.lt
      replace hC := hC.below hb hC.lt
      replace hW := below_st hW hb
      have L0 := hL.cell 0
      have L1 := hL.cell 1
      have L2 := hL.cell 2
      have L3 := hL.cell 3
      have L4 := hL.cell 4
      have L5 := hL.cell 5
      have zL := hL.lt
      have X0 := hX.cell 0
      have X1 := hX.cell 1
      have X2 := hX.cell 2
      have X3 := hX.cell 3
      have zX := hX.lt
      have U0 := hU.cell 0
      have U1 := hU.cell 1
      have U2 := hU.cell 2
      have U3 := hU.cell 3
      have zU := hU.lt
      have A0 := hA.cell 0
      have A1 := hA.cell 1
      have zA := hA.lt
      have C0 := hC.cell 0
      have C1 := hC.cell 1
      have zC := hC.lt
      clear hb
      go_wp2_with fail
      refine (lives_any _).mono ?_
      rintro e u11 ⟨rfl, hb⟩
      replace hW := below_st hW hb
      go_wp2
      go_ret
      exact ⟨rfl, hW⟩
    · go_wp2_with fail
      (with_reducible refine (CM.out _).mono ?_)
      rintro e u10 ⟨rfl, hb⟩
      replace hL := hL.below hb hL.lt
      replace hX := hX.below hb hX.lt
      replace hU := hU.below hb hU.lt
      replace hA := hA.below hb hA.lt
      replace hC := hC.below hb hC.lt
      replace hW := below_st hW hb
      have L0 := hL.cell 0
      have L1 := hL.cell 1
      have L2 := hL.cell 2
      have L3 := hL.cell 3
      have L4 := hL.cell 4
      have L5 := hL.cell 5
      have zL := hL.lt
      have X0 := hX.cell 0
      have X1 := hX.cell 1
      have X2 := hX.cell 2
      have X3 := hX.cell 3
      have zX := hX.lt
      have U0 := hU.cell 0
      have U1 := hU.cell 1
      have U2 := hU.cell 2
      have U3 := hU.cell 3
      have zU := hU.lt
      have A0 := hA.cell 0
      have A1 := hA.cell 1
      have zA := hA.lt
      have C0 := hC.cell 0
      have C1 := hC.cell 1
      have zC := hC.lt
      clear hb
      go_wp2_with fail
      refine (lives_any _).mono ?_
      rintro e u11 ⟨rfl, hb⟩
      replace hW := below_st hW hb
      go_wp2
      go_ret
      exact ⟨rfl, hW⟩
    · go_wp2_with fail
      (with_reducible refine (CM.out _).mono ?_)
      rintro e u10 ⟨rfl, hb⟩
      replace hL := hL.below hb hL.lt
      replace hX := hX.below hb hX.lt
      replace hU := hU.below hb hU.lt
      replace hA := hA.below hb hA.lt
      replace hC := hC.below hb hC.lt
      replace hW := below_st hW hb
      have L0 := hL.cell 0
      have L1 := hL.cell 1
      have L2 := hL.cell 2
      have L3 := hL.cell 3
      have L4 := hL.cell 4
      have L5 := hL.cell 5
      have zL := hL.lt
      have X0 := hX.cell 0
      have X1 := hX.cell 1
      have X2 := hX.cell 2
      have X3 := hX.cell 3
      have zX := hX.lt
      have U0 := hU.cell 0
      have U1 := hU.cell 1
      have U2 := hU.cell 2
      have U3 := hU.cell 3
      have zU := hU.lt
      have A0 := hA.cell 0
      have A1 := hA.cell 1
      have zA := hA.lt
      have C0 := hC.cell 0
      have C1 := hC.cell 1
      have zC := hC.lt
      clear hb
      go_wp2_with fail
      refine (lives_any _).mono ?_
      rintro e u11 ⟨rfl, hb⟩
      replace hW := below_st hW hb
      go_wp2
      go_ret
      exact ⟨rfl, hW⟩
  · go_wp2_with fail
    (with_reducible refine (CM.out _).mono ?_)
    rintro e u7 ⟨rfl, hb⟩
    replace hL := hL.below hb hL.lt
    replace hX := hX.below hb hX.lt
    replace hU := hU.below hb hU.lt
    replace hA := hA.below hb hA.lt
    replace hC := hC.below hb hC.lt
    replace hW := below_st hW hb
    have L0 := hL.cell 0
    have L1 := hL.cell 1
    have L2 := hL.cell 2
    have L3 := hL.cell 3
    have L4 := hL.cell 4
    have L5 := hL.cell 5
    have zL := hL.lt
    have X0 := hX.cell 0
    have X1 := hX.cell 1
    have X2 := hX.cell 2
    have X3 := hX.cell 3
    have zX := hX.lt
    have U0 := hU.cell 0
    have U1 := hU.cell 1
    have U2 := hU.cell 2
    have U3 := hU.cell 3
    have zU := hU.lt
    have A0 := hA.cell 0
    have A1 := hA.cell 1
    have zA := hA.lt
    have C0 := hC.cell 0
    have C1 := hC.cell 1
    have zC := hC.lt
    clear hb
    go_wp2_with fail
    (with_reducible refine (ML.out _).mono ?_)
    rintro e u8 ⟨rfl, hb⟩
    replace hL := hL.below hb hL.lt
    replace hX := hX.below hb hX.lt
    replace hU := hU.below hb hU.lt
    replace hA := hA.below hb hA.lt
    replace hC := hC.below hb hC.lt
    replace hW := below_st hW hb
    have L0 := hL.cell 0
    have L1 := hL.cell 1
    have L2 := hL.cell 2
    have L3 := hL.cell 3
    have L4 := hL.cell 4
    have L5 := hL.cell 5
    have zL := hL.lt
    have X0 := hX.cell 0
    have X1 := hX.cell 1
    have X2 := hX.cell 2
    have X3 := hX.cell 3
    have zX := hX.lt
    have U0 := hU.cell 0
    have U1 := hU.cell 1
    have U2 := hU.cell 2
    have U3 := hU.cell 3
    have zU := hU.lt
    have A0 := hA.cell 0
    have A1 := hA.cell 1
    have zA := hA.lt
    have C0 := hC.cell 0
    have C1 := hC.cell 1
    have zC := hC.lt
    clear hb ML
    go_wp2_with fail
    (with_reducible refine (MU.out _).mono ?_)
    rintro e u9 ⟨rfl, hb⟩
    replace hL := hL.below hb hL.lt
    replace hX := hX.below hb hX.lt
    replace hU := hU.below hb hU.lt
    replace hA := hA.below hb hA.lt
    replace hC := hC.below hb hC.lt
    replace hW := below_st hW hb
    have L0 := hL.cell 0
    have L1 := hL.cell 1
    have L2 := hL.cell 2
    have L3 := hL.cell 3
    have L4 := hL.cell 4
    have L5 := hL.cell 5
    have zL := hL.lt
    have X0 := hX.cell 0
    have X1 := hX.cell 1
    have X2 := hX.cell 2
    have X3 := hX.cell 3
    have zX := hX.lt
    have U0 := hU.cell 0
    have U1 := hU.cell 1
    have U2 := hU.cell 2
    have U3 := hU.cell 3
    have zU := hU.lt
    have A0 := hA.cell 0
    have A1 := hA.cell 1
    have zA := hA.lt
    have C0 := hC.cell 0
    have C1 := hC.cell 1
    have zC := hC.lt
    clear hb MU
    rcases HMS.out with ⟨rfl, rfl⟩ | ⟨rfl, rfl, hk2⟩ | ⟨rfl, rfl, hk2⟩ | ⟨rfl, rfl, hk2⟩ | ⟨rfl, rfl, hk2⟩
    · go_wp2_with fail
      refine (lives_any _).mono ?_
      rintro e u10 ⟨rfl, hb⟩
      replace hW := below_st hW hb
      go_wp2
      go_ret
      exact ⟨rfl, hW⟩
    · go_wp2_with fail
      (with_reducible refine (CM.out _).mono ?_)
      rintro e u10 ⟨rfl, hb⟩
      replace hL := hL.below hb hL.lt
      replace hX := hX.below hb hX.lt
      replace hU := hU.below hb hU.lt
      replace hA := hA.below hb hA.lt
      replace hC := hC.below hb hC.lt
      replace hW := below_st hW hb
      have L0 := hL.cell 0
      have L1 := hL.cell 1
      have L2 := hL.cell 2
      have L3 := hL.cell 3
      have L4 := hL.cell 4
      have L5 := hL.cell 5
      have zL := hL.lt
      have X0 := hX.cell 0
      have X1 := hX.cell 1
      have X2 := hX.cell 2
      have X3 := hX.cell 3
      have zX := hX.lt
      have U0 := hU.cell 0
      have U1 := hU.cell 1
      have U2 := hU.cell 2
      have U3 := hU.cell 3
      have zU := hU.lt
      have A0 := hA.cell 0
      have A1 := hA.cell 1
      have zA := hA.lt
      have C0 := hC.cell 0
      have C1 := hC.cell 1
      have zC := hC.lt
      clear hb
      go_wp2_with fail
      refine (lives_any _).mono ?_
      rintro e u11 ⟨rfl, hb⟩
      replace hW := below_st hW hb
      go_wp2
      go_ret
      exact ⟨rfl, hW⟩
    · exfalso; omega
    · go_wp2_with fail
      (with_reducible refine (CM.out _).mono ?_)
      rintro e u10 ⟨rfl, hb⟩
      replace hL := hL.below hb hL.lt
      replace hX := hX.below hb hX.lt
      replace hU := hU.below hb hU.lt
      replace hA := hA.below hb hA.lt
      replace hC := hC.below hb hC.lt
      replace hW := below_st hW hb
      have L0 := hL.cell 0
      have L1 := hL.cell 1
      have L2 := hL.cell 2
      have L3 := hL.cell 3
      have L4 := hL.cell 4
      have L5 := hL.cell 5
      have zL := hL.lt
      have X0 := hX.cell 0
      have X1 := hX.cell 1
      have X2 := hX.cell 2
      have X3 := hX.cell 3
      have zX := hX.lt
      have U0 := hU.cell 0
      have U1 := hU.cell 1
      have U2 := hU.cell 2
      have U3 := hU.cell 3
      have zU := hU.lt
      have A0 := hA.cell 0
      have A1 := hA.cell 1
      have zA := hA.lt
      have C0 := hC.cell 0
      have C1 := hC.cell 1
      have zC := hC.lt
      clear hb
      go_wp2_with fail
      refine (lives_any _).mono ?_
      rintro e u11 ⟨rfl, hb⟩
      replace hW := below_st hW hb
      go_wp2
      go_ret
      exact ⟨rfl, hW⟩
    · exfalso; omega
  · go_wp2_with fail
    (with_reducible refine (CM.out _).mono ?_)
    rintro e u7 ⟨rfl, hb⟩
    replace hL := hL.below hb hL.lt
    replace hX := hX.below hb hX.lt
    replace hU := hU.below hb hU.lt
    replace hA := hA.below hb hA.lt
    replace hC := hC.below hb hC.lt
    replace hW := below_st hW hb
    have L0 := hL.cell 0
    have L1 := hL.cell 1
    have L2 := hL.cell 2
    have L3 := hL.cell 3
    have L4 := hL.cell 4
    have L5 := hL.cell 5
    have zL := hL.lt
    have X0 := hX.cell 0
    have X1 := hX.cell 1
    have X2 := hX.cell 2
    have X3 := hX.cell 3
    have zX := hX.lt
    have U0 := hU.cell 0
    have U1 := hU.cell 1
    have U2 := hU.cell 2
    have U3 := hU.cell 3
    have zU := hU.lt
    have A0 := hA.cell 0
    have A1 := hA.cell 1
    have zA := hA.lt
    have C0 := hC.cell 0
    have C1 := hC.cell 1
    have zC := hC.lt
    clear hb
    go_wp2_with fail
    (with_reducible refine (ML.out _).mono ?_)
    rintro e u8 ⟨rfl, hb⟩
    replace hL := hL.below hb hL.lt
    replace hX := hX.below hb hX.lt
    replace hU := hU.below hb hU.lt
    replace hA := hA.below hb hA.lt
    replace hC := hC.below hb hC.lt
    replace hW := below_st hW hb
    have L0 := hL.cell 0
    have L1 := hL.cell 1
    have L2 := hL.cell 2
    have L3 := hL.cell 3
    have L4 := hL.cell 4
    have L5 := hL.cell 5
    have zL := hL.lt
    have X0 := hX.cell 0
    have X1 := hX.cell 1
    have X2 := hX.cell 2
    have X3 := hX.cell 3
    have zX := hX.lt
    have U0 := hU.cell 0
    have U1 := hU.cell 1
    have U2 := hU.cell 2
    have U3 := hU.cell 3
    have zU := hU.lt
    have A0 := hA.cell 0
    have A1 := hA.cell 1
    have zA := hA.lt
    have C0 := hC.cell 0
    have C1 := hC.cell 1
    have zC := hC.lt
    clear hb ML
    go_wp2_with fail
    (with_reducible refine (MU.out _).mono ?_)
    rintro e u9 ⟨rfl, hb⟩
    replace hL := hL.below hb hL.lt
    replace hX := hX.below hb hX.lt
    replace hU := hU.below hb hU.lt
    replace hA := hA.below hb hA.lt
    replace hC := hC.below hb hC.lt
    replace hW := below_st hW hb
    have L0 := hL.cell 0
    have L1 := hL.cell 1
    have L2 := hL.cell 2
    have L3 := hL.cell 3
    have L4 := hL.cell 4
    have L5 := hL.cell 5
    have zL := hL.lt
    have X0 := hX.cell 0
    have X1 := hX.cell 1
    have X2 := hX.cell 2
    have X3 := hX.cell 3
    have zX := hX.lt
    have U0 := hU.cell 0
    have U1 := hU.cell 1
    have U2 := hU.cell 2
    have U3 := hU.cell 3
    have zU := hU.lt
    have A0 := hA.cell 0
    have A1 := hA.cell 1
    have zA := hA.lt
    have C0 := hC.cell 0
    have C1 := hC.cell 1
    have zC := hC.lt
    clear hb MU
    rcases HMS.out with ⟨rfl, rfl⟩ | ⟨rfl, rfl, hk2⟩ | ⟨rfl, rfl, hk2⟩ | ⟨rfl, rfl, hk2⟩ | ⟨rfl, rfl, hk2⟩
    · go_wp2_with fail
      refine (lives_any _).mono ?_
      rintro e u10 ⟨rfl, hb⟩
      replace hW := below_st hW hb
      go_wp2
      go_ret
      exact ⟨rfl, hW⟩
    · go_wp2_with fail
      (with_reducible refine (CM.out _).mono ?_)
      rintro e u10 ⟨rfl, hb⟩
      replace hL := hL.below hb hL.lt
      replace hX := hX.below hb hX.lt
      replace hU := hU.below hb hU.lt
      replace hA := hA.below hb hA.lt
      replace hC := hC.below hb hC.lt
      replace hW := below_st hW hb
      have L0 := hL.cell 0
      have L1 := hL.cell 1
      have L2 := hL.cell 2
      have L3 := hL.cell 3
      have L4 := hL.cell 4
      have L5 := hL.cell 5
      have zL := hL.lt
      have X0 := hX.cell 0
      have X1 := hX.cell 1
      have X2 := hX.cell 2
      have X3 := hX.cell 3
      have zX := hX.lt
      have U0 := hU.cell 0
      have U1 := hU.cell 1
      have U2 := hU.cell 2
      have U3 := hU.cell 3
      have zU := hU.lt
      have A0 := hA.cell 0
      have A1 := hA.cell 1
      have zA := hA.lt
      have C0 := hC.cell 0
      have C1 := hC.cell 1
      have zC := hC.lt
      clear hb
      go_wp2_with fail
      refine (lives_any _).mono ?_
      rintro e u11 ⟨rfl, hb⟩
      replace hW := below_st hW hb
      go_wp2
      go_ret
      exact ⟨rfl, hW⟩
    · go_wp2_with fail
      (with_reducible refine (CM.out _).mono ?_)
      rintro e u10 ⟨rfl, hb⟩
      replace hL := hL.below hb hL.lt
      replace hX := hX.below hb hX.lt
      replace hU := hU.below hb hU.lt
      replace hA := hA.below hb hA.lt
      replace hC := hC.below hb hC.lt
      replace hW := below_st hW hb
      have L0 := hL.cell 0
      have L1 := hL.cell 1
      have L2 := hL.cell 2
      have L3 := hL.cell 3
      have L4 := hL.cell 4
      have L5 := hL.cell 5
      have zL := hL.lt
      have X0 := hX.cell 0
      have X1 := hX.cell 1
      have X2 := hX.cell 2
      have X3 := hX.cell 3
      have zX := hX.lt
      have U0 := hU.cell 0
      have U1 := hU.cell 1
      have U2 := hU.cell 2
      have U3 := hU.cell 3
      have zU := hU.lt
      have A0 := hA.cell 0
      have A1 := hA.cell 1
      have zA := hA.lt
      have C0 := hC.cell 0
      have C1 := hC.cell 1
      have zC := hC.lt
      clear hb
      go_wp2_with fail
      refine (lives_any _).mono ?_
      rintro e u11 ⟨rfl, hb⟩
      replace hW := below_st hW hb
      go_wp2
      go_ret
      exact ⟨rfl, hW⟩
    · go_wp2_with fail
      (with_reducible refine (CM.out _).mono ?_)
      rintro e u10 ⟨rfl, hb⟩
      replace hL := hL.below hb hL.lt
      replace hX := hX.below hb hX.lt
      replace hU := hU.below hb hU.lt
      replace hA := hA.below hb hA.lt
      replace hC := hC.below hb hC.lt
      replace hW := below_st hW hb
      have L0 := hL.cell 0
      have L1 := hL.cell 1
      have L2 := hL.cell 2
      have L3 := hL.cell 3
      have L4 := hL.cell 4
      have L5 := hL.cell 5
      have zL := hL.lt
      have X0 := hX.cell 0
      have X1 := hX.cell 1
      have X2 := hX.cell 2
      have X3 := hX.cell 3
      have zX := hX.lt
      have U0 := hU.cell 0
      have U1 := hU.cell 1
      have U2 := hU.cell 2
      have U3 := hU.cell 3
      have zU := hU.lt
      have A0 := hA.cell 0
      have A1 := hA.cell 1
      have zA := hA.lt
      have C0 := hC.cell 0
      have C1 := hC.cell 1
      have zC := hC.lt
      clear hb
      go_wp2_with fail
      refine (lives_any _).mono ?_
      rintro e u11 ⟨rfl, hb⟩
      replace hW := below_st hW hb
      go_wp2
      go_ret
      exact ⟨rfl, hW⟩
    · go_wp2_with fail
      (with_reducible refine (CM.out _).mono ?_)
      rintro e u10 ⟨rfl, hb⟩
      replace hL := hL.below hb hL.lt
      replace hX := hX.below hb hX.lt
      replace hU := hU.below hb hU.lt
      replace hA := hA.below hb hA.lt
      replace hC := hC.below hb hC.lt
      replace hW := below_st hW hb
      have L0 := hL.cell 0
      have L1 := hL.cell 1
      have L2 := hL.cell 2
      have L3 := hL.cell 3
      have L4 := hL.cell 4
      have L5 := hL.cell 5
      have zL := hL.lt
      have X0 := hX.cell 0
      have X1 := hX.cell 1
      have X2 := hX.cell 2
      have X3 := hX.cell 3
      have zX := hX.lt
      have U0 := hU.cell 0
      have U1 := hU.cell 1
      have U2 := hU.cell 2
      have U3 := hU.cell 3
      have zU := hU.lt
      have A0 := hA.cell 0
      have A1 := hA.cell 1
      have zA := hA.lt
      have C0 := hC.cell 0
      have C1 := hC.cell 1
      have zC := hC.lt
      clear hb
      go_wp2_with fail
      refine (lives_any _).mono ?_
      rintro e u11 ⟨rfl, hb⟩
      replace hW := below_st hW hb
      go_wp2
      go_ret
      exact ⟨rfl, hW⟩
  · go_wp2_with fail
    (with_reducible refine (CM.out _).mono ?_)
    rintro e u7 ⟨rfl, hb⟩
    replace hL := hL.below hb hL.lt
    replace hX := hX.below hb hX.lt
    replace hU := hU.below hb hU.lt
    replace hA := hA.below hb hA.lt
    replace hC := hC.below hb hC.lt
    replace hW := below_st hW hb
    have L0 := hL.cell 0
    have L1 := hL.cell 1
    have L2 := hL.cell 2
    have L3 := hL.cell 3
    have L4 := hL.cell 4
    have L5 := hL.cell 5
    have zL := hL.lt
    have X0 := hX.cell 0
    have X1 := hX.cell 1
    have X2 := hX.cell 2
    have X3 := hX.cell 3
    have zX := hX.lt
    have U0 := hU.cell 0
    have U1 := hU.cell 1
    have U2 := hU.cell 2
    have U3 := hU.cell 3
    have zU := hU.lt
    have A0 := hA.cell 0
    have A1 := hA.cell 1
    have zA := hA.lt
    have C0 := hC.cell 0
    have C1 := hC.cell 1
    have zC := hC.lt
    clear hb
    go_wp2_with fail
    (with_reducible refine (ML.out _).mono ?_)
    rintro e u8 ⟨rfl, hb⟩
    replace hL := hL.below hb hL.lt
    replace hX := hX.below hb hX.lt
    replace hU := hU.below hb hU.lt
    replace hA := hA.below hb hA.lt
    replace hC := hC.below hb hC.lt
    replace hW := below_st hW hb
    have L0 := hL.cell 0
    have L1 := hL.cell 1
    have L2 := hL.cell 2
    have L3 := hL.cell 3
    have L4 := hL.cell 4
    have L5 := hL.cell 5
    have zL := hL.lt
    have X0 := hX.cell 0
    have X1 := hX.cell 1
    have X2 := hX.cell 2
    have X3 := hX.cell 3
    have zX := hX.lt
    have U0 := hU.cell 0
    have U1 := hU.cell 1
    have U2 := hU.cell 2
    have U3 := hU.cell 3
    have zU := hU.lt
    have A0 := hA.cell 0
    have A1 := hA.cell 1
    have zA := hA.lt
    have C0 := hC.cell 0
    have C1 := hC.cell 1
    have zC := hC.lt
    clear hb ML
    go_wp2_with fail
    (with_reducible refine (MU.out _).mono ?_)
    rintro e u9 ⟨rfl, hb⟩
    replace hL := hL.below hb hL.lt
    replace hX := hX.below hb hX.lt
    replace hU := hU.below hb hU.lt
    replace hA := hA.below hb hA.lt
    replace hC := hC.below hb hC.lt
    replace hW := below_st hW hb
    have L0 := hL.cell 0
    have L1 := hL.cell 1
    have L2 := hL.cell 2
    have L3 := hL.cell 3
    have L4 := hL.cell 4
    have L5 := hL.cell 5
    have zL := hL.lt
    have X0 := hX.cell 0
    have X1 := hX.cell 1
    have X2 := hX.cell 2
    have X3 := hX.cell 3
    have zX := hX.lt
    have U0 := hU.cell 0
    have U1 := hU.cell 1
    have U2 := hU.cell 2
    have U3 := hU.cell 3
    have zU := hU.lt
    have A0 := hA.cell 0
    have A1 := hA.cell 1
    have zA := hA.lt
    have C0 := hC.cell 0
    have C1 := hC.cell 1
    have zC := hC.lt
    clear hb MU
    rcases HMS.out with ⟨rfl, rfl⟩ | ⟨rfl, rfl, hk2⟩ | ⟨rfl, rfl, hk2⟩ | ⟨rfl, rfl, hk2⟩ | ⟨rfl, rfl, hk2⟩
    · go_wp2_with fail
      refine (lives_any _).mono ?_
      rintro e u10 ⟨rfl, hb⟩
      replace hW := below_st hW hb
      go_wp2
      go_ret
      exact ⟨rfl, hW⟩
    · go_wp2_with fail
      (with_reducible refine (CM.out _).mono ?_)
      rintro e u10 ⟨rfl, hb⟩
      replace hL := hL.below hb hL.lt
      replace hX := hX.below hb hX.lt
      replace hU := hU.below hb hU.lt
      replace hA := hA.below hb hA.lt
      replace hC := hC.below hb hC.lt
      replace hW := below_st hW hb
      have L0 := hL.cell 0
      have L1 := hL.cell 1
      have L2 := hL.cell 2
      have L3 := hL.cell 3
      have L4 := hL.cell 4
      have L5 := hL.cell 5
      have zL := hL.lt
      have X0 := hX.cell 0
      have X1 := hX.cell 1
      have X2 := hX.cell 2
      have X3 := hX.cell 3
      have zX := hX.lt
      have U0 := hU.cell 0
      have U1 := hU.cell 1
      have U2 := hU.cell 2
      have U3 := hU.cell 3
      have zU := hU.lt
      have A0 := hA.cell 0
      have A1 := hA.cell 1
      have zA := hA.lt
      have C0 := hC.cell 0
      have C1 := hC.cell 1
      have zC := hC.lt
      clear hb
      go_wp2_with fail
      refine (lives_any _).mono ?_
      rintro e u11 ⟨rfl, hb⟩
      replace hW := below_st hW hb
      go_wp2
      go_ret
      exact ⟨rfl, hW⟩
    · exfalso; omega
    · go_wp2_with fail
      (with_reducible refine (CM.out _).mono ?_)
      rintro e u10 ⟨rfl, hb⟩
      replace hL := hL.below hb hL.lt
      replace hX := hX.below hb hX.lt
      replace hU := hU.below hb hU.lt
      replace hA := hA.below hb hA.lt
      replace hC := hC.below hb hC.lt
      replace hW := below_st hW hb
      have L0 := hL.cell 0
      have L1 := hL.cell 1
      have L2 := hL.cell 2
      have L3 := hL.cell 3
      have L4 := hL.cell 4
      have L5 := hL.cell 5
      have zL := hL.lt
      have X0 := hX.cell 0
      have X1 := hX.cell 1
      have X2 := hX.cell 2
      have X3 := hX.cell 3
      have zX := hX.lt
      have U0 := hU.cell 0
      have U1 := hU.cell 1
      have U2 := hU.cell 2
      have U3 := hU.cell 3
      have zU := hU.lt
      have A0 := hA.cell 0
      have A1 := hA.cell 1
      have zA := hA.lt
      have C0 := hC.cell 0
      have C1 := hC.cell 1
      have zC := hC.lt
      clear hb
      go_wp2_with fail
      refine (lives_any _).mono ?_
      rintro e u11 ⟨rfl, hb⟩
      replace hW := below_st hW hb
      go_wp2
      go_ret
      exact ⟨rfl, hW⟩
    · exfalso; omega
end Go.Proofs.Ytkdbffhmnkkbcaa
