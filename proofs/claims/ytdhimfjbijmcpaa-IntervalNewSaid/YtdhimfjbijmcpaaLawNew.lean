/- The law IntervalNew holds. Conditions: numbers of 64 bits. -/
import Derived.Test.YtdhimfjbijmcpaaLives4
namespace Go.Proofs.Ytdhimfjbijmcpaa
open Go.RowKit

set_option maxRecDepth 100000 in
set_option maxHeartbeats 8000000 in
theorem law_new2 {a b c d : Int} (h : W2 a b) (k : W2 c d) (p : vI a b c d) (w : World) :
    Calls Try.prog 3 #[.agg #[.int .i64 a, .int .i64 b], .agg #[.int .i64 c, .int .i64 d]] w fun e w' => e = .returned (.bool true) ∧ Below w.heap.size w w' := by
  have NE := inew_w h k
  have JV := jvalid_w h k
  have IV := ivalid_w h k
  have RA := rvalid_w h
  have PT := ipoint_w h
  have q : vP a b := p.1.1
  rw [show vIB a b c d = true from decide_eq_true p] at JV IV
  rw [show vB a b = true from decide_eq_true q] at RA
  rw [show newI a b c d = (a, b, c, d, 0) from if_pos p] at NE
  rw [show ptI a b = (a, b, a, b) from if_pos q] at PT
  unfold RI at NE
  simp only at NE PT
  obtain ⟨hA, hC, hW⟩ := start2 w 23 #[.int .i64 a, .int .i64 b] 23 #[.int .i64 c, .int .i64 d]
  clear p q h k
  replace NE := Lib.hid NE
  replace JV := Lib.hid JV
  replace IV := Lib.hid IV
  replace RA := Lib.hid RA
  replace PT := Lib.hid PT
  have cA0 := hA.cell 0
  have cA1 := hA.cell 1
  have zA := hA.lt
  have cC0 := hC.cell 0
  have cC1 := hC.cell 1
  have zC := hC.lt
  go_enter Try.func3, Try.ntmps3
  go_wp2_with fail
  (with_reducible refine (NE.out  _).mono ?_)
  rintro e w1 ⟨rfl, hB⟩
  replace hA := hA.below hB hA.lt
  replace hC := hC.below hB hC.lt
  replace hW := below_st hW hB
  clear hB
  clear cA0 cA1 zA cC0 cC1 zC
  have cA0 := hA.cell 0
  have cA1 := hA.cell 1
  have zA := hA.lt
  have cC0 := hC.cell 0
  have cC1 := hC.cell 1
  have zC := hC.lt
  go_wp2_with fail
  clear cA0 cA1 zA cC0 cC1 zC
  have nA := hA.lt
  have nC := hC.lt
  have nW := hW.size
  replace hA := hA.alloc (.cells #[.int .i64 a, .int .i64 b, .int .i64 c, .int .i64 d] 25)
  replace hC := hC.alloc (.cells #[.int .i64 a, .int .i64 b, .int .i64 c, .int .i64 d] 25)
  replace hA := hA.alloc (.cells #[.int .i64 a, .int .i64 b, .int .i64 c, .int .i64 d] 25)
  replace hC := hC.alloc (.cells #[.int .i64 a, .int .i64 b, .int .i64 c, .int .i64 d] 25)
  replace hA := hA.alloc (.cells #[.int .i64 0, .int .i64 0, .int .i64 0, .int .i64 0] 25)
  replace hC := hC.alloc (.cells #[.int .i64 0, .int .i64 0, .int .i64 0, .int .i64 0] 25)
  replace hA := hA.alloc (.cells #[.int .i64 0, .int .i64 0, .int .i64 0, .int .i64 0] 25)
  replace hC := hC.alloc (.cells #[.int .i64 0, .int .i64 0, .int .i64 0, .int .i64 0] 25)
  obtain ⟨hX, hR, hN, hT, hB⟩ := start4 w1 25 #[.int .i64 a, .int .i64 b, .int .i64 c, .int .i64 d] 25 #[.int .i64 a, .int .i64 b, .int .i64 c, .int .i64 d] 25 #[.int .i64 0, .int .i64 0, .int .i64 0, .int .i64 0] 25 #[.int .i64 0, .int .i64 0, .int .i64 0, .int .i64 0]
  replace hW := below_st hW hB
  clear hB
  (with_reducible refine (JV.out _).mono ?_)
  rintro e w2 ⟨rfl, hB⟩
  replace hA := hA.below hB hA.lt
  replace hC := hC.below hB hC.lt
  replace hX := hX.below hB hX.lt
  replace hR := hR.below hB hR.lt
  replace hN := hN.below hB hN.lt
  replace hT := hT.below hB hT.lt
  replace hW := below_st hW hB
  clear hB
  have cA0 := hA.cell 0
  have cA1 := hA.cell 1
  have zA := hA.lt
  have cC0 := hC.cell 0
  have cC1 := hC.cell 1
  have zC := hC.lt
  have cX0 := hX.cell 0
  have cX1 := hX.cell 1
  have cX2 := hX.cell 2
  have cX3 := hX.cell 3
  have zX := hX.lt
  have cR0 := hR.cell 0
  have cR1 := hR.cell 1
  have cR2 := hR.cell 2
  have cR3 := hR.cell 3
  have zR := hR.lt
  have cN0 := hN.cell 0
  have cN1 := hN.cell 1
  have cN2 := hN.cell 2
  have cN3 := hN.cell 3
  have zN := hN.lt
  have cT0 := hT.cell 0
  have cT1 := hT.cell 1
  have cT2 := hT.cell 2
  have cT3 := hT.cell 3
  have zT := hT.lt
  have fN := hN.frozen
  have nhA : ¬ w.heap.size = w1.heap.size + 1 + 1 := by omega
  have khA : ¬ w1.heap.size + 1 + 1 = w.heap.size := by omega
  have nhC : ¬ w.heap.size + 1 = w1.heap.size + 1 + 1 := by omega
  have khC : ¬ w1.heap.size + 1 + 1 = w.heap.size + 1 := by omega
  have nhX : ¬ w1.heap.size = w1.heap.size + 1 + 1 := by omega
  have khX : ¬ w1.heap.size + 1 + 1 = w1.heap.size := by omega
  have nhR : ¬ w1.heap.size + 1 = w1.heap.size + 1 + 1 := by omega
  have khR : ¬ w1.heap.size + 1 + 1 = w1.heap.size + 1 := by omega
  have nhT : ¬ w1.heap.size + 1 + 1 + 1 = w1.heap.size + 1 + 1 := by omega
  have khT : ¬ w1.heap.size + 1 + 1 = w1.heap.size + 1 + 1 + 1 := by omega
  go_wp2_with fail
  replace hA := ((((hA.far (p := ⟨w1.heap.size + 1 + 1, 0, none⟩) (by show ¬ w.heap.size = w1.heap.size + 1 + 1; omega) (.int .i64 a)).far (p := ⟨w1.heap.size + 1 + 1, 1, none⟩) (by show ¬ w.heap.size = w1.heap.size + 1 + 1; omega) (.int .i64 b)).far (p := ⟨w1.heap.size + 1 + 1, 2, none⟩) (by show ¬ w.heap.size = w1.heap.size + 1 + 1; omega) (.int .i64 c)).far (p := ⟨w1.heap.size + 1 + 1, 3, none⟩) (by show ¬ w.heap.size = w1.heap.size + 1 + 1; omega) (.int .i64 d))
  replace hC := ((((hC.far (p := ⟨w1.heap.size + 1 + 1, 0, none⟩) (by show ¬ w.heap.size + 1 = w1.heap.size + 1 + 1; omega) (.int .i64 a)).far (p := ⟨w1.heap.size + 1 + 1, 1, none⟩) (by show ¬ w.heap.size + 1 = w1.heap.size + 1 + 1; omega) (.int .i64 b)).far (p := ⟨w1.heap.size + 1 + 1, 2, none⟩) (by show ¬ w.heap.size + 1 = w1.heap.size + 1 + 1; omega) (.int .i64 c)).far (p := ⟨w1.heap.size + 1 + 1, 3, none⟩) (by show ¬ w.heap.size + 1 = w1.heap.size + 1 + 1; omega) (.int .i64 d))
  replace hX := ((((hX.far (p := ⟨w1.heap.size + 1 + 1, 0, none⟩) (by show ¬ w1.heap.size = w1.heap.size + 1 + 1; omega) (.int .i64 a)).far (p := ⟨w1.heap.size + 1 + 1, 1, none⟩) (by show ¬ w1.heap.size = w1.heap.size + 1 + 1; omega) (.int .i64 b)).far (p := ⟨w1.heap.size + 1 + 1, 2, none⟩) (by show ¬ w1.heap.size = w1.heap.size + 1 + 1; omega) (.int .i64 c)).far (p := ⟨w1.heap.size + 1 + 1, 3, none⟩) (by show ¬ w1.heap.size = w1.heap.size + 1 + 1; omega) (.int .i64 d))
  replace hR := ((((hR.far (p := ⟨w1.heap.size + 1 + 1, 0, none⟩) (by show ¬ w1.heap.size + 1 = w1.heap.size + 1 + 1; omega) (.int .i64 a)).far (p := ⟨w1.heap.size + 1 + 1, 1, none⟩) (by show ¬ w1.heap.size + 1 = w1.heap.size + 1 + 1; omega) (.int .i64 b)).far (p := ⟨w1.heap.size + 1 + 1, 2, none⟩) (by show ¬ w1.heap.size + 1 = w1.heap.size + 1 + 1; omega) (.int .i64 c)).far (p := ⟨w1.heap.size + 1 + 1, 3, none⟩) (by show ¬ w1.heap.size + 1 = w1.heap.size + 1 + 1; omega) (.int .i64 d))
  replace hT := ((((hT.far (p := ⟨w1.heap.size + 1 + 1, 0, none⟩) (by show ¬ w1.heap.size + 1 + 1 + 1 = w1.heap.size + 1 + 1; omega) (.int .i64 a)).far (p := ⟨w1.heap.size + 1 + 1, 1, none⟩) (by show ¬ w1.heap.size + 1 + 1 + 1 = w1.heap.size + 1 + 1; omega) (.int .i64 b)).far (p := ⟨w1.heap.size + 1 + 1, 2, none⟩) (by show ¬ w1.heap.size + 1 + 1 + 1 = w1.heap.size + 1 + 1; omega) (.int .i64 c)).far (p := ⟨w1.heap.size + 1 + 1, 3, none⟩) (by show ¬ w1.heap.size + 1 + 1 + 1 = w1.heap.size + 1 + 1; omega) (.int .i64 d))
  have hx := put4 hN hW (by omega) a b c d
  replace hN := hx.1
  replace hW := hx.2
  clear hx fN nhA khA nhC khC nhX khX nhR khR nhT khT
  clear cA0 cA1 zA cC0 cC1 zC cX0 cX1 cX2 cX3 zX cR0 cR1 cR2 cR3 zR cN0 cN1 cN2 cN3 zN cT0 cT1 cT2 cT3 zT
  obtain ⟨w0, hw0⟩ : ∃ w0 : World, ((((w2.setCell ⟨w1.heap.size + 1 + 1, 0, none⟩ (.int .i64 a)).setCell ⟨w1.heap.size + 1 + 1, 1, none⟩ (.int .i64 b)).setCell ⟨w1.heap.size + 1 + 1, 2, none⟩ (.int .i64 c)).setCell ⟨w1.heap.size + 1 + 1, 3, none⟩ (.int .i64 d)) = w0 := ⟨_, rfl⟩
  rw [hw0] at hA hC hX hR hN hT hW ⊢
  clear hw0
  have cA0 := hA.cell 0
  have cA1 := hA.cell 1
  have zA := hA.lt
  have cC0 := hC.cell 0
  have cC1 := hC.cell 1
  have zC := hC.lt
  have cX0 := hX.cell 0
  have cX1 := hX.cell 1
  have cX2 := hX.cell 2
  have cX3 := hX.cell 3
  have zX := hX.lt
  have cR0 := hR.cell 0
  have cR1 := hR.cell 1
  have cR2 := hR.cell 2
  have cR3 := hR.cell 3
  have zR := hR.lt
  have cN0 := hN.cell 0
  have cN1 := hN.cell 1
  have cN2 := hN.cell 2
  have cN3 := hN.cell 3
  have zN := hN.lt
  have cT0 := hT.cell 0
  have cT1 := hT.cell 1
  have cT2 := hT.cell 2
  have cT3 := hT.cell 3
  have zT := hT.lt
  go_wp2_with fail
  (with_reducible refine (RA.out  _).mono ?_)
  rintro e w3 ⟨rfl, hB⟩
  replace hA := hA.below hB hA.lt
  replace hC := hC.below hB hC.lt
  replace hX := hX.below hB hX.lt
  replace hR := hR.below hB hR.lt
  replace hN := hN.below hB hN.lt
  replace hT := hT.below hB hT.lt
  replace hW := below_st hW hB
  clear hB
  clear cA0 cA1 zA cC0 cC1 zC cX0 cX1 cX2 cX3 zX cR0 cR1 cR2 cR3 zR cN0 cN1 cN2 cN3 zN cT0 cT1 cT2 cT3 zT
  have cA0 := hA.cell 0
  have cA1 := hA.cell 1
  have zA := hA.lt
  have cC0 := hC.cell 0
  have cC1 := hC.cell 1
  have zC := hC.lt
  have cX0 := hX.cell 0
  have cX1 := hX.cell 1
  have cX2 := hX.cell 2
  have cX3 := hX.cell 3
  have zX := hX.lt
  have cR0 := hR.cell 0
  have cR1 := hR.cell 1
  have cR2 := hR.cell 2
  have cR3 := hR.cell 3
  have zR := hR.lt
  have cN0 := hN.cell 0
  have cN1 := hN.cell 1
  have cN2 := hN.cell 2
  have cN3 := hN.cell 3
  have zN := hN.lt
  have cT0 := hT.cell 0
  have cT1 := hT.cell 1
  have cT2 := hT.cell 2
  have cT3 := hT.cell 3
  have zT := hT.lt
  have fT := hT.frozen
  have nhA : ¬ w.heap.size = w1.heap.size + 1 + 1 + 1 := by omega
  have khA : ¬ w1.heap.size + 1 + 1 + 1 = w.heap.size := by omega
  have nhC : ¬ w.heap.size + 1 = w1.heap.size + 1 + 1 + 1 := by omega
  have khC : ¬ w1.heap.size + 1 + 1 + 1 = w.heap.size + 1 := by omega
  have nhX : ¬ w1.heap.size = w1.heap.size + 1 + 1 + 1 := by omega
  have khX : ¬ w1.heap.size + 1 + 1 + 1 = w1.heap.size := by omega
  have nhR : ¬ w1.heap.size + 1 = w1.heap.size + 1 + 1 + 1 := by omega
  have khR : ¬ w1.heap.size + 1 + 1 + 1 = w1.heap.size + 1 := by omega
  have nhN : ¬ w1.heap.size + 1 + 1 = w1.heap.size + 1 + 1 + 1 := by omega
  have khN : ¬ w1.heap.size + 1 + 1 + 1 = w1.heap.size + 1 + 1 := by omega
  go_wp2_with fail
  replace hA := ((((hA.far (p := ⟨w1.heap.size + 1 + 1 + 1, 0, none⟩) (by show ¬ w.heap.size = w1.heap.size + 1 + 1 + 1; omega) (.int .i64 a)).far (p := ⟨w1.heap.size + 1 + 1 + 1, 1, none⟩) (by show ¬ w.heap.size = w1.heap.size + 1 + 1 + 1; omega) (.int .i64 b)).far (p := ⟨w1.heap.size + 1 + 1 + 1, 2, none⟩) (by show ¬ w.heap.size = w1.heap.size + 1 + 1 + 1; omega) (.int .i64 a)).far (p := ⟨w1.heap.size + 1 + 1 + 1, 3, none⟩) (by show ¬ w.heap.size = w1.heap.size + 1 + 1 + 1; omega) (.int .i64 b))
  replace hC := ((((hC.far (p := ⟨w1.heap.size + 1 + 1 + 1, 0, none⟩) (by show ¬ w.heap.size + 1 = w1.heap.size + 1 + 1 + 1; omega) (.int .i64 a)).far (p := ⟨w1.heap.size + 1 + 1 + 1, 1, none⟩) (by show ¬ w.heap.size + 1 = w1.heap.size + 1 + 1 + 1; omega) (.int .i64 b)).far (p := ⟨w1.heap.size + 1 + 1 + 1, 2, none⟩) (by show ¬ w.heap.size + 1 = w1.heap.size + 1 + 1 + 1; omega) (.int .i64 a)).far (p := ⟨w1.heap.size + 1 + 1 + 1, 3, none⟩) (by show ¬ w.heap.size + 1 = w1.heap.size + 1 + 1 + 1; omega) (.int .i64 b))
  replace hX := ((((hX.far (p := ⟨w1.heap.size + 1 + 1 + 1, 0, none⟩) (by show ¬ w1.heap.size = w1.heap.size + 1 + 1 + 1; omega) (.int .i64 a)).far (p := ⟨w1.heap.size + 1 + 1 + 1, 1, none⟩) (by show ¬ w1.heap.size = w1.heap.size + 1 + 1 + 1; omega) (.int .i64 b)).far (p := ⟨w1.heap.size + 1 + 1 + 1, 2, none⟩) (by show ¬ w1.heap.size = w1.heap.size + 1 + 1 + 1; omega) (.int .i64 a)).far (p := ⟨w1.heap.size + 1 + 1 + 1, 3, none⟩) (by show ¬ w1.heap.size = w1.heap.size + 1 + 1 + 1; omega) (.int .i64 b))
  replace hR := ((((hR.far (p := ⟨w1.heap.size + 1 + 1 + 1, 0, none⟩) (by show ¬ w1.heap.size + 1 = w1.heap.size + 1 + 1 + 1; omega) (.int .i64 a)).far (p := ⟨w1.heap.size + 1 + 1 + 1, 1, none⟩) (by show ¬ w1.heap.size + 1 = w1.heap.size + 1 + 1 + 1; omega) (.int .i64 b)).far (p := ⟨w1.heap.size + 1 + 1 + 1, 2, none⟩) (by show ¬ w1.heap.size + 1 = w1.heap.size + 1 + 1 + 1; omega) (.int .i64 a)).far (p := ⟨w1.heap.size + 1 + 1 + 1, 3, none⟩) (by show ¬ w1.heap.size + 1 = w1.heap.size + 1 + 1 + 1; omega) (.int .i64 b))
  replace hN := ((((hN.far (p := ⟨w1.heap.size + 1 + 1 + 1, 0, none⟩) (by show ¬ w1.heap.size + 1 + 1 = w1.heap.size + 1 + 1 + 1; omega) (.int .i64 a)).far (p := ⟨w1.heap.size + 1 + 1 + 1, 1, none⟩) (by show ¬ w1.heap.size + 1 + 1 = w1.heap.size + 1 + 1 + 1; omega) (.int .i64 b)).far (p := ⟨w1.heap.size + 1 + 1 + 1, 2, none⟩) (by show ¬ w1.heap.size + 1 + 1 = w1.heap.size + 1 + 1 + 1; omega) (.int .i64 a)).far (p := ⟨w1.heap.size + 1 + 1 + 1, 3, none⟩) (by show ¬ w1.heap.size + 1 + 1 = w1.heap.size + 1 + 1 + 1; omega) (.int .i64 b))
  have hx := put4 hT hW (by omega) a b a b
  replace hT := hx.1
  replace hW := hx.2
  clear hx fT nhA khA nhC khC nhX khX nhR khR nhN khN
  clear cA0 cA1 zA cC0 cC1 zC cX0 cX1 cX2 cX3 zX cR0 cR1 cR2 cR3 zR cN0 cN1 cN2 cN3 zN cT0 cT1 cT2 cT3 zT
  obtain ⟨w0, hw0⟩ : ∃ w0 : World, ((((w3.setCell ⟨w1.heap.size + 1 + 1 + 1, 0, none⟩ (.int .i64 a)).setCell ⟨w1.heap.size + 1 + 1 + 1, 1, none⟩ (.int .i64 b)).setCell ⟨w1.heap.size + 1 + 1 + 1, 2, none⟩ (.int .i64 a)).setCell ⟨w1.heap.size + 1 + 1 + 1, 3, none⟩ (.int .i64 b)) = w0 := ⟨_, rfl⟩
  rw [hw0] at hA hC hX hR hN hT hW ⊢
  clear hw0
  have keep : ∀ W : World, Below w0.heap.size w0 W → W.cell? ⟨w1.heap.size, 0, none⟩ = some (.int .i64 a) ∧ W.cell? ⟨w1.heap.size, 1, none⟩ = some (.int .i64 b) ∧ W.cell? ⟨w1.heap.size, 2, none⟩ = some (.int .i64 c) ∧ W.cell? ⟨w1.heap.size, 3, none⟩ = some (.int .i64 d) ∧ W.cell? ⟨w1.heap.size + 1, 0, none⟩ = some (.int .i64 a) ∧ W.cell? ⟨w1.heap.size + 1, 1, none⟩ = some (.int .i64 b) ∧ W.cell? ⟨w1.heap.size + 1, 2, none⟩ = some (.int .i64 c) ∧ W.cell? ⟨w1.heap.size + 1, 3, none⟩ = some (.int .i64 d) ∧ W.cell? ⟨w1.heap.size + 1 + 1, 0, none⟩ = some (.int .i64 a) ∧ W.cell? ⟨w1.heap.size + 1 + 1, 1, none⟩ = some (.int .i64 b) ∧ W.cell? ⟨w1.heap.size + 1 + 1, 2, none⟩ = some (.int .i64 c) ∧ W.cell? ⟨w1.heap.size + 1 + 1, 3, none⟩ = some (.int .i64 d) ∧ W.cell? ⟨w1.heap.size + 1 + 1 + 1, 0, none⟩ = some (.int .i64 a) ∧ W.cell? ⟨w1.heap.size + 1 + 1 + 1, 1, none⟩ = some (.int .i64 b) ∧ W.cell? ⟨w1.heap.size + 1 + 1 + 1, 2, none⟩ = some (.int .i64 a) ∧ W.cell? ⟨w1.heap.size + 1 + 1 + 1, 3, none⟩ = some (.int .i64 b) ∧ W.cell? ⟨w.heap.size, 0, none⟩ = some (.int .i64 a) ∧ W.cell? ⟨w.heap.size, 1, none⟩ = some (.int .i64 b) := fun W hB =>
    ⟨(hX.below hB hX.lt).cell 0, (hX.below hB hX.lt).cell 1, (hX.below hB hX.lt).cell 2, (hX.below hB hX.lt).cell 3, (hR.below hB hR.lt).cell 0, (hR.below hB hR.lt).cell 1, (hR.below hB hR.lt).cell 2, (hR.below hB hR.lt).cell 3, (hN.below hB hN.lt).cell 0, (hN.below hB hN.lt).cell 1, (hN.below hB hN.lt).cell 2, (hN.below hB hN.lt).cell 3, (hT.below hB hT.lt).cell 0, (hT.below hB hT.lt).cell 1, (hT.below hB hT.lt).cell 2, (hT.below hB hT.lt).cell 3, (hA.below hB hA.lt).cell 0, (hA.below hB hA.lt).cell 1⟩
  have IV2 := fun (W : World) (hB : Below w0.heap.size w0 W) => (IV.out W).mono fun e w' (h : _ ∧ _) => (⟨h.1, below_step hB h.2⟩ : _ ∧ Below w0.heap.size w0 w')
  replace IV2 := Lib.hid IV2
  have PT2 := fun (W : World) (hB : Below w0.heap.size w0 W) => (PT.out W).mono fun e w' (h : _ ∧ _) => (⟨h.1, below_step hB h.2⟩ : _ ∧ Below w0.heap.size w0 w')
  replace PT2 := Lib.hid PT2
  have LV2 := fun (W : World) (hB : Below w0.heap.size w0 W) => (lives_any W).mono fun e w' (h : _ ∧ _) => (⟨h.1, below_step hB h.2⟩ : _ ∧ Below w0.heap.size w0 w')
  replace LV2 := Lib.hid LV2
  have h00 := Below.refl w0.heap.size w0
  have h0d : Below w0.heap.size w0 w0.drew := h00.drew
  obtain ⟨c0, c1, c2, c3, c4, c5, c6, c7, c8, c9, c10, c11, c12, c13, c14, c15, c16, c17⟩ := keep w0 h00
  have HW := Lib.hid hW
  have Keep := Lib.hid keep
  clear keep hW hA hC hX hR hN hT NE JV IV RA PT nA nC nW
  go_region_held3 (fun W => W.cell? ⟨w1.heap.size, 0, none⟩ = some (.int .i64 a) ∧ W.cell? ⟨w1.heap.size, 1, none⟩ = some (.int .i64 b) ∧ W.cell? ⟨w1.heap.size, 2, none⟩ = some (.int .i64 c) ∧ W.cell? ⟨w1.heap.size, 3, none⟩ = some (.int .i64 d) ∧ W.cell? ⟨w1.heap.size + 1, 0, none⟩ = some (.int .i64 a) ∧ W.cell? ⟨w1.heap.size + 1, 1, none⟩ = some (.int .i64 b) ∧ W.cell? ⟨w1.heap.size + 1, 2, none⟩ = some (.int .i64 c) ∧ W.cell? ⟨w1.heap.size + 1, 3, none⟩ = some (.int .i64 d) ∧ W.cell? ⟨w1.heap.size + 1 + 1, 0, none⟩ = some (.int .i64 a) ∧ W.cell? ⟨w1.heap.size + 1 + 1, 1, none⟩ = some (.int .i64 b) ∧ W.cell? ⟨w1.heap.size + 1 + 1, 2, none⟩ = some (.int .i64 c) ∧ W.cell? ⟨w1.heap.size + 1 + 1, 3, none⟩ = some (.int .i64 d) ∧ W.cell? ⟨w1.heap.size + 1 + 1 + 1, 0, none⟩ = some (.int .i64 a) ∧ W.cell? ⟨w1.heap.size + 1 + 1 + 1, 1, none⟩ = some (.int .i64 b) ∧ W.cell? ⟨w1.heap.size + 1 + 1 + 1, 2, none⟩ = some (.int .i64 a) ∧ W.cell? ⟨w1.heap.size + 1 + 1 + 1, 3, none⟩ = some (.int .i64 b) ∧ W.cell? ⟨w.heap.size, 0, none⟩ = some (.int .i64 a) ∧ W.cell? ⟨w.heap.size, 1, none⟩ = some (.int .i64 b)) (exact Keep.out _ (by with_reducible assumption))
    (first | (go_at_call 16; (with_reducible refine (IV2.out _ (by with_reducible assumption)).mono ?_); rintro e w' ⟨rfl, hb⟩; obtain ⟨c0, c1, c2, c3, c4, c5, c6, c7, c8, c9, c10, c11, c12, c13, c14, c15, c16, c17⟩ := Keep.out _ hb) |
      (go_at_call 17; (with_reducible refine (PT2.out _ (by with_reducible assumption)).mono ?_); rintro e w' ⟨rfl, hb⟩; obtain ⟨c0, c1, c2, c3, c4, c5, c6, c7, c8, c9, c10, c11, c12, c13, c14, c15, c16, c17⟩ := Keep.out _ hb) |
      (go_at_call 18; (with_reducible refine (LV2.out _ (by with_reducible assumption)).mono ?_); rintro e w' ⟨rfl, hb⟩; obtain ⟨c0, c1, c2, c3, c4, c5, c6, c7, c8, c9, c10, c11, c12, c13, c14, c15, c16, c17⟩ := Keep.out _ hb))
  all_goals
    go_wp2
    go_ret
    exact ⟨rfl, below_st HW.out (by with_reducible assumption)⟩
set_option maxRecDepth 100000 in
set_option maxHeartbeats 8000000 in
theorem law_new1 {a b c d : Int} (h : W2 a b) (k : W2 c d) (p : ¬ vI a b c d) (q : vP a b) (w : World) :
    Calls Try.prog 3 #[.agg #[.int .i64 a, .int .i64 b], .agg #[.int .i64 c, .int .i64 d]] w fun e w' => e = .returned (.bool true) ∧ Below w.heap.size w w' := by
  have NE := inew_w h k
  have JV := jvalid_w h k
  have IV := ivalid_w h k
  have RA := rvalid_w h
  have PT := ipoint_w h
  rw [show vIB a b c d = false from decide_eq_false p] at JV IV
  rw [show vB a b = true from decide_eq_true q] at RA
  rw [show newI a b c d = (0, 0, 0, 0, 1) from if_neg p] at NE
  rw [show ptI a b = (a, b, a, b) from if_pos q] at PT
  unfold RI at NE
  simp only at NE PT
  obtain ⟨hA, hC, hW⟩ := start2 w 23 #[.int .i64 a, .int .i64 b] 23 #[.int .i64 c, .int .i64 d]
  clear p q h k
  replace NE := Lib.hid NE
  replace JV := Lib.hid JV
  replace IV := Lib.hid IV
  replace RA := Lib.hid RA
  replace PT := Lib.hid PT
  have cA0 := hA.cell 0
  have cA1 := hA.cell 1
  have zA := hA.lt
  have cC0 := hC.cell 0
  have cC1 := hC.cell 1
  have zC := hC.lt
  go_enter Try.func3, Try.ntmps3
  go_wp2_with fail
  (with_reducible refine (NE.out  _).mono ?_)
  rintro e w1 ⟨rfl, hB⟩
  replace hA := hA.below hB hA.lt
  replace hC := hC.below hB hC.lt
  replace hW := below_st hW hB
  clear hB
  clear cA0 cA1 zA cC0 cC1 zC
  have cA0 := hA.cell 0
  have cA1 := hA.cell 1
  have zA := hA.lt
  have cC0 := hC.cell 0
  have cC1 := hC.cell 1
  have zC := hC.lt
  go_wp2_with fail
  clear cA0 cA1 zA cC0 cC1 zC
  have nA := hA.lt
  have nC := hC.lt
  have nW := hW.size
  replace hA := hA.alloc (.cells #[.int .i64 0, .int .i64 0, .int .i64 0, .int .i64 0] 25)
  replace hC := hC.alloc (.cells #[.int .i64 0, .int .i64 0, .int .i64 0, .int .i64 0] 25)
  replace hA := hA.alloc (.cells #[.int .i64 a, .int .i64 b, .int .i64 c, .int .i64 d] 25)
  replace hC := hC.alloc (.cells #[.int .i64 a, .int .i64 b, .int .i64 c, .int .i64 d] 25)
  replace hA := hA.alloc (.cells #[.int .i64 0, .int .i64 0, .int .i64 0, .int .i64 0] 25)
  replace hC := hC.alloc (.cells #[.int .i64 0, .int .i64 0, .int .i64 0, .int .i64 0] 25)
  replace hA := hA.alloc (.cells #[.int .i64 0, .int .i64 0, .int .i64 0, .int .i64 0] 25)
  replace hC := hC.alloc (.cells #[.int .i64 0, .int .i64 0, .int .i64 0, .int .i64 0] 25)
  obtain ⟨hX, hR, hN, hT, hB⟩ := start4 w1 25 #[.int .i64 0, .int .i64 0, .int .i64 0, .int .i64 0] 25 #[.int .i64 a, .int .i64 b, .int .i64 c, .int .i64 d] 25 #[.int .i64 0, .int .i64 0, .int .i64 0, .int .i64 0] 25 #[.int .i64 0, .int .i64 0, .int .i64 0, .int .i64 0]
  replace hW := below_st hW hB
  clear hB
  (with_reducible refine (JV.out _).mono ?_)
  rintro e w2 ⟨rfl, hB⟩
  replace hA := hA.below hB hA.lt
  replace hC := hC.below hB hC.lt
  replace hX := hX.below hB hX.lt
  replace hR := hR.below hB hR.lt
  replace hN := hN.below hB hN.lt
  replace hT := hT.below hB hT.lt
  replace hW := below_st hW hB
  clear hB
  have cA0 := hA.cell 0
  have cA1 := hA.cell 1
  have zA := hA.lt
  have cC0 := hC.cell 0
  have cC1 := hC.cell 1
  have zC := hC.lt
  have cX0 := hX.cell 0
  have cX1 := hX.cell 1
  have cX2 := hX.cell 2
  have cX3 := hX.cell 3
  have zX := hX.lt
  have cR0 := hR.cell 0
  have cR1 := hR.cell 1
  have cR2 := hR.cell 2
  have cR3 := hR.cell 3
  have zR := hR.lt
  have cN0 := hN.cell 0
  have cN1 := hN.cell 1
  have cN2 := hN.cell 2
  have cN3 := hN.cell 3
  have zN := hN.lt
  have cT0 := hT.cell 0
  have cT1 := hT.cell 1
  have cT2 := hT.cell 2
  have cT3 := hT.cell 3
  have zT := hT.lt
  go_wp2_with fail
  (with_reducible refine (RA.out  _).mono ?_)
  rintro e w3 ⟨rfl, hB⟩
  replace hA := hA.below hB hA.lt
  replace hC := hC.below hB hC.lt
  replace hX := hX.below hB hX.lt
  replace hR := hR.below hB hR.lt
  replace hN := hN.below hB hN.lt
  replace hT := hT.below hB hT.lt
  replace hW := below_st hW hB
  clear hB
  clear cA0 cA1 zA cC0 cC1 zC cX0 cX1 cX2 cX3 zX cR0 cR1 cR2 cR3 zR cN0 cN1 cN2 cN3 zN cT0 cT1 cT2 cT3 zT
  have cA0 := hA.cell 0
  have cA1 := hA.cell 1
  have zA := hA.lt
  have cC0 := hC.cell 0
  have cC1 := hC.cell 1
  have zC := hC.lt
  have cX0 := hX.cell 0
  have cX1 := hX.cell 1
  have cX2 := hX.cell 2
  have cX3 := hX.cell 3
  have zX := hX.lt
  have cR0 := hR.cell 0
  have cR1 := hR.cell 1
  have cR2 := hR.cell 2
  have cR3 := hR.cell 3
  have zR := hR.lt
  have cN0 := hN.cell 0
  have cN1 := hN.cell 1
  have cN2 := hN.cell 2
  have cN3 := hN.cell 3
  have zN := hN.lt
  have cT0 := hT.cell 0
  have cT1 := hT.cell 1
  have cT2 := hT.cell 2
  have cT3 := hT.cell 3
  have zT := hT.lt
  have fT := hT.frozen
  have nhA : ¬ w.heap.size = w1.heap.size + 1 + 1 + 1 := by omega
  have khA : ¬ w1.heap.size + 1 + 1 + 1 = w.heap.size := by omega
  have nhC : ¬ w.heap.size + 1 = w1.heap.size + 1 + 1 + 1 := by omega
  have khC : ¬ w1.heap.size + 1 + 1 + 1 = w.heap.size + 1 := by omega
  have nhX : ¬ w1.heap.size = w1.heap.size + 1 + 1 + 1 := by omega
  have khX : ¬ w1.heap.size + 1 + 1 + 1 = w1.heap.size := by omega
  have nhR : ¬ w1.heap.size + 1 = w1.heap.size + 1 + 1 + 1 := by omega
  have khR : ¬ w1.heap.size + 1 + 1 + 1 = w1.heap.size + 1 := by omega
  have nhN : ¬ w1.heap.size + 1 + 1 = w1.heap.size + 1 + 1 + 1 := by omega
  have khN : ¬ w1.heap.size + 1 + 1 + 1 = w1.heap.size + 1 + 1 := by omega
  go_wp2_with fail
  replace hA := ((((hA.far (p := ⟨w1.heap.size + 1 + 1 + 1, 0, none⟩) (by show ¬ w.heap.size = w1.heap.size + 1 + 1 + 1; omega) (.int .i64 a)).far (p := ⟨w1.heap.size + 1 + 1 + 1, 1, none⟩) (by show ¬ w.heap.size = w1.heap.size + 1 + 1 + 1; omega) (.int .i64 b)).far (p := ⟨w1.heap.size + 1 + 1 + 1, 2, none⟩) (by show ¬ w.heap.size = w1.heap.size + 1 + 1 + 1; omega) (.int .i64 a)).far (p := ⟨w1.heap.size + 1 + 1 + 1, 3, none⟩) (by show ¬ w.heap.size = w1.heap.size + 1 + 1 + 1; omega) (.int .i64 b))
  replace hC := ((((hC.far (p := ⟨w1.heap.size + 1 + 1 + 1, 0, none⟩) (by show ¬ w.heap.size + 1 = w1.heap.size + 1 + 1 + 1; omega) (.int .i64 a)).far (p := ⟨w1.heap.size + 1 + 1 + 1, 1, none⟩) (by show ¬ w.heap.size + 1 = w1.heap.size + 1 + 1 + 1; omega) (.int .i64 b)).far (p := ⟨w1.heap.size + 1 + 1 + 1, 2, none⟩) (by show ¬ w.heap.size + 1 = w1.heap.size + 1 + 1 + 1; omega) (.int .i64 a)).far (p := ⟨w1.heap.size + 1 + 1 + 1, 3, none⟩) (by show ¬ w.heap.size + 1 = w1.heap.size + 1 + 1 + 1; omega) (.int .i64 b))
  replace hX := ((((hX.far (p := ⟨w1.heap.size + 1 + 1 + 1, 0, none⟩) (by show ¬ w1.heap.size = w1.heap.size + 1 + 1 + 1; omega) (.int .i64 a)).far (p := ⟨w1.heap.size + 1 + 1 + 1, 1, none⟩) (by show ¬ w1.heap.size = w1.heap.size + 1 + 1 + 1; omega) (.int .i64 b)).far (p := ⟨w1.heap.size + 1 + 1 + 1, 2, none⟩) (by show ¬ w1.heap.size = w1.heap.size + 1 + 1 + 1; omega) (.int .i64 a)).far (p := ⟨w1.heap.size + 1 + 1 + 1, 3, none⟩) (by show ¬ w1.heap.size = w1.heap.size + 1 + 1 + 1; omega) (.int .i64 b))
  replace hR := ((((hR.far (p := ⟨w1.heap.size + 1 + 1 + 1, 0, none⟩) (by show ¬ w1.heap.size + 1 = w1.heap.size + 1 + 1 + 1; omega) (.int .i64 a)).far (p := ⟨w1.heap.size + 1 + 1 + 1, 1, none⟩) (by show ¬ w1.heap.size + 1 = w1.heap.size + 1 + 1 + 1; omega) (.int .i64 b)).far (p := ⟨w1.heap.size + 1 + 1 + 1, 2, none⟩) (by show ¬ w1.heap.size + 1 = w1.heap.size + 1 + 1 + 1; omega) (.int .i64 a)).far (p := ⟨w1.heap.size + 1 + 1 + 1, 3, none⟩) (by show ¬ w1.heap.size + 1 = w1.heap.size + 1 + 1 + 1; omega) (.int .i64 b))
  replace hN := ((((hN.far (p := ⟨w1.heap.size + 1 + 1 + 1, 0, none⟩) (by show ¬ w1.heap.size + 1 + 1 = w1.heap.size + 1 + 1 + 1; omega) (.int .i64 a)).far (p := ⟨w1.heap.size + 1 + 1 + 1, 1, none⟩) (by show ¬ w1.heap.size + 1 + 1 = w1.heap.size + 1 + 1 + 1; omega) (.int .i64 b)).far (p := ⟨w1.heap.size + 1 + 1 + 1, 2, none⟩) (by show ¬ w1.heap.size + 1 + 1 = w1.heap.size + 1 + 1 + 1; omega) (.int .i64 a)).far (p := ⟨w1.heap.size + 1 + 1 + 1, 3, none⟩) (by show ¬ w1.heap.size + 1 + 1 = w1.heap.size + 1 + 1 + 1; omega) (.int .i64 b))
  have hx := put4 hT hW (by omega) a b a b
  replace hT := hx.1
  replace hW := hx.2
  clear hx fT nhA khA nhC khC nhX khX nhR khR nhN khN
  clear cA0 cA1 zA cC0 cC1 zC cX0 cX1 cX2 cX3 zX cR0 cR1 cR2 cR3 zR cN0 cN1 cN2 cN3 zN cT0 cT1 cT2 cT3 zT
  obtain ⟨w0, hw0⟩ : ∃ w0 : World, ((((w3.setCell ⟨w1.heap.size + 1 + 1 + 1, 0, none⟩ (.int .i64 a)).setCell ⟨w1.heap.size + 1 + 1 + 1, 1, none⟩ (.int .i64 b)).setCell ⟨w1.heap.size + 1 + 1 + 1, 2, none⟩ (.int .i64 a)).setCell ⟨w1.heap.size + 1 + 1 + 1, 3, none⟩ (.int .i64 b)) = w0 := ⟨_, rfl⟩
  rw [hw0] at hA hC hX hR hN hT hW ⊢
  clear hw0
  have keep : ∀ W : World, Below w0.heap.size w0 W → W.cell? ⟨w1.heap.size, 0, none⟩ = some (.int .i64 0) ∧ W.cell? ⟨w1.heap.size, 1, none⟩ = some (.int .i64 0) ∧ W.cell? ⟨w1.heap.size, 2, none⟩ = some (.int .i64 0) ∧ W.cell? ⟨w1.heap.size, 3, none⟩ = some (.int .i64 0) ∧ W.cell? ⟨w1.heap.size + 1, 0, none⟩ = some (.int .i64 a) ∧ W.cell? ⟨w1.heap.size + 1, 1, none⟩ = some (.int .i64 b) ∧ W.cell? ⟨w1.heap.size + 1, 2, none⟩ = some (.int .i64 c) ∧ W.cell? ⟨w1.heap.size + 1, 3, none⟩ = some (.int .i64 d) ∧ W.cell? ⟨w1.heap.size + 1 + 1, 0, none⟩ = some (.int .i64 0) ∧ W.cell? ⟨w1.heap.size + 1 + 1, 1, none⟩ = some (.int .i64 0) ∧ W.cell? ⟨w1.heap.size + 1 + 1, 2, none⟩ = some (.int .i64 0) ∧ W.cell? ⟨w1.heap.size + 1 + 1, 3, none⟩ = some (.int .i64 0) ∧ W.cell? ⟨w1.heap.size + 1 + 1 + 1, 0, none⟩ = some (.int .i64 a) ∧ W.cell? ⟨w1.heap.size + 1 + 1 + 1, 1, none⟩ = some (.int .i64 b) ∧ W.cell? ⟨w1.heap.size + 1 + 1 + 1, 2, none⟩ = some (.int .i64 a) ∧ W.cell? ⟨w1.heap.size + 1 + 1 + 1, 3, none⟩ = some (.int .i64 b) ∧ W.cell? ⟨w.heap.size, 0, none⟩ = some (.int .i64 a) ∧ W.cell? ⟨w.heap.size, 1, none⟩ = some (.int .i64 b) := fun W hB =>
    ⟨(hX.below hB hX.lt).cell 0, (hX.below hB hX.lt).cell 1, (hX.below hB hX.lt).cell 2, (hX.below hB hX.lt).cell 3, (hR.below hB hR.lt).cell 0, (hR.below hB hR.lt).cell 1, (hR.below hB hR.lt).cell 2, (hR.below hB hR.lt).cell 3, (hN.below hB hN.lt).cell 0, (hN.below hB hN.lt).cell 1, (hN.below hB hN.lt).cell 2, (hN.below hB hN.lt).cell 3, (hT.below hB hT.lt).cell 0, (hT.below hB hT.lt).cell 1, (hT.below hB hT.lt).cell 2, (hT.below hB hT.lt).cell 3, (hA.below hB hA.lt).cell 0, (hA.below hB hA.lt).cell 1⟩
  have IV2 := fun (W : World) (hB : Below w0.heap.size w0 W) => (IV.out W).mono fun e w' (h : _ ∧ _) => (⟨h.1, below_step hB h.2⟩ : _ ∧ Below w0.heap.size w0 w')
  replace IV2 := Lib.hid IV2
  have PT2 := fun (W : World) (hB : Below w0.heap.size w0 W) => (PT.out W).mono fun e w' (h : _ ∧ _) => (⟨h.1, below_step hB h.2⟩ : _ ∧ Below w0.heap.size w0 w')
  replace PT2 := Lib.hid PT2
  have LV2 := fun (W : World) (hB : Below w0.heap.size w0 W) => (lives_any W).mono fun e w' (h : _ ∧ _) => (⟨h.1, below_step hB h.2⟩ : _ ∧ Below w0.heap.size w0 w')
  replace LV2 := Lib.hid LV2
  have h00 := Below.refl w0.heap.size w0
  have h0d : Below w0.heap.size w0 w0.drew := h00.drew
  obtain ⟨c0, c1, c2, c3, c4, c5, c6, c7, c8, c9, c10, c11, c12, c13, c14, c15, c16, c17⟩ := keep w0 h00
  have HW := Lib.hid hW
  have Keep := Lib.hid keep
  clear keep hW hA hC hX hR hN hT NE JV IV RA PT nA nC nW
  go_region_held3 (fun W => W.cell? ⟨w1.heap.size, 0, none⟩ = some (.int .i64 0) ∧ W.cell? ⟨w1.heap.size, 1, none⟩ = some (.int .i64 0) ∧ W.cell? ⟨w1.heap.size, 2, none⟩ = some (.int .i64 0) ∧ W.cell? ⟨w1.heap.size, 3, none⟩ = some (.int .i64 0) ∧ W.cell? ⟨w1.heap.size + 1, 0, none⟩ = some (.int .i64 a) ∧ W.cell? ⟨w1.heap.size + 1, 1, none⟩ = some (.int .i64 b) ∧ W.cell? ⟨w1.heap.size + 1, 2, none⟩ = some (.int .i64 c) ∧ W.cell? ⟨w1.heap.size + 1, 3, none⟩ = some (.int .i64 d) ∧ W.cell? ⟨w1.heap.size + 1 + 1, 0, none⟩ = some (.int .i64 0) ∧ W.cell? ⟨w1.heap.size + 1 + 1, 1, none⟩ = some (.int .i64 0) ∧ W.cell? ⟨w1.heap.size + 1 + 1, 2, none⟩ = some (.int .i64 0) ∧ W.cell? ⟨w1.heap.size + 1 + 1, 3, none⟩ = some (.int .i64 0) ∧ W.cell? ⟨w1.heap.size + 1 + 1 + 1, 0, none⟩ = some (.int .i64 a) ∧ W.cell? ⟨w1.heap.size + 1 + 1 + 1, 1, none⟩ = some (.int .i64 b) ∧ W.cell? ⟨w1.heap.size + 1 + 1 + 1, 2, none⟩ = some (.int .i64 a) ∧ W.cell? ⟨w1.heap.size + 1 + 1 + 1, 3, none⟩ = some (.int .i64 b) ∧ W.cell? ⟨w.heap.size, 0, none⟩ = some (.int .i64 a) ∧ W.cell? ⟨w.heap.size, 1, none⟩ = some (.int .i64 b)) (exact Keep.out _ (by with_reducible assumption))
    (first | (go_at_call 16; (with_reducible refine (IV2.out _ (by with_reducible assumption)).mono ?_); rintro e w' ⟨rfl, hb⟩; obtain ⟨c0, c1, c2, c3, c4, c5, c6, c7, c8, c9, c10, c11, c12, c13, c14, c15, c16, c17⟩ := Keep.out _ hb) |
      (go_at_call 17; (with_reducible refine (PT2.out _ (by with_reducible assumption)).mono ?_); rintro e w' ⟨rfl, hb⟩; obtain ⟨c0, c1, c2, c3, c4, c5, c6, c7, c8, c9, c10, c11, c12, c13, c14, c15, c16, c17⟩ := Keep.out _ hb) |
      (go_at_call 18; (with_reducible refine (LV2.out _ (by with_reducible assumption)).mono ?_); rintro e w' ⟨rfl, hb⟩; obtain ⟨c0, c1, c2, c3, c4, c5, c6, c7, c8, c9, c10, c11, c12, c13, c14, c15, c16, c17⟩ := Keep.out _ hb))
  all_goals
    go_wp2
    go_ret
    exact ⟨rfl, below_st HW.out (by with_reducible assumption)⟩
set_option maxRecDepth 100000 in
set_option maxHeartbeats 8000000 in
theorem law_new0 {a b c d : Int} (h : W2 a b) (k : W2 c d) (q : ¬ vP a b) (w : World) :
    Calls Try.prog 3 #[.agg #[.int .i64 a, .int .i64 b], .agg #[.int .i64 c, .int .i64 d]] w fun e w' => e = .returned (.bool true) ∧ Below w.heap.size w w' := by
  have NE := inew_w h k
  have JV := jvalid_w h k
  have IV := ivalid_w h k
  have RA := rvalid_w h
  have PT := ipoint_w h
  have p : ¬ vI a b c d := fun e => q e.1.1
  rw [show vIB a b c d = false from decide_eq_false p] at JV IV
  rw [show vB a b = false from decide_eq_false q] at RA
  rw [show newI a b c d = (0, 0, 0, 0, 1) from if_neg p] at NE
  rw [show ptI a b = (0, 0, 0, 0) from if_neg q] at PT
  unfold RI at NE
  simp only at NE PT
  obtain ⟨hA, hC, hW⟩ := start2 w 23 #[.int .i64 a, .int .i64 b] 23 #[.int .i64 c, .int .i64 d]
  clear p q h k
  replace NE := Lib.hid NE
  replace JV := Lib.hid JV
  replace IV := Lib.hid IV
  replace RA := Lib.hid RA
  replace PT := Lib.hid PT
  have cA0 := hA.cell 0
  have cA1 := hA.cell 1
  have zA := hA.lt
  have cC0 := hC.cell 0
  have cC1 := hC.cell 1
  have zC := hC.lt
  go_enter Try.func3, Try.ntmps3
  go_wp2_with fail
  (with_reducible refine (NE.out  _).mono ?_)
  rintro e w1 ⟨rfl, hB⟩
  replace hA := hA.below hB hA.lt
  replace hC := hC.below hB hC.lt
  replace hW := below_st hW hB
  clear hB
  clear cA0 cA1 zA cC0 cC1 zC
  have cA0 := hA.cell 0
  have cA1 := hA.cell 1
  have zA := hA.lt
  have cC0 := hC.cell 0
  have cC1 := hC.cell 1
  have zC := hC.lt
  go_wp2_with fail
  clear cA0 cA1 zA cC0 cC1 zC
  have nA := hA.lt
  have nC := hC.lt
  have nW := hW.size
  replace hA := hA.alloc (.cells #[.int .i64 0, .int .i64 0, .int .i64 0, .int .i64 0] 25)
  replace hC := hC.alloc (.cells #[.int .i64 0, .int .i64 0, .int .i64 0, .int .i64 0] 25)
  replace hA := hA.alloc (.cells #[.int .i64 a, .int .i64 b, .int .i64 c, .int .i64 d] 25)
  replace hC := hC.alloc (.cells #[.int .i64 a, .int .i64 b, .int .i64 c, .int .i64 d] 25)
  replace hA := hA.alloc (.cells #[.int .i64 0, .int .i64 0, .int .i64 0, .int .i64 0] 25)
  replace hC := hC.alloc (.cells #[.int .i64 0, .int .i64 0, .int .i64 0, .int .i64 0] 25)
  replace hA := hA.alloc (.cells #[.int .i64 0, .int .i64 0, .int .i64 0, .int .i64 0] 25)
  replace hC := hC.alloc (.cells #[.int .i64 0, .int .i64 0, .int .i64 0, .int .i64 0] 25)
  obtain ⟨hX, hR, hN, hT, hB⟩ := start4 w1 25 #[.int .i64 0, .int .i64 0, .int .i64 0, .int .i64 0] 25 #[.int .i64 a, .int .i64 b, .int .i64 c, .int .i64 d] 25 #[.int .i64 0, .int .i64 0, .int .i64 0, .int .i64 0] 25 #[.int .i64 0, .int .i64 0, .int .i64 0, .int .i64 0]
  replace hW := below_st hW hB
  clear hB
  (with_reducible refine (JV.out _).mono ?_)
  rintro e w2 ⟨rfl, hB⟩
  replace hA := hA.below hB hA.lt
  replace hC := hC.below hB hC.lt
  replace hX := hX.below hB hX.lt
  replace hR := hR.below hB hR.lt
  replace hN := hN.below hB hN.lt
  replace hT := hT.below hB hT.lt
  replace hW := below_st hW hB
  clear hB
  have cA0 := hA.cell 0
  have cA1 := hA.cell 1
  have zA := hA.lt
  have cC0 := hC.cell 0
  have cC1 := hC.cell 1
  have zC := hC.lt
  have cX0 := hX.cell 0
  have cX1 := hX.cell 1
  have cX2 := hX.cell 2
  have cX3 := hX.cell 3
  have zX := hX.lt
  have cR0 := hR.cell 0
  have cR1 := hR.cell 1
  have cR2 := hR.cell 2
  have cR3 := hR.cell 3
  have zR := hR.lt
  have cN0 := hN.cell 0
  have cN1 := hN.cell 1
  have cN2 := hN.cell 2
  have cN3 := hN.cell 3
  have zN := hN.lt
  have cT0 := hT.cell 0
  have cT1 := hT.cell 1
  have cT2 := hT.cell 2
  have cT3 := hT.cell 3
  have zT := hT.lt
  go_wp2_with fail
  (with_reducible refine (RA.out  _).mono ?_)
  rintro e w3 ⟨rfl, hB⟩
  replace hA := hA.below hB hA.lt
  replace hC := hC.below hB hC.lt
  replace hX := hX.below hB hX.lt
  replace hR := hR.below hB hR.lt
  replace hN := hN.below hB hN.lt
  replace hT := hT.below hB hT.lt
  replace hW := below_st hW hB
  clear hB
  clear cA0 cA1 zA cC0 cC1 zC cX0 cX1 cX2 cX3 zX cR0 cR1 cR2 cR3 zR cN0 cN1 cN2 cN3 zN cT0 cT1 cT2 cT3 zT
  have cA0 := hA.cell 0
  have cA1 := hA.cell 1
  have zA := hA.lt
  have cC0 := hC.cell 0
  have cC1 := hC.cell 1
  have zC := hC.lt
  have cX0 := hX.cell 0
  have cX1 := hX.cell 1
  have cX2 := hX.cell 2
  have cX3 := hX.cell 3
  have zX := hX.lt
  have cR0 := hR.cell 0
  have cR1 := hR.cell 1
  have cR2 := hR.cell 2
  have cR3 := hR.cell 3
  have zR := hR.lt
  have cN0 := hN.cell 0
  have cN1 := hN.cell 1
  have cN2 := hN.cell 2
  have cN3 := hN.cell 3
  have zN := hN.lt
  have cT0 := hT.cell 0
  have cT1 := hT.cell 1
  have cT2 := hT.cell 2
  have cT3 := hT.cell 3
  have zT := hT.lt
  go_wp2_with fail
  clear cA0 cA1 zA cC0 cC1 zC cX0 cX1 cX2 cX3 zX cR0 cR1 cR2 cR3 zR cN0 cN1 cN2 cN3 zN cT0 cT1 cT2 cT3 zT
  obtain ⟨w0, hw0⟩ : ∃ w0 : World, w3 = w0 := ⟨_, rfl⟩
  rw [hw0] at hA hC hX hR hN hT hW ⊢
  clear hw0
  have keep : ∀ W : World, Below w0.heap.size w0 W → W.cell? ⟨w1.heap.size, 0, none⟩ = some (.int .i64 0) ∧ W.cell? ⟨w1.heap.size, 1, none⟩ = some (.int .i64 0) ∧ W.cell? ⟨w1.heap.size, 2, none⟩ = some (.int .i64 0) ∧ W.cell? ⟨w1.heap.size, 3, none⟩ = some (.int .i64 0) ∧ W.cell? ⟨w1.heap.size + 1, 0, none⟩ = some (.int .i64 a) ∧ W.cell? ⟨w1.heap.size + 1, 1, none⟩ = some (.int .i64 b) ∧ W.cell? ⟨w1.heap.size + 1, 2, none⟩ = some (.int .i64 c) ∧ W.cell? ⟨w1.heap.size + 1, 3, none⟩ = some (.int .i64 d) ∧ W.cell? ⟨w1.heap.size + 1 + 1, 0, none⟩ = some (.int .i64 0) ∧ W.cell? ⟨w1.heap.size + 1 + 1, 1, none⟩ = some (.int .i64 0) ∧ W.cell? ⟨w1.heap.size + 1 + 1, 2, none⟩ = some (.int .i64 0) ∧ W.cell? ⟨w1.heap.size + 1 + 1, 3, none⟩ = some (.int .i64 0) ∧ W.cell? ⟨w1.heap.size + 1 + 1 + 1, 0, none⟩ = some (.int .i64 0) ∧ W.cell? ⟨w1.heap.size + 1 + 1 + 1, 1, none⟩ = some (.int .i64 0) ∧ W.cell? ⟨w1.heap.size + 1 + 1 + 1, 2, none⟩ = some (.int .i64 0) ∧ W.cell? ⟨w1.heap.size + 1 + 1 + 1, 3, none⟩ = some (.int .i64 0) ∧ W.cell? ⟨w.heap.size, 0, none⟩ = some (.int .i64 a) ∧ W.cell? ⟨w.heap.size, 1, none⟩ = some (.int .i64 b) := fun W hB =>
    ⟨(hX.below hB hX.lt).cell 0, (hX.below hB hX.lt).cell 1, (hX.below hB hX.lt).cell 2, (hX.below hB hX.lt).cell 3, (hR.below hB hR.lt).cell 0, (hR.below hB hR.lt).cell 1, (hR.below hB hR.lt).cell 2, (hR.below hB hR.lt).cell 3, (hN.below hB hN.lt).cell 0, (hN.below hB hN.lt).cell 1, (hN.below hB hN.lt).cell 2, (hN.below hB hN.lt).cell 3, (hT.below hB hT.lt).cell 0, (hT.below hB hT.lt).cell 1, (hT.below hB hT.lt).cell 2, (hT.below hB hT.lt).cell 3, (hA.below hB hA.lt).cell 0, (hA.below hB hA.lt).cell 1⟩
  have IV2 := fun (W : World) (hB : Below w0.heap.size w0 W) => (IV.out W).mono fun e w' (h : _ ∧ _) => (⟨h.1, below_step hB h.2⟩ : _ ∧ Below w0.heap.size w0 w')
  replace IV2 := Lib.hid IV2
  have PT2 := fun (W : World) (hB : Below w0.heap.size w0 W) => (PT.out W).mono fun e w' (h : _ ∧ _) => (⟨h.1, below_step hB h.2⟩ : _ ∧ Below w0.heap.size w0 w')
  replace PT2 := Lib.hid PT2
  have LV2 := fun (W : World) (hB : Below w0.heap.size w0 W) => (lives_any W).mono fun e w' (h : _ ∧ _) => (⟨h.1, below_step hB h.2⟩ : _ ∧ Below w0.heap.size w0 w')
  replace LV2 := Lib.hid LV2
  have h00 := Below.refl w0.heap.size w0
  have h0d : Below w0.heap.size w0 w0.drew := h00.drew
  obtain ⟨c0, c1, c2, c3, c4, c5, c6, c7, c8, c9, c10, c11, c12, c13, c14, c15, c16, c17⟩ := keep w0 h00
  have HW := Lib.hid hW
  have Keep := Lib.hid keep
  clear keep hW hA hC hX hR hN hT NE JV IV RA PT nA nC nW
  go_region_held3 (fun W => W.cell? ⟨w1.heap.size, 0, none⟩ = some (.int .i64 0) ∧ W.cell? ⟨w1.heap.size, 1, none⟩ = some (.int .i64 0) ∧ W.cell? ⟨w1.heap.size, 2, none⟩ = some (.int .i64 0) ∧ W.cell? ⟨w1.heap.size, 3, none⟩ = some (.int .i64 0) ∧ W.cell? ⟨w1.heap.size + 1, 0, none⟩ = some (.int .i64 a) ∧ W.cell? ⟨w1.heap.size + 1, 1, none⟩ = some (.int .i64 b) ∧ W.cell? ⟨w1.heap.size + 1, 2, none⟩ = some (.int .i64 c) ∧ W.cell? ⟨w1.heap.size + 1, 3, none⟩ = some (.int .i64 d) ∧ W.cell? ⟨w1.heap.size + 1 + 1, 0, none⟩ = some (.int .i64 0) ∧ W.cell? ⟨w1.heap.size + 1 + 1, 1, none⟩ = some (.int .i64 0) ∧ W.cell? ⟨w1.heap.size + 1 + 1, 2, none⟩ = some (.int .i64 0) ∧ W.cell? ⟨w1.heap.size + 1 + 1, 3, none⟩ = some (.int .i64 0) ∧ W.cell? ⟨w1.heap.size + 1 + 1 + 1, 0, none⟩ = some (.int .i64 0) ∧ W.cell? ⟨w1.heap.size + 1 + 1 + 1, 1, none⟩ = some (.int .i64 0) ∧ W.cell? ⟨w1.heap.size + 1 + 1 + 1, 2, none⟩ = some (.int .i64 0) ∧ W.cell? ⟨w1.heap.size + 1 + 1 + 1, 3, none⟩ = some (.int .i64 0) ∧ W.cell? ⟨w.heap.size, 0, none⟩ = some (.int .i64 a) ∧ W.cell? ⟨w.heap.size, 1, none⟩ = some (.int .i64 b)) (exact Keep.out _ (by with_reducible assumption))
    (first | (go_at_call 16; (with_reducible refine (IV2.out _ (by with_reducible assumption)).mono ?_); rintro e w' ⟨rfl, hb⟩; obtain ⟨c0, c1, c2, c3, c4, c5, c6, c7, c8, c9, c10, c11, c12, c13, c14, c15, c16, c17⟩ := Keep.out _ hb) |
      (go_at_call 17; (with_reducible refine (PT2.out _ (by with_reducible assumption)).mono ?_); rintro e w' ⟨rfl, hb⟩; obtain ⟨c0, c1, c2, c3, c4, c5, c6, c7, c8, c9, c10, c11, c12, c13, c14, c15, c16, c17⟩ := Keep.out _ hb) |
      (go_at_call 18; (with_reducible refine (LV2.out _ (by with_reducible assumption)).mono ?_); rintro e w' ⟨rfl, hb⟩; obtain ⟨c0, c1, c2, c3, c4, c5, c6, c7, c8, c9, c10, c11, c12, c13, c14, c15, c16, c17⟩ := Keep.out _ hb))
  all_goals
    go_wp2
    go_ret
    exact ⟨rfl, below_st HW.out (by with_reducible assumption)⟩
end Go.Proofs.Ytdhimfjbijmcpaa
