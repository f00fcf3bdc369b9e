/- Package interval's extremes: the least and the greatest of four results. Conditions: the results are fractions or errors. -/
import Derived.Test.YteppamchbgnlfaaMin
import Derived.Test.YteppamchbgnlfaaIv2
import Derived.LoopN
namespace Go.Proofs.Yteppamchbgnlfaa
open Go.RowKit

theorem Blk.new' {W w0 : World} {B : Nat} (_ : Below B w0 W) (t : TypeId) (s : Array Value) : Blk (W.alloc (.cells s t)) W.heap.size t s := Blk.new W t s
theorem Blk.far2 {W : World} {k g i j : Nat} {t : TypeId} {s : Array Value} (h : Blk W k t s) (hk : ¬ k = g) (u v : Value) : Blk ((W.setCell ⟨g, i, none⟩ u).setCell ⟨g, j, none⟩ v) k t s := (h.far (p := ⟨g, i, none⟩) hk u).far (p := ⟨g, j, none⟩) hk v

theorem index2 (a b c d : Int) (k : Nat) (hk : k < 2) (W : World) : (Instr.index 85 (.agg #[.int .i64 a, .int .i64 b, .int .i64 c, .int .i64 d]) (.int .i64 (k : Int))).run Try.prog W = .ok (if k = 0 then .agg #[.int .i64 a, .int .i64 b] else .agg #[.int .i64 c, .int .i64 d]) W := by
  match k, hk with
  | 0, _ => simp [Instr.index, run_underlying Try.underlying85, asIntOf, go_sem]
  | 1, _ => simp [Instr.index, run_underlying Try.underlying85, asIntOf, go_sem]

theorem index_0 (a b c d : Int) (W : World) : (Instr.index 85 (.agg #[.int .i64 a, .int .i64 b, .int .i64 c, .int .i64 d]) (.int .i64 0)).run Try.prog W = .ok (.agg #[.int .i64 a, .int .i64 b]) W := index2 a b c d 0 (by decide) W
theorem index_1 (a b c d : Int) (W : World) : (Instr.index 85 (.agg #[.int .i64 a, .int .i64 b, .int .i64 c, .int .i64 d]) (.int .i64 1)).run Try.prog W = .ok (.agg #[.int .i64 c, .int .i64 d]) W := index2 a b c d 1 (by decide) W

/-- What extremes hands back of four results, in their order. -/
def exR (p q r s : R3) : R5 :=
  if p.2.2 ≠ 0 then (0, 0, 0, 0, p.2.2) else if q.2.2 ≠ 0 then (0, 0, 0, 0, q.2.2) else if r.2.2 ≠ 0 then (0, 0, 0, 0, r.2.2) else if s.2.2 ≠ 0 then (0, 0, 0, 0, s.2.2) else
  ((minL [(p.1, p.2.1), (q.1, q.2.1), (r.1, r.2.1), (s.1, s.2.1)]).1, (minL [(p.1, p.2.1), (q.1, q.2.1), (r.1, r.2.1), (s.1, s.2.1)]).2, (maxL [(p.1, p.2.1), (q.1, q.2.1), (r.1, r.2.1), (s.1, s.2.1)]).1, (maxL [(p.1, p.2.1), (q.1, q.2.1), (r.1, r.2.1), (s.1, s.2.1)]).2, 0)

set_option maxRecDepth 100000 in
set_option maxHeartbeats 16000000 in
theorem extremes_mul (a b c d a' b' c' d' : Int) (p q r s : R3)
    (hp : ∀ W, Calls Try.prog 58 #[.agg #[.int .i64 a, .int .i64 b], .agg #[.int .i64 a', .int .i64 b']] W fun e w' => e = .returned (RV p) ∧ Below W.heap.size W w')
    (hq : ∀ W, Calls Try.prog 58 #[.agg #[.int .i64 a, .int .i64 b], .agg #[.int .i64 c', .int .i64 d']] W fun e w' => e = .returned (RV q) ∧ Below W.heap.size W w')
    (hr : ∀ W, Calls Try.prog 58 #[.agg #[.int .i64 c, .int .i64 d], .agg #[.int .i64 a', .int .i64 b']] W fun e w' => e = .returned (RV r) ∧ Below W.heap.size W w')
    (hs : ∀ W, Calls Try.prog 58 #[.agg #[.int .i64 c, .int .i64 d], .agg #[.int .i64 c', .int .i64 d']] W fun e w' => e = .returned (RV s) ∧ Below W.heap.size W w')
    (vp : p.2.2 = 0 → vP p.1 p.2.1) (vq : q.2.2 = 0 → vP q.1 q.2.1) (vr : r.2.2 = 0 → vP r.1 r.2.1) (vs : s.2.2 = 0 → vP s.1 s.2.1) (w : World) :
    Calls Try.prog 57 #[.func (.func 58) #[] #[], .agg #[.int .i64 a, .int .i64 b, .int .i64 c, .int .i64 d], .agg #[.int .i64 a', .int .i64 b', .int .i64 c', .int .i64 d']] w fun e w' => e = .returned (RI (exR p q r s)) ∧ Below w.heap.size w w' := by
  obtain ⟨p1, p2, p3⟩ := p
  obtain ⟨q1, q2, q3⟩ := q
  obtain ⟨r1, r2, r3⟩ := r
  obtain ⟨s1, s2, s3⟩ := s
  unfold RV at hp hq hr hs
  simp only at hp hq hr hs vp vq vr vs
  have CP := Lib.hid hp
  have CQ := Lib.hid hq
  have CR := Lib.hid hr
  have CS := Lib.hid hs
  have VP := Lib.hid vp
  have VQ := Lib.hid vq
  have VR := Lib.hid vr
  have VS := Lib.hid vs
  clear hp hq hr hs vp vq vr vs
  obtain ⟨hA, hE, hR, hG, hW⟩ := start4 w 25 #[.int .i64 a, .int .i64 b, .int .i64 c, .int .i64 d] 25 #[.int .i64 a', .int .i64 b', .int .i64 c', .int .i64 d'] 25 #[.int .i64 0, .int .i64 0, .int .i64 0, .int .i64 0] 84 #[.int .i64 0, .int .i64 0, .int .i64 0, .int .i64 0, .int .i64 0, .int .i64 0, .int .i64 0, .int .i64 0]
  by_cases n0 : p3 = 0
  case neg =>
    have HRES := Lib.hid (show exR (p1, p2, p3) (q1, q2, q3) (r1, r2, r3) (s1, s2, s3) = (0, 0, 0, 0, p3) by unfold exR; simp [n0])
    have b0 : (p3 == 0) = false := by simpa using n0
    clear VP VQ VR VS CQ CR CS
    have nAG : ¬ w.heap.size = w.heap.size + 1 + 1 + 1 := by omega
    have mAG : ¬ w.heap.size + 1 + 1 + 1 = w.heap.size := by omega
    have nEG : ¬ w.heap.size + 1 = w.heap.size + 1 + 1 + 1 := by omega
    have mEG : ¬ w.heap.size + 1 + 1 + 1 = w.heap.size + 1 := by omega
    have nRG : ¬ w.heap.size + 1 + 1 = w.heap.size + 1 + 1 + 1 := by omega
    have mRG : ¬ w.heap.size + 1 + 1 + 1 = w.heap.size + 1 + 1 := by omega
    have I0 := index_0 a b c d
    have I1 := index_1 a b c d
    have J0 := index_0 a' b' c' d'
    have J1 := index_1 a' b' c' d'
    have cA0 := hA.cell 0
    have cA1 := hA.cell 1
    have cA2 := hA.cell 2
    have cA3 := hA.cell 3
    have zA := hA.lt
    have cE0 := hE.cell 0
    have cE1 := hE.cell 1
    have cE2 := hE.cell 2
    have cE3 := hE.cell 3
    have zE := hE.lt
    have cR0 := hR.cell 0
    have cR1 := hR.cell 1
    have cR2 := hR.cell 2
    have cR3 := hR.cell 3
    have zR := hR.lt
    have fR := hR.frozen
    have cG0 := hG.cell 0
    have cG1 := hG.cell 1
    have cG2 := hG.cell 2
    have cG3 := hG.cell 3
    have cG4 := hG.cell 4
    have cG5 := hG.cell 5
    have cG6 := hG.cell 6
    have cG7 := hG.cell 7
    have zG := hG.lt
    have fG := hG.frozen
    go_enter Try.func57, Try.ntmps57
    go_wp2
    refine wp_loop_rounds 3 ?_
    rw [rounds_succ]
    have hX := Blk.new' hW 23 #[.int .i64 a, .int .i64 b]
    try simp only [World.size_alloc] at hX
    replace hA := hA.alloc (.cells #[.int .i64 a, .int .i64 b] 23)
    replace hE := hE.alloc (.cells #[.int .i64 a, .int .i64 b] 23)
    replace hR := hR.alloc (.cells #[.int .i64 a, .int .i64 b] 23)
    replace hG := hG.alloc (.cells #[.int .i64 a, .int .i64 b] 23)
    replace hW := hW.alloc hW.size (.cells #[.int .i64 a, .int .i64 b] 23)
    have nXG : ¬ w.heap.size + 1 + 1 + 1 + 1 = w.heap.size + 1 + 1 + 1 := by omega
    have mXG : ¬ w.heap.size + 1 + 1 + 1 = w.heap.size + 1 + 1 + 1 + 1 := by omega
    go_wp2
    refine wp_loop_rounds 3 ?_
    rw [rounds_succ]
    have hY := Blk.new' hW 23 #[.int .i64 a', .int .i64 b']
    try simp only [World.size_alloc] at hY
    replace hA := hA.alloc (.cells #[.int .i64 a', .int .i64 b'] 23)
    replace hE := hE.alloc (.cells #[.int .i64 a', .int .i64 b'] 23)
    replace hR := hR.alloc (.cells #[.int .i64 a', .int .i64 b'] 23)
    replace hG := hG.alloc (.cells #[.int .i64 a', .int .i64 b'] 23)
    replace hX := hX.alloc (.cells #[.int .i64 a', .int .i64 b'] 23)
    replace hW := hW.alloc hW.size (.cells #[.int .i64 a', .int .i64 b'] 23)
    go_wp2_with fail
    (with_reducible refine (CP.out _).mono ?_)
    rintro e v0 ⟨rfl, hB⟩
    clear hY
    replace hA := hA.below hB hA.lt
    replace hE := hE.below hB hE.lt
    replace hR := hR.below hB hR.lt
    replace hG := hG.below hB hG.lt
    replace hX := hX.below hB hX.lt
    replace hW := below_st hW hB
    clear hB
    clear cA0 cA1 cA2 cA3 zA cE0 cE1 cE2 cE3 zE cR0 cR1 cR2 cR3 zR fR cG0 cG1 cG2 cG3 cG4 cG5 cG6 cG7 zG fG
    have cA0 := hA.cell 0
    have cA1 := hA.cell 1
    have cA2 := hA.cell 2
    have cA3 := hA.cell 3
    have zA := hA.lt
    have cE0 := hE.cell 0
    have cE1 := hE.cell 1
    have cE2 := hE.cell 2
    have cE3 := hE.cell 3
    have zE := hE.lt
    have cR0 := hR.cell 0
    have cR1 := hR.cell 1
    have cR2 := hR.cell 2
    have cR3 := hR.cell 3
    have zR := hR.lt
    have fR := hR.frozen
    have cG0 := hG.cell 0
    have cG1 := hG.cell 1
    have cG2 := hG.cell 2
    have cG3 := hG.cell 3
    have cG4 := hG.cell 4
    have cG5 := hG.cell 5
    have cG6 := hG.cell 6
    have cG7 := hG.cell 7
    have zG := hG.lt
    have fG := hG.frozen
    have cX0 := hX.cell 0
    have cX1 := hX.cell 1
    have zX := hX.lt
    have HR := Lib.hid hR
    have HW := Lib.hid hW
    clear hA hE hG hX hR hW
    go_wp2
    exact ret_iv (p := 6) (q := 7) (by kernel_rfl) rfl rfl ((put4 HR.out HW.out (by omega) 0 0 0 0).1.alloc _) ⟨by rw [HRES.out], (put4 HR.out HW.out (by omega) 0 0 0 0).2.alloc (put4 HR.out HW.out (by omega) 0 0 0 0).2.size _⟩
  by_cases n1 : q3 = 0
  case neg =>
    have HRES := Lib.hid (show exR (p1, p2, p3) (q1, q2, q3) (r1, r2, r3) (s1, s2, s3) = (0, 0, 0, 0, q3) by unfold exR; simp [n0, n1])
    have b1 : (q3 == 0) = false := by simpa using n1
    subst n0
    clear VP VQ VR VS CR CS
    have nAG : ¬ w.heap.size = w.heap.size + 1 + 1 + 1 := by omega
    have mAG : ¬ w.heap.size + 1 + 1 + 1 = w.heap.size := by omega
    have nEG : ¬ w.heap.size + 1 = w.heap.size + 1 + 1 + 1 := by omega
    have mEG : ¬ w.heap.size + 1 + 1 + 1 = w.heap.size + 1 := by omega
    have nRG : ¬ w.heap.size + 1 + 1 = w.heap.size + 1 + 1 + 1 := by omega
    have mRG : ¬ w.heap.size + 1 + 1 + 1 = w.heap.size + 1 + 1 := by omega
    have I0 := index_0 a b c d
    have I1 := index_1 a b c d
    have J0 := index_0 a' b' c' d'
    have J1 := index_1 a' b' c' d'
    have cA0 := hA.cell 0
    have cA1 := hA.cell 1
    have cA2 := hA.cell 2
    have cA3 := hA.cell 3
    have zA := hA.lt
    have cE0 := hE.cell 0
    have cE1 := hE.cell 1
    have cE2 := hE.cell 2
    have cE3 := hE.cell 3
    have zE := hE.lt
    have cR0 := hR.cell 0
    have cR1 := hR.cell 1
    have cR2 := hR.cell 2
    have cR3 := hR.cell 3
    have zR := hR.lt
    have fR := hR.frozen
    have cG0 := hG.cell 0
    have cG1 := hG.cell 1
    have cG2 := hG.cell 2
    have cG3 := hG.cell 3
    have cG4 := hG.cell 4
    have cG5 := hG.cell 5
    have cG6 := hG.cell 6
    have cG7 := hG.cell 7
    have zG := hG.lt
    have fG := hG.frozen
    go_enter Try.func57, Try.ntmps57
    go_wp2
    refine wp_loop_rounds 3 ?_
    rw [rounds_succ]
    have hX := Blk.new' hW 23 #[.int .i64 a, .int .i64 b]
    try simp only [World.size_alloc] at hX
    replace hA := hA.alloc (.cells #[.int .i64 a, .int .i64 b] 23)
    replace hE := hE.alloc (.cells #[.int .i64 a, .int .i64 b] 23)
    replace hR := hR.alloc (.cells #[.int .i64 a, .int .i64 b] 23)
    replace hG := hG.alloc (.cells #[.int .i64 a, .int .i64 b] 23)
    replace hW := hW.alloc hW.size (.cells #[.int .i64 a, .int .i64 b] 23)
    have nXG : ¬ w.heap.size + 1 + 1 + 1 + 1 = w.heap.size + 1 + 1 + 1 := by omega
    have mXG : ¬ w.heap.size + 1 + 1 + 1 = w.heap.size + 1 + 1 + 1 + 1 := by omega
    go_wp2
    refine wp_loop_rounds 3 ?_
    rw [rounds_succ]
    have hY := Blk.new' hW 23 #[.int .i64 a', .int .i64 b']
    try simp only [World.size_alloc] at hY
    replace hA := hA.alloc (.cells #[.int .i64 a', .int .i64 b'] 23)
    replace hE := hE.alloc (.cells #[.int .i64 a', .int .i64 b'] 23)
    replace hR := hR.alloc (.cells #[.int .i64 a', .int .i64 b'] 23)
    replace hG := hG.alloc (.cells #[.int .i64 a', .int .i64 b'] 23)
    replace hX := hX.alloc (.cells #[.int .i64 a', .int .i64 b'] 23)
    replace hW := hW.alloc hW.size (.cells #[.int .i64 a', .int .i64 b'] 23)
    go_wp2_with fail
    (with_reducible refine (CP.out _).mono ?_)
    rintro e v0 ⟨rfl, hB⟩
    clear hY
    replace hA := hA.below hB hA.lt
    replace hE := hE.below hB hE.lt
    replace hR := hR.below hB hR.lt
    replace hG := hG.below hB hG.lt
    replace hX := hX.below hB hX.lt
    replace hW := below_st hW hB
    clear hB
    clear cA0 cA1 cA2 cA3 zA cE0 cE1 cE2 cE3 zE cR0 cR1 cR2 cR3 zR fR cG0 cG1 cG2 cG3 cG4 cG5 cG6 cG7 zG fG
    have cA0 := hA.cell 0
    have cA1 := hA.cell 1
    have cA2 := hA.cell 2
    have cA3 := hA.cell 3
    have zA := hA.lt
    have cE0 := hE.cell 0
    have cE1 := hE.cell 1
    have cE2 := hE.cell 2
    have cE3 := hE.cell 3
    have zE := hE.lt
    have cR0 := hR.cell 0
    have cR1 := hR.cell 1
    have cR2 := hR.cell 2
    have cR3 := hR.cell 3
    have zR := hR.lt
    have fR := hR.frozen
    have cG0 := hG.cell 0
    have cG1 := hG.cell 1
    have cG2 := hG.cell 2
    have cG3 := hG.cell 3
    have cG4 := hG.cell 4
    have cG5 := hG.cell 5
    have cG6 := hG.cell 6
    have cG7 := hG.cell 7
    have zG := hG.lt
    have fG := hG.frozen
    have cX0 := hX.cell 0
    have cX1 := hX.cell 1
    have zX := hX.lt
    replace hA := hA.far2 (g := w.heap.size + 1 + 1 + 1) (i := 0) (j := 1) (by omega) (.int .i64 p1) (.int .i64 p2)
    replace hE := hE.far2 (g := w.heap.size + 1 + 1 + 1) (i := 0) (j := 1) (by omega) (.int .i64 p1) (.int .i64 p2)
    replace hR := hR.far2 (g := w.heap.size + 1 + 1 + 1) (i := 0) (j := 1) (by omega) (.int .i64 p1) (.int .i64 p2)
    replace hX := hX.far2 (g := w.heap.size + 1 + 1 + 1) (i := 0) (j := 1) (by omega) (.int .i64 p1) (.int .i64 p2)
    replace hG : Blk _ _ _ #[.int .i64 p1, .int .i64 p2, .int .i64 0, .int .i64 0, .int .i64 0, .int .i64 0, .int .i64 0, .int .i64 0] := (hG.put 0 (.int .i64 p1)).put 1 (.int .i64 p2)
    replace hW := (hW.setCell (p := ⟨w.heap.size + 1 + 1 + 1, 0, none⟩) (by show w.heap.size ≤ w.heap.size + 1 + 1 + 1; omega) (.int .i64 p1)).setCell (p := ⟨w.heap.size + 1 + 1 + 1, 1, none⟩) (by show w.heap.size ≤ w.heap.size + 1 + 1 + 1; omega) (.int .i64 p2)
    have hZ := Blk.new' hW 23 #[.int .i64 p1, .int .i64 p2]
    try simp only [World.size_setCell] at hZ
    replace hA := hA.alloc (.cells #[.int .i64 p1, .int .i64 p2] 23)
    replace hE := hE.alloc (.cells #[.int .i64 p1, .int .i64 p2] 23)
    replace hR := hR.alloc (.cells #[.int .i64 p1, .int .i64 p2] 23)
    replace hG := hG.alloc (.cells #[.int .i64 p1, .int .i64 p2] 23)
    replace hX := hX.alloc (.cells #[.int .i64 p1, .int .i64 p2] 23)
    replace hW := hW.alloc hW.size (.cells #[.int .i64 p1, .int .i64 p2] 23)
    clear hZ
    go_wp2
    rw [rounds_succ]
    have hY := Blk.new' hW 23 #[.int .i64 c', .int .i64 d']
    try simp only [World.size_alloc, World.size_setCell] at hY
    replace hA := hA.alloc (.cells #[.int .i64 c', .int .i64 d'] 23)
    replace hE := hE.alloc (.cells #[.int .i64 c', .int .i64 d'] 23)
    replace hR := hR.alloc (.cells #[.int .i64 c', .int .i64 d'] 23)
    replace hG := hG.alloc (.cells #[.int .i64 c', .int .i64 d'] 23)
    replace hX := hX.alloc (.cells #[.int .i64 c', .int .i64 d'] 23)
    replace hW := hW.alloc hW.size (.cells #[.int .i64 c', .int .i64 d'] 23)
    go_wp2_with fail
    (with_reducible refine (CQ.out _).mono ?_)
    rintro e v1 ⟨rfl, hB⟩
    clear hY
    replace hA := hA.below hB hA.lt
    replace hE := hE.below hB hE.lt
    replace hR := hR.below hB hR.lt
    replace hG := hG.below hB hG.lt
    replace hX := hX.below hB hX.lt
    replace hW := below_st hW hB
    clear hB
    clear cA0 cA1 cA2 cA3 zA cE0 cE1 cE2 cE3 zE cR0 cR1 cR2 cR3 zR fR cG0 cG1 cG2 cG3 cG4 cG5 cG6 cG7 zG fG cX0 cX1 zX
    have cA0 := hA.cell 0
    have cA1 := hA.cell 1
    have cA2 := hA.cell 2
    have cA3 := hA.cell 3
    have zA := hA.lt
    have cE0 := hE.cell 0
    have cE1 := hE.cell 1
    have cE2 := hE.cell 2
    have cE3 := hE.cell 3
    have zE := hE.lt
    have cR0 := hR.cell 0
    have cR1 := hR.cell 1
    have cR2 := hR.cell 2
    have cR3 := hR.cell 3
    have zR := hR.lt
    have fR := hR.frozen
    have cG0 := hG.cell 0
    have cG1 := hG.cell 1
    have cG2 := hG.cell 2
    have cG3 := hG.cell 3
    have cG4 := hG.cell 4
    have cG5 := hG.cell 5
    have cG6 := hG.cell 6
    have cG7 := hG.cell 7
    have zG := hG.lt
    have fG := hG.frozen
    have cX0 := hX.cell 0
    have cX1 := hX.cell 1
    have zX := hX.lt
    have HR := Lib.hid hR
    have HW := Lib.hid hW
    clear hA hE hG hX hR hW
    go_wp2
    exact ret_iv (p := 6) (q := 7) (by kernel_rfl) rfl rfl ((put4 HR.out HW.out (by omega) 0 0 0 0).1.alloc _) ⟨by rw [HRES.out], (put4 HR.out HW.out (by omega) 0 0 0 0).2.alloc (put4 HR.out HW.out (by omega) 0 0 0 0).2.size _⟩
  by_cases n2 : r3 = 0
  case neg =>
    have HRES := Lib.hid (show exR (p1, p2, p3) (q1, q2, q3) (r1, r2, r3) (s1, s2, s3) = (0, 0, 0, 0, r3) by unfold exR; simp [n0, n1, n2])
    have b2 : (r3 == 0) = false := by simpa using n2
    subst n0
    subst n1
    clear VP VQ VR VS CS
    have nAG : ¬ w.heap.size = w.heap.size + 1 + 1 + 1 := by omega
    have mAG : ¬ w.heap.size + 1 + 1 + 1 = w.heap.size := by omega
    have nEG : ¬ w.heap.size + 1 = w.heap.size + 1 + 1 + 1 := by omega
    have mEG : ¬ w.heap.size + 1 + 1 + 1 = w.heap.size + 1 := by omega
    have nRG : ¬ w.heap.size + 1 + 1 = w.heap.size + 1 + 1 + 1 := by omega
    have mRG : ¬ w.heap.size + 1 + 1 + 1 = w.heap.size + 1 + 1 := by omega
    have I0 := index_0 a b c d
    have I1 := index_1 a b c d
    have J0 := index_0 a' b' c' d'
    have J1 := index_1 a' b' c' d'
    have cA0 := hA.cell 0
    have cA1 := hA.cell 1
    have cA2 := hA.cell 2
    have cA3 := hA.cell 3
    have zA := hA.lt
    have cE0 := hE.cell 0
    have cE1 := hE.cell 1
    have cE2 := hE.cell 2
    have cE3 := hE.cell 3
    have zE := hE.lt
    have cR0 := hR.cell 0
    have cR1 := hR.cell 1
    have cR2 := hR.cell 2
    have cR3 := hR.cell 3
    have zR := hR.lt
    have fR := hR.frozen
    have cG0 := hG.cell 0
    have cG1 := hG.cell 1
    have cG2 := hG.cell 2
    have cG3 := hG.cell 3
    have cG4 := hG.cell 4
    have cG5 := hG.cell 5
    have cG6 := hG.cell 6
    have cG7 := hG.cell 7
    have zG := hG.lt
    have fG := hG.frozen
    go_enter Try.func57, Try.ntmps57
    go_wp2
    refine wp_loop_rounds 3 ?_
    rw [rounds_succ]
    have hX := Blk.new' hW 23 #[.int .i64 a, .int .i64 b]
    try simp only [World.size_alloc] at hX
    replace hA := hA.alloc (.cells #[.int .i64 a, .int .i64 b] 23)
    replace hE := hE.alloc (.cells #[.int .i64 a, .int .i64 b] 23)
    replace hR := hR.alloc (.cells #[.int .i64 a, .int .i64 b] 23)
    replace hG := hG.alloc (.cells #[.int .i64 a, .int .i64 b] 23)
    replace hW := hW.alloc hW.size (.cells #[.int .i64 a, .int .i64 b] 23)
    have nXG : ¬ w.heap.size + 1 + 1 + 1 + 1 = w.heap.size + 1 + 1 + 1 := by omega
    have mXG : ¬ w.heap.size + 1 + 1 + 1 = w.heap.size + 1 + 1 + 1 + 1 := by omega
    go_wp2
    refine wp_loop_rounds 3 ?_
    rw [rounds_succ]
    have hY := Blk.new' hW 23 #[.int .i64 a', .int .i64 b']
    try simp only [World.size_alloc] at hY
    replace hA := hA.alloc (.cells #[.int .i64 a', .int .i64 b'] 23)
    replace hE := hE.alloc (.cells #[.int .i64 a', .int .i64 b'] 23)
    replace hR := hR.alloc (.cells #[.int .i64 a', .int .i64 b'] 23)
    replace hG := hG.alloc (.cells #[.int .i64 a', .int .i64 b'] 23)
    replace hX := hX.alloc (.cells #[.int .i64 a', .int .i64 b'] 23)
    replace hW := hW.alloc hW.size (.cells #[.int .i64 a', .int .i64 b'] 23)
    go_wp2_with fail
    (with_reducible refine (CP.out _).mono ?_)
    rintro e v0 ⟨rfl, hB⟩
    clear hY
    replace hA := hA.below hB hA.lt
    replace hE := hE.below hB hE.lt
    replace hR := hR.below hB hR.lt
    replace hG := hG.below hB hG.lt
    replace hX := hX.below hB hX.lt
    replace hW := below_st hW hB
    clear hB
    clear cA0 cA1 cA2 cA3 zA cE0 cE1 cE2 cE3 zE cR0 cR1 cR2 cR3 zR fR cG0 cG1 cG2 cG3 cG4 cG5 cG6 cG7 zG fG
    have cA0 := hA.cell 0
    have cA1 := hA.cell 1
    have cA2 := hA.cell 2
    have cA3 := hA.cell 3
    have zA := hA.lt
    have cE0 := hE.cell 0
    have cE1 := hE.cell 1
    have cE2 := hE.cell 2
    have cE3 := hE.cell 3
    have zE := hE.lt
    have cR0 := hR.cell 0
    have cR1 := hR.cell 1
    have cR2 := hR.cell 2
    have cR3 := hR.cell 3
    have zR := hR.lt
    have fR := hR.frozen
    have cG0 := hG.cell 0
    have cG1 := hG.cell 1
    have cG2 := hG.cell 2
    have cG3 := hG.cell 3
    have cG4 := hG.cell 4
    have cG5 := hG.cell 5
    have cG6 := hG.cell 6
    have cG7 := hG.cell 7
    have zG := hG.lt
    have fG := hG.frozen
    have cX0 := hX.cell 0
    have cX1 := hX.cell 1
    have zX := hX.lt
    replace hA := hA.far2 (g := w.heap.size + 1 + 1 + 1) (i := 0) (j := 1) (by omega) (.int .i64 p1) (.int .i64 p2)
    replace hE := hE.far2 (g := w.heap.size + 1 + 1 + 1) (i := 0) (j := 1) (by omega) (.int .i64 p1) (.int .i64 p2)
    replace hR := hR.far2 (g := w.heap.size + 1 + 1 + 1) (i := 0) (j := 1) (by omega) (.int .i64 p1) (.int .i64 p2)
    replace hX := hX.far2 (g := w.heap.size + 1 + 1 + 1) (i := 0) (j := 1) (by omega) (.int .i64 p1) (.int .i64 p2)
    replace hG : Blk _ _ _ #[.int .i64 p1, .int .i64 p2, .int .i64 0, .int .i64 0, .int .i64 0, .int .i64 0, .int .i64 0, .int .i64 0] := (hG.put 0 (.int .i64 p1)).put 1 (.int .i64 p2)
    replace hW := (hW.setCell (p := ⟨w.heap.size + 1 + 1 + 1, 0, none⟩) (by show w.heap.size ≤ w.heap.size + 1 + 1 + 1; omega) (.int .i64 p1)).setCell (p := ⟨w.heap.size + 1 + 1 + 1, 1, none⟩) (by show w.heap.size ≤ w.heap.size + 1 + 1 + 1; omega) (.int .i64 p2)
    have hZ := Blk.new' hW 23 #[.int .i64 p1, .int .i64 p2]
    try simp only [World.size_setCell] at hZ
    replace hA := hA.alloc (.cells #[.int .i64 p1, .int .i64 p2] 23)
    replace hE := hE.alloc (.cells #[.int .i64 p1, .int .i64 p2] 23)
    replace hR := hR.alloc (.cells #[.int .i64 p1, .int .i64 p2] 23)
    replace hG := hG.alloc (.cells #[.int .i64 p1, .int .i64 p2] 23)
    replace hX := hX.alloc (.cells #[.int .i64 p1, .int .i64 p2] 23)
    replace hW := hW.alloc hW.size (.cells #[.int .i64 p1, .int .i64 p2] 23)
    clear hZ
    go_wp2
    rw [rounds_succ]
    have hY := Blk.new' hW 23 #[.int .i64 c', .int .i64 d']
    try simp only [World.size_alloc, World.size_setCell] at hY
    replace hA := hA.alloc (.cells #[.int .i64 c', .int .i64 d'] 23)
    replace hE := hE.alloc (.cells #[.int .i64 c', .int .i64 d'] 23)
    replace hR := hR.alloc (.cells #[.int .i64 c', .int .i64 d'] 23)
    replace hG := hG.alloc (.cells #[.int .i64 c', .int .i64 d'] 23)
    replace hX := hX.alloc (.cells #[.int .i64 c', .int .i64 d'] 23)
    replace hW := hW.alloc hW.size (.cells #[.int .i64 c', .int .i64 d'] 23)
    go_wp2_with fail
    (with_reducible refine (CQ.out _).mono ?_)
    rintro e v1 ⟨rfl, hB⟩
    clear hY
    replace hA := hA.below hB hA.lt
    replace hE := hE.below hB hE.lt
    replace hR := hR.below hB hR.lt
    replace hG := hG.below hB hG.lt
    replace hX := hX.below hB hX.lt
    replace hW := below_st hW hB
    clear hB
    clear cA0 cA1 cA2 cA3 zA cE0 cE1 cE2 cE3 zE cR0 cR1 cR2 cR3 zR fR cG0 cG1 cG2 cG3 cG4 cG5 cG6 cG7 zG fG cX0 cX1 zX
    have cA0 := hA.cell 0
    have cA1 := hA.cell 1
    have cA2 := hA.cell 2
    have cA3 := hA.cell 3
    have zA := hA.lt
    have cE0 := hE.cell 0
    have cE1 := hE.cell 1
    have cE2 := hE.cell 2
    have cE3 := hE.cell 3
    have zE := hE.lt
    have cR0 := hR.cell 0
    have cR1 := hR.cell 1
    have cR2 := hR.cell 2
    have cR3 := hR.cell 3
    have zR := hR.lt
    have fR := hR.frozen
    have cG0 := hG.cell 0
    have cG1 := hG.cell 1
    have cG2 := hG.cell 2
    have cG3 := hG.cell 3
    have cG4 := hG.cell 4
    have cG5 := hG.cell 5
    have cG6 := hG.cell 6
    have cG7 := hG.cell 7
    have zG := hG.lt
    have fG := hG.frozen
    have cX0 := hX.cell 0
    have cX1 := hX.cell 1
    have zX := hX.lt
    replace hA := hA.far2 (g := w.heap.size + 1 + 1 + 1) (i := 2) (j := 3) (by omega) (.int .i64 q1) (.int .i64 q2)
    replace hE := hE.far2 (g := w.heap.size + 1 + 1 + 1) (i := 2) (j := 3) (by omega) (.int .i64 q1) (.int .i64 q2)
    replace hR := hR.far2 (g := w.heap.size + 1 + 1 + 1) (i := 2) (j := 3) (by omega) (.int .i64 q1) (.int .i64 q2)
    replace hX := hX.far2 (g := w.heap.size + 1 + 1 + 1) (i := 2) (j := 3) (by omega) (.int .i64 q1) (.int .i64 q2)
    replace hG : Blk _ _ _ #[.int .i64 p1, .int .i64 p2, .int .i64 q1, .int .i64 q2, .int .i64 0, .int .i64 0, .int .i64 0, .int .i64 0] := (hG.put 2 (.int .i64 q1)).put 3 (.int .i64 q2)
    replace hW := (hW.setCell (p := ⟨w.heap.size + 1 + 1 + 1, 2, none⟩) (by show w.heap.size ≤ w.heap.size + 1 + 1 + 1; omega) (.int .i64 q1)).setCell (p := ⟨w.heap.size + 1 + 1 + 1, 3, none⟩) (by show w.heap.size ≤ w.heap.size + 1 + 1 + 1; omega) (.int .i64 q2)
    have hZ := Blk.new' hW 23 #[.int .i64 q1, .int .i64 q2]
    try simp only [World.size_setCell] at hZ
    replace hA := hA.alloc (.cells #[.int .i64 q1, .int .i64 q2] 23)
    replace hE := hE.alloc (.cells #[.int .i64 q1, .int .i64 q2] 23)
    replace hR := hR.alloc (.cells #[.int .i64 q1, .int .i64 q2] 23)
    replace hG := hG.alloc (.cells #[.int .i64 q1, .int .i64 q2] 23)
    replace hX := hX.alloc (.cells #[.int .i64 q1, .int .i64 q2] 23)
    replace hW := hW.alloc hW.size (.cells #[.int .i64 q1, .int .i64 q2] 23)
    clear hZ
    clear hX
    go_wp2
    rw [rounds_succ]
    go_wp2
    rw [rounds_succ]
    have hX := Blk.new' hW 23 #[.int .i64 c, .int .i64 d]
    try simp only [World.size_alloc, World.size_setCell] at hX
    replace hA := hA.alloc (.cells #[.int .i64 c, .int .i64 d] 23)
    replace hE := hE.alloc (.cells #[.int .i64 c, .int .i64 d] 23)
    replace hR := hR.alloc (.cells #[.int .i64 c, .int .i64 d] 23)
    replace hG := hG.alloc (.cells #[.int .i64 c, .int .i64 d] 23)
    replace hW := hW.alloc hW.size (.cells #[.int .i64 c, .int .i64 d] 23)
    clear nXG mXG
    have oXG : ¬ v1.heap.size = w.heap.size + 1 + 1 := by omega
    have pXG : ¬ w.heap.size + 1 + 1 = v1.heap.size := by omega
    have nXG : ¬ v1.heap.size + 1 = w.heap.size + 1 + 1 + 1 := by omega
    have mXG : ¬ w.heap.size + 1 + 1 + 1 = v1.heap.size + 1 := by omega
    go_wp2
    refine wp_loop_rounds 3 ?_
    rw [rounds_succ]
    have hY := Blk.new' hW 23 #[.int .i64 a', .int .i64 b']
    try simp only [World.size_alloc, World.size_setCell] at hY
    replace hA := hA.alloc (.cells #[.int .i64 a', .int .i64 b'] 23)
    replace hE := hE.alloc (.cells #[.int .i64 a', .int .i64 b'] 23)
    replace hR := hR.alloc (.cells #[.int .i64 a', .int .i64 b'] 23)
    replace hG := hG.alloc (.cells #[.int .i64 a', .int .i64 b'] 23)
    replace hX := hX.alloc (.cells #[.int .i64 a', .int .i64 b'] 23)
    replace hW := hW.alloc hW.size (.cells #[.int .i64 a', .int .i64 b'] 23)
    go_wp2_with fail
    (with_reducible refine (CR.out _).mono ?_)
    rintro e v2 ⟨rfl, hB⟩
    clear hY
    replace hA := hA.below hB hA.lt
    replace hE := hE.below hB hE.lt
    replace hR := hR.below hB hR.lt
    replace hG := hG.below hB hG.lt
    replace hX := hX.below hB hX.lt
    replace hW := below_st hW hB
    clear hB
    clear cA0 cA1 cA2 cA3 zA cE0 cE1 cE2 cE3 zE cR0 cR1 cR2 cR3 zR fR cG0 cG1 cG2 cG3 cG4 cG5 cG6 cG7 zG fG cX0 cX1 zX
    have cA0 := hA.cell 0
    have cA1 := hA.cell 1
    have cA2 := hA.cell 2
    have cA3 := hA.cell 3
    have zA := hA.lt
    have cE0 := hE.cell 0
    have cE1 := hE.cell 1
    have cE2 := hE.cell 2
    have cE3 := hE.cell 3
    have zE := hE.lt
    have cR0 := hR.cell 0
    have cR1 := hR.cell 1
    have cR2 := hR.cell 2
    have cR3 := hR.cell 3
    have zR := hR.lt
    have fR := hR.frozen
    have cG0 := hG.cell 0
    have cG1 := hG.cell 1
    have cG2 := hG.cell 2
    have cG3 := hG.cell 3
    have cG4 := hG.cell 4
    have cG5 := hG.cell 5
    have cG6 := hG.cell 6
    have cG7 := hG.cell 7
    have zG := hG.lt
    have fG := hG.frozen
    have cX0 := hX.cell 0
    have cX1 := hX.cell 1
    have zX := hX.lt
    have yX : v1.heap.size < v2.heap.size := by omega
    have HR := Lib.hid hR
    have HW := Lib.hid hW
    clear hA hE hG hX hR hW
    go_wp2
    exact ret_iv (p := 6) (q := 7) (by kernel_rfl) rfl rfl ((put4 HR.out HW.out (by omega) 0 0 0 0).1.alloc _) ⟨by rw [HRES.out], (put4 HR.out HW.out (by omega) 0 0 0 0).2.alloc (put4 HR.out HW.out (by omega) 0 0 0 0).2.size _⟩
  by_cases n3 : s3 = 0
  case neg =>
    have HRES := Lib.hid (show exR (p1, p2, p3) (q1, q2, q3) (r1, r2, r3) (s1, s2, s3) = (0, 0, 0, 0, s3) by unfold exR; simp [n0, n1, n2, n3])
    have b3 : (s3 == 0) = false := by simpa using n3
    subst n0
    subst n1
    subst n2
    clear VP VQ VR VS 
    have nAG : ¬ w.heap.size = w.heap.size + 1 + 1 + 1 := by omega
    have mAG : ¬ w.heap.size + 1 + 1 + 1 = w.heap.size := by omega
    have nEG : ¬ w.heap.size + 1 = w.heap.size + 1 + 1 + 1 := by omega
    have mEG : ¬ w.heap.size + 1 + 1 + 1 = w.heap.size + 1 := by omega
    have nRG : ¬ w.heap.size + 1 + 1 = w.heap.size + 1 + 1 + 1 := by omega
    have mRG : ¬ w.heap.size + 1 + 1 + 1 = w.heap.size + 1 + 1 := by omega
    have I0 := index_0 a b c d
    have I1 := index_1 a b c d
    have J0 := index_0 a' b' c' d'
    have J1 := index_1 a' b' c' d'
    have cA0 := hA.cell 0
    have cA1 := hA.cell 1
    have cA2 := hA.cell 2
    have cA3 := hA.cell 3
    have zA := hA.lt
    have cE0 := hE.cell 0
    have cE1 := hE.cell 1
    have cE2 := hE.cell 2
    have cE3 := hE.cell 3
    have zE := hE.lt
    have cR0 := hR.cell 0
    have cR1 := hR.cell 1
    have cR2 := hR.cell 2
    have cR3 := hR.cell 3
    have zR := hR.lt
    have fR := hR.frozen
    have cG0 := hG.cell 0
    have cG1 := hG.cell 1
    have cG2 := hG.cell 2
    have cG3 := hG.cell 3
    have cG4 := hG.cell 4
    have cG5 := hG.cell 5
    have cG6 := hG.cell 6
    have cG7 := hG.cell 7
    have zG := hG.lt
    have fG := hG.frozen
    go_enter Try.func57, Try.ntmps57
    go_wp2
    refine wp_loop_rounds 3 ?_
    rw [rounds_succ]
    have hX := Blk.new' hW 23 #[.int .i64 a, .int .i64 b]
    try simp only [World.size_alloc] at hX
    replace hA := hA.alloc (.cells #[.int .i64 a, .int .i64 b] 23)
    replace hE := hE.alloc (.cells #[.int .i64 a, .int .i64 b] 23)
    replace hR := hR.alloc (.cells #[.int .i64 a, .int .i64 b] 23)
    replace hG := hG.alloc (.cells #[.int .i64 a, .int .i64 b] 23)
    replace hW := hW.alloc hW.size (.cells #[.int .i64 a, .int .i64 b] 23)
    have nXG : ¬ w.heap.size + 1 + 1 + 1 + 1 = w.heap.size + 1 + 1 + 1 := by omega
    have mXG : ¬ w.heap.size + 1 + 1 + 1 = w.heap.size + 1 + 1 + 1 + 1 := by omega
    go_wp2
    refine wp_loop_rounds 3 ?_
    rw [rounds_succ]
    have hY := Blk.new' hW 23 #[.int .i64 a', .int .i64 b']
    try simp only [World.size_alloc] at hY
    replace hA := hA.alloc (.cells #[.int .i64 a', .int .i64 b'] 23)
    replace hE := hE.alloc (.cells #[.int .i64 a', .int .i64 b'] 23)
    replace hR := hR.alloc (.cells #[.int .i64 a', .int .i64 b'] 23)
    replace hG := hG.alloc (.cells #[.int .i64 a', .int .i64 b'] 23)
    replace hX := hX.alloc (.cells #[.int .i64 a', .int .i64 b'] 23)
    replace hW := hW.alloc hW.size (.cells #[.int .i64 a', .int .i64 b'] 23)
    go_wp2_with fail
    (with_reducible refine (CP.out _).mono ?_)
    rintro e v0 ⟨rfl, hB⟩
    clear hY
    replace hA := hA.below hB hA.lt
    replace hE := hE.below hB hE.lt
    replace hR := hR.below hB hR.lt
    replace hG := hG.below hB hG.lt
    replace hX := hX.below hB hX.lt
    replace hW := below_st hW hB
    clear hB
    clear cA0 cA1 cA2 cA3 zA cE0 cE1 cE2 cE3 zE cR0 cR1 cR2 cR3 zR fR cG0 cG1 cG2 cG3 cG4 cG5 cG6 cG7 zG fG
    have cA0 := hA.cell 0
    have cA1 := hA.cell 1
    have cA2 := hA.cell 2
    have cA3 := hA.cell 3
    have zA := hA.lt
    have cE0 := hE.cell 0
    have cE1 := hE.cell 1
    have cE2 := hE.cell 2
    have cE3 := hE.cell 3
    have zE := hE.lt
    have cR0 := hR.cell 0
    have cR1 := hR.cell 1
    have cR2 := hR.cell 2
    have cR3 := hR.cell 3
    have zR := hR.lt
    have fR := hR.frozen
    have cG0 := hG.cell 0
    have cG1 := hG.cell 1
    have cG2 := hG.cell 2
    have cG3 := hG.cell 3
    have cG4 := hG.cell 4
    have cG5 := hG.cell 5
    have cG6 := hG.cell 6
    have cG7 := hG.cell 7
    have zG := hG.lt
    have fG := hG.frozen
    have cX0 := hX.cell 0
    have cX1 := hX.cell 1
    have zX := hX.lt
    replace hA := hA.far2 (g := w.heap.size + 1 + 1 + 1) (i := 0) (j := 1) (by omega) (.int .i64 p1) (.int .i64 p2)
    replace hE := hE.far2 (g := w.heap.size + 1 + 1 + 1) (i := 0) (j := 1) (by omega) (.int .i64 p1) (.int .i64 p2)
    replace hR := hR.far2 (g := w.heap.size + 1 + 1 + 1) (i := 0) (j := 1) (by omega) (.int .i64 p1) (.int .i64 p2)
    replace hX := hX.far2 (g := w.heap.size + 1 + 1 + 1) (i := 0) (j := 1) (by omega) (.int .i64 p1) (.int .i64 p2)
    replace hG : Blk _ _ _ #[.int .i64 p1, .int .i64 p2, .int .i64 0, .int .i64 0, .int .i64 0, .int .i64 0, .int .i64 0, .int .i64 0] := (hG.put 0 (.int .i64 p1)).put 1 (.int .i64 p2)
    replace hW := (hW.setCell (p := ⟨w.heap.size + 1 + 1 + 1, 0, none⟩) (by show w.heap.size ≤ w.heap.size + 1 + 1 + 1; omega) (.int .i64 p1)).setCell (p := ⟨w.heap.size + 1 + 1 + 1, 1, none⟩) (by show w.heap.size ≤ w.heap.size + 1 + 1 + 1; omega) (.int .i64 p2)
    have hZ := Blk.new' hW 23 #[.int .i64 p1, .int .i64 p2]
    try simp only [World.size_setCell] at hZ
    replace hA := hA.alloc (.cells #[.int .i64 p1, .int .i64 p2] 23)
    replace hE := hE.alloc (.cells #[.int .i64 p1, .int .i64 p2] 23)
    replace hR := hR.alloc (.cells #[.int .i64 p1, .int .i64 p2] 23)
    replace hG := hG.alloc (.cells #[.int .i64 p1, .int .i64 p2] 23)
    replace hX := hX.alloc (.cells #[.int .i64 p1, .int .i64 p2] 23)
    replace hW := hW.alloc hW.size (.cells #[.int .i64 p1, .int .i64 p2] 23)
    clear hZ
    go_wp2
    rw [rounds_succ]
    have hY := Blk.new' hW 23 #[.int .i64 c', .int .i64 d']
    try simp only [World.size_alloc, World.size_setCell] at hY
    replace hA := hA.alloc (.cells #[.int .i64 c', .int .i64 d'] 23)
    replace hE := hE.alloc (.cells #[.int .i64 c', .int .i64 d'] 23)
    replace hR := hR.alloc (.cells #[.int .i64 c', .int .i64 d'] 23)
    replace hG := hG.alloc (.cells #[.int .i64 c', .int .i64 d'] 23)
    replace hX := hX.alloc (.cells #[.int .i64 c', .int .i64 d'] 23)
    replace hW := hW.alloc hW.size (.cells #[.int .i64 c', .int .i64 d'] 23)
    go_wp2_with fail
    (with_reducible refine (CQ.out _).mono ?_)
    rintro e v1 ⟨rfl, hB⟩
    clear hY
    replace hA := hA.below hB hA.lt
    replace hE := hE.below hB hE.lt
    replace hR := hR.below hB hR.lt
    replace hG := hG.below hB hG.lt
    replace hX := hX.below hB hX.lt
    replace hW := below_st hW hB
    clear hB
    clear cA0 cA1 cA2 cA3 zA cE0 cE1 cE2 cE3 zE cR0 cR1 cR2 cR3 zR fR cG0 cG1 cG2 cG3 cG4 cG5 cG6 cG7 zG fG cX0 cX1 zX
    have cA0 := hA.cell 0
    have cA1 := hA.cell 1
    have cA2 := hA.cell 2
    have cA3 := hA.cell 3
    have zA := hA.lt
    have cE0 := hE.cell 0
    have cE1 := hE.cell 1
    have cE2 := hE.cell 2
    have cE3 := hE.cell 3
    have zE := hE.lt
    have cR0 := hR.cell 0
    have cR1 := hR.cell 1
    have cR2 := hR.cell 2
    have cR3 := hR.cell 3
    have zR := hR.lt
    have fR := hR.frozen
    have cG0 := hG.cell 0
    have cG1 := hG.cell 1
    have cG2 := hG.cell 2
    have cG3 := hG.cell 3
    have cG4 := hG.cell 4
    have cG5 := hG.cell 5
    have cG6 := hG.cell 6
    have cG7 := hG.cell 7
    have zG := hG.lt
    have fG := hG.frozen
    have cX0 := hX.cell 0
    have cX1 := hX.cell 1
    have zX := hX.lt
    replace hA := hA.far2 (g := w.heap.size + 1 + 1 + 1) (i := 2) (j := 3) (by omega) (.int .i64 q1) (.int .i64 q2)
    replace hE := hE.far2 (g := w.heap.size + 1 + 1 + 1) (i := 2) (j := 3) (by omega) (.int .i64 q1) (.int .i64 q2)
    replace hR := hR.far2 (g := w.heap.size + 1 + 1 + 1) (i := 2) (j := 3) (by omega) (.int .i64 q1) (.int .i64 q2)
    replace hX := hX.far2 (g := w.heap.size + 1 + 1 + 1) (i := 2) (j := 3) (by omega) (.int .i64 q1) (.int .i64 q2)
    replace hG : Blk _ _ _ #[.int .i64 p1, .int .i64 p2, .int .i64 q1, .int .i64 q2, .int .i64 0, .int .i64 0, .int .i64 0, .int .i64 0] := (hG.put 2 (.int .i64 q1)).put 3 (.int .i64 q2)
    replace hW := (hW.setCell (p := ⟨w.heap.size + 1 + 1 + 1, 2, none⟩) (by show w.heap.size ≤ w.heap.size + 1 + 1 + 1; omega) (.int .i64 q1)).setCell (p := ⟨w.heap.size + 1 + 1 + 1, 3, none⟩) (by show w.heap.size ≤ w.heap.size + 1 + 1 + 1; omega) (.int .i64 q2)
    have hZ := Blk.new' hW 23 #[.int .i64 q1, .int .i64 q2]
    try simp only [World.size_setCell] at hZ
    replace hA := hA.alloc (.cells #[.int .i64 q1, .int .i64 q2] 23)
    replace hE := hE.alloc (.cells #[.int .i64 q1, .int .i64 q2] 23)
    replace hR := hR.alloc (.cells #[.int .i64 q1, .int .i64 q2] 23)
    replace hG := hG.alloc (.cells #[.int .i64 q1, .int .i64 q2] 23)
    replace hX := hX.alloc (.cells #[.int .i64 q1, .int .i64 q2] 23)
    replace hW := hW.alloc hW.size (.cells #[.int .i64 q1, .int .i64 q2] 23)
    clear hZ
    clear hX
    go_wp2
    rw [rounds_succ]
    go_wp2
    rw [rounds_succ]
    have hX := Blk.new' hW 23 #[.int .i64 c, .int .i64 d]
    try simp only [World.size_alloc, World.size_setCell] at hX
    replace hA := hA.alloc (.cells #[.int .i64 c, .int .i64 d] 23)
    replace hE := hE.alloc (.cells #[.int .i64 c, .int .i64 d] 23)
    replace hR := hR.alloc (.cells #[.int .i64 c, .int .i64 d] 23)
    replace hG := hG.alloc (.cells #[.int .i64 c, .int .i64 d] 23)
    replace hW := hW.alloc hW.size (.cells #[.int .i64 c, .int .i64 d] 23)
    clear nXG mXG
    have oXG : ¬ v1.heap.size = w.heap.size + 1 + 1 := by omega
    have pXG : ¬ w.heap.size + 1 + 1 = v1.heap.size := by omega
    have nXG : ¬ v1.heap.size + 1 = w.heap.size + 1 + 1 + 1 := by omega
    have mXG : ¬ w.heap.size + 1 + 1 + 1 = v1.heap.size + 1 := by omega
    go_wp2
    refine wp_loop_rounds 3 ?_
    rw [rounds_succ]
    have hY := Blk.new' hW 23 #[.int .i64 a', .int .i64 b']
    try simp only [World.size_alloc, World.size_setCell] at hY
    replace hA := hA.alloc (.cells #[.int .i64 a', .int .i64 b'] 23)
    replace hE := hE.alloc (.cells #[.int .i64 a', .int .i64 b'] 23)
    replace hR := hR.alloc (.cells #[.int .i64 a', .int .i64 b'] 23)
    replace hG := hG.alloc (.cells #[.int .i64 a', .int .i64 b'] 23)
    replace hX := hX.alloc (.cells #[.int .i64 a', .int .i64 b'] 23)
    replace hW := hW.alloc hW.size (.cells #[.int .i64 a', .int .i64 b'] 23)
    go_wp2_with fail
    (with_reducible refine (CR.out _).mono ?_)
    rintro e v2 ⟨rfl, hB⟩
    clear hY
    replace hA := hA.below hB hA.lt
    replace hE := hE.below hB hE.lt
    replace hR := hR.below hB hR.lt
    replace hG := hG.below hB hG.lt
    replace hX := hX.below hB hX.lt
    replace hW := below_st hW hB
    clear hB
    clear cA0 cA1 cA2 cA3 zA cE0 cE1 cE2 cE3 zE cR0 cR1 cR2 cR3 zR fR cG0 cG1 cG2 cG3 cG4 cG5 cG6 cG7 zG fG cX0 cX1 zX
    have cA0 := hA.cell 0
    have cA1 := hA.cell 1
    have cA2 := hA.cell 2
    have cA3 := hA.cell 3
    have zA := hA.lt
    have cE0 := hE.cell 0
    have cE1 := hE.cell 1
    have cE2 := hE.cell 2
    have cE3 := hE.cell 3
    have zE := hE.lt
    have cR0 := hR.cell 0
    have cR1 := hR.cell 1
    have cR2 := hR.cell 2
    have cR3 := hR.cell 3
    have zR := hR.lt
    have fR := hR.frozen
    have cG0 := hG.cell 0
    have cG1 := hG.cell 1
    have cG2 := hG.cell 2
    have cG3 := hG.cell 3
    have cG4 := hG.cell 4
    have cG5 := hG.cell 5
    have cG6 := hG.cell 6
    have cG7 := hG.cell 7
    have zG := hG.lt
    have fG := hG.frozen
    have cX0 := hX.cell 0
    have cX1 := hX.cell 1
    have zX := hX.lt
    have yX : v1.heap.size < v2.heap.size := by omega
    replace hA := hA.far2 (g := w.heap.size + 1 + 1 + 1) (i := 4) (j := 5) (by omega) (.int .i64 r1) (.int .i64 r2)
    replace hE := hE.far2 (g := w.heap.size + 1 + 1 + 1) (i := 4) (j := 5) (by omega) (.int .i64 r1) (.int .i64 r2)
    replace hR := hR.far2 (g := w.heap.size + 1 + 1 + 1) (i := 4) (j := 5) (by omega) (.int .i64 r1) (.int .i64 r2)
    replace hX := hX.far2 (g := w.heap.size + 1 + 1 + 1) (i := 4) (j := 5) (by omega) (.int .i64 r1) (.int .i64 r2)
    replace hG : Blk _ _ _ #[.int .i64 p1, .int .i64 p2, .int .i64 q1, .int .i64 q2, .int .i64 r1, .int .i64 r2, .int .i64 0, .int .i64 0] := (hG.put 4 (.int .i64 r1)).put 5 (.int .i64 r2)
    replace hW := (hW.setCell (p := ⟨w.heap.size + 1 + 1 + 1, 4, none⟩) (by show w.heap.size ≤ w.heap.size + 1 + 1 + 1; omega) (.int .i64 r1)).setCell (p := ⟨w.heap.size + 1 + 1 + 1, 5, none⟩) (by show w.heap.size ≤ w.heap.size + 1 + 1 + 1; omega) (.int .i64 r2)
    have hZ := Blk.new' hW 23 #[.int .i64 r1, .int .i64 r2]
    try simp only [World.size_setCell] at hZ
    replace hA := hA.alloc (.cells #[.int .i64 r1, .int .i64 r2] 23)
    replace hE := hE.alloc (.cells #[.int .i64 r1, .int .i64 r2] 23)
    replace hR := hR.alloc (.cells #[.int .i64 r1, .int .i64 r2] 23)
    replace hG := hG.alloc (.cells #[.int .i64 r1, .int .i64 r2] 23)
    replace hX := hX.alloc (.cells #[.int .i64 r1, .int .i64 r2] 23)
    replace hW := hW.alloc hW.size (.cells #[.int .i64 r1, .int .i64 r2] 23)
    clear hZ
    go_wp2
    rw [rounds_succ]
    have hY := Blk.new' hW 23 #[.int .i64 c', .int .i64 d']
    try simp only [World.size_alloc, World.size_setCell] at hY
    replace hA := hA.alloc (.cells #[.int .i64 c', .int .i64 d'] 23)
    replace hE := hE.alloc (.cells #[.int .i64 c', .int .i64 d'] 23)
    replace hR := hR.alloc (.cells #[.int .i64 c', .int .i64 d'] 23)
    replace hG := hG.alloc (.cells #[.int .i64 c', .int .i64 d'] 23)
    replace hX := hX.alloc (.cells #[.int .i64 c', .int .i64 d'] 23)
    replace hW := hW.alloc hW.size (.cells #[.int .i64 c', .int .i64 d'] 23)
    go_wp2_with fail
    (with_reducible refine (CS.out _).mono ?_)
    rintro e v3 ⟨rfl, hB⟩
    clear hY
    replace hA := hA.below hB hA.lt
    replace hE := hE.below hB hE.lt
    replace hR := hR.below hB hR.lt
    replace hG := hG.below hB hG.lt
    replace hX := hX.below hB hX.lt
    replace hW := below_st hW hB
    clear hB
    clear cA0 cA1 cA2 cA3 zA cE0 cE1 cE2 cE3 zE cR0 cR1 cR2 cR3 zR fR cG0 cG1 cG2 cG3 cG4 cG5 cG6 cG7 zG fG cX0 cX1 zX
    have cA0 := hA.cell 0
    have cA1 := hA.cell 1
    have cA2 := hA.cell 2
    have cA3 := hA.cell 3
    have zA := hA.lt
    have cE0 := hE.cell 0
    have cE1 := hE.cell 1
    have cE2 := hE.cell 2
    have cE3 := hE.cell 3
    have zE := hE.lt
    have cR0 := hR.cell 0
    have cR1 := hR.cell 1
    have cR2 := hR.cell 2
    have cR3 := hR.cell 3
    have zR := hR.lt
    have fR := hR.frozen
    have cG0 := hG.cell 0
    have cG1 := hG.cell 1
    have cG2 := hG.cell 2
    have cG3 := hG.cell 3
    have cG4 := hG.cell 4
    have cG5 := hG.cell 5
    have cG6 := hG.cell 6
    have cG7 := hG.cell 7
    have zG := hG.lt
    have fG := hG.frozen
    have cX0 := hX.cell 0
    have cX1 := hX.cell 1
    have zX := hX.lt
    have HR := Lib.hid hR
    have HW := Lib.hid hW
    clear hA hE hG hX hR hW
    go_wp2
    exact ret_iv (p := 6) (q := 7) (by kernel_rfl) rfl rfl ((put4 HR.out HW.out (by omega) 0 0 0 0).1.alloc _) ⟨by rw [HRES.out], (put4 HR.out HW.out (by omega) 0 0 0 0).2.alloc (put4 HR.out HW.out (by omega) 0 0 0 0).2.size _⟩
  subst n0
  subst n1
  subst n2
  subst n3
  have nAG : ¬ w.heap.size = w.heap.size + 1 + 1 + 1 := by omega
  have mAG : ¬ w.heap.size + 1 + 1 + 1 = w.heap.size := by omega
  have nEG : ¬ w.heap.size + 1 = w.heap.size + 1 + 1 + 1 := by omega
  have mEG : ¬ w.heap.size + 1 + 1 + 1 = w.heap.size + 1 := by omega
  have nRG : ¬ w.heap.size + 1 + 1 = w.heap.size + 1 + 1 + 1 := by omega
  have mRG : ¬ w.heap.size + 1 + 1 + 1 = w.heap.size + 1 + 1 := by omega
  have I0 := index_0 a b c d
  have I1 := index_1 a b c d
  have J0 := index_0 a' b' c' d'
  have J1 := index_1 a' b' c' d'
  have cA0 := hA.cell 0
  have cA1 := hA.cell 1
  have cA2 := hA.cell 2
  have cA3 := hA.cell 3
  have zA := hA.lt
  have cE0 := hE.cell 0
  have cE1 := hE.cell 1
  have cE2 := hE.cell 2
  have cE3 := hE.cell 3
  have zE := hE.lt
  have cR0 := hR.cell 0
  have cR1 := hR.cell 1
  have cR2 := hR.cell 2
  have cR3 := hR.cell 3
  have zR := hR.lt
  have fR := hR.frozen
  have cG0 := hG.cell 0
  have cG1 := hG.cell 1
  have cG2 := hG.cell 2
  have cG3 := hG.cell 3
  have cG4 := hG.cell 4
  have cG5 := hG.cell 5
  have cG6 := hG.cell 6
  have cG7 := hG.cell 7
  have zG := hG.lt
  have fG := hG.frozen
  go_enter Try.func57, Try.ntmps57
  go_wp2
  refine wp_loop_rounds 3 ?_
  rw [rounds_succ]
  have hX := Blk.new' hW 23 #[.int .i64 a, .int .i64 b]
  try simp only [World.size_alloc] at hX
  replace hA := hA.alloc (.cells #[.int .i64 a, .int .i64 b] 23)
  replace hE := hE.alloc (.cells #[.int .i64 a, .int .i64 b] 23)
  replace hR := hR.alloc (.cells #[.int .i64 a, .int .i64 b] 23)
  replace hG := hG.alloc (.cells #[.int .i64 a, .int .i64 b] 23)
  replace hW := hW.alloc hW.size (.cells #[.int .i64 a, .int .i64 b] 23)
  have nXG : ¬ w.heap.size + 1 + 1 + 1 + 1 = w.heap.size + 1 + 1 + 1 := by omega
  have mXG : ¬ w.heap.size + 1 + 1 + 1 = w.heap.size + 1 + 1 + 1 + 1 := by omega
  go_wp2
  refine wp_loop_rounds 3 ?_
  rw [rounds_succ]
  have hY := Blk.new' hW 23 #[.int .i64 a', .int .i64 b']
  try simp only [World.size_alloc] at hY
  replace hA := hA.alloc (.cells #[.int .i64 a', .int .i64 b'] 23)
  replace hE := hE.alloc (.cells #[.int .i64 a', .int .i64 b'] 23)
  replace hR := hR.alloc (.cells #[.int .i64 a', .int .i64 b'] 23)
  replace hG := hG.alloc (.cells #[.int .i64 a', .int .i64 b'] 23)
  replace hX := hX.alloc (.cells #[.int .i64 a', .int .i64 b'] 23)
  replace hW := hW.alloc hW.size (.cells #[.int .i64 a', .int .i64 b'] 23)
  go_wp2_with fail
  (with_reducible refine (CP.out _).mono ?_)
  rintro e v0 ⟨rfl, hB⟩
  clear hY
  replace hA := hA.below hB hA.lt
  replace hE := hE.below hB hE.lt
  replace hR := hR.below hB hR.lt
  replace hG := hG.below hB hG.lt
  replace hX := hX.below hB hX.lt
  replace hW := below_st hW hB
  clear hB
  clear cA0 cA1 cA2 cA3 zA cE0 cE1 cE2 cE3 zE cR0 cR1 cR2 cR3 zR fR cG0 cG1 cG2 cG3 cG4 cG5 cG6 cG7 zG fG
  have cA0 := hA.cell 0
  have cA1 := hA.cell 1
  have cA2 := hA.cell 2
  have cA3 := hA.cell 3
  have zA := hA.lt
  have cE0 := hE.cell 0
  have cE1 := hE.cell 1
  have cE2 := hE.cell 2
  have cE3 := hE.cell 3
  have zE := hE.lt
  have cR0 := hR.cell 0
  have cR1 := hR.cell 1
  have cR2 := hR.cell 2
  have cR3 := hR.cell 3
  have zR := hR.lt
  have fR := hR.frozen
  have cG0 := hG.cell 0
  have cG1 := hG.cell 1
  have cG2 := hG.cell 2
  have cG3 := hG.cell 3
  have cG4 := hG.cell 4
  have cG5 := hG.cell 5
  have cG6 := hG.cell 6
  have cG7 := hG.cell 7
  have zG := hG.lt
  have fG := hG.frozen
  have cX0 := hX.cell 0
  have cX1 := hX.cell 1
  have zX := hX.lt
  replace hA := hA.far2 (g := w.heap.size + 1 + 1 + 1) (i := 0) (j := 1) (by omega) (.int .i64 p1) (.int .i64 p2)
  replace hE := hE.far2 (g := w.heap.size + 1 + 1 + 1) (i := 0) (j := 1) (by omega) (.int .i64 p1) (.int .i64 p2)
  replace hR := hR.far2 (g := w.heap.size + 1 + 1 + 1) (i := 0) (j := 1) (by omega) (.int .i64 p1) (.int .i64 p2)
  replace hX := hX.far2 (g := w.heap.size + 1 + 1 + 1) (i := 0) (j := 1) (by omega) (.int .i64 p1) (.int .i64 p2)
  replace hG : Blk _ _ _ #[.int .i64 p1, .int .i64 p2, .int .i64 0, .int .i64 0, .int .i64 0, .int .i64 0, .int .i64 0, .int .i64 0] := (hG.put 0 (.int .i64 p1)).put 1 (.int .i64 p2)
  replace hW := (hW.setCell (p := ⟨w.heap.size + 1 + 1 + 1, 0, none⟩) (by show w.heap.size ≤ w.heap.size + 1 + 1 + 1; omega) (.int .i64 p1)).setCell (p := ⟨w.heap.size + 1 + 1 + 1, 1, none⟩) (by show w.heap.size ≤ w.heap.size + 1 + 1 + 1; omega) (.int .i64 p2)
  have hZ := Blk.new' hW 23 #[.int .i64 p1, .int .i64 p2]
  try simp only [World.size_setCell] at hZ
  replace hA := hA.alloc (.cells #[.int .i64 p1, .int .i64 p2] 23)
  replace hE := hE.alloc (.cells #[.int .i64 p1, .int .i64 p2] 23)
  replace hR := hR.alloc (.cells #[.int .i64 p1, .int .i64 p2] 23)
  replace hG := hG.alloc (.cells #[.int .i64 p1, .int .i64 p2] 23)
  replace hX := hX.alloc (.cells #[.int .i64 p1, .int .i64 p2] 23)
  replace hW := hW.alloc hW.size (.cells #[.int .i64 p1, .int .i64 p2] 23)
  clear hZ
  go_wp2
  rw [rounds_succ]
  have hY := Blk.new' hW 23 #[.int .i64 c', .int .i64 d']
  try simp only [World.size_alloc, World.size_setCell] at hY
  replace hA := hA.alloc (.cells #[.int .i64 c', .int .i64 d'] 23)
  replace hE := hE.alloc (.cells #[.int .i64 c', .int .i64 d'] 23)
  replace hR := hR.alloc (.cells #[.int .i64 c', .int .i64 d'] 23)
  replace hG := hG.alloc (.cells #[.int .i64 c', .int .i64 d'] 23)
  replace hX := hX.alloc (.cells #[.int .i64 c', .int .i64 d'] 23)
  replace hW := hW.alloc hW.size (.cells #[.int .i64 c', .int .i64 d'] 23)
  go_wp2_with fail
  (with_reducible refine (CQ.out _).mono ?_)
  rintro e v1 ⟨rfl, hB⟩
  clear hY
  replace hA := hA.below hB hA.lt
  replace hE := hE.below hB hE.lt
  replace hR := hR.below hB hR.lt
  replace hG := hG.below hB hG.lt
  replace hX := hX.below hB hX.lt
  replace hW := below_st hW hB
  clear hB
  clear cA0 cA1 cA2 cA3 zA cE0 cE1 cE2 cE3 zE cR0 cR1 cR2 cR3 zR fR cG0 cG1 cG2 cG3 cG4 cG5 cG6 cG7 zG fG cX0 cX1 zX
  have cA0 := hA.cell 0
  have cA1 := hA.cell 1
  have cA2 := hA.cell 2
  have cA3 := hA.cell 3
  have zA := hA.lt
  have cE0 := hE.cell 0
  have cE1 := hE.cell 1
  have cE2 := hE.cell 2
  have cE3 := hE.cell 3
  have zE := hE.lt
  have cR0 := hR.cell 0
  have cR1 := hR.cell 1
  have cR2 := hR.cell 2
  have cR3 := hR.cell 3
  have zR := hR.lt
  have fR := hR.frozen
  have cG0 := hG.cell 0
  have cG1 := hG.cell 1
  have cG2 := hG.cell 2
  have cG3 := hG.cell 3
  have cG4 := hG.cell 4
  have cG5 := hG.cell 5
  have cG6 := hG.cell 6
  have cG7 := hG.cell 7
  have zG := hG.lt
  have fG := hG.frozen
  have cX0 := hX.cell 0
  have cX1 := hX.cell 1
  have zX := hX.lt
  replace hA := hA.far2 (g := w.heap.size + 1 + 1 + 1) (i := 2) (j := 3) (by omega) (.int .i64 q1) (.int .i64 q2)
  replace hE := hE.far2 (g := w.heap.size + 1 + 1 + 1) (i := 2) (j := 3) (by omega) (.int .i64 q1) (.int .i64 q2)
  replace hR := hR.far2 (g := w.heap.size + 1 + 1 + 1) (i := 2) (j := 3) (by omega) (.int .i64 q1) (.int .i64 q2)
  replace hX := hX.far2 (g := w.heap.size + 1 + 1 + 1) (i := 2) (j := 3) (by omega) (.int .i64 q1) (.int .i64 q2)
  replace hG : Blk _ _ _ #[.int .i64 p1, .int .i64 p2, .int .i64 q1, .int .i64 q2, .int .i64 0, .int .i64 0, .int .i64 0, .int .i64 0] := (hG.put 2 (.int .i64 q1)).put 3 (.int .i64 q2)
  replace hW := (hW.setCell (p := ⟨w.heap.size + 1 + 1 + 1, 2, none⟩) (by show w.heap.size ≤ w.heap.size + 1 + 1 + 1; omega) (.int .i64 q1)).setCell (p := ⟨w.heap.size + 1 + 1 + 1, 3, none⟩) (by show w.heap.size ≤ w.heap.size + 1 + 1 + 1; omega) (.int .i64 q2)
  have hZ := Blk.new' hW 23 #[.int .i64 q1, .int .i64 q2]
  try simp only [World.size_setCell] at hZ
  replace hA := hA.alloc (.cells #[.int .i64 q1, .int .i64 q2] 23)
  replace hE := hE.alloc (.cells #[.int .i64 q1, .int .i64 q2] 23)
  replace hR := hR.alloc (.cells #[.int .i64 q1, .int .i64 q2] 23)
  replace hG := hG.alloc (.cells #[.int .i64 q1, .int .i64 q2] 23)
  replace hX := hX.alloc (.cells #[.int .i64 q1, .int .i64 q2] 23)
  replace hW := hW.alloc hW.size (.cells #[.int .i64 q1, .int .i64 q2] 23)
  clear hZ
  clear hX
  go_wp2
  rw [rounds_succ]
  go_wp2
  rw [rounds_succ]
  have hX := Blk.new' hW 23 #[.int .i64 c, .int .i64 d]
  try simp only [World.size_alloc, World.size_setCell] at hX
  replace hA := hA.alloc (.cells #[.int .i64 c, .int .i64 d] 23)
  replace hE := hE.alloc (.cells #[.int .i64 c, .int .i64 d] 23)
  replace hR := hR.alloc (.cells #[.int .i64 c, .int .i64 d] 23)
  replace hG := hG.alloc (.cells #[.int .i64 c, .int .i64 d] 23)
  replace hW := hW.alloc hW.size (.cells #[.int .i64 c, .int .i64 d] 23)
  clear nXG mXG
  have oXG : ¬ v1.heap.size = w.heap.size + 1 + 1 := by omega
  have pXG : ¬ w.heap.size + 1 + 1 = v1.heap.size := by omega
  have nXG : ¬ v1.heap.size + 1 = w.heap.size + 1 + 1 + 1 := by omega
  have mXG : ¬ w.heap.size + 1 + 1 + 1 = v1.heap.size + 1 := by omega
  go_wp2
  refine wp_loop_rounds 3 ?_
  rw [rounds_succ]
  have hY := Blk.new' hW 23 #[.int .i64 a', .int .i64 b']
  try simp only [World.size_alloc, World.size_setCell] at hY
  replace hA := hA.alloc (.cells #[.int .i64 a', .int .i64 b'] 23)
  replace hE := hE.alloc (.cells #[.int .i64 a', .int .i64 b'] 23)
  replace hR := hR.alloc (.cells #[.int .i64 a', .int .i64 b'] 23)
  replace hG := hG.alloc (.cells #[.int .i64 a', .int .i64 b'] 23)
  replace hX := hX.alloc (.cells #[.int .i64 a', .int .i64 b'] 23)
  replace hW := hW.alloc hW.size (.cells #[.int .i64 a', .int .i64 b'] 23)
  go_wp2_with fail
  (with_reducible refine (CR.out _).mono ?_)
  rintro e v2 ⟨rfl, hB⟩
  clear hY
  replace hA := hA.below hB hA.lt
  replace hE := hE.below hB hE.lt
  replace hR := hR.below hB hR.lt
  replace hG := hG.below hB hG.lt
  replace hX := hX.below hB hX.lt
  replace hW := below_st hW hB
  clear hB
  clear cA0 cA1 cA2 cA3 zA cE0 cE1 cE2 cE3 zE cR0 cR1 cR2 cR3 zR fR cG0 cG1 cG2 cG3 cG4 cG5 cG6 cG7 zG fG cX0 cX1 zX
  have cA0 := hA.cell 0
  have cA1 := hA.cell 1
  have cA2 := hA.cell 2
  have cA3 := hA.cell 3
  have zA := hA.lt
  have cE0 := hE.cell 0
  have cE1 := hE.cell 1
  have cE2 := hE.cell 2
  have cE3 := hE.cell 3
  have zE := hE.lt
  have cR0 := hR.cell 0
  have cR1 := hR.cell 1
  have cR2 := hR.cell 2
  have cR3 := hR.cell 3
  have zR := hR.lt
  have fR := hR.frozen
  have cG0 := hG.cell 0
  have cG1 := hG.cell 1
  have cG2 := hG.cell 2
  have cG3 := hG.cell 3
  have cG4 := hG.cell 4
  have cG5 := hG.cell 5
  have cG6 := hG.cell 6
  have cG7 := hG.cell 7
  have zG := hG.lt
  have fG := hG.frozen
  have cX0 := hX.cell 0
  have cX1 := hX.cell 1
  have zX := hX.lt
  have yX : v1.heap.size < v2.heap.size := by omega
  replace hA := hA.far2 (g := w.heap.size + 1 + 1 + 1) (i := 4) (j := 5) (by omega) (.int .i64 r1) (.int .i64 r2)
  replace hE := hE.far2 (g := w.heap.size + 1 + 1 + 1) (i := 4) (j := 5) (by omega) (.int .i64 r1) (.int .i64 r2)
  replace hR := hR.far2 (g := w.heap.size + 1 + 1 + 1) (i := 4) (j := 5) (by omega) (.int .i64 r1) (.int .i64 r2)
  replace hX := hX.far2 (g := w.heap.size + 1 + 1 + 1) (i := 4) (j := 5) (by omega) (.int .i64 r1) (.int .i64 r2)
  replace hG : Blk _ _ _ #[.int .i64 p1, .int .i64 p2, .int .i64 q1, .int .i64 q2, .int .i64 r1, .int .i64 r2, .int .i64 0, .int .i64 0] := (hG.put 4 (.int .i64 r1)).put 5 (.int .i64 r2)
  replace hW := (hW.setCell (p := ⟨w.heap.size + 1 + 1 + 1, 4, none⟩) (by show w.heap.size ≤ w.heap.size + 1 + 1 + 1; omega) (.int .i64 r1)).setCell (p := ⟨w.heap.size + 1 + 1 + 1, 5, none⟩) (by show w.heap.size ≤ w.heap.size + 1 + 1 + 1; omega) (.int .i64 r2)
  have hZ := Blk.new' hW 23 #[.int .i64 r1, .int .i64 r2]
  try simp only [World.size_setCell] at hZ
  replace hA := hA.alloc (.cells #[.int .i64 r1, .int .i64 r2] 23)
  replace hE := hE.alloc (.cells #[.int .i64 r1, .int .i64 r2] 23)
  replace hR := hR.alloc (.cells #[.int .i64 r1, .int .i64 r2] 23)
  replace hG := hG.alloc (.cells #[.int .i64 r1, .int .i64 r2] 23)
  replace hX := hX.alloc (.cells #[.int .i64 r1, .int .i64 r2] 23)
  replace hW := hW.alloc hW.size (.cells #[.int .i64 r1, .int .i64 r2] 23)
  clear hZ
  go_wp2
  rw [rounds_succ]
  have hY := Blk.new' hW 23 #[.int .i64 c', .int .i64 d']
  try simp only [World.size_alloc, World.size_setCell] at hY
  replace hA := hA.alloc (.cells #[.int .i64 c', .int .i64 d'] 23)
  replace hE := hE.alloc (.cells #[.int .i64 c', .int .i64 d'] 23)
  replace hR := hR.alloc (.cells #[.int .i64 c', .int .i64 d'] 23)
  replace hG := hG.alloc (.cells #[.int .i64 c', .int .i64 d'] 23)
  replace hX := hX.alloc (.cells #[.int .i64 c', .int .i64 d'] 23)
  replace hW := hW.alloc hW.size (.cells #[.int .i64 c', .int .i64 d'] 23)
  go_wp2_with fail
  (with_reducible refine (CS.out _).mono ?_)
  rintro e v3 ⟨rfl, hB⟩
  clear hY
  replace hA := hA.below hB hA.lt
  replace hE := hE.below hB hE.lt
  replace hR := hR.below hB hR.lt
  replace hG := hG.below hB hG.lt
  replace hX := hX.below hB hX.lt
  replace hW := below_st hW hB
  clear hB
  clear cA0 cA1 cA2 cA3 zA cE0 cE1 cE2 cE3 zE cR0 cR1 cR2 cR3 zR fR cG0 cG1 cG2 cG3 cG4 cG5 cG6 cG7 zG fG cX0 cX1 zX
  have cA0 := hA.cell 0
  have cA1 := hA.cell 1
  have cA2 := hA.cell 2
  have cA3 := hA.cell 3
  have zA := hA.lt
  have cE0 := hE.cell 0
  have cE1 := hE.cell 1
  have cE2 := hE.cell 2
  have cE3 := hE.cell 3
  have zE := hE.lt
  have cR0 := hR.cell 0
  have cR1 := hR.cell 1
  have cR2 := hR.cell 2
  have cR3 := hR.cell 3
  have zR := hR.lt
  have fR := hR.frozen
  have cG0 := hG.cell 0
  have cG1 := hG.cell 1
  have cG2 := hG.cell 2
  have cG3 := hG.cell 3
  have cG4 := hG.cell 4
  have cG5 := hG.cell 5
  have cG6 := hG.cell 6
  have cG7 := hG.cell 7
  have zG := hG.lt
  have fG := hG.frozen
  have cX0 := hX.cell 0
  have cX1 := hX.cell 1
  have zX := hX.lt
  replace hA := hA.far2 (g := w.heap.size + 1 + 1 + 1) (i := 6) (j := 7) (by omega) (.int .i64 s1) (.int .i64 s2)
  replace hE := hE.far2 (g := w.heap.size + 1 + 1 + 1) (i := 6) (j := 7) (by omega) (.int .i64 s1) (.int .i64 s2)
  replace hR := hR.far2 (g := w.heap.size + 1 + 1 + 1) (i := 6) (j := 7) (by omega) (.int .i64 s1) (.int .i64 s2)
  replace hX := hX.far2 (g := w.heap.size + 1 + 1 + 1) (i := 6) (j := 7) (by omega) (.int .i64 s1) (.int .i64 s2)
  replace hG : Blk _ _ _ #[.int .i64 p1, .int .i64 p2, .int .i64 q1, .int .i64 q2, .int .i64 r1, .int .i64 r2, .int .i64 s1, .int .i64 s2] := (hG.put 6 (.int .i64 s1)).put 7 (.int .i64 s2)
  replace hW := (hW.setCell (p := ⟨w.heap.size + 1 + 1 + 1, 6, none⟩) (by show w.heap.size ≤ w.heap.size + 1 + 1 + 1; omega) (.int .i64 s1)).setCell (p := ⟨w.heap.size + 1 + 1 + 1, 7, none⟩) (by show w.heap.size ≤ w.heap.size + 1 + 1 + 1; omega) (.int .i64 s2)
  have hZ := Blk.new' hW 23 #[.int .i64 s1, .int .i64 s2]
  try simp only [World.size_setCell] at hZ
  replace hA := hA.alloc (.cells #[.int .i64 s1, .int .i64 s2] 23)
  replace hE := hE.alloc (.cells #[.int .i64 s1, .int .i64 s2] 23)
  replace hR := hR.alloc (.cells #[.int .i64 s1, .int .i64 s2] 23)
  replace hG := hG.alloc (.cells #[.int .i64 s1, .int .i64 s2] 23)
  replace hX := hX.alloc (.cells #[.int .i64 s1, .int .i64 s2] 23)
  replace hW := hW.alloc hW.size (.cells #[.int .i64 s1, .int .i64 s2] 23)
  clear hZ
  clear hX
  go_wp2
  rw [rounds_succ]
  go_wp2
  rw [rounds_succ]
  have hv : VL [(p1, p2), (q1, q2), (r1, r2), (s1, s2)] := by
    intro x hx
    simp only [List.mem_cons, List.not_mem_nil, or_false] at hx
    rcases hx with rfl | rfl | rfl | rfl
    · exact VP.out (by first | trivial | rfl)
    · exact VQ.out (by first | trivial | rfl)
    · exact VR.out (by first | trivial | rfl)
    · exact VS.out (by first | trivial | rfl)
  have hres : exR (p1, p2, 0) (q1, q2, 0) (r1, r2, 0) (s1, s2, 0) = ((minL [(p1, p2), (q1, q2), (r1, r2), (s1, s2)]).1, (minL [(p1, p2), (q1, q2), (r1, r2), (s1, s2)]).2, (maxL [(p1, p2), (q1, q2), (r1, r2), (s1, s2)]).1, (maxL [(p1, p2), (q1, q2), (r1, r2), (s1, s2)]).2, 0) := by unfold exR; simp
  obtain ⟨⟨m1, m2⟩, hm⟩ : ∃ m, minL [(p1, p2), (q1, q2), (r1, r2), (s1, s2)] = m := ⟨_, rfl⟩
  obtain ⟨⟨t1, t2⟩, ht⟩ : ∃ m, maxL [(p1, p2), (q1, q2), (r1, r2), (s1, s2)] = m := ⟨_, rfl⟩
  rw [hm, ht] at hres
  have HRES := Lib.hid hres
  go_wp2_with fail
  have hG' : Blk _ _ _ (flat [(p1, p2), (q1, q2), (r1, r2), (s1, s2)]) := hG
  obtain ⟨w0, hw0⟩ : ∃ w0 : World, (((v3.setCell ⟨w.heap.size + 1 + 1 + 1, 6, none⟩ (.int .i64 s1)).setCell ⟨w.heap.size + 1 + 1 + 1, 7, none⟩ (.int .i64 s2)).alloc (.cells #[.int .i64 s1, .int .i64 s2] 23)) = w0 := ⟨_, rfl⟩
  rw [hw0] at hR hG' hW ⊢
  have L1 := fun (W : World) (hB : Below w0.heap.size w0 W) => (least_any [(p1, p2), (q1, q2), (r1, r2), (s1, s2)] (by simp) hv _ _ 4 4 rfl W (hG'.below hB hG'.lt) (by decide)).mono fun e w' (h : _ ∧ _) => (⟨h.1, below_step hB h.2⟩ : _ ∧ Below w0.heap.size w0 w')
  have L2 := fun (W : World) (hB : Below w0.heap.size w0 W) => (great_any [(p1, p2), (q1, q2), (r1, r2), (s1, s2)] (by simp) hv _ _ 4 4 rfl W (hG'.below hB hG'.lt) (by decide)).mono fun e w' (h : _ ∧ _) => (⟨h.1, below_step hB h.2⟩ : _ ∧ Below w0.heap.size w0 w')
  rw [hm] at L1
  rw [ht] at L2
  simp only at L1 L2
  replace L1 := Lib.hid L1
  replace L2 := Lib.hid L2
  have h00 := Below.refl w0.heap.size w0
  have h0d : Below w0.heap.size w0 w0.drew := h00.drew
  have HR := Lib.hid hR
  have HW := Lib.hid hW
  clear hm ht hres hv hA hE hG hG' hR hW hw0 VP VQ VR VS cA0 cA1 cA2 cA3 zA cE0 cE1 cE2 cE3 zE cR0 cR1 cR2 cR3 zR fR cG0 cG1 cG2 cG3 cG4 cG5 cG6 cG7 zG fG cX0 cX1 zX
  go_region_held3 (fun _ => True) (trivial)
    (first | (go_at_call 29; (with_reducible refine (L1.out _ (by with_reducible assumption)).mono ?_); rintro e w' ⟨rfl, hb⟩) | (go_at_call 28; (with_reducible refine (L2.out _ (by with_reducible assumption)).mono ?_); rintro e w' ⟨rfl, hb⟩; have hR := HR.out.below hb HR.out.lt; have c0 := hR.cell 0; have c1 := hR.cell 1; have c2 := hR.cell 2; have c3 := hR.cell 3; have c4 := hR.frozen; clear hR))
  all_goals
    have hR := HR.out.below (by with_reducible assumption : Below w0.heap.size w0 _) HR.out.lt
    have hW := below_st HW.out (by with_reducible assumption : Below w0.heap.size w0 _)
    go_wp2
    exact ret_iv (p := 6) (q := 7) (by kernel_rfl) rfl rfl (put4 hR hW (by omega) m1 m2 t1 t2).1 ⟨by rw [HRES.out], (put4 hR hW (by omega) m1 m2 t1 t2).2⟩
set_option maxRecDepth 100000 in
set_option maxHeartbeats 16000000 in
theorem extremes_div (a b c d a' b' c' d' : Int) (p q r s : R3)
    (hp : ∀ W, Calls Try.prog 59 #[.agg #[.int .i64 a, .int .i64 b], .agg #[.int .i64 a', .int .i64 b']] W fun e w' => e = .returned (RV p) ∧ Below W.heap.size W w')
    (hq : ∀ W, Calls Try.prog 59 #[.agg #[.int .i64 a, .int .i64 b], .agg #[.int .i64 c', .int .i64 d']] W fun e w' => e = .returned (RV q) ∧ Below W.heap.size W w')
    (hr : ∀ W, Calls Try.prog 59 #[.agg #[.int .i64 c, .int .i64 d], .agg #[.int .i64 a', .int .i64 b']] W fun e w' => e = .returned (RV r) ∧ Below W.heap.size W w')
    (hs : ∀ W, Calls Try.prog 59 #[.agg #[.int .i64 c, .int .i64 d], .agg #[.int .i64 c', .int .i64 d']] W fun e w' => e = .returned (RV s) ∧ Below W.heap.size W w')
    (vp : p.2.2 = 0 → vP p.1 p.2.1) (vq : q.2.2 = 0 → vP q.1 q.2.1) (vr : r.2.2 = 0 → vP r.1 r.2.1) (vs : s.2.2 = 0 → vP s.1 s.2.1) (w : World) :
    Calls Try.prog 57 #[.func (.func 59) #[] #[], .agg #[.int .i64 a, .int .i64 b, .int .i64 c, .int .i64 d], .agg #[.int .i64 a', .int .i64 b', .int .i64 c', .int .i64 d']] w fun e w' => e = .returned (RI (exR p q r s)) ∧ Below w.heap.size w w' := by
  obtain ⟨p1, p2, p3⟩ := p
  obtain ⟨q1, q2, q3⟩ := q
  obtain ⟨r1, r2, r3⟩ := r
  obtain ⟨s1, s2, s3⟩ := s
  unfold RV at hp hq hr hs
  simp only at hp hq hr hs vp vq vr vs
  have CP := Lib.hid hp
  have CQ := Lib.hid hq
  have CR := Lib.hid hr
  have CS := Lib.hid hs
  have VP := Lib.hid vp
  have VQ := Lib.hid vq
  have VR := Lib.hid vr
  have VS := Lib.hid vs
  clear hp hq hr hs vp vq vr vs
  obtain ⟨hA, hE, hR, hG, hW⟩ := start4 w 25 #[.int .i64 a, .int .i64 b, .int .i64 c, .int .i64 d] 25 #[.int .i64 a', .int .i64 b', .int .i64 c', .int .i64 d'] 25 #[.int .i64 0, .int .i64 0, .int .i64 0, .int .i64 0] 84 #[.int .i64 0, .int .i64 0, .int .i64 0, .int .i64 0, .int .i64 0, .int .i64 0, .int .i64 0, .int .i64 0]
  by_cases n0 : p3 = 0
  case neg =>
    have HRES := Lib.hid (show exR (p1, p2, p3) (q1, q2, q3) (r1, r2, r3) (s1, s2, s3) = (0, 0, 0, 0, p3) by unfold exR; simp [n0])
    have b0 : (p3 == 0) = false := by simpa using n0
    clear VP VQ VR VS CQ CR CS
    have nAG : ¬ w.heap.size = w.heap.size + 1 + 1 + 1 := by omega
    have mAG : ¬ w.heap.size + 1 + 1 + 1 = w.heap.size := by omega
    have nEG : ¬ w.heap.size + 1 = w.heap.size + 1 + 1 + 1 := by omega
    have mEG : ¬ w.heap.size + 1 + 1 + 1 = w.heap.size + 1 := by omega
    have nRG : ¬ w.heap.size + 1 + 1 = w.heap.size + 1 + 1 + 1 := by omega
    have mRG : ¬ w.heap.size + 1 + 1 + 1 = w.heap.size + 1 + 1 := by omega
    have I0 := index_0 a b c d
    have I1 := index_1 a b c d
    have J0 := index_0 a' b' c' d'
    have J1 := index_1 a' b' c' d'
    have cA0 := hA.cell 0
    have cA1 := hA.cell 1
    have cA2 := hA.cell 2
    have cA3 := hA.cell 3
    have zA := hA.lt
    have cE0 := hE.cell 0
    have cE1 := hE.cell 1
    have cE2 := hE.cell 2
    have cE3 := hE.cell 3
    have zE := hE.lt
    have cR0 := hR.cell 0
    have cR1 := hR.cell 1
    have cR2 := hR.cell 2
    have cR3 := hR.cell 3
    have zR := hR.lt
    have fR := hR.frozen
    have cG0 := hG.cell 0
    have cG1 := hG.cell 1
    have cG2 := hG.cell 2
    have cG3 := hG.cell 3
    have cG4 := hG.cell 4
    have cG5 := hG.cell 5
    have cG6 := hG.cell 6
    have cG7 := hG.cell 7
    have zG := hG.lt
    have fG := hG.frozen
    go_enter Try.func57, Try.ntmps57
    go_wp2
    refine wp_loop_rounds 3 ?_
    rw [rounds_succ]
    have hX := Blk.new' hW 23 #[.int .i64 a, .int .i64 b]
    try simp only [World.size_alloc] at hX
    replace hA := hA.alloc (.cells #[.int .i64 a, .int .i64 b] 23)
    replace hE := hE.alloc (.cells #[.int .i64 a, .int .i64 b] 23)
    replace hR := hR.alloc (.cells #[.int .i64 a, .int .i64 b] 23)
    replace hG := hG.alloc (.cells #[.int .i64 a, .int .i64 b] 23)
    replace hW := hW.alloc hW.size (.cells #[.int .i64 a, .int .i64 b] 23)
    have nXG : ¬ w.heap.size + 1 + 1 + 1 + 1 = w.heap.size + 1 + 1 + 1 := by omega
    have mXG : ¬ w.heap.size + 1 + 1 + 1 = w.heap.size + 1 + 1 + 1 + 1 := by omega
    go_wp2
    refine wp_loop_rounds 3 ?_
    rw [rounds_succ]
    have hY := Blk.new' hW 23 #[.int .i64 a', .int .i64 b']
    try simp only [World.size_alloc] at hY
    replace hA := hA.alloc (.cells #[.int .i64 a', .int .i64 b'] 23)
    replace hE := hE.alloc (.cells #[.int .i64 a', .int .i64 b'] 23)
    replace hR := hR.alloc (.cells #[.int .i64 a', .int .i64 b'] 23)
    replace hG := hG.alloc (.cells #[.int .i64 a', .int .i64 b'] 23)
    replace hX := hX.alloc (.cells #[.int .i64 a', .int .i64 b'] 23)
    replace hW := hW.alloc hW.size (.cells #[.int .i64 a', .int .i64 b'] 23)
    go_wp2_with fail
    (with_reducible refine (CP.out _).mono ?_)
    rintro e v0 ⟨rfl, hB⟩
    clear hY
    replace hA := hA.below hB hA.lt
    replace hE := hE.below hB hE.lt
    replace hR := hR.below hB hR.lt
    replace hG := hG.below hB hG.lt
    replace hX := hX.below hB hX.lt
    replace hW := below_st hW hB
    clear hB
    clear cA0 cA1 cA2 cA3 zA cE0 cE1 cE2 cE3 zE cR0 cR1 cR2 cR3 zR fR cG0 cG1 cG2 cG3 cG4 cG5 cG6 cG7 zG fG
    have cA0 := hA.cell 0
    have cA1 := hA.cell 1
    have cA2 := hA.cell 2
    have cA3 := hA.cell 3
    have zA := hA.lt
    have cE0 := hE.cell 0
    have cE1 := hE.cell 1
    have cE2 := hE.cell 2
    have cE3 := hE.cell 3
    have zE := hE.lt
    have cR0 := hR.cell 0
    have cR1 := hR.cell 1
    have cR2 := hR.cell 2
    have cR3 := hR.cell 3
    have zR := hR.lt
    have fR := hR.frozen
    have cG0 := hG.cell 0
    have cG1 := hG.cell 1
    have cG2 := hG.cell 2
    have cG3 := hG.cell 3
    have cG4 := hG.cell 4
    have cG5 := hG.cell 5
    have cG6 := hG.cell 6
    have cG7 := hG.cell 7
    have zG := hG.lt
    have fG := hG.frozen
    have cX0 := hX.cell 0
    have cX1 := hX.cell 1
    have zX := hX.lt
    have HR := Lib.hid hR
    have HW := Lib.hid hW
    clear hA hE hG hX hR hW
    go_wp2
    exact ret_iv (p := 6) (q := 7) (by kernel_rfl) rfl rfl ((put4 HR.out HW.out (by omega) 0 0 0 0).1.alloc _) ⟨by rw [HRES.out], (put4 HR.out HW.out (by omega) 0 0 0 0).2.alloc (put4 HR.out HW.out (by omega) 0 0 0 0).2.size _⟩
  by_cases n1 : q3 = 0
  case neg =>
    have HRES := Lib.hid (show exR (p1, p2, p3) (q1, q2, q3) (r1, r2, r3) (s1, s2, s3) = (0, 0, 0, 0, q3) by unfold exR; simp [n0, n1])
    have b1 : (q3 == 0) = false := by simpa using n1
    subst n0
    clear VP VQ VR VS CR CS
    have nAG : ¬ w.heap.size = w.heap.size + 1 + 1 + 1 := by omega
    have mAG : ¬ w.heap.size + 1 + 1 + 1 = w.heap.size := by omega
    have nEG : ¬ w.heap.size + 1 = w.heap.size + 1 + 1 + 1 := by omega
    have mEG : ¬ w.heap.size + 1 + 1 + 1 = w.heap.size + 1 := by omega
    have nRG : ¬ w.heap.size + 1 + 1 = w.heap.size + 1 + 1 + 1 := by omega
    have mRG : ¬ w.heap.size + 1 + 1 + 1 = w.heap.size + 1 + 1 := by omega
    have I0 := index_0 a b c d
    have I1 := index_1 a b c d
    have J0 := index_0 a' b' c' d'
    have J1 := index_1 a' b' c' d'
    have cA0 := hA.cell 0
    have cA1 := hA.cell 1
    have cA2 := hA.cell 2
    have cA3 := hA.cell 3
    have zA := hA.lt
    have cE0 := hE.cell 0
    have cE1 := hE.cell 1
    have cE2 := hE.cell 2
    have cE3 := hE.cell 3
    have zE := hE.lt
    have cR0 := hR.cell 0
    have cR1 := hR.cell 1
    have cR2 := hR.cell 2
    have cR3 := hR.cell 3
    have zR := hR.lt
    have fR := hR.frozen
    have cG0 := hG.cell 0
    have cG1 := hG.cell 1
    have cG2 := hG.cell 2
    have cG3 := hG.cell 3
    have cG4 := hG.cell 4
    have cG5 := hG.cell 5
    have cG6 := hG.cell 6
    have cG7 := hG.cell 7
    have zG := hG.lt
    have fG := hG.frozen
    go_enter Try.func57, Try.ntmps57
    go_wp2
    refine wp_loop_rounds 3 ?_
    rw [rounds_succ]
    have hX := Blk.new' hW 23 #[.int .i64 a, .int .i64 b]
    try simp only [World.size_alloc] at hX
    replace hA := hA.alloc (.cells #[.int .i64 a, .int .i64 b] 23)
    replace hE := hE.alloc (.cells #[.int .i64 a, .int .i64 b] 23)
    replace hR := hR.alloc (.cells #[.int .i64 a, .int .i64 b] 23)
    replace hG := hG.alloc (.cells #[.int .i64 a, .int .i64 b] 23)
    replace hW := hW.alloc hW.size (.cells #[.int .i64 a, .int .i64 b] 23)
    have nXG : ¬ w.heap.size + 1 + 1 + 1 + 1 = w.heap.size + 1 + 1 + 1 := by omega
    have mXG : ¬ w.heap.size + 1 + 1 + 1 = w.heap.size + 1 + 1 + 1 + 1 := by omega
    go_wp2
    refine wp_loop_rounds 3 ?_
    rw [rounds_succ]
    have hY := Blk.new' hW 23 #[.int .i64 a', .int .i64 b']
    try simp only [World.size_alloc] at hY
    replace hA := hA.alloc (.cells #[.int .i64 a', .int .i64 b'] 23)
    replace hE := hE.alloc (.cells #[.int .i64 a', .int .i64 b'] 23)
    replace hR := hR.alloc (.cells #[.int .i64 a', .int .i64 b'] 23)
    replace hG := hG.alloc (.cells #[.int .i64 a', .int .i64 b'] 23)
    replace hX := hX.alloc (.cells #[.int .i64 a', .int .i64 b'] 23)
    replace hW := hW.alloc hW.size (.cells #[.int .i64 a', .int .i64 b'] 23)
    go_wp2_with fail
    (with_reducible refine (CP.out _).mono ?_)
    rintro e v0 ⟨rfl, hB⟩
    clear hY
    replace hA := hA.below hB hA.lt
    replace hE := hE.below hB hE.lt
    replace hR := hR.below hB hR.lt
    replace hG := hG.below hB hG.lt
    replace hX := hX.below hB hX.lt
    replace hW := below_st hW hB
    clear hB
    clear cA0 cA1 cA2 cA3 zA cE0 cE1 cE2 cE3 zE cR0 cR1 cR2 cR3 zR fR cG0 cG1 cG2 cG3 cG4 cG5 cG6 cG7 zG fG
    have cA0 := hA.cell 0
    have cA1 := hA.cell 1
    have cA2 := hA.cell 2
    have cA3 := hA.cell 3
    have zA := hA.lt
    have cE0 := hE.cell 0
    have cE1 := hE.cell 1
    have cE2 := hE.cell 2
    have cE3 := hE.cell 3
    have zE := hE.lt
    have cR0 := hR.cell 0
    have cR1 := hR.cell 1
    have cR2 := hR.cell 2
    have cR3 := hR.cell 3
    have zR := hR.lt
    have fR := hR.frozen
    have cG0 := hG.cell 0
    have cG1 := hG.cell 1
    have cG2 := hG.cell 2
    have cG3 := hG.cell 3
    have cG4 := hG.cell 4
    have cG5 := hG.cell 5
    have cG6 := hG.cell 6
    have cG7 := hG.cell 7
    have zG := hG.lt
    have fG := hG.frozen
    have cX0 := hX.cell 0
    have cX1 := hX.cell 1
    have zX := hX.lt
    replace hA := hA.far2 (g := w.heap.size + 1 + 1 + 1) (i := 0) (j := 1) (by omega) (.int .i64 p1) (.int .i64 p2)
    replace hE := hE.far2 (g := w.heap.size + 1 + 1 + 1) (i := 0) (j := 1) (by omega) (.int .i64 p1) (.int .i64 p2)
    replace hR := hR.far2 (g := w.heap.size + 1 + 1 + 1) (i := 0) (j := 1) (by omega) (.int .i64 p1) (.int .i64 p2)
    replace hX := hX.far2 (g := w.heap.size + 1 + 1 + 1) (i := 0) (j := 1) (by omega) (.int .i64 p1) (.int .i64 p2)
    replace hG : Blk _ _ _ #[.int .i64 p1, .int .i64 p2, .int .i64 0, .int .i64 0, .int .i64 0, .int .i64 0, .int .i64 0, .int .i64 0] := (hG.put 0 (.int .i64 p1)).put 1 (.int .i64 p2)
    replace hW := (hW.setCell (p := ⟨w.heap.size + 1 + 1 + 1, 0, none⟩) (by show w.heap.size ≤ w.heap.size + 1 + 1 + 1; omega) (.int .i64 p1)).setCell (p := ⟨w.heap.size + 1 + 1 + 1, 1, none⟩) (by show w.heap.size ≤ w.heap.size + 1 + 1 + 1; omega) (.int .i64 p2)
    have hZ := Blk.new' hW 23 #[.int .i64 p1, .int .i64 p2]
    try simp only [World.size_setCell] at hZ
    replace hA := hA.alloc (.cells #[.int .i64 p1, .int .i64 p2] 23)
    replace hE := hE.alloc (.cells #[.int .i64 p1, .int .i64 p2] 23)
    replace hR := hR.alloc (.cells #[.int .i64 p1, .int .i64 p2] 23)
    replace hG := hG.alloc (.cells #[.int .i64 p1, .int .i64 p2] 23)
    replace hX := hX.alloc (.cells #[.int .i64 p1, .int .i64 p2] 23)
    replace hW := hW.alloc hW.size (.cells #[.int .i64 p1, .int .i64 p2] 23)
    clear hZ
    go_wp2
    rw [rounds_succ]
    have hY := Blk.new' hW 23 #[.int .i64 c', .int .i64 d']
    try simp only [World.size_alloc, World.size_setCell] at hY
    replace hA := hA.alloc (.cells #[.int .i64 c', .int .i64 d'] 23)
    replace hE := hE.alloc (.cells #[.int .i64 c', .int .i64 d'] 23)
    replace hR := hR.alloc (.cells #[.int .i64 c', .int .i64 d'] 23)
    replace hG := hG.alloc (.cells #[.int .i64 c', .int .i64 d'] 23)
    replace hX := hX.alloc (.cells #[.int .i64 c', .int .i64 d'] 23)
    replace hW := hW.alloc hW.size (.cells #[.int .i64 c', .int .i64 d'] 23)
    go_wp2_with fail
    (with_reducible refine (CQ.out _).mono ?_)
    rintro e v1 ⟨rfl, hB⟩
    clear hY
    replace hA := hA.below hB hA.lt
    replace hE := hE.below hB hE.lt
    replace hR := hR.below hB hR.lt
    replace hG := hG.below hB hG.lt
    replace hX := hX.below hB hX.lt
    replace hW := below_st hW hB
    clear hB
    clear cA0 cA1 cA2 cA3 zA cE0 cE1 cE2 cE3 zE cR0 cR1 cR2 cR3 zR fR cG0 cG1 cG2 cG3 cG4 cG5 cG6 cG7 zG fG cX0 cX1 zX
    have cA0 := hA.cell 0
    have cA1 := hA.cell 1
    have cA2 := hA.cell 2
    have cA3 := hA.cell 3
    have zA := hA.lt
    have cE0 := hE.cell 0
    have cE1 := hE.cell 1
    have cE2 := hE.cell 2
    have cE3 := hE.cell 3
    have zE := hE.lt
    have cR0 := hR.cell 0
    have cR1 := hR.cell 1
    have cR2 := hR.cell 2
    have cR3 := hR.cell 3
    have zR := hR.lt
    have fR := hR.frozen
    have cG0 := hG.cell 0
    have cG1 := hG.cell 1
    have cG2 := hG.cell 2
    have cG3 := hG.cell 3
    have cG4 := hG.cell 4
    have cG5 := hG.cell 5
    have cG6 := hG.cell 6
    have cG7 := hG.cell 7
    have zG := hG.lt
    have fG := hG.frozen
    have cX0 := hX.cell 0
    have cX1 := hX.cell 1
    have zX := hX.lt
    have HR := Lib.hid hR
    have HW := Lib.hid hW
    clear hA hE hG hX hR hW
    go_wp2
    exact ret_iv (p := 6) (q := 7) (by kernel_rfl) rfl rfl ((put4 HR.out HW.out (by omega) 0 0 0 0).1.alloc _) ⟨by rw [HRES.out], (put4 HR.out HW.out (by omega) 0 0 0 0).2.alloc (put4 HR.out HW.out (by omega) 0 0 0 0).2.size _⟩
  by_cases n2 : r3 = 0
  case neg =>
    have HRES := Lib.hid (show exR (p1, p2, p3) (q1, q2, q3) (r1, r2, r3) (s1, s2, s3) = (0, 0, 0, 0, r3) by unfold exR; simp [n0, n1, n2])
    have b2 : (r3 == 0) = false := by simpa using n2
    subst n0
    subst n1
    clear VP VQ VR VS CS
    have nAG : ¬ w.heap.size = w.heap.size + 1 + 1 + 1 := by omega
    have mAG : ¬ w.heap.size + 1 + 1 + 1 = w.heap.size := by omega
    have nEG : ¬ w.heap.size + 1 = w.heap.size + 1 + 1 + 1 := by omega
    have mEG : ¬ w.heap.size + 1 + 1 + 1 = w.heap.size + 1 := by omega
    have nRG : ¬ w.heap.size + 1 + 1 = w.heap.size + 1 + 1 + 1 := by omega
    have mRG : ¬ w.heap.size + 1 + 1 + 1 = w.heap.size + 1 + 1 := by omega
    have I0 := index_0 a b c d
    have I1 := index_1 a b c d
    have J0 := index_0 a' b' c' d'
    have J1 := index_1 a' b' c' d'
    have cA0 := hA.cell 0
    have cA1 := hA.cell 1
    have cA2 := hA.cell 2
    have cA3 := hA.cell 3
    have zA := hA.lt
    have cE0 := hE.cell 0
    have cE1 := hE.cell 1
    have cE2 := hE.cell 2
    have cE3 := hE.cell 3
    have zE := hE.lt
    have cR0 := hR.cell 0
    have cR1 := hR.cell 1
    have cR2 := hR.cell 2
    have cR3 := hR.cell 3
    have zR := hR.lt
    have fR := hR.frozen
    have cG0 := hG.cell 0
    have cG1 := hG.cell 1
    have cG2 := hG.cell 2
    have cG3 := hG.cell 3
    have cG4 := hG.cell 4
    have cG5 := hG.cell 5
    have cG6 := hG.cell 6
    have cG7 := hG.cell 7
    have zG := hG.lt
    have fG := hG.frozen
    go_enter Try.func57, Try.ntmps57
    go_wp2
    refine wp_loop_rounds 3 ?_
    rw [rounds_succ]
    have hX := Blk.new' hW 23 #[.int .i64 a, .int .i64 b]
    try simp only [World.size_alloc] at hX
    replace hA := hA.alloc (.cells #[.int .i64 a, .int .i64 b] 23)
    replace hE := hE.alloc (.cells #[.int .i64 a, .int .i64 b] 23)
    replace hR := hR.alloc (.cells #[.int .i64 a, .int .i64 b] 23)
    replace hG := hG.alloc (.cells #[.int .i64 a, .int .i64 b] 23)
    replace hW := hW.alloc hW.size (.cells #[.int .i64 a, .int .i64 b] 23)
    have nXG : ¬ w.heap.size + 1 + 1 + 1 + 1 = w.heap.size + 1 + 1 + 1 := by omega
    have mXG : ¬ w.heap.size + 1 + 1 + 1 = w.heap.size + 1 + 1 + 1 + 1 := by omega
    go_wp2
    refine wp_loop_rounds 3 ?_
    rw [rounds_succ]
    have hY := Blk.new' hW 23 #[.int .i64 a', .int .i64 b']
    try simp only [World.size_alloc] at hY
    replace hA := hA.alloc (.cells #[.int .i64 a', .int .i64 b'] 23)
    replace hE := hE.alloc (.cells #[.int .i64 a', .int .i64 b'] 23)
    replace hR := hR.alloc (.cells #[.int .i64 a', .int .i64 b'] 23)
    replace hG := hG.alloc (.cells #[.int .i64 a', .int .i64 b'] 23)
    replace hX := hX.alloc (.cells #[.int .i64 a', .int .i64 b'] 23)
    replace hW := hW.alloc hW.size (.cells #[.int .i64 a', .int .i64 b'] 23)
    go_wp2_with fail
    (with_reducible refine (CP.out _).mono ?_)
    rintro e v0 ⟨rfl, hB⟩
    clear hY
    replace hA := hA.below hB hA.lt
    replace hE := hE.below hB hE.lt
    replace hR := hR.below hB hR.lt
    replace hG := hG.below hB hG.lt
    replace hX := hX.below hB hX.lt
    replace hW := below_st hW hB
    clear hB
    clear cA0 cA1 cA2 cA3 zA cE0 cE1 cE2 cE3 zE cR0 cR1 cR2 cR3 zR fR cG0 cG1 cG2 cG3 cG4 cG5 cG6 cG7 zG fG
    have cA0 := hA.cell 0
    have cA1 := hA.cell 1
    have cA2 := hA.cell 2
    have cA3 := hA.cell 3
    have zA := hA.lt
    have cE0 := hE.cell 0
    have cE1 := hE.cell 1
    have cE2 := hE.cell 2
    have cE3 := hE.cell 3
    have zE := hE.lt
    have cR0 := hR.cell 0
    have cR1 := hR.cell 1
    have cR2 := hR.cell 2
    have cR3 := hR.cell 3
    have zR := hR.lt
    have fR := hR.frozen
    have cG0 := hG.cell 0
    have cG1 := hG.cell 1
    have cG2 := hG.cell 2
    have cG3 := hG.cell 3
    have cG4 := hG.cell 4
    have cG5 := hG.cell 5
    have cG6 := hG.cell 6
    have cG7 := hG.cell 7
    have zG := hG.lt
    have fG := hG.frozen
    have cX0 := hX.cell 0
    have cX1 := hX.cell 1
    have zX := hX.lt
    replace hA := hA.far2 (g := w.heap.size + 1 + 1 + 1) (i := 0) (j := 1) (by omega) (.int .i64 p1) (.int .i64 p2)
    replace hE := hE.far2 (g := w.heap.size + 1 + 1 + 1) (i := 0) (j := 1) (by omega) (.int .i64 p1) (.int .i64 p2)
    replace hR := hR.far2 (g := w.heap.size + 1 + 1 + 1) (i := 0) (j := 1) (by omega) (.int .i64 p1) (.int .i64 p2)
    replace hX := hX.far2 (g := w.heap.size + 1 + 1 + 1) (i := 0) (j := 1) (by omega) (.int .i64 p1) (.int .i64 p2)
    replace hG : Blk _ _ _ #[.int .i64 p1, .int .i64 p2, .int .i64 0, .int .i64 0, .int .i64 0, .int .i64 0, .int .i64 0, .int .i64 0] := (hG.put 0 (.int .i64 p1)).put 1 (.int .i64 p2)
    replace hW := (hW.setCell (p := ⟨w.heap.size + 1 + 1 + 1, 0, none⟩) (by show w.heap.size ≤ w.heap.size + 1 + 1 + 1; omega) (.int .i64 p1)).setCell (p := ⟨w.heap.size + 1 + 1 + 1, 1, none⟩) (by show w.heap.size ≤ w.heap.size + 1 + 1 + 1; omega) (.int .i64 p2)
    have hZ := Blk.new' hW 23 #[.int .i64 p1, .int .i64 p2]
    try simp only [World.size_setCell] at hZ
    replace hA := hA.alloc (.cells #[.int .i64 p1, .int .i64 p2] 23)
    replace hE := hE.alloc (.cells #[.int .i64 p1, .int .i64 p2] 23)
    replace hR := hR.alloc (.cells #[.int .i64 p1, .int .i64 p2] 23)
    replace hG := hG.alloc (.cells #[.int .i64 p1, .int .i64 p2] 23)
    replace hX := hX.alloc (.cells #[.int .i64 p1, .int .i64 p2] 23)
    replace hW := hW.alloc hW.size (.cells #[.int .i64 p1, .int .i64 p2] 23)
    clear hZ
    go_wp2
    rw [rounds_succ]
    have hY := Blk.new' hW 23 #[.int .i64 c', .int .i64 d']
    try simp only [World.size_alloc, World.size_setCell] at hY
    replace hA := hA.alloc (.cells #[.int .i64 c', .int .i64 d'] 23)
    replace hE := hE.alloc (.cells #[.int .i64 c', .int .i64 d'] 23)
    replace hR := hR.alloc (.cells #[.int .i64 c', .int .i64 d'] 23)
    replace hG := hG.alloc (.cells #[.int .i64 c', .int .i64 d'] 23)
    replace hX := hX.alloc (.cells #[.int .i64 c', .int .i64 d'] 23)
    replace hW := hW.alloc hW.size (.cells #[.int .i64 c', .int .i64 d'] 23)
    go_wp2_with fail
    (with_reducible refine (CQ.out _).mono ?_)
    rintro e v1 ⟨rfl, hB⟩
    clear hY
    replace hA := hA.below hB hA.lt
    replace hE := hE.below hB hE.lt
    replace hR := hR.below hB hR.lt
    replace hG := hG.below hB hG.lt
    replace hX := hX.below hB hX.lt
    replace hW := below_st hW hB
    clear hB
    clear cA0 cA1 cA2 cA3 zA cE0 cE1 cE2 cE3 zE cR0 cR1 cR2 cR3 zR fR cG0 cG1 cG2 cG3 cG4 cG5 cG6 cG7 zG fG cX0 cX1 zX
    have cA0 := hA.cell 0
    have cA1 := hA.cell 1
    have cA2 := hA.cell 2
    have cA3 := hA.cell 3
    have zA := hA.lt
    have cE0 := hE.cell 0
    have cE1 := hE.cell 1
    have cE2 := hE.cell 2
    have cE3 := hE.cell 3
    have zE := hE.lt
    have cR0 := hR.cell 0
    have cR1 := hR.cell 1
    have cR2 := hR.cell 2
    have cR3 := hR.cell 3
    have zR := hR.lt
    have fR := hR.frozen
    have cG0 := hG.cell 0
    have cG1 := hG.cell 1
    have cG2 := hG.cell 2
    have cG3 := hG.cell 3
    have cG4 := hG.cell 4
    have cG5 := hG.cell 5
    have cG6 := hG.cell 6
    have cG7 := hG.cell 7
    have zG := hG.lt
    have fG := hG.frozen
    have cX0 := hX.cell 0
    have cX1 := hX.cell 1
    have zX := hX.lt
    replace hA := hA.far2 (g := w.heap.size + 1 + 1 + 1) (i := 2) (j := 3) (by omega) (.int .i64 q1) (.int .i64 q2)
    replace hE := hE.far2 (g := w.heap.size + 1 + 1 + 1) (i := 2) (j := 3) (by omega) (.int .i64 q1) (.int .i64 q2)
    replace hR := hR.far2 (g := w.heap.size + 1 + 1 + 1) (i := 2) (j := 3) (by omega) (.int .i64 q1) (.int .i64 q2)
    replace hX := hX.far2 (g := w.heap.size + 1 + 1 + 1) (i := 2) (j := 3) (by omega) (.int .i64 q1) (.int .i64 q2)
    replace hG : Blk _ _ _ #[.int .i64 p1, .int .i64 p2, .int .i64 q1, .int .i64 q2, .int .i64 0, .int .i64 0, .int .i64 0, .int .i64 0] := (hG.put 2 (.int .i64 q1)).put 3 (.int .i64 q2)
    replace hW := (hW.setCell (p := ⟨w.heap.size + 1 + 1 + 1, 2, none⟩) (by show w.heap.size ≤ w.heap.size + 1 + 1 + 1; omega) (.int .i64 q1)).setCell (p := ⟨w.heap.size + 1 + 1 + 1, 3, none⟩) (by show w.heap.size ≤ w.heap.size + 1 + 1 + 1; omega) (.int .i64 q2)
    have hZ := Blk.new' hW 23 #[.int .i64 q1, .int .i64 q2]
    try simp only [World.size_setCell] at hZ
    replace hA := hA.alloc (.cells #[.int .i64 q1, .int .i64 q2] 23)
    replace hE := hE.alloc (.cells #[.int .i64 q1, .int .i64 q2] 23)
    replace hR := hR.alloc (.cells #[.int .i64 q1, .int .i64 q2] 23)
    replace hG := hG.alloc (.cells #[.int .i64 q1, .int .i64 q2] 23)
    replace hX := hX.alloc (.cells #[.int .i64 q1, .int .i64 q2] 23)
    replace hW := hW.alloc hW.size (.cells #[.int .i64 q1, .int .i64 q2] 23)
    clear hZ
    clear hX
    go_wp2
    rw [rounds_succ]
    go_wp2
    rw [rounds_succ]
    have hX := Blk.new' hW 23 #[.int .i64 c, .int .i64 d]
    try simp only [World.size_alloc, World.size_setCell] at hX
    replace hA := hA.alloc (.cells #[.int .i64 c, .int .i64 d] 23)
    replace hE := hE.alloc (.cells #[.int .i64 c, .int .i64 d] 23)
    replace hR := hR.alloc (.cells #[.int .i64 c, .int .i64 d] 23)
    replace hG := hG.alloc (.cells #[.int .i64 c, .int .i64 d] 23)
    replace hW := hW.alloc hW.size (.cells #[.int .i64 c, .int .i64 d] 23)
    clear nXG mXG
    have oXG : ¬ v1.heap.size = w.heap.size + 1 + 1 := by omega
    have pXG : ¬ w.heap.size + 1 + 1 = v1.heap.size := by omega
    have nXG : ¬ v1.heap.size + 1 = w.heap.size + 1 + 1 + 1 := by omega
    have mXG : ¬ w.heap.size + 1 + 1 + 1 = v1.heap.size + 1 := by omega
    go_wp2
    refine wp_loop_rounds 3 ?_
    rw [rounds_succ]
    have hY := Blk.new' hW 23 #[.int .i64 a', .int .i64 b']
    try simp only [World.size_alloc, World.size_setCell] at hY
    replace hA := hA.alloc (.cells #[.int .i64 a', .int .i64 b'] 23)
    replace hE := hE.alloc (.cells #[.int .i64 a', .int .i64 b'] 23)
    replace hR := hR.alloc (.cells #[.int .i64 a', .int .i64 b'] 23)
    replace hG := hG.alloc (.cells #[.int .i64 a', .int .i64 b'] 23)
    replace hX := hX.alloc (.cells #[.int .i64 a', .int .i64 b'] 23)
    replace hW := hW.alloc hW.size (.cells #[.int .i64 a', .int .i64 b'] 23)
    go_wp2_with fail
    (with_reducible refine (CR.out _).mono ?_)
    rintro e v2 ⟨rfl, hB⟩
    clear hY
    replace hA := hA.below hB hA.lt
    replace hE := hE.below hB hE.lt
    replace hR := hR.below hB hR.lt
    replace hG := hG.below hB hG.lt
    replace hX := hX.below hB hX.lt
    replace hW := below_st hW hB
    clear hB
    clear cA0 cA1 cA2 cA3 zA cE0 cE1 cE2 cE3 zE cR0 cR1 cR2 cR3 zR fR cG0 cG1 cG2 cG3 cG4 cG5 cG6 cG7 zG fG cX0 cX1 zX
    have cA0 := hA.cell 0
    have cA1 := hA.cell 1
    have cA2 := hA.cell 2
    have cA3 := hA.cell 3
    have zA := hA.lt
    have cE0 := hE.cell 0
    have cE1 := hE.cell 1
    have cE2 := hE.cell 2
    have cE3 := hE.cell 3
    have zE := hE.lt
    have cR0 := hR.cell 0
    have cR1 := hR.cell 1
    have cR2 := hR.cell 2
    have cR3 := hR.cell 3
    have zR := hR.lt
    have fR := hR.frozen
    have cG0 := hG.cell 0
    have cG1 := hG.cell 1
    have cG2 := hG.cell 2
    have cG3 := hG.cell 3
    have cG4 := hG.cell 4
    have cG5 := hG.cell 5
    have cG6 := hG.cell 6
    have cG7 := hG.cell 7
    have zG := hG.lt
    have fG := hG.frozen
    have cX0 := hX.cell 0
    have cX1 := hX.cell 1
    have zX := hX.lt
    have yX : v1.heap.size < v2.heap.size := by omega
    have HR := Lib.hid hR
    have HW := Lib.hid hW
    clear hA hE hG hX hR hW
    go_wp2
    exact ret_iv (p := 6) (q := 7) (by kernel_rfl) rfl rfl ((put4 HR.out HW.out (by omega) 0 0 0 0).1.alloc _) ⟨by rw [HRES.out], (put4 HR.out HW.out (by omega) 0 0 0 0).2.alloc (put4 HR.out HW.out (by omega) 0 0 0 0).2.size _⟩
  by_cases n3 : s3 = 0
  case neg =>
    have HRES := Lib.hid (show exR (p1, p2, p3) (q1, q2, q3) (r1, r2, r3) (s1, s2, s3) = (0, 0, 0, 0, s3) by unfold exR; simp [n0, n1, n2, n3])
    have b3 : (s3 == 0) = false := by simpa using n3
    subst n0
    subst n1
    subst n2
    clear VP VQ VR VS 
    have nAG : ¬ w.heap.size = w.heap.size + 1 + 1 + 1 := by omega
    have mAG : ¬ w.heap.size + 1 + 1 + 1 = w.heap.size := by omega
    have nEG : ¬ w.heap.size + 1 = w.heap.size + 1 + 1 + 1 := by omega
    have mEG : ¬ w.heap.size + 1 + 1 + 1 = w.heap.size + 1 := by omega
    have nRG : ¬ w.heap.size + 1 + 1 = w.heap.size + 1 + 1 + 1 := by omega
    have mRG : ¬ w.heap.size + 1 + 1 + 1 = w.heap.size + 1 + 1 := by omega
    have I0 := index_0 a b c d
    have I1 := index_1 a b c d
    have J0 := index_0 a' b' c' d'
    have J1 := index_1 a' b' c' d'
    have cA0 := hA.cell 0
    have cA1 := hA.cell 1
    have cA2 := hA.cell 2
    have cA3 := hA.cell 3
    have zA := hA.lt
    have cE0 := hE.cell 0
    have cE1 := hE.cell 1
    have cE2 := hE.cell 2
    have cE3 := hE.cell 3
    have zE := hE.lt
    have cR0 := hR.cell 0
    have cR1 := hR.cell 1
    have cR2 := hR.cell 2
    have cR3 := hR.cell 3
    have zR := hR.lt
    have fR := hR.frozen
    have cG0 := hG.cell 0
    have cG1 := hG.cell 1
    have cG2 := hG.cell 2
    have cG3 := hG.cell 3
    have cG4 := hG.cell 4
    have cG5 := hG.cell 5
    have cG6 := hG.cell 6
    have cG7 := hG.cell 7
    have zG := hG.lt
    have fG := hG.frozen
    go_enter Try.func57, Try.ntmps57
    go_wp2
    refine wp_loop_rounds 3 ?_
    rw [rounds_succ]
    have hX := Blk.new' hW 23 #[.int .i64 a, .int .i64 b]
    try simp only [World.size_alloc] at hX
    replace hA := hA.alloc (.cells #[.int .i64 a, .int .i64 b] 23)
    replace hE := hE.alloc (.cells #[.int .i64 a, .int .i64 b] 23)
    replace hR := hR.alloc (.cells #[.int .i64 a, .int .i64 b] 23)
    replace hG := hG.alloc (.cells #[.int .i64 a, .int .i64 b] 23)
    replace hW := hW.alloc hW.size (.cells #[.int .i64 a, .int .i64 b] 23)
    have nXG : ¬ w.heap.size + 1 + 1 + 1 + 1 = w.heap.size + 1 + 1 + 1 := by omega
    have mXG : ¬ w.heap.size + 1 + 1 + 1 = w.heap.size + 1 + 1 + 1 + 1 := by omega
    go_wp2
    refine wp_loop_rounds 3 ?_
    rw [rounds_succ]
    have hY := Blk.new' hW 23 #[.int .i64 a', .int .i64 b']
    try simp only [World.size_alloc] at hY
    replace hA := hA.alloc (.cells #[.int .i64 a', .int .i64 b'] 23)
    replace hE := hE.alloc (.cells #[.int .i64 a', .int .i64 b'] 23)
    replace hR := hR.alloc (.cells #[.int .i64 a', .int .i64 b'] 23)
    replace hG := hG.alloc (.cells #[.int .i64 a', .int .i64 b'] 23)
    replace hX := hX.alloc (.cells #[.int .i64 a', .int .i64 b'] 23)
    replace hW := hW.alloc hW.size (.cells #[.int .i64 a', .int .i64 b'] 23)
    go_wp2_with fail
    (with_reducible refine (CP.out _).mono ?_)
    rintro e v0 ⟨rfl, hB⟩
    clear hY
    replace hA := hA.below hB hA.lt
    replace hE := hE.below hB hE.lt
    replace hR := hR.below hB hR.lt
    replace hG := hG.below hB hG.lt
    replace hX := hX.below hB hX.lt
    replace hW := below_st hW hB
    clear hB
    clear cA0 cA1 cA2 cA3 zA cE0 cE1 cE2 cE3 zE cR0 cR1 cR2 cR3 zR fR cG0 cG1 cG2 cG3 cG4 cG5 cG6 cG7 zG fG
    have cA0 := hA.cell 0
    have cA1 := hA.cell 1
    have cA2 := hA.cell 2
    have cA3 := hA.cell 3
    have zA := hA.lt
    have cE0 := hE.cell 0
    have cE1 := hE.cell 1
    have cE2 := hE.cell 2
    have cE3 := hE.cell 3
    have zE := hE.lt
    have cR0 := hR.cell 0
    have cR1 := hR.cell 1
    have cR2 := hR.cell 2
    have cR3 := hR.cell 3
    have zR := hR.lt
    have fR := hR.frozen
    have cG0 := hG.cell 0
    have cG1 := hG.cell 1
    have cG2 := hG.cell 2
    have cG3 := hG.cell 3
    have cG4 := hG.cell 4
    have cG5 := hG.cell 5
    have cG6 := hG.cell 6
    have cG7 := hG.cell 7
    have zG := hG.lt
    have fG := hG.frozen
    have cX0 := hX.cell 0
    have cX1 := hX.cell 1
    have zX := hX.lt
    replace hA := hA.far2 (g := w.heap.size + 1 + 1 + 1) (i := 0) (j := 1) (by omega) (.int .i64 p1) (.int .i64 p2)
    replace hE := hE.far2 (g := w.heap.size + 1 + 1 + 1) (i := 0) (j := 1) (by omega) (.int .i64 p1) (.int .i64 p2)
    replace hR := hR.far2 (g := w.heap.size + 1 + 1 + 1) (i := 0) (j := 1) (by omega) (.int .i64 p1) (.int .i64 p2)
    replace hX := hX.far2 (g := w.heap.size + 1 + 1 + 1) (i := 0) (j := 1) (by omega) (.int .i64 p1) (.int .i64 p2)
    replace hG : Blk _ _ _ #[.int .i64 p1, .int .i64 p2, .int .i64 0, .int .i64 0, .int .i64 0, .int .i64 0, .int .i64 0, .int .i64 0] := (hG.put 0 (.int .i64 p1)).put 1 (.int .i64 p2)
    replace hW := (hW.setCell (p := ⟨w.heap.size + 1 + 1 + 1, 0, none⟩) (by show w.heap.size ≤ w.heap.size + 1 + 1 + 1; omega) (.int .i64 p1)).setCell (p := ⟨w.heap.size + 1 + 1 + 1, 1, none⟩) (by show w.heap.size ≤ w.heap.size + 1 + 1 + 1; omega) (.int .i64 p2)
    have hZ := Blk.new' hW 23 #[.int .i64 p1, .int .i64 p2]
    try simp only [World.size_setCell] at hZ
    replace hA := hA.alloc (.cells #[.int .i64 p1, .int .i64 p2] 23)
    replace hE := hE.alloc (.cells #[.int .i64 p1, .int .i64 p2] 23)
    replace hR := hR.alloc (.cells #[.int .i64 p1, .int .i64 p2] 23)
    replace hG := hG.alloc (.cells #[.int .i64 p1, .int .i64 p2] 23)
    replace hX := hX.alloc (.cells #[.int .i64 p1, .int .i64 p2] 23)
    replace hW := hW.alloc hW.size (.cells #[.int .i64 p1, .int .i64 p2] 23)
    clear hZ
    go_wp2
    rw [rounds_succ]
    have hY := Blk.new' hW 23 #[.int .i64 c', .int .i64 d']
    try simp only [World.size_alloc, World.size_setCell] at hY
    replace hA := hA.alloc (.cells #[.int .i64 c', .int .i64 d'] 23)
    replace hE := hE.alloc (.cells #[.int .i64 c', .int .i64 d'] 23)
    replace hR := hR.alloc (.cells #[.int .i64 c', .int .i64 d'] 23)
    replace hG := hG.alloc (.cells #[.int .i64 c', .int .i64 d'] 23)
    replace hX := hX.alloc (.cells #[.int .i64 c', .int .i64 d'] 23)
    replace hW := hW.alloc hW.size (.cells #[.int .i64 c', .int .i64 d'] 23)
    go_wp2_with fail
    (with_reducible refine (CQ.out _).mono ?_)
    rintro e v1 ⟨rfl, hB⟩
    clear hY
    replace hA := hA.below hB hA.lt
    replace hE := hE.below hB hE.lt
    replace hR := hR.below hB hR.lt
    replace hG := hG.below hB hG.lt
    replace hX := hX.below hB hX.lt
    replace hW := below_st hW hB
    clear hB
    clear cA0 cA1 cA2 cA3 zA cE0 cE1 cE2 cE3 zE cR0 cR1 cR2 cR3 zR fR cG0 cG1 cG2 cG3 cG4 cG5 cG6 cG7 zG fG cX0 cX1 zX
    have cA0 := hA.cell 0
    have cA1 := hA.cell 1
    have cA2 := hA.cell 2
    have cA3 := hA.cell 3
    have zA := hA.lt
    have cE0 := hE.cell 0
    have cE1 := hE.cell 1
    have cE2 := hE.cell 2
    have cE3 := hE.cell 3
    have zE := hE.lt
    have cR0 := hR.cell 0
    have cR1 := hR.cell 1
    have cR2 := hR.cell 2
    have cR3 := hR.cell 3
    have zR := hR.lt
    have fR := hR.frozen
    have cG0 := hG.cell 0
    have cG1 := hG.cell 1
    have cG2 := hG.cell 2
    have cG3 := hG.cell 3
    have cG4 := hG.cell 4
    have cG5 := hG.cell 5
    have cG6 := hG.cell 6
    have cG7 := hG.cell 7
    have zG := hG.lt
    have fG := hG.frozen
    have cX0 := hX.cell 0
    have cX1 := hX.cell 1
    have zX := hX.lt
    replace hA := hA.far2 (g := w.heap.size + 1 + 1 + 1) (i := 2) (j := 3) (by omega) (.int .i64 q1) (.int .i64 q2)
    replace hE := hE.far2 (g := w.heap.size + 1 + 1 + 1) (i := 2) (j := 3) (by omega) (.int .i64 q1) (.int .i64 q2)
    replace hR := hR.far2 (g := w.heap.size + 1 + 1 + 1) (i := 2) (j := 3) (by omega) (.int .i64 q1) (.int .i64 q2)
    replace hX := hX.far2 (g := w.heap.size + 1 + 1 + 1) (i := 2) (j := 3) (by omega) (.int .i64 q1) (.int .i64 q2)
    replace hG : Blk _ _ _ #[.int .i64 p1, .int .i64 p2, .int .i64 q1, .int .i64 q2, .int .i64 0, .int .i64 0, .int .i64 0, .int .i64 0] := (hG.put 2 (.int .i64 q1)).put 3 (.int .i64 q2)
    replace hW := (hW.setCell (p := ⟨w.heap.size + 1 + 1 + 1, 2, none⟩) (by show w.heap.size ≤ w.heap.size + 1 + 1 + 1; omega) (.int .i64 q1)).setCell (p := ⟨w.heap.size + 1 + 1 + 1, 3, none⟩) (by show w.heap.size ≤ w.heap.size + 1 + 1 + 1; omega) (.int .i64 q2)
    have hZ := Blk.new' hW 23 #[.int .i64 q1, .int .i64 q2]
    try simp only [World.size_setCell] at hZ
    replace hA := hA.alloc (.cells #[.int .i64 q1, .int .i64 q2] 23)
    replace hE := hE.alloc (.cells #[.int .i64 q1, .int .i64 q2] 23)
    replace hR := hR.alloc (.cells #[.int .i64 q1, .int .i64 q2] 23)
    replace hG := hG.alloc (.cells #[.int .i64 q1, .int .i64 q2] 23)
    replace hX := hX.alloc (.cells #[.int .i64 q1, .int .i64 q2] 23)
    replace hW := hW.alloc hW.size (.cells #[.int .i64 q1, .int .i64 q2] 23)
    clear hZ
    clear hX
    go_wp2
    rw [rounds_succ]
    go_wp2
    rw [rounds_succ]
    have hX := Blk.new' hW 23 #[.int .i64 c, .int .i64 d]
    try simp only [World.size_alloc, World.size_setCell] at hX
    replace hA := hA.alloc (.cells #[.int .i64 c, .int .i64 d] 23)
    replace hE := hE.alloc (.cells #[.int .i64 c, .int .i64 d] 23)
    replace hR := hR.alloc (.cells #[.int .i64 c, .int .i64 d] 23)
    replace hG := hG.alloc (.cells #[.int .i64 c, .int .i64 d] 23)
    replace hW := hW.alloc hW.size (.cells #[.int .i64 c, .int .i64 d] 23)
    clear nXG mXG
    have oXG : ¬ v1.heap.size = w.heap.size + 1 + 1 := by omega
    have pXG : ¬ w.heap.size + 1 + 1 = v1.heap.size := by omega
    have nXG : ¬ v1.heap.size + 1 = w.heap.size + 1 + 1 + 1 := by omega
    have mXG : ¬ w.heap.size + 1 + 1 + 1 = v1.heap.size + 1 := by omega
    go_wp2
    refine wp_loop_rounds 3 ?_
    rw [rounds_succ]
    have hY := Blk.new' hW 23 #[.int .i64 a', .int .i64 b']
    try simp only [World.size_alloc, World.size_setCell] at hY
    replace hA := hA.alloc (.cells #[.int .i64 a', .int .i64 b'] 23)
    replace hE := hE.alloc (.cells #[.int .i64 a', .int .i64 b'] 23)
    replace hR := hR.alloc (.cells #[.int .i64 a', .int .i64 b'] 23)
    replace hG := hG.alloc (.cells #[.int .i64 a', .int .i64 b'] 23)
    replace hX := hX.alloc (.cells #[.int .i64 a', .int .i64 b'] 23)
    replace hW := hW.alloc hW.size (.cells #[.int .i64 a', .int .i64 b'] 23)
    go_wp2_with fail
    (with_reducible refine (CR.out _).mono ?_)
    rintro e v2 ⟨rfl, hB⟩
    clear hY
    replace hA := hA.below hB hA.lt
    replace hE := hE.below hB hE.lt
    replace hR := hR.below hB hR.lt
    replace hG := hG.below hB hG.lt
    replace hX := hX.below hB hX.lt
    replace hW := below_st hW hB
    clear hB
    clear cA0 cA1 cA2 cA3 zA cE0 cE1 cE2 cE3 zE cR0 cR1 cR2 cR3 zR fR cG0 cG1 cG2 cG3 cG4 cG5 cG6 cG7 zG fG cX0 cX1 zX
    have cA0 := hA.cell 0
    have cA1 := hA.cell 1
    have cA2 := hA.cell 2
    have cA3 := hA.cell 3
    have zA := hA.lt
    have cE0 := hE.cell 0
    have cE1 := hE.cell 1
    have cE2 := hE.cell 2
    have cE3 := hE.cell 3
    have zE := hE.lt
    have cR0 := hR.cell 0
    have cR1 := hR.cell 1
    have cR2 := hR.cell 2
    have cR3 := hR.cell 3
    have zR := hR.lt
    have fR := hR.frozen
    have cG0 := hG.cell 0
    have cG1 := hG.cell 1
    have cG2 := hG.cell 2
    have cG3 := hG.cell 3
    have cG4 := hG.cell 4
    have cG5 := hG.cell 5
    have cG6 := hG.cell 6
    have cG7 := hG.cell 7
    have zG := hG.lt
    have fG := hG.frozen
    have cX0 := hX.cell 0
    have cX1 := hX.cell 1
    have zX := hX.lt
    have yX : v1.heap.size < v2.heap.size := by omega
    replace hA := hA.far2 (g := w.heap.size + 1 + 1 + 1) (i := 4) (j := 5) (by omega) (.int .i64 r1) (.int .i64 r2)
    replace hE := hE.far2 (g := w.heap.size + 1 + 1 + 1) (i := 4) (j := 5) (by omega) (.int .i64 r1) (.int .i64 r2)
    replace hR := hR.far2 (g := w.heap.size + 1 + 1 + 1) (i := 4) (j := 5) (by omega) (.int .i64 r1) (.int .i64 r2)
    replace hX := hX.far2 (g := w.heap.size + 1 + 1 + 1) (i := 4) (j := 5) (by omega) (.int .i64 r1) (.int .i64 r2)
    replace hG : Blk _ _ _ #[.int .i64 p1, .int .i64 p2, .int .i64 q1, .int .i64 q2, .int .i64 r1, .int .i64 r2, .int .i64 0, .int .i64 0] := (hG.put 4 (.int .i64 r1)).put 5 (.int .i64 r2)
    replace hW := (hW.setCell (p := ⟨w.heap.size + 1 + 1 + 1, 4, none⟩) (by show w.heap.size ≤ w.heap.size + 1 + 1 + 1; omega) (.int .i64 r1)).setCell (p := ⟨w.heap.size + 1 + 1 + 1, 5, none⟩) (by show w.heap.size ≤ w.heap.size + 1 + 1 + 1; omega) (.int .i64 r2)
    have hZ := Blk.new' hW 23 #[.int .i64 r1, .int .i64 r2]
    try simp only [World.size_setCell] at hZ
    replace hA := hA.alloc (.cells #[.int .i64 r1, .int .i64 r2] 23)
    replace hE := hE.alloc (.cells #[.int .i64 r1, .int .i64 r2] 23)
    replace hR := hR.alloc (.cells #[.int .i64 r1, .int .i64 r2] 23)
    replace hG := hG.alloc (.cells #[.int .i64 r1, .int .i64 r2] 23)
    replace hX := hX.alloc (.cells #[.int .i64 r1, .int .i64 r2] 23)
    replace hW := hW.alloc hW.size (.cells #[.int .i64 r1, .int .i64 r2] 23)
    clear hZ
    go_wp2
    rw [rounds_succ]
    have hY := Blk.new' hW 23 #[.int .i64 c', .int .i64 d']
    try simp only [World.size_alloc, World.size_setCell] at hY
    replace hA := hA.alloc (.cells #[.int .i64 c', .int .i64 d'] 23)
    replace hE := hE.alloc (.cells #[.int .i64 c', .int .i64 d'] 23)
    replace hR := hR.alloc (.cells #[.int .i64 c', .int .i64 d'] 23)
    replace hG := hG.alloc (.cells #[.int .i64 c', .int .i64 d'] 23)
    replace hX := hX.alloc (.cells #[.int .i64 c', .int .i64 d'] 23)
    replace hW := hW.alloc hW.size (.cells #[.int .i64 c', .int .i64 d'] 23)
    go_wp2_with fail
    (with_reducible refine (CS.out _).mono ?_)
    rintro e v3 ⟨rfl, hB⟩
    clear hY
    replace hA := hA.below hB hA.lt
    replace hE := hE.below hB hE.lt
    replace hR := hR.below hB hR.lt
    replace hG := hG.below hB hG.lt
    replace hX := hX.below hB hX.lt
    replace hW := below_st hW hB
    clear hB
    clear cA0 cA1 cA2 cA3 zA cE0 cE1 cE2 cE3 zE cR0 cR1 cR2 cR3 zR fR cG0 cG1 cG2 cG3 cG4 cG5 cG6 cG7 zG fG cX0 cX1 zX
    have cA0 := hA.cell 0
    have cA1 := hA.cell 1
    have cA2 := hA.cell 2
    have cA3 := hA.cell 3
    have zA := hA.lt
    have cE0 := hE.cell 0
    have cE1 := hE.cell 1
    have cE2 := hE.cell 2
    have cE3 := hE.cell 3
    have zE := hE.lt
    have cR0 := hR.cell 0
    have cR1 := hR.cell 1
    have cR2 := hR.cell 2
    have cR3 := hR.cell 3
    have zR := hR.lt
    have fR := hR.frozen
    have cG0 := hG.cell 0
    have cG1 := hG.cell 1
    have cG2 := hG.cell 2
    have cG3 := hG.cell 3
    have cG4 := hG.cell 4
    have cG5 := hG.cell 5
    have cG6 := hG.cell 6
    have cG7 := hG.cell 7
    have zG := hG.lt
    have fG := hG.frozen
    have cX0 := hX.cell 0
    have cX1 := hX.cell 1
    have zX := hX.lt
    have HR := Lib.hid hR
    have HW := Lib.hid hW
    clear hA hE hG hX hR hW
    go_wp2
    exact ret_iv (p := 6) (q := 7) (by kernel_rfl) rfl rfl ((put4 HR.out HW.out (by omega) 0 0 0 0).1.alloc _) ⟨by rw [HRES.out], (put4 HR.out HW.out (by omega) 0 0 0 0).2.alloc (put4 HR.out HW.out (by omega) 0 0 0 0).2.size _⟩
  subst n0
  subst n1
  subst n2
  subst n3
  have nAG : ¬ w.heap.size = w.heap.size + 1 + 1 + 1 := by omega
  have mAG : ¬ w.heap.size + 1 + 1 + 1 = w.heap.size := by omega
  have nEG : ¬ w.heap.size + 1 = w.heap.size + 1 + 1 + 1 := by omega
  have mEG : ¬ w.heap.size + 1 + 1 + 1 = w.heap.size + 1 := by omega
  have nRG : ¬ w.heap.size + 1 + 1 = w.heap.size + 1 + 1 + 1 := by omega
  have mRG : ¬ w.heap.size + 1 + 1 + 1 = w.heap.size + 1 + 1 := by omega
  have I0 := index_0 a b c d
  have I1 := index_1 a b c d
  have J0 := index_0 a' b' c' d'
  have J1 := index_1 a' b' c' d'
  have cA0 := hA.cell 0
  have cA1 := hA.cell 1
  have cA2 := hA.cell 2
  have cA3 := hA.cell 3
  have zA := hA.lt
  have cE0 := hE.cell 0
  have cE1 := hE.cell 1
  have cE2 := hE.cell 2
  have cE3 := hE.cell 3
  have zE := hE.lt
  have cR0 := hR.cell 0
  have cR1 := hR.cell 1
  have cR2 := hR.cell 2
  have cR3 := hR.cell 3
  have zR := hR.lt
  have fR := hR.frozen
  have cG0 := hG.cell 0
  have cG1 := hG.cell 1
  have cG2 := hG.cell 2
  have cG3 := hG.cell 3
  have cG4 := hG.cell 4
  have cG5 := hG.cell 5
  have cG6 := hG.cell 6
  have cG7 := hG.cell 7
  have zG := hG.lt
  have fG := hG.frozen
  go_enter Try.func57, Try.ntmps57
  go_wp2
  refine wp_loop_rounds 3 ?_
  rw [rounds_succ]
  have hX := Blk.new' hW 23 #[.int .i64 a, .int .i64 b]
  try simp only [World.size_alloc] at hX
  replace hA := hA.alloc (.cells #[.int .i64 a, .int .i64 b] 23)
  replace hE := hE.alloc (.cells #[.int .i64 a, .int .i64 b] 23)
  replace hR := hR.alloc (.cells #[.int .i64 a, .int .i64 b] 23)
  replace hG := hG.alloc (.cells #[.int .i64 a, .int .i64 b] 23)
  replace hW := hW.alloc hW.size (.cells #[.int .i64 a, .int .i64 b] 23)
  have nXG : ¬ w.heap.size + 1 + 1 + 1 + 1 = w.heap.size + 1 + 1 + 1 := by omega
  have mXG : ¬ w.heap.size + 1 + 1 + 1 = w.heap.size + 1 + 1 + 1 + 1 := by omega
  go_wp2
  refine wp_loop_rounds 3 ?_
  rw [rounds_succ]
  have hY := Blk.new' hW 23 #[.int .i64 a', .int .i64 b']
  try simp only [World.size_alloc] at hY
  replace hA := hA.alloc (.cells #[.int .i64 a', .int .i64 b'] 23)
  replace hE := hE.alloc (.cells #[.int .i64 a', .int .i64 b'] 23)
  replace hR := hR.alloc (.cells #[.int .i64 a', .int .i64 b'] 23)
  replace hG := hG.alloc (.cells #[.int .i64 a', .int .i64 b'] 23)
  replace hX := hX.alloc (.cells #[.int .i64 a', .int .i64 b'] 23)
  replace hW := hW.alloc hW.size (.cells #[.int .i64 a', .int .i64 b'] 23)
  go_wp2_with fail
  (with_reducible refine (CP.out _).mono ?_)
  rintro e v0 ⟨rfl, hB⟩
  clear hY
  replace hA := hA.below hB hA.lt
  replace hE := hE.below hB hE.lt
  replace hR := hR.below hB hR.lt
  replace hG := hG.below hB hG.lt
  replace hX := hX.below hB hX.lt
  replace hW := below_st hW hB
  clear hB
  clear cA0 cA1 cA2 cA3 zA cE0 cE1 cE2 cE3 zE cR0 cR1 cR2 cR3 zR fR cG0 cG1 cG2 cG3 cG4 cG5 cG6 cG7 zG fG
  have cA0 := hA.cell 0
  have cA1 := hA.cell 1
  have cA2 := hA.cell 2
  have cA3 := hA.cell 3
  have zA := hA.lt
  have cE0 := hE.cell 0
  have cE1 := hE.cell 1
  have cE2 := hE.cell 2
  have cE3 := hE.cell 3
  have zE := hE.lt
  have cR0 := hR.cell 0
  have cR1 := hR.cell 1
  have cR2 := hR.cell 2
  have cR3 := hR.cell 3
  have zR := hR.lt
  have fR := hR.frozen
  have cG0 := hG.cell 0
  have cG1 := hG.cell 1
  have cG2 := hG.cell 2
  have cG3 := hG.cell 3
  have cG4 := hG.cell 4
  have cG5 := hG.cell 5
  have cG6 := hG.cell 6
  have cG7 := hG.cell 7
  have zG := hG.lt
  have fG := hG.frozen
  have cX0 := hX.cell 0
  have cX1 := hX.cell 1
  have zX := hX.lt
  replace hA := hA.far2 (g := w.heap.size + 1 + 1 + 1) (i := 0) (j := 1) (by omega) (.int .i64 p1) (.int .i64 p2)
  replace hE := hE.far2 (g := w.heap.size + 1 + 1 + 1) (i := 0) (j := 1) (by omega) (.int .i64 p1) (.int .i64 p2)
  replace hR := hR.far2 (g := w.heap.size + 1 + 1 + 1) (i := 0) (j := 1) (by omega) (.int .i64 p1) (.int .i64 p2)
  replace hX := hX.far2 (g := w.heap.size + 1 + 1 + 1) (i := 0) (j := 1) (by omega) (.int .i64 p1) (.int .i64 p2)
  replace hG : Blk _ _ _ #[.int .i64 p1, .int .i64 p2, .int .i64 0, .int .i64 0, .int .i64 0, .int .i64 0, .int .i64 0, .int .i64 0] := (hG.put 0 (.int .i64 p1)).put 1 (.int .i64 p2)
  replace hW := (hW.setCell (p := ⟨w.heap.size + 1 + 1 + 1, 0, none⟩) (by show w.heap.size ≤ w.heap.size + 1 + 1 + 1; omega) (.int .i64 p1)).setCell (p := ⟨w.heap.size + 1 + 1 + 1, 1, none⟩) (by show w.heap.size ≤ w.heap.size + 1 + 1 + 1; omega) (.int .i64 p2)
  have hZ := Blk.new' hW 23 #[.int .i64 p1, .int .i64 p2]
  try simp only [World.size_setCell] at hZ
  replace hA := hA.alloc (.cells #[.int .i64 p1, .int .i64 p2] 23)
  replace hE := hE.alloc (.cells #[.int .i64 p1, .int .i64 p2] 23)
  replace hR := hR.alloc (.cells #[.int .i64 p1, .int .i64 p2] 23)
  replace hG := hG.alloc (.cells #[.int .i64 p1, .int .i64 p2] 23)
  replace hX := hX.alloc (.cells #[.int .i64 p1, .int .i64 p2] 23)
  replace hW := hW.alloc hW.size (.cells #[.int .i64 p1, .int .i64 p2] 23)
  clear hZ
  go_wp2
  rw [rounds_succ]
  have hY := Blk.new' hW 23 #[.int .i64 c', .int .i64 d']
  try simp only [World.size_alloc, World.size_setCell] at hY
  replace hA := hA.alloc (.cells #[.int .i64 c', .int .i64 d'] 23)
  replace hE := hE.alloc (.cells #[.int .i64 c', .int .i64 d'] 23)
  replace hR := hR.alloc (.cells #[.int .i64 c', .int .i64 d'] 23)
  replace hG := hG.alloc (.cells #[.int .i64 c', .int .i64 d'] 23)
  replace hX := hX.alloc (.cells #[.int .i64 c', .int .i64 d'] 23)
  replace hW := hW.alloc hW.size (.cells #[.int .i64 c', .int .i64 d'] 23)
  go_wp2_with fail
  (with_reducible refine (CQ.out _).mono ?_)
  rintro e v1 ⟨rfl, hB⟩
  clear hY
  replace hA := hA.below hB hA.lt
  replace hE := hE.below hB hE.lt
  replace hR := hR.below hB hR.lt
  replace hG := hG.below hB hG.lt
  replace hX := hX.below hB hX.lt
  replace hW := below_st hW hB
  clear hB
  clear cA0 cA1 cA2 cA3 zA cE0 cE1 cE2 cE3 zE cR0 cR1 cR2 cR3 zR fR cG0 cG1 cG2 cG3 cG4 cG5 cG6 cG7 zG fG cX0 cX1 zX
  have cA0 := hA.cell 0
  have cA1 := hA.cell 1
  have cA2 := hA.cell 2
  have cA3 := hA.cell 3
  have zA := hA.lt
  have cE0 := hE.cell 0
  have cE1 := hE.cell 1
  have cE2 := hE.cell 2
  have cE3 := hE.cell 3
  have zE := hE.lt
  have cR0 := hR.cell 0
  have cR1 := hR.cell 1
  have cR2 := hR.cell 2
  have cR3 := hR.cell 3
  have zR := hR.lt
  have fR := hR.frozen
  have cG0 := hG.cell 0
  have cG1 := hG.cell 1
  have cG2 := hG.cell 2
  have cG3 := hG.cell 3
  have cG4 := hG.cell 4
  have cG5 := hG.cell 5
  have cG6 := hG.cell 6
  have cG7 := hG.cell 7
  have zG := hG.lt
  have fG := hG.frozen
  have cX0 := hX.cell 0
  have cX1 := hX.cell 1
  have zX := hX.lt
  replace hA := hA.far2 (g := w.heap.size + 1 + 1 + 1) (i := 2) (j := 3) (by omega) (.int .i64 q1) (.int .i64 q2)
  replace hE := hE.far2 (g := w.heap.size + 1 + 1 + 1) (i := 2) (j := 3) (by omega) (.int .i64 q1) (.int .i64 q2)
  replace hR := hR.far2 (g := w.heap.size + 1 + 1 + 1) (i := 2) (j := 3) (by omega) (.int .i64 q1) (.int .i64 q2)
  replace hX := hX.far2 (g := w.heap.size + 1 + 1 + 1) (i := 2) (j := 3) (by omega) (.int .i64 q1) (.int .i64 q2)
  replace hG : Blk _ _ _ #[.int .i64 p1, .int .i64 p2, .int .i64 q1, .int .i64 q2, .int .i64 0, .int .i64 0, .int .i64 0, .int .i64 0] := (hG.put 2 (.int .i64 q1)).put 3 (.int .i64 q2)
  replace hW := (hW.setCell (p := ⟨w.heap.size + 1 + 1 + 1, 2, none⟩) (by show w.heap.size ≤ w.heap.size + 1 + 1 + 1; omega) (.int .i64 q1)).setCell (p := ⟨w.heap.size + 1 + 1 + 1, 3, none⟩) (by show w.heap.size ≤ w.heap.size + 1 + 1 + 1; omega) (.int .i64 q2)
  have hZ := Blk.new' hW 23 #[.int .i64 q1, .int .i64 q2]
  try simp only [World.size_setCell] at hZ
  replace hA := hA.alloc (.cells #[.int .i64 q1, .int .i64 q2] 23)
  replace hE := hE.alloc (.cells #[.int .i64 q1, .int .i64 q2] 23)
  replace hR := hR.alloc (.cells #[.int .i64 q1, .int .i64 q2] 23)
  replace hG := hG.alloc (.cells #[.int .i64 q1, .int .i64 q2] 23)
  replace hX := hX.alloc (.cells #[.int .i64 q1, .int .i64 q2] 23)
  replace hW := hW.alloc hW.size (.cells #[.int .i64 q1, .int .i64 q2] 23)
  clear hZ
  clear hX
  go_wp2
  rw [rounds_succ]
  go_wp2
  rw [rounds_succ]
  have hX := Blk.new' hW 23 #[.int .i64 c, .int .i64 d]
  try simp only [World.size_alloc, World.size_setCell] at hX
  replace hA := hA.alloc (.cells #[.int .i64 c, .int .i64 d] 23)
  replace hE := hE.alloc (.cells #[.int .i64 c, .int .i64 d] 23)
  replace hR := hR.alloc (.cells #[.int .i64 c, .int .i64 d] 23)
  replace hG := hG.alloc (.cells #[.int .i64 c, .int .i64 d] 23)
  replace hW := hW.alloc hW.size (.cells #[.int .i64 c, .int .i64 d] 23)
  clear nXG mXG
  have oXG : ¬ v1.heap.size = w.heap.size + 1 + 1 := by omega
  have pXG : ¬ w.heap.size + 1 + 1 = v1.heap.size := by omega
  have nXG : ¬ v1.heap.size + 1 = w.heap.size + 1 + 1 + 1 := by omega
  have mXG : ¬ w.heap.size + 1 + 1 + 1 = v1.heap.size + 1 := by omega
  go_wp2
  refine wp_loop_rounds 3 ?_
  rw [rounds_succ]
  have hY := Blk.new' hW 23 #[.int .i64 a', .int .i64 b']
  try simp only [World.size_alloc, World.size_setCell] at hY
  replace hA := hA.alloc (.cells #[.int .i64 a', .int .i64 b'] 23)
  replace hE := hE.alloc (.cells #[.int .i64 a', .int .i64 b'] 23)
  replace hR := hR.alloc (.cells #[.int .i64 a', .int .i64 b'] 23)
  replace hG := hG.alloc (.cells #[.int .i64 a', .int .i64 b'] 23)
  replace hX := hX.alloc (.cells #[.int .i64 a', .int .i64 b'] 23)
  replace hW := hW.alloc hW.size (.cells #[.int .i64 a', .int .i64 b'] 23)
  go_wp2_with fail
  (with_reducible refine (CR.out _).mono ?_)
  rintro e v2 ⟨rfl, hB⟩
  clear hY
  replace hA := hA.below hB hA.lt
  replace hE := hE.below hB hE.lt
  replace hR := hR.below hB hR.lt
  replace hG := hG.below hB hG.lt
  replace hX := hX.below hB hX.lt
  replace hW := below_st hW hB
  clear hB
  clear cA0 cA1 cA2 cA3 zA cE0 cE1 cE2 cE3 zE cR0 cR1 cR2 cR3 zR fR cG0 cG1 cG2 cG3 cG4 cG5 cG6 cG7 zG fG cX0 cX1 zX
  have cA0 := hA.cell 0
  have cA1 := hA.cell 1
  have cA2 := hA.cell 2
  have cA3 := hA.cell 3
  have zA := hA.lt
  have cE0 := hE.cell 0
  have cE1 := hE.cell 1
  have cE2 := hE.cell 2
  have cE3 := hE.cell 3
  have zE := hE.lt
  have cR0 := hR.cell 0
  have cR1 := hR.cell 1
  have cR2 := hR.cell 2
  have cR3 := hR.cell 3
  have zR := hR.lt
  have fR := hR.frozen
  have cG0 := hG.cell 0
  have cG1 := hG.cell 1
  have cG2 := hG.cell 2
  have cG3 := hG.cell 3
  have cG4 := hG.cell 4
  have cG5 := hG.cell 5
  have cG6 := hG.cell 6
  have cG7 := hG.cell 7
  have zG := hG.lt
  have fG := hG.frozen
  have cX0 := hX.cell 0
  have cX1 := hX.cell 1
  have zX := hX.lt
  have yX : v1.heap.size < v2.heap.size := by omega
  replace hA := hA.far2 (g := w.heap.size + 1 + 1 + 1) (i := 4) (j := 5) (by omega) (.int .i64 r1) (.int .i64 r2)
  replace hE := hE.far2 (g := w.heap.size + 1 + 1 + 1) (i := 4) (j := 5) (by omega) (.int .i64 r1) (.int .i64 r2)
  replace hR := hR.far2 (g := w.heap.size + 1 + 1 + 1) (i := 4) (j := 5) (by omega) (.int .i64 r1) (.int .i64 r2)
  replace hX := hX.far2 (g := w.heap.size + 1 + 1 + 1) (i := 4) (j := 5) (by omega) (.int .i64 r1) (.int .i64 r2)
  replace hG : Blk _ _ _ #[.int .i64 p1, .int .i64 p2, .int .i64 q1, .int .i64 q2, .int .i64 r1, .int .i64 r2, .int .i64 0, .int .i64 0] := (hG.put 4 (.int .i64 r1)).put 5 (.int .i64 r2)
  replace hW := (hW.setCell (p := ⟨w.heap.size + 1 + 1 + 1, 4, none⟩) (by show w.heap.size ≤ w.heap.size + 1 + 1 + 1; omega) (.int .i64 r1)).setCell (p := ⟨w.heap.size + 1 + 1 + 1, 5, none⟩) (by show w.heap.size ≤ w.heap.size + 1 + 1 + 1; omega) (.int .i64 r2)
  have hZ := Blk.new' hW 23 #[.int .i64 r1, .int .i64 r2]
  try simp only [World.size_setCell] at hZ
  replace hA := hA.alloc (.cells #[.int .i64 r1, .int .i64 r2] 23)
  replace hE := hE.alloc (.cells #[.int .i64 r1, .int .i64 r2] 23)
  replace hR := hR.alloc (.cells #[.int .i64 r1, .int .i64 r2] 23)
  replace hG := hG.alloc (.cells #[.int .i64 r1, .int .i64 r2] 23)
  replace hX := hX.alloc (.cells #[.int .i64 r1, .int .i64 r2] 23)
  replace hW := hW.alloc hW.size (.cells #[.int .i64 r1, .int .i64 r2] 23)
  clear hZ
  go_wp2
  rw [rounds_succ]
  have hY := Blk.new' hW 23 #[.int .i64 c', .int .i64 d']
  try simp only [World.size_alloc, World.size_setCell] at hY
  replace hA := hA.alloc (.cells #[.int .i64 c', .int .i64 d'] 23)
  replace hE := hE.alloc (.cells #[.int .i64 c', .int .i64 d'] 23)
  replace hR := hR.alloc (.cells #[.int .i64 c', .int .i64 d'] 23)
  replace hG := hG.alloc (.cells #[.int .i64 c', .int .i64 d'] 23)
  replace hX := hX.alloc (.cells #[.int .i64 c', .int .i64 d'] 23)
  replace hW := hW.alloc hW.size (.cells #[.int .i64 c', .int .i64 d'] 23)
  go_wp2_with fail
  (with_reducible refine (CS.out _).mono ?_)
  rintro e v3 ⟨rfl, hB⟩
  clear hY
  replace hA := hA.below hB hA.lt
  replace hE := hE.below hB hE.lt
  replace hR := hR.below hB hR.lt
  replace hG := hG.below hB hG.lt
  replace hX := hX.below hB hX.lt
  replace hW := below_st hW hB
  clear hB
  clear cA0 cA1 cA2 cA3 zA cE0 cE1 cE2 cE3 zE cR0 cR1 cR2 cR3 zR fR cG0 cG1 cG2 cG3 cG4 cG5 cG6 cG7 zG fG cX0 cX1 zX
  have cA0 := hA.cell 0
  have cA1 := hA.cell 1
  have cA2 := hA.cell 2
  have cA3 := hA.cell 3
  have zA := hA.lt
  have cE0 := hE.cell 0
  have cE1 := hE.cell 1
  have cE2 := hE.cell 2
  have cE3 := hE.cell 3
  have zE := hE.lt
  have cR0 := hR.cell 0
  have cR1 := hR.cell 1
  have cR2 := hR.cell 2
  have cR3 := hR.cell 3
  have zR := hR.lt
  have fR := hR.frozen
  have cG0 := hG.cell 0
  have cG1 := hG.cell 1
  have cG2 := hG.cell 2
  have cG3 := hG.cell 3
  have cG4 := hG.cell 4
  have cG5 := hG.cell 5
  have cG6 := hG.cell 6
  have cG7 := hG.cell 7
  have zG := hG.lt
  have fG := hG.frozen
  have cX0 := hX.cell 0
  have cX1 := hX.cell 1
  have zX := hX.lt
  replace hA := hA.far2 (g := w.heap.size + 1 + 1 + 1) (i := 6) (j := 7) (by omega) (.int .i64 s1) (.int .i64 s2)
  replace hE := hE.far2 (g := w.heap.size + 1 + 1 + 1) (i := 6) (j := 7) (by omega) (.int .i64 s1) (.int .i64 s2)
  replace hR := hR.far2 (g := w.heap.size + 1 + 1 + 1) (i := 6) (j := 7) (by omega) (.int .i64 s1) (.int .i64 s2)
  replace hX := hX.far2 (g := w.heap.size + 1 + 1 + 1) (i := 6) (j := 7) (by omega) (.int .i64 s1) (.int .i64 s2)
  replace hG : Blk _ _ _ #[.int .i64 p1, .int .i64 p2, .int .i64 q1, .int .i64 q2, .int .i64 r1, .int .i64 r2, .int .i64 s1, .int .i64 s2] := (hG.put 6 (.int .i64 s1)).put 7 (.int .i64 s2)
  replace hW := (hW.setCell (p := ⟨w.heap.size + 1 + 1 + 1, 6, none⟩) (by show w.heap.size ≤ w.heap.size + 1 + 1 + 1; omega) (.int .i64 s1)).setCell (p := ⟨w.heap.size + 1 + 1 + 1, 7, none⟩) (by show w.heap.size ≤ w.heap.size + 1 + 1 + 1; omega) (.int .i64 s2)
  have hZ := Blk.new' hW 23 #[.int .i64 s1, .int .i64 s2]
  try simp only [World.size_setCell] at hZ
  replace hA := hA.alloc (.cells #[.int .i64 s1, .int .i64 s2] 23)
  replace hE := hE.alloc (.cells #[.int .i64 s1, .int .i64 s2] 23)
  replace hR := hR.alloc (.cells #[.int .i64 s1, .int .i64 s2] 23)
  replace hG := hG.alloc (.cells #[.int .i64 s1, .int .i64 s2] 23)
  replace hX := hX.alloc (.cells #[.int .i64 s1, .int .i64 s2] 23)
  replace hW := hW.alloc hW.size (.cells #[.int .i64 s1, .int .i64 s2] 23)
  clear hZ
  clear hX
  go_wp2
  rw [rounds_succ]
  go_wp2
  rw [rounds_succ]
  have hv : VL [(p1, p2), (q1, q2), (r1, r2), (s1, s2)] := by
    intro x hx
    simp only [List.mem_cons, List.not_mem_nil, or_false] at hx
    rcases hx with rfl | rfl | rfl | rfl
    · exact VP.out (by first | trivial | rfl)
    · exact VQ.out (by first | trivial | rfl)
    · exact VR.out (by first | trivial | rfl)
    · exact VS.out (by first | trivial | rfl)
  have hres : exR (p1, p2, 0) (q1, q2, 0) (r1, r2, 0) (s1, s2, 0) = ((minL [(p1, p2), (q1, q2), (r1, r2), (s1, s2)]).1, (minL [(p1, p2), (q1, q2), (r1, r2), (s1, s2)]).2, (maxL [(p1, p2), (q1, q2), (r1, r2), (s1, s2)]).1, (maxL [(p1, p2), (q1, q2), (r1, r2), (s1, s2)]).2, 0) := by unfold exR; simp
  obtain ⟨⟨m1, m2⟩, hm⟩ : ∃ m, minL [(p1, p2), (q1, q2), (r1, r2), (s1, s2)] = m := ⟨_, rfl⟩
  obtain ⟨⟨t1, t2⟩, ht⟩ : ∃ m, maxL [(p1, p2), (q1, q2), (r1, r2), (s1, s2)] = m := ⟨_, rfl⟩
  rw [hm, ht] at hres
  have HRES := Lib.hid hres
  go_wp2_with fail
  have hG' : Blk _ _ _ (flat [(p1, p2), (q1, q2), (r1, r2), (s1, s2)]) := hG
  obtain ⟨w0, hw0⟩ : ∃ w0 : World, (((v3.setCell ⟨w.heap.size + 1 + 1 + 1, 6, none⟩ (.int .i64 s1)).setCell ⟨w.heap.size + 1 + 1 + 1, 7, none⟩ (.int .i64 s2)).alloc (.cells #[.int .i64 s1, .int .i64 s2] 23)) = w0 := ⟨_, rfl⟩
  rw [hw0] at hR hG' hW ⊢
  have L1 := fun (W : World) (hB : Below w0.heap.size w0 W) => (least_any [(p1, p2), (q1, q2), (r1, r2), (s1, s2)] (by simp) hv _ _ 4 4 rfl W (hG'.below hB hG'.lt) (by decide)).mono fun e w' (h : _ ∧ _) => (⟨h.1, below_step hB h.2⟩ : _ ∧ Below w0.heap.size w0 w')
  have L2 := fun (W : World) (hB : Below w0.heap.size w0 W) => (great_any [(p1, p2), (q1, q2), (r1, r2), (s1, s2)] (by simp) hv _ _ 4 4 rfl W (hG'.below hB hG'.lt) (by decide)).mono fun e w' (h : _ ∧ _) => (⟨h.1, below_step hB h.2⟩ : _ ∧ Below w0.heap.size w0 w')
  rw [hm] at L1
  rw [ht] at L2
  simp only at L1 L2
  replace L1 := Lib.hid L1
  replace L2 := Lib.hid L2
  have h00 := Below.refl w0.heap.size w0
  have h0d : Below w0.heap.size w0 w0.drew := h00.drew
  have HR := Lib.hid hR
  have HW := Lib.hid hW
  clear hm ht hres hv hA hE hG hG' hR hW hw0 VP VQ VR VS cA0 cA1 cA2 cA3 zA cE0 cE1 cE2 cE3 zE cR0 cR1 cR2 cR3 zR fR cG0 cG1 cG2 cG3 cG4 cG5 cG6 cG7 zG fG cX0 cX1 zX
  go_region_held3 (fun _ => True) (trivial)
    (first | (go_at_call 29; (with_reducible refine (L1.out _ (by with_reducible assumption)).mono ?_); rintro e w' ⟨rfl, hb⟩) | (go_at_call 28; (with_reducible refine (L2.out _ (by with_reducible assumption)).mono ?_); rintro e w' ⟨rfl, hb⟩; have hR := HR.out.below hb HR.out.lt; have c0 := hR.cell 0; have c1 := hR.cell 1; have c2 := hR.cell 2; have c3 := hR.cell 3; have c4 := hR.frozen; clear hR))
  all_goals
    have hR := HR.out.below (by with_reducible assumption : Below w0.heap.size w0 _) HR.out.lt
    have hW := below_st HW.out (by with_reducible assumption : Below w0.heap.size w0 _)
    go_wp2
    exact ret_iv (p := 6) (q := 7) (by kernel_rfl) rfl rfl (put4 hR hW (by omega) m1 m2 t1 t2).1 ⟨by rw [HRES.out], (put4 hR hW (by omega) m1 m2 t1 t2).2⟩
end Go.Proofs.Yteppamchbgnlfaa
