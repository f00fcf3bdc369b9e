/- The law IntervalVerdicts holds. Conditions: numbers of 64 bits. -/
import Derived.Test.YtdhimfjbijmcpaaLives4
namespace Go.Proofs.Ytdhimfjbijmcpaa
open Go.RowKit

set_option maxRecDepth 100000 in
set_option maxHeartbeats 8000000 in
theorem law_verdicts {a b c d n m : Int} (h : W2 a b) (k : W2 c d) (j : W2 n m) (w : World) :
    Calls Try.prog 7 #[.agg #[.int .i64 a, .int .i64 b, .int .i64 c, .int .i64 d], .agg #[.int .i64 n, .int .i64 m]] w fun e w' => e = .returned (.bool true) ∧ Below w.heap.size w w' := by
  have WI := iwidth_w h k
  have SU := rsub_w k h
  have JV := jvalid_w h k
  have AL := ileast_w h k j
  have AM := imost_w h k j
  have RL := jleast_w h k j
  have RM := jmost_w h k j
  unfold RV at WI SU
  obtain ⟨lv, hlv⟩ : ∃ l, leastV a b c d n m = l := ⟨_, rfl⟩
  obtain ⟨mv, hmv⟩ : ∃ l, mostV a b c d n m = l := ⟨_, rfl⟩
  rw [hlv] at AL RL
  rw [hmv] at AM RM
  clear hlv hmv h k j
  obtain ⟨hA, hC, hW⟩ := start2 w 25 #[.int .i64 a, .int .i64 b, .int .i64 c, .int .i64 d] 23 #[.int .i64 n, .int .i64 m]
  obtain ⟨⟨s1, s2, s3⟩, hs⟩ : ∃ s, subR c d a b = s := ⟨_, rfl⟩
  rw [hs] at SU
  simp only at SU
  by_cases p : vI a b c d
  · rw [show vIB a b c d = true from decide_eq_true p] at JV
    rw [show widthR a b c d = (s1, s2, s3) from (if_pos p).trans hs] at WI
    simp only at WI
    clear p hs
    replace WI := Lib.hid WI
    replace SU := Lib.hid SU
    replace JV := Lib.hid JV
    replace AL := Lib.hid AL
    replace AM := Lib.hid AM
    replace RL := Lib.hid RL
    replace RM := Lib.hid RM
    have cA0 := hA.cell 0
    have cA1 := hA.cell 1
    have cA2 := hA.cell 2
    have cA3 := hA.cell 3
    have zA := hA.lt
    have cC0 := hC.cell 0
    have cC1 := hC.cell 1
    have zC := hC.lt
    go_enter Try.func7, Try.ntmps7
    go_wp2_with fail
    (with_reducible refine (WI.out  _).mono ?_)
    rintro e w1 ⟨rfl, hB⟩
    replace hA := hA.below hB hA.lt
    replace hC := hC.below hB hC.lt
    replace hW := below_st hW hB
    clear hB
    clear cA0 cA1 cA2 cA3 zA cC0 cC1 zC
    replace hA := hA.alloc (.cells #[.int .i64 s1, .int .i64 s2] 23)
    replace hC := hC.alloc (.cells #[.int .i64 s1, .int .i64 s2] 23)
    have hP := Blk.new w1 23 #[.int .i64 s1, .int .i64 s2]
    replace hW := hW.alloc hW.size (.cells #[.int .i64 s1, .int .i64 s2] 23)
    have cA0 := hA.cell 0
    have cA1 := hA.cell 1
    have cA2 := hA.cell 2
    have cA3 := hA.cell 3
    have zA := hA.lt
    have cC0 := hC.cell 0
    have cC1 := hC.cell 1
    have zC := hC.lt
    have cP0 := hP.cell 0
    have cP1 := hP.cell 1
    have zP := hP.lt
    go_wp2_with fail
    (with_reducible refine (SU.out  _).mono ?_)
    rintro e w2 ⟨rfl, hB⟩
    replace hA := hA.below hB hA.lt
    replace hC := hC.below hB hC.lt
    replace hP := hP.below hB hP.lt
    replace hW := below_st hW hB
    clear hB
    clear cA0 cA1 cA2 cA3 zA cC0 cC1 zC cP0 cP1 zP
    have nA := hA.lt
    have nC := hC.lt
    have nP := hP.lt
    have nW := hW.size
    replace hA := hA.alloc (.cells #[.int .i64 s1, .int .i64 s2] 23)
    replace hC := hC.alloc (.cells #[.int .i64 s1, .int .i64 s2] 23)
    replace hP := hP.alloc (.cells #[.int .i64 s1, .int .i64 s2] 23)
    have hR := Blk.new w2 23 #[.int .i64 s1, .int .i64 s2]
    replace hW := hW.alloc hW.size (.cells #[.int .i64 s1, .int .i64 s2] 23)
    have cA0 := hA.cell 0
    have cA1 := hA.cell 1
    have cA2 := hA.cell 2
    have cA3 := hA.cell 3
    have zA := hA.lt
    have cC0 := hC.cell 0
    have cC1 := hC.cell 1
    have zC := hC.lt
    have cP0 := hP.cell 0
    have cP1 := hP.cell 1
    have zP := hP.lt
    have cR0 := hR.cell 0
    have cR1 := hR.cell 1
    have zR := hR.lt
    go_wp2_with fail
    (with_reducible refine (JV.out  _).mono ?_)
    rintro e w3 ⟨rfl, hB⟩
    replace hA := hA.below hB hA.lt
    replace hC := hC.below hB hC.lt
    replace hP := hP.below hB hP.lt
    replace hR := hR.below hB hR.lt
    replace hW := below_st hW hB
    clear hB
    clear cA0 cA1 cA2 cA3 zA cC0 cC1 zC cP0 cP1 zP cR0 cR1 zR
    have cA0 := hA.cell 0
    have cA1 := hA.cell 1
    have cA2 := hA.cell 2
    have cA3 := hA.cell 3
    have zA := hA.lt
    have cC0 := hC.cell 0
    have cC1 := hC.cell 1
    have zC := hC.lt
    have cP0 := hP.cell 0
    have cP1 := hP.cell 1
    have zP := hP.lt
    have cR0 := hR.cell 0
    have cR1 := hR.cell 1
    have zR := hR.lt
    go_wp2_with fail
    obtain ⟨w0, hw0⟩ : ∃ w0 : World, w3 = w0 := ⟨_, rfl⟩
    rw [hw0] at hA hC hP hR hW ⊢
    clear hw0
    have keep : ∀ W : World, Below w0.heap.size w0 W → W.cell? ⟨w.heap.size, 0, none⟩ = some (.int .i64 a) ∧ W.cell? ⟨w.heap.size, 1, none⟩ = some (.int .i64 b) ∧ W.cell? ⟨w.heap.size, 2, none⟩ = some (.int .i64 c) ∧ W.cell? ⟨w.heap.size, 3, none⟩ = some (.int .i64 d) ∧ W.cell? ⟨w.heap.size + 1, 0, none⟩ = some (.int .i64 n) ∧ W.cell? ⟨w.heap.size + 1, 1, none⟩ = some (.int .i64 m) ∧ W.cell? ⟨w1.heap.size, 0, none⟩ = some (.int .i64 s1) ∧ W.cell? ⟨w1.heap.size, 1, none⟩ = some (.int .i64 s2) ∧ W.cell? ⟨w2.heap.size, 0, none⟩ = some (.int .i64 s1) ∧ W.cell? ⟨w2.heap.size, 1, none⟩ = some (.int .i64 s2) := fun W hB =>
      ⟨(hA.below hB hA.lt).cell 0, (hA.below hB hA.lt).cell 1, (hA.below hB hA.lt).cell 2, (hA.below hB hA.lt).cell 3, (hC.below hB hC.lt).cell 0, (hC.below hB hC.lt).cell 1, (hP.below hB hP.lt).cell 0, (hP.below hB hP.lt).cell 1, (hR.below hB hR.lt).cell 0, (hR.below hB hR.lt).cell 1⟩
    have AL2 := fun (W : World) (hB : Below w0.heap.size w0 W) => (AL.out W).mono fun e w' (h : _ ∧ _) => (⟨h.1, below_step hB h.2⟩ : _ ∧ Below w0.heap.size w0 w')
    replace AL2 := Lib.hid AL2
    have AM2 := fun (W : World) (hB : Below w0.heap.size w0 W) => (AM.out W).mono fun e w' (h : _ ∧ _) => (⟨h.1, below_step hB h.2⟩ : _ ∧ Below w0.heap.size w0 w')
    replace AM2 := Lib.hid AM2
    have RL2 := fun (W : World) (hB : Below w0.heap.size w0 W) => (RL.out W).mono fun e w' (h : _ ∧ _) => (⟨h.1, below_step hB h.2⟩ : _ ∧ Below w0.heap.size w0 w')
    replace RL2 := Lib.hid RL2
    have RM2 := fun (W : World) (hB : Below w0.heap.size w0 W) => (RM.out W).mono fun e w' (h : _ ∧ _) => (⟨h.1, below_step hB h.2⟩ : _ ∧ Below w0.heap.size w0 w')
    replace RM2 := Lib.hid RM2
    have LV2 := fun (W : World) (hB : Below w0.heap.size w0 W) => (lives_any W).mono fun e w' (h : _ ∧ _) => (⟨h.1, below_step hB h.2⟩ : _ ∧ Below w0.heap.size w0 w')
    replace LV2 := Lib.hid LV2
    have h00 := Below.refl w0.heap.size w0
    have h0d : Below w0.heap.size w0 w0.drew := h00.drew
    clear cA0 cA1 cA2 cA3 zA cC0 cC1 zC cP0 cP1 zP cR0 cR1 zR nA nC nP nW
    obtain ⟨c0, c1, c2, c3, c4, c5, c6, c7, c8, c9⟩ := keep w0 h00
    have HW := Lib.hid hW
    have Keep := Lib.hid keep
    clear keep hW hA hC hP hR AL AM RL RM WI SU JV
    go_region_held3 (fun W => W.cell? ⟨w.heap.size, 0, none⟩ = some (.int .i64 a) ∧ W.cell? ⟨w.heap.size, 1, none⟩ = some (.int .i64 b) ∧ W.cell? ⟨w.heap.size, 2, none⟩ = some (.int .i64 c) ∧ W.cell? ⟨w.heap.size, 3, none⟩ = some (.int .i64 d) ∧ W.cell? ⟨w.heap.size + 1, 0, none⟩ = some (.int .i64 n) ∧ W.cell? ⟨w.heap.size + 1, 1, none⟩ = some (.int .i64 m) ∧ W.cell? ⟨w1.heap.size, 0, none⟩ = some (.int .i64 s1) ∧ W.cell? ⟨w1.heap.size, 1, none⟩ = some (.int .i64 s2) ∧ W.cell? ⟨w2.heap.size, 0, none⟩ = some (.int .i64 s1) ∧ W.cell? ⟨w2.heap.size, 1, none⟩ = some (.int .i64 s2)) (exact Keep.out _ (by with_reducible assumption))
      (first | (go_at_call 38; (with_reducible refine (AL2.out _ (by with_reducible assumption)).mono ?_); rintro e w' ⟨rfl, hb⟩; obtain ⟨c0, c1, c2, c3, c4, c5, c6, c7, c8, c9⟩ := Keep.out _ hb) |
        (go_at_call 39; (with_reducible refine (RL2.out _ (by with_reducible assumption)).mono ?_); rintro e w' ⟨rfl, hb⟩; obtain ⟨c0, c1, c2, c3, c4, c5, c6, c7, c8, c9⟩ := Keep.out _ hb) |
        (go_at_call 40; (with_reducible refine (AM2.out _ (by with_reducible assumption)).mono ?_); rintro e w' ⟨rfl, hb⟩; obtain ⟨c0, c1, c2, c3, c4, c5, c6, c7, c8, c9⟩ := Keep.out _ hb) |
        (go_at_call 41; (with_reducible refine (RM2.out _ (by with_reducible assumption)).mono ?_); rintro e w' ⟨rfl, hb⟩; obtain ⟨c0, c1, c2, c3, c4, c5, c6, c7, c8, c9⟩ := Keep.out _ hb) |
        (go_at_call 18; (with_reducible refine (LV2.out _ (by with_reducible assumption)).mono ?_); rintro e w' ⟨rfl, hb⟩; obtain ⟨c0, c1, c2, c3, c4, c5, c6, c7, c8, c9⟩ := Keep.out _ hb))
    all_goals
      go_wp2
      go_ret
      exact ⟨rfl, below_st HW.out (by with_reducible assumption)⟩
  · rw [show vIB a b c d = false from decide_eq_false p] at JV
    rw [show widthR a b c d = (0, 0, 1) from if_neg p] at WI
    simp only at WI
    clear p hs
    replace WI := Lib.hid WI
    replace SU := Lib.hid SU
    replace JV := Lib.hid JV
    replace AL := Lib.hid AL
    replace AM := Lib.hid AM
    replace RL := Lib.hid RL
    replace RM := Lib.hid RM
    have cA0 := hA.cell 0
    have cA1 := hA.cell 1
    have cA2 := hA.cell 2
    have cA3 := hA.cell 3
    have zA := hA.lt
    have cC0 := hC.cell 0
    have cC1 := hC.cell 1
    have zC := hC.lt
    go_enter Try.func7, Try.ntmps7
    go_wp2_with fail
    (with_reducible refine (WI.out  _).mono ?_)
    rintro e w1 ⟨rfl, hB⟩
    replace hA := hA.below hB hA.lt
    replace hC := hC.below hB hC.lt
    replace hW := below_st hW hB
    clear hB
    clear cA0 cA1 cA2 cA3 zA cC0 cC1 zC
    replace hA := hA.alloc (.cells #[.int .i64 0, .int .i64 0] 23)
    replace hC := hC.alloc (.cells #[.int .i64 0, .int .i64 0] 23)
    have hP := Blk.new w1 23 #[.int .i64 0, .int .i64 0]
    replace hW := hW.alloc hW.size (.cells #[.int .i64 0, .int .i64 0] 23)
    have cA0 := hA.cell 0
    have cA1 := hA.cell 1
    have cA2 := hA.cell 2
    have cA3 := hA.cell 3
    have zA := hA.lt
    have cC0 := hC.cell 0
    have cC1 := hC.cell 1
    have zC := hC.lt
    have cP0 := hP.cell 0
    have cP1 := hP.cell 1
    have zP := hP.lt
    go_wp2_with fail
    (with_reducible refine (SU.out  _).mono ?_)
    rintro e w2 ⟨rfl, hB⟩
    replace hA := hA.below hB hA.lt
    replace hC := hC.below hB hC.lt
    replace hP := hP.below hB hP.lt
    replace hW := below_st hW hB
    clear hB
    clear cA0 cA1 cA2 cA3 zA cC0 cC1 zC cP0 cP1 zP
    have nA := hA.lt
    have nC := hC.lt
    have nP := hP.lt
    have nW := hW.size
    replace hA := hA.alloc (.cells #[.int .i64 s1, .int .i64 s2] 23)
    replace hC := hC.alloc (.cells #[.int .i64 s1, .int .i64 s2] 23)
    replace hP := hP.alloc (.cells #[.int .i64 s1, .int .i64 s2] 23)
    have hR := Blk.new w2 23 #[.int .i64 s1, .int .i64 s2]
    replace hW := hW.alloc hW.size (.cells #[.int .i64 s1, .int .i64 s2] 23)
    have cA0 := hA.cell 0
    have cA1 := hA.cell 1
    have cA2 := hA.cell 2
    have cA3 := hA.cell 3
    have zA := hA.lt
    have cC0 := hC.cell 0
    have cC1 := hC.cell 1
    have zC := hC.lt
    have cP0 := hP.cell 0
    have cP1 := hP.cell 1
    have zP := hP.lt
    have cR0 := hR.cell 0
    have cR1 := hR.cell 1
    have zR := hR.lt
    go_wp2_with fail
    (with_reducible refine (JV.out  _).mono ?_)
    rintro e w3 ⟨rfl, hB⟩
    replace hA := hA.below hB hA.lt
    replace hC := hC.below hB hC.lt
    replace hP := hP.below hB hP.lt
    replace hR := hR.below hB hR.lt
    replace hW := below_st hW hB
    clear hB
    clear cA0 cA1 cA2 cA3 zA cC0 cC1 zC cP0 cP1 zP cR0 cR1 zR
    have cA0 := hA.cell 0
    have cA1 := hA.cell 1
    have cA2 := hA.cell 2
    have cA3 := hA.cell 3
    have zA := hA.lt
    have cC0 := hC.cell 0
    have cC1 := hC.cell 1
    have zC := hC.lt
    have cP0 := hP.cell 0
    have cP1 := hP.cell 1
    have zP := hP.lt
    have cR0 := hR.cell 0
    have cR1 := hR.cell 1
    have zR := hR.lt
    have fR := hR.frozen
    go_wp2_with fail
    replace hA := (hA.far (p := ⟨w2.heap.size, 0, none⟩) (by show ¬ w.heap.size = w2.heap.size; omega) (.int .i64 0)).far (p := ⟨w2.heap.size, 1, none⟩) (by show ¬ w.heap.size = w2.heap.size; omega) (.int .i64 0)
    replace hC := (hC.far (p := ⟨w2.heap.size, 0, none⟩) (by show ¬ (w.heap.size + 1) = w2.heap.size; omega) (.int .i64 0)).far (p := ⟨w2.heap.size, 1, none⟩) (by show ¬ (w.heap.size + 1) = w2.heap.size; omega) (.int .i64 0)
    replace hP := (hP.far (p := ⟨w2.heap.size, 0, none⟩) (by show ¬ w1.heap.size = w2.heap.size; omega) (.int .i64 0)).far (p := ⟨w2.heap.size, 1, none⟩) (by show ¬ w1.heap.size = w2.heap.size; omega) (.int .i64 0)
    have hx := put2 hR hW (by omega) 0 0
    replace hR := hx.1
    replace hW := hx.2
    obtain ⟨w0, hw0⟩ : ∃ w0 : World, (w3.setCell ⟨w2.heap.size, 0, none⟩ (.int .i64 0)).setCell ⟨w2.heap.size, 1, none⟩ (.int .i64 0) = w0 := ⟨_, rfl⟩
    rw [hw0] at hx hA hC hP hR hW ⊢
    clear hw0 hx fR
    have keep : ∀ W : World, Below w0.heap.size w0 W → W.cell? ⟨w.heap.size, 0, none⟩ = some (.int .i64 a) ∧ W.cell? ⟨w.heap.size, 1, none⟩ = some (.int .i64 b) ∧ W.cell? ⟨w.heap.size, 2, none⟩ = some (.int .i64 c) ∧ W.cell? ⟨w.heap.size, 3, none⟩ = some (.int .i64 d) ∧ W.cell? ⟨w.heap.size + 1, 0, none⟩ = some (.int .i64 n) ∧ W.cell? ⟨w.heap.size + 1, 1, none⟩ = some (.int .i64 m) ∧ W.cell? ⟨w1.heap.size, 0, none⟩ = some (.int .i64 0) ∧ W.cell? ⟨w1.heap.size, 1, none⟩ = some (.int .i64 0) ∧ W.cell? ⟨w2.heap.size, 0, none⟩ = some (.int .i64 0) ∧ W.cell? ⟨w2.heap.size, 1, none⟩ = some (.int .i64 0) := fun W hB =>
      ⟨(hA.below hB hA.lt).cell 0, (hA.below hB hA.lt).cell 1, (hA.below hB hA.lt).cell 2, (hA.below hB hA.lt).cell 3, (hC.below hB hC.lt).cell 0, (hC.below hB hC.lt).cell 1, (hP.below hB hP.lt).cell 0, (hP.below hB hP.lt).cell 1, (hR.below hB hR.lt).cell 0, (hR.below hB hR.lt).cell 1⟩
    have AL2 := fun (W : World) (hB : Below w0.heap.size w0 W) => (AL.out W).mono fun e w' (h : _ ∧ _) => (⟨h.1, below_step hB h.2⟩ : _ ∧ Below w0.heap.size w0 w')
    replace AL2 := Lib.hid AL2
    have AM2 := fun (W : World) (hB : Below w0.heap.size w0 W) => (AM.out W).mono fun e w' (h : _ ∧ _) => (⟨h.1, below_step hB h.2⟩ : _ ∧ Below w0.heap.size w0 w')
    replace AM2 := Lib.hid AM2
    have RL2 := fun (W : World) (hB : Below w0.heap.size w0 W) => (RL.out W).mono fun e w' (h : _ ∧ _) => (⟨h.1, below_step hB h.2⟩ : _ ∧ Below w0.heap.size w0 w')
    replace RL2 := Lib.hid RL2
    have RM2 := fun (W : World) (hB : Below w0.heap.size w0 W) => (RM.out W).mono fun e w' (h : _ ∧ _) => (⟨h.1, below_step hB h.2⟩ : _ ∧ Below w0.heap.size w0 w')
    replace RM2 := Lib.hid RM2
    have LV2 := fun (W : World) (hB : Below w0.heap.size w0 W) => (lives_any W).mono fun e w' (h : _ ∧ _) => (⟨h.1, below_step hB h.2⟩ : _ ∧ Below w0.heap.size w0 w')
    replace LV2 := Lib.hid LV2
    have h00 := Below.refl w0.heap.size w0
    have h0d : Below w0.heap.size w0 w0.drew := h00.drew
    clear cA0 cA1 cA2 cA3 zA cC0 cC1 zC cP0 cP1 zP cR0 cR1 zR nA nC nP nW
    obtain ⟨c0, c1, c2, c3, c4, c5, c6, c7, c8, c9⟩ := keep w0 h00
    have HW := Lib.hid hW
    have Keep := Lib.hid keep
    clear keep hW hA hC hP hR AL AM RL RM WI SU JV
    go_region_held3 (fun W => W.cell? ⟨w.heap.size, 0, none⟩ = some (.int .i64 a) ∧ W.cell? ⟨w.heap.size, 1, none⟩ = some (.int .i64 b) ∧ W.cell? ⟨w.heap.size, 2, none⟩ = some (.int .i64 c) ∧ W.cell? ⟨w.heap.size, 3, none⟩ = some (.int .i64 d) ∧ W.cell? ⟨w.heap.size + 1, 0, none⟩ = some (.int .i64 n) ∧ W.cell? ⟨w.heap.size + 1, 1, none⟩ = some (.int .i64 m) ∧ W.cell? ⟨w1.heap.size, 0, none⟩ = some (.int .i64 0) ∧ W.cell? ⟨w1.heap.size, 1, none⟩ = some (.int .i64 0) ∧ W.cell? ⟨w2.heap.size, 0, none⟩ = some (.int .i64 0) ∧ W.cell? ⟨w2.heap.size, 1, none⟩ = some (.int .i64 0)) (exact Keep.out _ (by with_reducible assumption))
      (first | (go_at_call 38; (with_reducible refine (AL2.out _ (by with_reducible assumption)).mono ?_); rintro e w' ⟨rfl, hb⟩; obtain ⟨c0, c1, c2, c3, c4, c5, c6, c7, c8, c9⟩ := Keep.out _ hb) |
        (go_at_call 39; (with_reducible refine (RL2.out _ (by with_reducible assumption)).mono ?_); rintro e w' ⟨rfl, hb⟩; obtain ⟨c0, c1, c2, c3, c4, c5, c6, c7, c8, c9⟩ := Keep.out _ hb) |
        (go_at_call 40; (with_reducible refine (AM2.out _ (by with_reducible assumption)).mono ?_); rintro e w' ⟨rfl, hb⟩; obtain ⟨c0, c1, c2, c3, c4, c5, c6, c7, c8, c9⟩ := Keep.out _ hb) |
        (go_at_call 41; (with_reducible refine (RM2.out _ (by with_reducible assumption)).mono ?_); rintro e w' ⟨rfl, hb⟩; obtain ⟨c0, c1, c2, c3, c4, c5, c6, c7, c8, c9⟩ := Keep.out _ hb) |
        (go_at_call 18; (with_reducible refine (LV2.out _ (by with_reducible assumption)).mono ?_); rintro e w' ⟨rfl, hb⟩; obtain ⟨c0, c1, c2, c3, c4, c5, c6, c7, c8, c9⟩ := Keep.out _ hb))
    all_goals
      go_wp2
      go_ret
      exact ⟨rfl, below_st HW.out (by with_reducible assumption)⟩
end Go.Proofs.Ytdhimfjbijmcpaa
