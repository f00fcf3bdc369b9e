/- The reference's Min, Max, Hull where an interval is not valid, and Hull. Conditions: numbers of 64 bits. -/
import Derived.Test.YteppamchbgnlfaaVal
import Derived.Test.YteppamchbgnlfaaIv7
namespace Go.Proofs.Yteppamchbgnlfaa
open Go.RowKit

set_option maxRecDepth 100000 in
set_option maxHeartbeats 8000000 in
theorem rmin_inv {a b c d a' b' c' d' : Int} (h : W2 a b) (k : W2 c d) (h' : W2 a' b') (k' : W2 c' d') (hv : (vIB a b c d && vIB a' b' c' d') = false) (w : World) :
    Calls Try.prog 9 #[.agg #[.int .i64 a, .int .i64 b, .int .i64 c, .int .i64 d], .agg #[.int .i64 a', .int .i64 b', .int .i64 c', .int .i64 d']] w fun e w' => e = .returned (.agg #[.int .i64 0, .int .i64 0, .int .i64 0, .int .i64 0]) ∧ Below w.heap.size w w' := by
  have BW := both_w h k h' k'
  rw [hv] at BW
  replace BW := Lib.hid BW
  obtain ⟨hA, hE, hR, hW⟩ := start3 w 25 #[.int .i64 a, .int .i64 b, .int .i64 c, .int .i64 d] 25 #[.int .i64 a', .int .i64 b', .int .i64 c', .int .i64 d'] 25 #[.int .i64 0, .int .i64 0, .int .i64 0, .int .i64 0]
  clear h k h' k' hv
  have cA0 := hA.cell 0
  have cA1 := hA.cell 1
  have cA2 := hA.cell 2
  have cA3 := hA.cell 3
  have zA := hA.lt
  have cE0 := hE.cell 0
  have cE1 := hE.cell 1
  have cE2 := hE.cell 2
  have cE3 := hE.cell 3
  have zE := hE.lt
  go_enter Try.func9, Try.ntmps9
  go_wp2_with fail
  (with_reducible refine (BW.out _).mono ?_)
  rintro e w1 ⟨rfl, hB⟩
  replace hA := hA.below hB hA.lt
  replace hE := hE.below hB hE.lt
  replace hR := hR.below hB hR.lt
  replace hW := below_st hW hB
  clear hB cA0 cA1 cA2 cA3 zA cE0 cE1 cE2 cE3 zE BW
  have fR := hR.frozen
  have r0 := hR.cell 0
  have r1 := hR.cell 1
  have r2 := hR.cell 2
  have r3 := hR.cell 3
  have HR := Lib.hid hR
  have HW := Lib.hid hW
  clear hR hW
  go_wp2
  have k := put4 HR.out HW.out (by omega) 0 0 0 0
  exact ret_iv1 (p := 4) (by kernel_rfl) rfl k.1 ⟨rfl, k.2⟩
set_option maxRecDepth 100000 in
set_option maxHeartbeats 8000000 in
theorem rmax_inv {a b c d a' b' c' d' : Int} (h : W2 a b) (k : W2 c d) (h' : W2 a' b') (k' : W2 c' d') (hv : (vIB a b c d && vIB a' b' c' d') = false) (w : World) :
    Calls Try.prog 11 #[.agg #[.int .i64 a, .int .i64 b, .int .i64 c, .int .i64 d], .agg #[.int .i64 a', .int .i64 b', .int .i64 c', .int .i64 d']] w fun e w' => e = .returned (.agg #[.int .i64 0, .int .i64 0, .int .i64 0, .int .i64 0]) ∧ Below w.heap.size w w' := by
  have BW := both_w h k h' k'
  rw [hv] at BW
  replace BW := Lib.hid BW
  obtain ⟨hA, hE, hR, hW⟩ := start3 w 25 #[.int .i64 a, .int .i64 b, .int .i64 c, .int .i64 d] 25 #[.int .i64 a', .int .i64 b', .int .i64 c', .int .i64 d'] 25 #[.int .i64 0, .int .i64 0, .int .i64 0, .int .i64 0]
  clear h k h' k' hv
  have cA0 := hA.cell 0
  have cA1 := hA.cell 1
  have cA2 := hA.cell 2
  have cA3 := hA.cell 3
  have zA := hA.lt
  have cE0 := hE.cell 0
  have cE1 := hE.cell 1
  have cE2 := hE.cell 2
  have cE3 := hE.cell 3
  have zE := hE.lt
  go_enter Try.func11, Try.ntmps11
  go_wp2_with fail
  (with_reducible refine (BW.out _).mono ?_)
  rintro e w1 ⟨rfl, hB⟩
  replace hA := hA.below hB hA.lt
  replace hE := hE.below hB hE.lt
  replace hR := hR.below hB hR.lt
  replace hW := below_st hW hB
  clear hB cA0 cA1 cA2 cA3 zA cE0 cE1 cE2 cE3 zE BW
  have fR := hR.frozen
  have r0 := hR.cell 0
  have r1 := hR.cell 1
  have r2 := hR.cell 2
  have r3 := hR.cell 3
  have HR := Lib.hid hR
  have HW := Lib.hid hW
  clear hR hW
  go_wp2
  have k := put4 HR.out HW.out (by omega) 0 0 0 0
  exact ret_iv1 (p := 4) (by kernel_rfl) rfl k.1 ⟨rfl, k.2⟩
set_option maxRecDepth 100000 in
set_option maxHeartbeats 8000000 in
theorem rhull_inv {a b c d a' b' c' d' : Int} (h : W2 a b) (k : W2 c d) (h' : W2 a' b') (k' : W2 c' d') (hv : (vIB a b c d && vIB a' b' c' d') = false) (w : World) :
    Calls Try.prog 13 #[.agg #[.int .i64 a, .int .i64 b, .int .i64 c, .int .i64 d], .agg #[.int .i64 a', .int .i64 b', .int .i64 c', .int .i64 d']] w fun e w' => e = .returned (.agg #[.int .i64 0, .int .i64 0, .int .i64 0, .int .i64 0]) ∧ Below w.heap.size w w' := by
  have BW := both_w h k h' k'
  rw [hv] at BW
  replace BW := Lib.hid BW
  obtain ⟨hA, hE, hR, hW⟩ := start3 w 25 #[.int .i64 a, .int .i64 b, .int .i64 c, .int .i64 d] 25 #[.int .i64 a', .int .i64 b', .int .i64 c', .int .i64 d'] 25 #[.int .i64 0, .int .i64 0, .int .i64 0, .int .i64 0]
  clear h k h' k' hv
  have cA0 := hA.cell 0
  have cA1 := hA.cell 1
  have cA2 := hA.cell 2
  have cA3 := hA.cell 3
  have zA := hA.lt
  have cE0 := hE.cell 0
  have cE1 := hE.cell 1
  have cE2 := hE.cell 2
  have cE3 := hE.cell 3
  have zE := hE.lt
  go_enter Try.func13, Try.ntmps13
  go_wp2_with fail
  (with_reducible refine (BW.out _).mono ?_)
  rintro e w1 ⟨rfl, hB⟩
  replace hA := hA.below hB hA.lt
  replace hE := hE.below hB hE.lt
  replace hR := hR.below hB hR.lt
  replace hW := below_st hW hB
  clear hB cA0 cA1 cA2 cA3 zA cE0 cE1 cE2 cE3 zE BW
  have fR := hR.frozen
  have r0 := hR.cell 0
  have r1 := hR.cell 1
  have r2 := hR.cell 2
  have r3 := hR.cell 3
  have HR := Lib.hid hR
  have HW := Lib.hid hW
  clear hR hW
  go_wp2
  have k := put4 HR.out HW.out (by omega) 0 0 0 0
  exact ret_iv1 (p := 4) (by kernel_rfl) rfl k.1 ⟨rfl, k.2⟩
theorem fsAt_four (w : World) (a b c d a' b' c' d' : Int) : FsAt (w.alloc (.cells #[.int .i64 a, .int .i64 b, .int .i64 c, .int .i64 d, .int .i64 a', .int .i64 b', .int .i64 c', .int .i64 d'] 23)) (.slice (some ⟨w.heap.size, 0, none⟩) 4 4) [(a, b), (c, d), (a', b'), (c', d')] := by
  refine .inr ⟨_, 0, 4, rfl, by simp, by simp, fun j x hj => ?_⟩
  have hB := Blk.new w 23 #[.int .i64 a, .int .i64 b, .int .i64 c, .int .i64 d, .int .i64 a', .int .i64 b', .int .i64 c', .int .i64 d']
  match j, hj with
  | 0, hj => simp at hj; subst hj; exact ⟨hB.cell 0, hB.cell 1⟩
  | 1, hj => simp at hj; subst hj; exact ⟨hB.cell 2, hB.cell 3⟩
  | 2, hj => simp at hj; subst hj; exact ⟨hB.cell 4, hB.cell 5⟩
  | 3, hj => simp at hj; subst hj; exact ⟨hB.cell 6, hB.cell 7⟩
  | j + 4, hj => simp at hj
set_option maxRecDepth 100000 in
set_option maxHeartbeats 8000000 in
theorem rhull_w {a b c d a' b' c' d' : Int} (hx : vI a b c d) (hy : vI a' b' c' d') (w : World) :
    Calls Try.prog 13 #[.agg #[.int .i64 a, .int .i64 b, .int .i64 c, .int .i64 d], .agg #[.int .i64 a', .int .i64 b', .int .i64 c', .int .i64 d']] w fun e w' => e = .returned (.agg #[.int .i64 (minL [(a, b), (c, d), (a', b'), (c', d')]).1, .int .i64 (minL [(a, b), (c, d), (a', b'), (c', d')]).2, .int .i64 (maxL [(a, b), (c, d), (a', b'), (c', d')]).1, .int .i64 (maxL [(a, b), (c, d), (a', b'), (c', d')]).2]) ∧ Below w.heap.size w w' := by
  have BW := both_w hx.1.1.w2 hx.1.2.w2 hy.1.1.w2 hy.1.2.w2
  rw [show vIB a b c d = true from decide_eq_true hx, show vIB a' b' c' d' = true from decide_eq_true hy] at BW
  replace BW := Lib.hid BW
  have hv : VL [(a, b), (c, d), (a', b'), (c', d')] := by
    intro x hm
    simp only [List.mem_cons, List.not_mem_nil, or_false] at hm
    rcases hm with rfl | rfl | rfl | rfl
    · exact hx.1.1
    · exact hx.1.2
    · exact hy.1.1
    · exact hy.1.2
  have FR := fun W => from_any _ [(a, b), (c, d), (a', b'), (c', d')] _ (fsAt_four W a b c d a' b' c' d') hv (by simp) (by simp)
  obtain ⟨⟨m1, m2⟩, hm1⟩ : ∃ x, minL [(a, b), (c, d), (a', b'), (c', d')] = x := ⟨_, rfl⟩
  obtain ⟨⟨m3, m4⟩, hm2⟩ : ∃ x, maxL [(a, b), (c, d), (a', b'), (c', d')] = x := ⟨_, rfl⟩
  rw [hm1, hm2] at FR ⊢
  simp only at FR ⊢
  replace FR := Lib.hid FR
  obtain ⟨hA, hE, hR, hW⟩ := start3 w 25 #[.int .i64 a, .int .i64 b, .int .i64 c, .int .i64 d] 25 #[.int .i64 a', .int .i64 b', .int .i64 c', .int .i64 d'] 25 #[.int .i64 0, .int .i64 0, .int .i64 0, .int .i64 0]
  clear hx hy hv hm1 hm2
  have cA0 := hA.cell 0
  have cA1 := hA.cell 1
  have cA2 := hA.cell 2
  have cA3 := hA.cell 3
  have zA := hA.lt
  have cE0 := hE.cell 0
  have cE1 := hE.cell 1
  have cE2 := hE.cell 2
  have cE3 := hE.cell 3
  have zE := hE.lt
  go_enter Try.func13, Try.ntmps13
  go_wp2_with fail
  (with_reducible refine (BW.out _).mono ?_)
  rintro e w1 ⟨rfl, hB⟩
  replace hA := hA.below hB hA.lt
  replace hE := hE.below hB hE.lt
  replace hR := hR.below hB hR.lt
  replace hW := below_st hW hB
  clear hB cA0 cA1 cA2 cA3 zA cE0 cE1 cE2 cE3 zE BW
  have cA0 := hA.cell 0
  have cA1 := hA.cell 1
  have cA2 := hA.cell 2
  have cA3 := hA.cell 3
  have zA := hA.lt
  have cE0 := hE.cell 0
  have cE1 := hE.cell 1
  have cE2 := hE.cell 2
  have cE3 := hE.cell 3
  have zE := hE.lt
  go_wp2_with fail
  (with_reducible refine (FR.out _).mono ?_)
  rintro e w2 ⟨rfl, hB⟩
  have hb := below_st ((Below.refl _ w1).alloc (Nat.le_refl _) _) hB
  replace hR := hR.below hb hR.lt
  replace hW := below_st hW hb
  clear hB hb cA0 cA1 cA2 cA3 zA cE0 cE1 cE2 cE3 zE hA hE
  have fR := hR.frozen
  have r0 := hR.cell 0
  have r1 := hR.cell 1
  have r2 := hR.cell 2
  have r3 := hR.cell 3
  have HR := Lib.hid hR
  have HW := Lib.hid hW
  clear hR hW
  go_wp2
  have k := put4 HR.out HW.out (by omega) m1 m2 m3 m4
  exact ret_iv1 (p := 4) (by kernel_rfl) rfl k.1 ⟨rfl, k.2⟩
end Go.Proofs.Yteppamchbgnlfaa
