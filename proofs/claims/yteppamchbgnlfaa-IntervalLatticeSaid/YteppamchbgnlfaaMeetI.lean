/- Meet of the package and of the reference where an interval is not valid. Conditions: numbers of 64 bits. -/
import Derived.Test.YteppamchbgnlfaaIv3
import Derived.Test.YteppamchbgnlfaaIv7
namespace Go.Proofs.Yteppamchbgnlfaa
open Go.RowKit

set_option maxRecDepth 100000 in
set_option maxHeartbeats 8000000 in
theorem imeet_inv {a b c d a' b' c' d' : Int} (h : W2 a b) (k : W2 c d) (h' : W2 a' b') (k' : W2 c' d') (hv : ¬ (vI a b c d ∧ vI a' b' c' d')) (w : World) :
    Calls Try.prog 6 #[.agg #[.int .i64 a, .int .i64 b, .int .i64 c, .int .i64 d], .agg #[.int .i64 a', .int .i64 b', .int .i64 c', .int .i64 d']] w fun e w' => e = .returned (RI (0, 0, 0, 0, 1)) ∧ Below w.heap.size w w' := by
  have V1 := ivalid_w h k
  have V2 := ivalid_w h' k'
  obtain ⟨hA, hE, hR, hW⟩ := start3 w 25 #[.int .i64 a, .int .i64 b, .int .i64 c, .int .i64 d] 25 #[.int .i64 a', .int .i64 b', .int .i64 c', .int .i64 d'] 25 #[.int .i64 0, .int .i64 0, .int .i64 0, .int .i64 0]
  clear h k h' k'
  by_cases p1 : vI a b c d
  · have p2 : ¬ vI a' b' c' d' := fun q => hv ⟨p1, q⟩
    rw [show vIB a b c d = true from decide_eq_true p1] at V1
    rw [show vIB a' b' c' d' = false from decide_eq_false p2] at V2
    replace V1 := Lib.hid V1
    replace V2 := Lib.hid V2
    clear p1 p2 hv
    have cA0 := hA.cell 0
    have cA1 := hA.cell 1
    have cA2 := hA.cell 2
    have cA3 := hA.cell 3
    have zA := hA.lt
    have cE0 := hE.cell 0
    have cE1 := hE.cell 1
    have cE2 := hE.cell 2
    have cE3 := hE.cell 3
    have zE := hE.lt
    go_enter Try.func6, Try.ntmps6
    go_wp2_with fail
    (with_reducible refine (V1.out _).mono ?_)
    rintro e w1 ⟨rfl, hB⟩
    replace hA := hA.below hB hA.lt
    replace hE := hE.below hB hE.lt
    replace hR := hR.below hB hR.lt
    replace hW := below_st hW hB
    clear hB cA0 cA1 cA2 cA3 zA cE0 cE1 cE2 cE3 zE V1
    have cA0 := hA.cell 0
    have cA1 := hA.cell 1
    have cA2 := hA.cell 2
    have cA3 := hA.cell 3
    have zA := hA.lt
    have cE0 := hE.cell 0
    have cE1 := hE.cell 1
    have cE2 := hE.cell 2
    have cE3 := hE.cell 3
    have zE := hE.lt
    go_wp2_with fail
    (with_reducible refine (V2.out _).mono ?_)
    rintro e w1 ⟨rfl, hB⟩
    replace hA := hA.below hB hA.lt
    replace hE := hE.below hB hE.lt
    replace hR := hR.below hB hR.lt
    replace hW := below_st hW hB
    clear hB cA0 cA1 cA2 cA3 zA cE0 cE1 cE2 cE3 zE V2
    have fR := hR.frozen
    have r0 := hR.cell 0
    have r1 := hR.cell 1
    have r2 := hR.cell 2
    have r3 := hR.cell 3
    have HR := Lib.hid hR
    have HW := Lib.hid hW
    clear hR hW
    go_wp2
    have k := put4 HR.out HW.out (by omega) 0 0 0 0
    exact ret_iv (p := 4) (q := 5) (by kernel_rfl) rfl rfl k.1 ⟨rfl, k.2⟩
  · rw [show vIB a b c d = false from decide_eq_false p1] at V1
    replace V1 := Lib.hid V1
    clear p1 hv V2
    have cA0 := hA.cell 0
    have cA1 := hA.cell 1
    have cA2 := hA.cell 2
    have cA3 := hA.cell 3
    have zA := hA.lt
    have cE0 := hE.cell 0
    have cE1 := hE.cell 1
    have cE2 := hE.cell 2
    have cE3 := hE.cell 3
    have zE := hE.lt
    go_enter Try.func6, Try.ntmps6
    go_wp2_with fail
    (with_reducible refine (V1.out _).mono ?_)
    rintro e w1 ⟨rfl, hB⟩
    replace hA := hA.below hB hA.lt
    replace hE := hE.below hB hE.lt
    replace hR := hR.below hB hR.lt
    replace hW := below_st hW hB
    clear hB cA0 cA1 cA2 cA3 zA cE0 cE1 cE2 cE3 zE V1
    have fR := hR.frozen
    have r0 := hR.cell 0
    have r1 := hR.cell 1
    have r2 := hR.cell 2
    have r3 := hR.cell 3
    have HR := Lib.hid hR
    have HW := Lib.hid hW
    clear hR hW
    go_wp2
    have k := put4 HR.out HW.out (by omega) 0 0 0 0
    exact ret_iv (p := 4) (q := 5) (by kernel_rfl) rfl rfl k.1 ⟨rfl, k.2⟩
set_option maxRecDepth 100000 in
set_option maxHeartbeats 8000000 in
theorem rmeet_inv {a b c d a' b' c' d' : Int} (h : W2 a b) (k : W2 c d) (h' : W2 a' b') (k' : W2 c' d') (hv : (vIB a b c d && vIB a' b' c' d') = false) (w : World) :
    Calls Try.prog 7 #[.agg #[.int .i64 a, .int .i64 b, .int .i64 c, .int .i64 d], .agg #[.int .i64 a', .int .i64 b', .int .i64 c', .int .i64 d']] w fun e w' => e = .returned (RI (0, 0, 0, 0, 1)) ∧ Below w.heap.size w w' := by
  have BW := both_w h k h' k'
  rw [hv] at BW
  replace BW := Lib.hid BW
  obtain ⟨hA, hE, hR, hW⟩ := start3 w 25 #[.int .i64 a, .int .i64 b, .int .i64 c, .int .i64 d] 25 #[.int .i64 a', .int .i64 b', .int .i64 c', .int .i64 d'] 25 #[.int .i64 0, .int .i64 0, .int .i64 0, .int .i64 0]
  clear h k h' k' hv
  have cA0 := hA.cell 0
  have cA1 := hA.cell 1
  have cA2 := hA.cell 2
  have cA3 := hA.cell 3
  have zA := hA.lt
  have cE0 := hE.cell 0
  have cE1 := hE.cell 1
  have cE2 := hE.cell 2
  have cE3 := hE.cell 3
  have zE := hE.lt
  go_enter Try.func7, Try.ntmps7
  go_wp2_with fail
  (with_reducible refine (BW.out _).mono ?_)
  rintro e w1 ⟨rfl, hB⟩
  replace hA := hA.below hB hA.lt
  replace hE := hE.below hB hE.lt
  replace hR := hR.below hB hR.lt
  replace hW := below_st hW hB
  clear hB cA0 cA1 cA2 cA3 zA cE0 cE1 cE2 cE3 zE BW
  have fR := hR.frozen
  have r0 := hR.cell 0
  have r1 := hR.cell 1
  have r2 := hR.cell 2
  have r3 := hR.cell 3
  have HR := Lib.hid hR
  have HW := Lib.hid hW
  clear hR hW
  go_wp2
  have k := put4 HR.out HW.out (by omega) 0 0 0 0
  exact ret_iv (p := 4) (q := 5) (by kernel_rfl) rfl rfl k.1 ⟨rfl, k.2⟩
end Go.Proofs.Yteppamchbgnlfaa
