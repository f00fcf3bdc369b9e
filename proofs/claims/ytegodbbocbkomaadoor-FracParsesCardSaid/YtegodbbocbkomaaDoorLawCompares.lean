/- The law FracCompares holds. Conditions: the variables as laid; numbers of 64 bits. -/
import Derived.Test.YtegodbbocbkomaaDoorOf
import Derived.Test.YtegodbbocbkomaaDoorRefC
namespace Go.Proofs.YtegodbbocbkomaaDoor
open Go.RowKit

theorem vP_neg {n d : Int} : vP (-n) d ↔ vP n d := by
  unfold vP
  rw [Int.natAbs_neg]
  constructor <;> rintro ⟨h1, h2, h3, h4, h5⟩ <;> exact ⟨h1, h2, by omega, by omega, h5⟩
/-- Where the difference is in range, Compare is the sign of its numerator. -/
theorem sub_cmp {an ad bn bd d1 d2 : Int} (h : subR an ad bn bd = (d1, d2, 0)) : cmpR an ad bn bd = sgn d1 := by
  unfold subR at h
  by_cases hv : vP an ad ∧ vP (-bn) bd
  · obtain ⟨_, k, hk, e1, -⟩ := addR_mul hv.1 hv.2 h
    unfold cmpR
    rw [if_pos ⟨hv.1, vP_neg.1 hv.2⟩, ← sgn_mul (z := d1) hk, ← e1, Int.neg_mul]
    congr 1
  · unfold addR at h
    rw [if_neg hv] at h
    injection h with _ h2
    injection h2 with _ h4
    simp at h4
theorem cmp_anti (an ad bn bd : Int) : cmpR bn bd an ad = -cmpR an ad bn bd := by
  unfold cmpR
  by_cases hv : vP an ad ∧ vP bn bd
  · rw [if_pos hv, if_pos ⟨hv.2, hv.1⟩, ← sgn_neg]; congr 1; omega
  · rw [if_neg hv, if_neg (fun h => hv ⟨h.2, h.1⟩)]; rfl
theorem cmp_bd (an ad bn bd : Int) : -1 ≤ cmpR an ad bn bd ∧ cmpR an ad bn bd ≤ 1 := by
  unfold cmpR sgn
  split <;> (try split) <;> (try split) <;> omega
theorem sgn_lt (z : Int) : decide (sgn z < 0) = decide (z < 0) := by unfold sgn; split <;> (try split) <;> simp <;> omega
theorem sgn_gt (z : Int) : decide (0 < sgn z) = decide (0 < z) := by unfold sgn; split <;> (try split) <;> simp <;> omega

set_option maxRecDepth 100000 in
set_option maxHeartbeats 4000000 in
theorem law_compares (an ad bn bd : Int) (w : World) (a0 : -9223372036854775808 ≤ an) (a1 : an ≤ 9223372036854775807) (a2 : -9223372036854775808 ≤ ad) (a3 : ad ≤ 9223372036854775807) (b0 : -9223372036854775808 ≤ bn) (b1 : bn ≤ 9223372036854775807) (b2 : -9223372036854775808 ≤ bd) (b3 : bd ≤ 9223372036854775807) (hE : Env w) :
    Calls Tryd.prog 6 #[.agg #[.int .i64 an, .int .i64 ad], .agg #[.int .i64 bn, .int .i64 bd]] w fun e w' => e = .returned (.bool true) ∧ Below w.heap.size w w' := by
  have hst := C2.start w an ad bn bd
  obtain ⟨c0, c1, c2, c3⟩ := hst.cells
  have K1 := fun W => cmp_any an ad bn bd W a0 a1 a2 a3 b0 b1 b2 b3
  have K2 := fun W => sub_any an ad bn bd W a0 a1 a2 a3 b0 b1 b2 b3
  have K3 := fun W => rcmp_any an ad bn bd W a0 a1 a2 a3 b0 b1 b2 b3
  have K4 := fun W => cmp_any bn bd an ad W b0 b1 b2 b3 a0 a1 a2 a3
  rw [cmp_anti] at K4
  have hbd := cmp_bd an ad bn bd
  have hsub := @sub_cmp an ad bn bd
  obtain ⟨⟨r1, r2, r3⟩, hr⟩ : ∃ r, subR an ad bn bd = r := ⟨_, rfl⟩
  rw [hr] at K2 hsub
  unfold RV at K2
  simp only at K2
  generalize cmpR an ad bn bd = c at K1 K3 K4 hbd hsub
  have hw1 : IntKind.i64.wrap (- -c) = c := by rw [IntKind.wrap_i64]; omega
  have hw2 : IntKind.i64.wrap c = c := by rw [IntKind.wrap_i64]; omega
  have K1 := Lib.hid K1
  have K2 := Lib.hid K2
  have K3 := Lib.hid K3
  have K4 := Lib.hid K4
  clear hbd hr a0 a1 a2 a3 b0 b1 b2 b3
  by_cases h3 : r3 = 0
  · subst h3
    have hs : c = sgn r1 := hsub rfl
    have g1 : decide (c < 0) = decide (r1 < 0) := by rw [hs]; exact sgn_lt r1
    have g2 : decide (0 < c) = decide (0 < r1) := by rw [hs]; exact sgn_gt r1
    clear hs hsub
    go_enter Tryd.func6, Tryd.ntmps6
    go_wp2_with fail
    refine (K1.out _).mono ?_
    rintro e w1 ⟨rfl, hB⟩
    have h1 := hst.call hB
    clear hst hB c0 c1 c2 c3
    obtain ⟨c0, c1, c2, c3⟩ := h1.cells
    go_wp2_with fail
    refine (K2.out _).mono ?_
    rintro e w2 ⟨rfl, hB⟩
    have h2 := h1.call hB
    clear h1 hB c0 c1 c2 c3
    obtain ⟨c0, c1, c2, c3⟩ := h2.cells
    have hz : w.heap.size + 1 < w2.heap.size := h2.2.2.2
    have hz2 : w.heap.size < w2.heap.size := by omega
    have h3 := h2.call ((Below.refl _ _).alloc (Nat.le_refl _) (.cells #[.int .i64 r1, .int .i64 r2] 23))
    have H3 := Lib.hid h3
    clear h2 h3
    go_wp2_with fail
    refine (K3.out _).mono ?_
    rintro e w3 ⟨rfl, hB⟩
    have h4 := H3.out.call hB
    clear H3 hB c0 c1 c2 c3 hz hz2
    obtain ⟨c0, c1, c2, c3⟩ := h4.cells
    go_wp2_with fail
    refine (K4.out _).mono ?_
    rintro e w4 ⟨rfl, hB⟩
    have h5 := h4.call hB
    clear h4 hB c0 c1 c2 c3
    go_wp2_with fail
    refine (lives_any _ (hE.below h5.2.2.1)).mono ?_
    rintro e w5 ⟨rfl, hB⟩
    have HW := Lib.hid (below_st h5.2.2.1 hB)
    clear h5 hB hE
    go_wp2
    go_ret
    exact ⟨rfl, HW.out⟩
  · have h3' : (r3 == 0) = false := by simpa using h3
    clear hsub
    go_enter Tryd.func6, Tryd.ntmps6
    go_wp2_with fail
    refine (K1.out _).mono ?_
    rintro e w1 ⟨rfl, hB⟩
    have h1 := hst.call hB
    clear hst hB c0 c1 c2 c3
    obtain ⟨c0, c1, c2, c3⟩ := h1.cells
    go_wp2_with fail
    refine (K2.out _).mono ?_
    rintro e w2 ⟨rfl, hB⟩
    have h2 := h1.call hB
    clear h1 hB c0 c1 c2 c3
    obtain ⟨c0, c1, c2, c3⟩ := h2.cells
    have hz : w.heap.size + 1 < w2.heap.size := h2.2.2.2
    have hz2 : w.heap.size < w2.heap.size := by omega
    have h4 := h2.call ((Below.refl _ _).alloc (Nat.le_refl _) (.cells #[.int .i64 r1, .int .i64 r2] 23))
    have H3 := Lib.hid h4
    clear h2 h4
    go_wp2_with fail
    refine (K3.out _).mono ?_
    rintro e w3 ⟨rfl, hB⟩
    have h4 := H3.out.call hB
    clear H3 hB c0 c1 c2 c3 hz hz2
    obtain ⟨c0, c1, c2, c3⟩ := h4.cells
    go_wp2_with fail
    refine (K4.out _).mono ?_
    rintro e w4 ⟨rfl, hB⟩
    have h5 := h4.call hB
    clear h4 hB c0 c1 c2 c3
    go_wp2_with fail
    refine (lives_any _ (hE.below h5.2.2.1)).mono ?_
    rintro e w5 ⟨rfl, hB⟩
    have HW := Lib.hid (below_st h5.2.2.1 hB)
    clear h5 hB hE
    go_wp2
    go_ret
    exact ⟨rfl, HW.out⟩
end Go.Proofs.YtegodbbocbkomaaDoor
