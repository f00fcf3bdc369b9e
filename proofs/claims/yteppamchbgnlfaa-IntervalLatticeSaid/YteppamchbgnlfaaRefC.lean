/- The reference's Compare is what the document asks. Conditions: numbers of 64 bits. -/
import Derived.Test.YteppamchbgnlfaaFMore
import Derived.Test.YteppamchbgnlfaaFS
namespace Go.Proofs.Yteppamchbgnlfaa
open Go.RowKit

theorem cmpN_sgn (a b : Nat) : cmpN a b = sgn ((a : Int) - (b : Int)) := by
  unfold cmpN sgn
  split <;> (try split) <;> (try split) <;> (try split) <;> omega

theorem C2.at {w W W' : World} {an ad bn bd : Int} (h : C2 w W an ad bn bd) (hb : Below W.heap.size W W') : W'.cell? ⟨w.heap.size, 0, none⟩ = some (.int .i64 an) ∧ W'.cell? ⟨w.heap.size, 1, none⟩ = some (.int .i64 ad) ∧ W'.cell? ⟨w.heap.size + 1, 0, none⟩ = some (.int .i64 bn) ∧ W'.cell? ⟨w.heap.size + 1, 1, none⟩ = some (.int .i64 bd) := (h.call hb).cells

set_option maxRecDepth 100000 in
set_option maxHeartbeats 4000000 in
theorem rcmp_any (an ad bn bd : Int) (w : World) (a0 : -9223372036854775808 ≤ an) (a1 : an ≤ 9223372036854775807) (a2 : -9223372036854775808 ≤ ad) (a3 : ad ≤ 9223372036854775807) (b0 : -9223372036854775808 ≤ bn) (b1 : bn ≤ 9223372036854775807) (b2 : -9223372036854775808 ≤ bd) (b3 : bd ≤ 9223372036854775807) :
    Calls Try.prog 31 #[.agg #[.int .i64 an, .int .i64 ad], .agg #[.int .i64 bn, .int .i64 bd]] w fun e w' => e = .returned (.int .i64 (cmpR an ad bn bd)) ∧ Below w.heap.size w w' := by
  have hst := C2.start w an ad bn bd
  obtain ⟨c0, c1, c2, c3⟩ := hst.cells
  have V1 := Lib.hid (fun W => rvalid_any an ad W a0 a1 a2 a3)
  have V2 := Lib.hid (fun W => rvalid_any bn bd W b0 b1 b2 b3)
  have S1 := fun (w0 W : World) (hW : Below w0.heap.size w0 W) => rsize_from w0 W hW an a0 a1
  have S2 := fun (w0 W : World) (hW : Below w0.heap.size w0 W) => rsize_from w0 W hW bn b0 b1
  by_cases hv : vP an ad ∧ vP bn bd
  · have e1 : vB an ad = true := decide_eq_true hv.1
    have e2 : vB bn bd = true := decide_eq_true hv.2
    obtain ⟨⟨p1, p2, p3, p4, -⟩, q1, q2, q3, q4, -⟩ := hv
    have HM := Lib.hid (show cmpR an ad bn bd = sgn (an * bd - bn * ad) by
      unfold cmpR; rw [if_pos ⟨decide_eq_true_iff.1 e1, decide_eq_true_iff.1 e2⟩])
    obtain ⟨AD, rfl⟩ := Int.eq_ofNat_of_zero_le (show 0 ≤ ad by omega)
    obtain ⟨BD, rfl⟩ := Int.eq_ofNat_of_zero_le (show 0 ≤ bd by omega)
    by_cases s1 : an < 0 <;> by_cases s2 : bn < 0
    · have z1 : decide (an < 0) = true := decide_eq_true s1
      have z2 : decide ((0 : Int) ≤ an) = false := decide_eq_false (by omega)
      have z3 : decide ((0 : Int) ≤ bn) = false := decide_eq_false (by omega)
      obtain ⟨A, hA⟩ : ∃ A, an.natAbs = A := ⟨_, rfl⟩
      obtain ⟨B, hB⟩ : ∃ B, bn.natAbs = B := ⟨_, rfl⟩
      rw [hA] at S1
      rw [hB] at S2
      have hG : -cmpN (A * BD) (B * AD) = sgn (an * (BD : Int) - bn * (AD : Int)) := by
        rw [cmpN_sgn, ← hA, ← hB, ← sgn_neg]; congr 1; push_cast
        rw [show ((an.natAbs : Nat) : Int) = -an by omega, show ((bn.natAbs : Nat) : Int) = -bn by omega, Int.neg_mul, Int.neg_mul]; omega
      have F1 := fun (w0 W : World) (hW : Below w0.heap.size w0 W) => nfrom_from w0 W hW A (by omega)
      have F2 := fun (w0 W : World) (hW : Below w0.heap.size w0 W) => nfrom_from w0 W hW BD (by omega)
      have F3 := fun (w0 W : World) (hW : Below w0.heap.size w0 W) => nfrom_from w0 W hW B (by omega)
      have F4 := fun (w0 W : World) (hW : Below w0.heap.size w0 W) => nfrom_from w0 W hW AD (by omega)
      have m1 : A * BD ≤ 4611686018427387904 * 4611686018427387904 := Nat.mul_le_mul (by omega) (by omega)
      have m2 : B * AD ≤ 4611686018427387904 * 4611686018427387904 := Nat.mul_le_mul (by omega) (by omega)
      have T1 := fun (w0 W : World) (hW : Below w0.heap.size w0 W) => ntimes_from w0 W hW A BD (by unfold W8; omega) (by unfold W8; omega) (by unfold W8; omega)
      have T2 := fun (w0 W : World) (hW : Below w0.heap.size w0 W) => ntimes_from w0 W hW B AD (by unfold W8; omega) (by unfold W8; omega) (by unfold W8; omega)
      have L1 := fun (w0 W : World) (hW : Below w0.heap.size w0 W) => nless_from w0 W hW (A * BD) (B * AD) (by unfold W8; omega) (by unfold W8; omega)
      have w1 : IntKind.u64.wrap ((AD : Nat) : Int) = (AD : Int) := by rw [IntKind.wrap_u64]; omega
      have w2 : IntKind.u64.wrap ((BD : Nat) : Int) = (BD : Int) := by rw [IntKind.wrap_u64]; omega
      obtain ⟨P, hP⟩ : ∃ P, A * BD = P := ⟨_, rfl⟩
      obtain ⟨Q, hQ⟩ : ∃ Q, B * AD = Q := ⟨_, rfl⟩
      rw [hP] at T1 L1 hG
      rw [hQ] at T2 L1 hG
      have hbd := cmpN_bd P Q
      generalize cmpN P Q = c at L1 hG hbd
      have hwc : IntKind.i64.wrap (-c) = -c := by rw [IntKind.wrap_i64]; omega
      have HG := Lib.hid hG
      have S1 := Lib.hid S1
      have S2 := Lib.hid S2
      have F1 := Lib.hid F1
      have F2 := Lib.hid F2
      have F3 := Lib.hid F3
      have F4 := Lib.hid F4
      have T1 := Lib.hid T1
      have T2 := Lib.hid T2
      have L1 := Lib.hid L1
      clear hP hQ hA hB hG hbd m1 m2 s1 s2 p1 p2 p3 p4 q1 q2 q3 q4 a0 a1 a2 a3 b0 b1 b2 b3
      go_enter Try.func31, Try.ntmps31
      go_wp2_with fail
      refine (V1.out _).mono ?_
      rintro e w1 ⟨rfl, hB⟩
      have h1 := hst.call hB
      clear hst hB c0 c1 c2 c3
      obtain ⟨c0, c1, c2, c3⟩ := h1.cells
      rw [e1]
      go_wp2_with fail
      refine (V2.out _).mono ?_
      rintro e w0 ⟨rfl, hB⟩
      have h2 := h1.call hB
      clear h1 hB c0 c1 c2 c3
      obtain ⟨c0, c1, c2, c3⟩ := h2.cells
      rw [e2]
      have Keep := Lib.hid (fun W (hW : Below w0.heap.size w0 W) => C2.at h2 hW)
      have h00 := Below.refl w0.heap.size w0
      have h0d : Below w0.heap.size w0 w0.drew := h00.drew
      have H2 := Lib.hid h2
      clear h2
      go_wp2
      go_region_held3 (fun W => W.cell? ⟨w.heap.size, 0, none⟩ = some (.int .i64 an) ∧ W.cell? ⟨w.heap.size, 1, none⟩ = some (.int .i64 AD) ∧ W.cell? ⟨w.heap.size + 1, 0, none⟩ = some (.int .i64 bn) ∧ W.cell? ⟨w.heap.size + 1, 1, none⟩ = some (.int .i64 BD)) (exact Keep.out _ (by with_reducible assumption))
        (first | (go_at_call 54; first | ((with_reducible refine (S1.out w0 _ (by with_reducible assumption)).mono ?_); rintro e w' ⟨rfl, hb, -⟩; obtain ⟨c0, c1, c2, c3⟩ := Keep.out _ hb) | ((with_reducible refine (S2.out w0 _ (by with_reducible assumption)).mono ?_); rintro e w' ⟨rfl, hb, -⟩; obtain ⟨c0, c1, c2, c3⟩ := Keep.out _ hb)) |
          (go_at_call 53; first | ((with_reducible refine (F1.out w0 _ (by with_reducible assumption)).mono ?_); rintro e w' ⟨rfl, hb, -⟩; obtain ⟨c0, c1, c2, c3⟩ := Keep.out _ hb) | ((with_reducible refine (F2.out w0 _ (by with_reducible assumption)).mono ?_); rintro e w' ⟨rfl, hb, -⟩; obtain ⟨c0, c1, c2, c3⟩ := Keep.out _ hb) | ((with_reducible refine (F3.out w0 _ (by with_reducible assumption)).mono ?_); rintro e w' ⟨rfl, hb, -⟩; obtain ⟨c0, c1, c2, c3⟩ := Keep.out _ hb) | ((with_reducible refine (F4.out w0 _ (by with_reducible assumption)).mono ?_); rintro e w' ⟨rfl, hb, -⟩; obtain ⟨c0, c1, c2, c3⟩ := Keep.out _ hb)) |
          (go_at_call 52; first | ((with_reducible refine (T1.out w0 _ (by with_reducible assumption)).mono ?_); rintro e w' ⟨rfl, hb, -⟩; obtain ⟨c0, c1, c2, c3⟩ := Keep.out _ hb) | ((with_reducible refine (T2.out w0 _ (by with_reducible assumption)).mono ?_); rintro e w' ⟨rfl, hb, -⟩; obtain ⟨c0, c1, c2, c3⟩ := Keep.out _ hb)) |
          (go_at_call 51; ((with_reducible refine (L1.out w0 _ (by with_reducible assumption)).mono ?_); rintro e w' ⟨rfl, hb, -⟩; obtain ⟨c0, c1, c2, c3⟩ := Keep.out _ hb)))
      all_goals
        go_wp2
        go_ret
        exact ⟨ret_int (by rw [HM.out, HG.out]), below_st H2.out.2.2.1 (by with_reducible assumption)⟩
    · have z1 : decide (an < 0) = true := decide_eq_true s1
      have z2 : decide ((0 : Int) ≤ bn) = true := decide_eq_true (by omega)
      have HG := Lib.hid (show sgn (an * (BD : Int) - bn * (AD : Int)) = -1 by
        have k1 : an * (BD : Int) < 0 := Int.mul_neg_of_neg_of_pos s1 (by omega)
        have k2 : 0 ≤ bn * (AD : Int) := Int.mul_nonneg (by omega) (by omega)
        unfold sgn; rw [if_pos (by omega)])
      clear S1 S2 s1 s2
      go_enter Try.func31, Try.ntmps31
      go_wp2_with fail
      refine (V1.out _).mono ?_
      rintro e w1 ⟨rfl, hB⟩
      have h1 := hst.call hB
      clear hst hB c0 c1 c2 c3
      obtain ⟨c0, c1, c2, c3⟩ := h1.cells
      rw [e1]
      go_wp2_with fail
      refine (V2.out _).mono ?_
      rintro e w2 ⟨rfl, hB⟩
      have h2 := h1.call hB
      clear h1 hB c0 c1 c2 c3
      obtain ⟨c0, c1, c2, c3⟩ := h2.cells
      rw [e2]
      have H2 := Lib.hid h2
      clear h2
      go_wp2
      go_ret
      exact ⟨ret_int (by rw [HM.out, HG.out]), H2.out.2.2.1⟩
    · have z1 : decide (an < 0) = false := decide_eq_false s1
      have z2 : decide ((0 : Int) ≤ an) = true := decide_eq_true (by omega)
      have z3 : decide (bn < 0) = true := decide_eq_true s2
      have HG := Lib.hid (show sgn (an * (BD : Int) - bn * (AD : Int)) = 1 by
        have k1 : bn * (AD : Int) < 0 := Int.mul_neg_of_neg_of_pos s2 (by omega)
        have k2 : 0 ≤ an * (BD : Int) := Int.mul_nonneg (by omega) (by omega)
        unfold sgn; rw [if_neg (by omega), if_pos (by omega)])
      clear S1 S2 s1 s2
      go_enter Try.func31, Try.ntmps31
      go_wp2_with fail
      refine (V1.out _).mono ?_
      rintro e w1 ⟨rfl, hB⟩
      have h1 := hst.call hB
      clear hst hB c0 c1 c2 c3
      obtain ⟨c0, c1, c2, c3⟩ := h1.cells
      rw [e1]
      go_wp2_with fail
      refine (V2.out _).mono ?_
      rintro e w2 ⟨rfl, hB⟩
      have h2 := h1.call hB
      clear h1 hB c0 c1 c2 c3
      obtain ⟨c0, c1, c2, c3⟩ := h2.cells
      rw [e2]
      have H2 := Lib.hid h2
      clear h2
      go_wp2
      go_ret
      exact ⟨ret_int (by rw [HM.out, HG.out]), H2.out.2.2.1⟩
    · have z1 : decide (an < 0) = false := decide_eq_false s1
      have z2 : decide ((0 : Int) ≤ an) = true := decide_eq_true (by omega)
      have z3 : decide (bn < 0) = false := decide_eq_false s2
      obtain ⟨A, hA⟩ : ∃ A, an.natAbs = A := ⟨_, rfl⟩
      obtain ⟨B, hB⟩ : ∃ B, bn.natAbs = B := ⟨_, rfl⟩
      rw [hA] at S1
      rw [hB] at S2
      have HG := Lib.hid (show cmpN (A * BD) (B * AD) = sgn (an * (BD : Int) - bn * (AD : Int)) by
        rw [cmpN_sgn, ← hA, ← hB]; congr 1; push_cast
        rw [show ((an.natAbs : Nat) : Int) = an by omega, show ((bn.natAbs : Nat) : Int) = bn by omega])
      have F1 := fun (w0 W : World) (hW : Below w0.heap.size w0 W) => nfrom_from w0 W hW A (by omega)
      have F2 := fun (w0 W : World) (hW : Below w0.heap.size w0 W) => nfrom_from w0 W hW BD (by omega)
      have F3 := fun (w0 W : World) (hW : Below w0.heap.size w0 W) => nfrom_from w0 W hW B (by omega)
      have F4 := fun (w0 W : World) (hW : Below w0.heap.size w0 W) => nfrom_from w0 W hW AD (by omega)
      have m1 : A * BD ≤ 4611686018427387904 * 4611686018427387904 := Nat.mul_le_mul (by omega) (by omega)
      have m2 : B * AD ≤ 4611686018427387904 * 4611686018427387904 := Nat.mul_le_mul (by omega) (by omega)
      have T1 := fun (w0 W : World) (hW : Below w0.heap.size w0 W) => ntimes_from w0 W hW A BD (by unfold W8; omega) (by unfold W8; omega) (by unfold W8; omega)
      have T2 := fun (w0 W : World) (hW : Below w0.heap.size w0 W) => ntimes_from w0 W hW B AD (by unfold W8; omega) (by unfold W8; omega) (by unfold W8; omega)
      have L1 := fun (w0 W : World) (hW : Below w0.heap.size w0 W) => nless_from w0 W hW (A * BD) (B * AD) (by unfold W8; omega) (by unfold W8; omega)
      have w1 : IntKind.u64.wrap ((AD : Nat) : Int) = (AD : Int) := by rw [IntKind.wrap_u64]; omega
      have w2 : IntKind.u64.wrap ((BD : Nat) : Int) = (BD : Int) := by rw [IntKind.wrap_u64]; omega
      obtain ⟨P, hP⟩ : ∃ P, A * BD = P := ⟨_, rfl⟩
      obtain ⟨Q, hQ⟩ : ∃ Q, B * AD = Q := ⟨_, rfl⟩
      rw [hP] at T1 L1 HG
      rw [hQ] at T2 L1 HG
      have S1 := Lib.hid S1
      have S2 := Lib.hid S2
      have F1 := Lib.hid F1
      have F2 := Lib.hid F2
      have F3 := Lib.hid F3
      have F4 := Lib.hid F4
      have T1 := Lib.hid T1
      have T2 := Lib.hid T2
      have L1 := Lib.hid L1
      clear hP hQ hA hB m1 m2 s1 s2 p1 p2 p3 p4 q1 q2 q3 q4 a0 a1 a2 a3 b0 b1 b2 b3
      go_enter Try.func31, Try.ntmps31
      go_wp2_with fail
      refine (V1.out _).mono ?_
      rintro e w1 ⟨rfl, hB⟩
      have h1 := hst.call hB
      clear hst hB c0 c1 c2 c3
      obtain ⟨c0, c1, c2, c3⟩ := h1.cells
      rw [e1]
      go_wp2_with fail
      refine (V2.out _).mono ?_
      rintro e w0 ⟨rfl, hB⟩
      have h2 := h1.call hB
      clear h1 hB c0 c1 c2 c3
      obtain ⟨c0, c1, c2, c3⟩ := h2.cells
      rw [e2]
      have Keep := Lib.hid (fun W (hW : Below w0.heap.size w0 W) => C2.at h2 hW)
      have h00 := Below.refl w0.heap.size w0
      have h0d : Below w0.heap.size w0 w0.drew := h00.drew
      have H2 := Lib.hid h2
      clear h2
      go_wp2
      go_region_held3 (fun W => W.cell? ⟨w.heap.size, 0, none⟩ = some (.int .i64 an) ∧ W.cell? ⟨w.heap.size, 1, none⟩ = some (.int .i64 AD) ∧ W.cell? ⟨w.heap.size + 1, 0, none⟩ = some (.int .i64 bn) ∧ W.cell? ⟨w.heap.size + 1, 1, none⟩ = some (.int .i64 BD)) (exact Keep.out _ (by with_reducible assumption))
        (first | (go_at_call 54; first | ((with_reducible refine (S1.out w0 _ (by with_reducible assumption)).mono ?_); rintro e w' ⟨rfl, hb, -⟩; obtain ⟨c0, c1, c2, c3⟩ := Keep.out _ hb) | ((with_reducible refine (S2.out w0 _ (by with_reducible assumption)).mono ?_); rintro e w' ⟨rfl, hb, -⟩; obtain ⟨c0, c1, c2, c3⟩ := Keep.out _ hb)) |
          (go_at_call 53; first | ((with_reducible refine (F1.out w0 _ (by with_reducible assumption)).mono ?_); rintro e w' ⟨rfl, hb, -⟩; obtain ⟨c0, c1, c2, c3⟩ := Keep.out _ hb) | ((with_reducible refine (F2.out w0 _ (by with_reducible assumption)).mono ?_); rintro e w' ⟨rfl, hb, -⟩; obtain ⟨c0, c1, c2, c3⟩ := Keep.out _ hb) | ((with_reducible refine (F3.out w0 _ (by with_reducible assumption)).mono ?_); rintro e w' ⟨rfl, hb, -⟩; obtain ⟨c0, c1, c2, c3⟩ := Keep.out _ hb) | ((with_reducible refine (F4.out w0 _ (by with_reducible assumption)).mono ?_); rintro e w' ⟨rfl, hb, -⟩; obtain ⟨c0, c1, c2, c3⟩ := Keep.out _ hb)) |
          (go_at_call 52; first | ((with_reducible refine (T1.out w0 _ (by with_reducible assumption)).mono ?_); rintro e w' ⟨rfl, hb, -⟩; obtain ⟨c0, c1, c2, c3⟩ := Keep.out _ hb) | ((with_reducible refine (T2.out w0 _ (by with_reducible assumption)).mono ?_); rintro e w' ⟨rfl, hb, -⟩; obtain ⟨c0, c1, c2, c3⟩ := Keep.out _ hb)) |
          (go_at_call 51; ((with_reducible refine (L1.out w0 _ (by with_reducible assumption)).mono ?_); rintro e w' ⟨rfl, hb, -⟩; obtain ⟨c0, c1, c2, c3⟩ := Keep.out _ hb)))
      all_goals
        go_wp2
        go_ret
        exact ⟨ret_int (by rw [HM.out, HG.out]), below_st H2.out.2.2.1 (by with_reducible assumption)⟩
  · have HM := Lib.hid (show cmpR an ad bn bd = 0 by unfold cmpR; rw [if_neg hv])
    have hway := valid_way an ad bn bd hv
    clear hv S1 S2
    rcases hway with e1 | ⟨e1, e2⟩
    all_goals
      go_enter Try.func31, Try.ntmps31
      go_wp2_with fail
      refine (V1.out _).mono ?_
      rintro e w1 ⟨rfl, hB⟩
      have h1 := hst.call hB
      clear hst hB c0 c1 c2 c3
      obtain ⟨c0, c1, c2, c3⟩ := h1.cells
      rw [e1]
      go_wp2_with fail
      refine (V2.out _).mono ?_
      rintro e w2 ⟨rfl, hB⟩
      have h2 := h1.call hB
      clear h1 hB c0 c1 c2 c3
      obtain ⟨c0, c1, c2, c3⟩ := h2.cells
      try rw [e2]
      have H2 := Lib.hid h2
      clear h2
      go_wp2
      go_ret
      exact ⟨ret_int HM.out.symm, H2.out.2.2.1⟩
end Go.Proofs.Yteppamchbgnlfaa
