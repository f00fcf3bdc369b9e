/- The reference's Add, Sub and Div. Conditions: numbers of 64 bits. -/
import Derived.Test.YteppamchbgnlfaaRefA
namespace Go.Proofs.Yteppamchbgnlfaa
open Go.RowKit

theorem sum_short {an ad bn bd : Int} (ha : vP an ad) (hb : vP bn bd) : sumR an ad bn bd = if an * bd + bn * ad = -9223372036854775808 ∨ ad * bd = -9223372036854775808 then sumR an ad bn bd else newR (an * bd + bn * ad) (ad * bd) := by
  split
  · rfl
  · rename_i hm
    have h : 0 < ad * bd := Int.mul_pos (by have := ha.1; omega) (by have := hb.1; omega)
    unfold newR sumR
    rw [if_neg (by omega), if_neg hm, decide_eq_false (by omega : ¬ ad * bd < 0), Bool.bne_false]
theorem sum_bounds {an ad bn bd : Int} (ha : vP an ad) (hb : vP bn bd) (h1 : shortB an ad = true) (h2 : shortB bn bd = true) :
    -2305843009213693952 ≤ an * bd + bn * ad ∧ an * bd + bn * ad ≤ 2305843009213693952 ∧ 1 ≤ ad * bd ∧ ad * bd ≤ 1152921504606846976 ∧ -1152921504606846976 ≤ an * bd ∧ an * bd ≤ 1152921504606846976 ∧ -1152921504606846976 ≤ bn * ad ∧ bn * ad ≤ 1152921504606846976 := by
  obtain ⟨x1, x2, x3⟩ := shortB_out h1
  obtain ⟨y1, y2, y3⟩ := shortB_out h2
  have p := mul_bd (a := an) (b := bd) (m := 1073741824) (n := 1073741824) x1 x2 (by have := hb.1; omega) y3 (by omega)
  have r := mul_bd (a := bn) (b := ad) (m := 1073741824) (n := 1073741824) y1 y2 (by have := ha.1; omega) x3 (by omega)
  have q := mul_bd (a := ad) (b := bd) (m := 1073741824) (n := 1073741824) (by have := ha.1; omega) x3 (by have := hb.1; omega) y3 (by omega)
  have h : 0 < ad * bd := Int.mul_pos (by have := ha.1; omega) (by have := hb.1; omega)
  omega
set_option maxRecDepth 100000 in
set_option maxHeartbeats 4000000 in
theorem radd_any (an ad bn bd : Int) (w : World) (a0 : -9223372036854775808 ≤ an) (a1 : an ≤ 9223372036854775807) (a2 : -9223372036854775808 ≤ ad) (a3 : ad ≤ 9223372036854775807) (b0 : -9223372036854775808 ≤ bn) (b1 : bn ≤ 9223372036854775807) (b2 : -9223372036854775808 ≤ bd) (b3 : bd ≤ 9223372036854775807) :
    Calls Try.prog 47 #[.agg #[.int .i64 an, .int .i64 ad], .agg #[.int .i64 bn, .int .i64 bd]] w fun e w' => e = .returned (RV (addR an ad bn bd)) ∧ Below w.heap.size w w' := by
  have hst := FS.start w an ad bn bd
  have V1 := fun W => rvalid_any an ad W a0 a1 a2 a3
  have V2 := fun W => rvalid_any bn bd W b0 b1 b2 b3
  by_cases hv : vP an ad ∧ vP bn bd
  · obtain ⟨hva, hvb⟩ := hv
    by_cases hs : shortB an ad = true ∧ shortB bn bd = true
    · have e1 : vB an ad = true := decide_eq_true hva
      have e2 : vB bn bd = true := decide_eq_true hvb
      have T1 := fun W => rshort_any an ad W a0 a1 a2 a3
      have T2 := fun W => rshort_any bn bd W b0 b1 b2 b3
      rw [e1] at V1
      rw [e2] at V2
      rw [hs.1] at T1
      rw [hs.2] at T2
      have HN := (show addR an ad bn bd = sumR an ad bn bd by unfold addR; rw [if_pos ⟨hva, hvb⟩]).trans (sum_short hva hvb)
      obtain ⟨k1, k2, k3, k4, k5, k6, k7, k8⟩ := sum_bounds hva hvb hs.1 hs.2
      obtain ⟨p, hp⟩ : ∃ p, an * bd + bn * ad = p := ⟨_, rfl⟩
      obtain ⟨q, hq⟩ : ∃ q, ad * bd = q := ⟨_, rfl⟩
      rw [hp] at k1 k2
      rw [hq] at k3 k4
      rw [hp, hq, if_neg (by omega)] at HN
      rw [HN]
      have NW := fun W => rnew_any p q W (by omega) (by omega) (by omega) (by omega)
      obtain ⟨⟨r1, r2, r3⟩, hr⟩ : ∃ r, newR p q = r := ⟨_, rfl⟩
      rw [hr] at NW ⊢
      unfold RV at NW
      simp only at NW
      replace V1 := Lib.hid V1
      replace V2 := Lib.hid V2
      replace T1 := Lib.hid T1
      replace T2 := Lib.hid T2
      replace NW := Lib.hid NW
      have x1 : IntKind.i64.wrap (an * bd) = an * bd := by rw [IntKind.wrap_i64]; omega
      have x0 : IntKind.i64.wrap (bn * ad) = bn * ad := by rw [IntKind.wrap_i64]; omega
      have x3 : IntKind.i64.wrap (an * bd + bn * ad) = p := by rw [hp, IntKind.wrap_i64]; omega
      have x2 : IntKind.i64.wrap (ad * bd) = q := by rw [hq, IntKind.wrap_i64]; omega
      clear hva hvb hs e1 e2 HN hp hq hr a0 a1 a2 a3 b0 b1 b2 b3
      go_enter Try.func47, Try.ntmps47
      go_wp2_with fail
      refine (V1.out _).mono ?_
      rintro e w1 ⟨rfl, hB⟩
      have h1 := hst.call hB
      obtain ⟨c0, c1, c2, c3, c4, c5, c6, c7⟩ := h1.cells
      clear hst hB
      go_wp2_with fail
      refine (V2.out _).mono ?_
      rintro e w2 ⟨rfl, hB⟩
      have h2 := h1.call hB
      clear h1 hB c0 c1 c2 c3 c4 c5 c6 c7
      obtain ⟨c0, c1, c2, c3, c4, c5, c6, c7⟩ := h2.cells
      go_wp2_with fail
      refine (T1.out _).mono ?_
      rintro e w3 ⟨rfl, hB⟩
      have h3 := h2.call hB
      clear h2 hB c0 c1 c2 c3 c4 c5 c6 c7
      obtain ⟨c0, c1, c2, c3, c4, c5, c6, c7⟩ := h3.cells
      go_wp2_with fail
      refine (T2.out _).mono ?_
      rintro e w4 ⟨rfl, hB⟩
      have h4 := h3.call hB
      clear h3 hB c0 c1 c2 c3 c4 c5 c6 c7
      obtain ⟨c0, c1, c2, c3, c4, c5, c6, c7⟩ := h4.cells
      go_wp2_with fail
      refine (NW.out _).mono ?_
      rintro e w5 ⟨rfl, hB⟩
      have h5 := h4.call hB
      clear h4 hB c0 c1 c2 c3 c4 c5 c6 c7
      obtain ⟨c0, c1, c2, c3, c4, c5, c6, c7⟩ := h5.cells
      have H5 := Lib.hid h5
      clear h5
      go_wp2
      exact ret_frac (p := 4) (q := 5) (by kernel_rfl) rfl rfl (H5.out.put r1 r2).1 ⟨rfl, (H5.out.put r1 r2).2⟩
    · exact radd_long an ad bn bd w a0 a1 a2 a3 b0 b1 b2 b3 hva hvb hs
  · have HM := Lib.hid (show addR an ad bn bd = (0, 0, 1) by unfold addR; rw [if_neg hv])
    have hway := valid_way an ad bn bd hv
    clear hv
    rcases hway with e1 | ⟨e1, e2⟩
    all_goals
      rw [e1] at V1
      try rw [e2] at V2
      replace V1 := Lib.hid V1
      replace V2 := Lib.hid V2
      go_enter Try.func47, Try.ntmps47
      go_wp2_with fail
      refine (V1.out _).mono ?_
      rintro e w1 ⟨rfl, hB⟩
      have h1 := hst.call hB
      obtain ⟨c0, c1, c2, c3, c4, c5, c6, c7⟩ := h1.cells
      clear hst hB
      go_wp2_with fail
      refine (V2.out _).mono ?_
      rintro e w2 ⟨rfl, hB⟩
      have h2 := h1.call hB
      clear h1 hB c0 c1 c2 c3 c4 c5 c6 c7
      obtain ⟨c0, c1, c2, c3, c4, c5, c6, c7⟩ := h2.cells
      have H2 := Lib.hid h2
      clear h2
      go_wp2
      exact ret_frac (p := 4) (q := 5) (by kernel_rfl) rfl rfl (H2.out.put 0 0).1 ⟨by rw [HM.out], (H2.out.put 0 0).2⟩

theorem vP_negI {n d : Int} (h : vP (-n) d) : vP n d := by
  obtain ⟨h1, h2, h3, h4, h5⟩ := h
  rw [Int.natAbs_neg] at h5
  exact ⟨h1, h2, by omega, by omega, h5⟩
set_option maxRecDepth 100000 in
set_option maxHeartbeats 4000000 in
theorem rsub_any (an ad bn bd : Int) (w : World) (a0 : -9223372036854775808 ≤ an) (a1 : an ≤ 9223372036854775807) (a2 : -9223372036854775808 ≤ ad) (a3 : ad ≤ 9223372036854775807) (b0 : -9223372036854775808 ≤ bn) (b1 : bn ≤ 9223372036854775807) (b2 : -9223372036854775808 ≤ bd) (b3 : bd ≤ 9223372036854775807) :
    Calls Try.prog 45 #[.agg #[.int .i64 an, .int .i64 ad], .agg #[.int .i64 bn, .int .i64 bd]] w fun e w' => e = .returned (RV (subR an ad bn bd)) ∧ Below w.heap.size w w' := by
  have hst := FS.start w an ad bn bd
  have V2 := fun W => rvalid_any bn bd W b0 b1 b2 b3
  by_cases hb : vP bn bd
  · have e2 : vB bn bd = true := decide_eq_true hb
    rw [e2] at V2
    have AD := fun W => radd_any an ad (-bn) bd W a0 a1 a2 a3 (by have := hb.2.2.2.1; omega) (by have := hb.2.2.1; omega) b2 b3
    have hw1 : IntKind.i64.wrap (-bn) = -bn := by have h1 := hb.2.2.1; have h2 := hb.2.2.2.1; rw [IntKind.wrap_i64]; omega
    unfold subR
    obtain ⟨⟨r1, r2, r3⟩, hr⟩ : ∃ r, addR an ad (-bn) bd = r := ⟨_, rfl⟩
    rw [hr] at AD ⊢
    unfold RV at AD
    simp only at AD
    replace V2 := Lib.hid V2
    replace AD := Lib.hid AD
    clear hr hb e2 a0 a1 a2 a3 b0 b1 b2 b3
    go_enter Try.func45, Try.ntmps45
    go_wp2_with fail
    refine (V2.out _).mono ?_
    rintro e w1 ⟨rfl, hB⟩
    have h1 := hst.call hB
    obtain ⟨c0, c1, c2, c3, c4, c5, c6, c7⟩ := h1.cells
    clear hst hB
    go_wp2_with fail
    refine (AD.out _).mono ?_
    rintro e w2 ⟨rfl, hB⟩
    have h2 := h1.call hB
    clear h1 hB c0 c1 c2 c3 c4 c5 c6 c7
    obtain ⟨c0, c1, c2, c3, c4, c5, c6, c7⟩ := h2.cells
    have H2 := Lib.hid h2
    clear h2
    go_wp2
    exact ret_frac (p := 4) (q := 5) (by kernel_rfl) rfl rfl (H2.out.put r1 r2).1 ⟨rfl, (H2.out.put r1 r2).2⟩
  · have e2 : vB bn bd = false := decide_eq_false hb
    rw [e2] at V2
    have HM := Lib.hid (show subR an ad bn bd = (0, 0, 1) by unfold subR addR; rw [if_neg (fun h => hb (vP_negI h.2))])
    replace V2 := Lib.hid V2
    clear hb e2 a0 a1 a2 a3 b0 b1 b2 b3
    go_enter Try.func45, Try.ntmps45
    go_wp2_with fail
    refine (V2.out _).mono ?_
    rintro e w1 ⟨rfl, hB⟩
    have h1 := hst.call hB
    obtain ⟨c0, c1, c2, c3, c4, c5, c6, c7⟩ := h1.cells
    have H2 := Lib.hid h1
    clear hst hB h1
    go_wp2
    exact ret_frac (p := 4) (q := 5) (by kernel_rfl) rfl rfl (H2.out.put 0 0).1 ⟨by rw [HM.out], (H2.out.put 0 0).2⟩

end Go.Proofs.Yteppamchbgnlfaa
