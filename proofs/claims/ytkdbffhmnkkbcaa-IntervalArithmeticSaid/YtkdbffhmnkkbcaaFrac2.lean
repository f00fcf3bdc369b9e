/- Package frac: Add and Sub are what the document asks. Conditions: numbers of 64 bits. -/
import Derived.Test.YtkdbffhmnkkbcaaFrac
import Derived.Test.YtkdbffhmnkkbcaaFS
namespace Go.Proofs.Ytkdbffhmnkkbcaa
open Go.RowKit

/-- The numbers that a sum goes through. -/
theorem add_parts {an bn : Int} {AD BD : Nat} (ha : vP an AD) (hb : vP bn BD) :
    ∃ c ar br m g y : Nat, ∃ S q : Int, Nat.gcd AD BD = c ∧ 0 < c ∧ AD / c = ar ∧ BD / c = br ∧ ar ≤ AD ∧ br ≤ BD ∧ an * br + bn * ar = S ∧ S.natAbs % c = m ∧ Nat.gcd m c = g ∧ 0 < g ∧ g ≤ c ∧ c ≤ AD ∧ m < c ∧ S = q * g ∧ BD / g = y ∧ y ≤ BD ∧
      S.natAbs < 340282366920938463463374607431768211456 ∧
      addR an AD bn BD = if q.natAbs ≤ 4611686018427387904 ∧ ((ar : Int) * (y : Int)).natAbs ≤ 4611686018427387904 then (q, (ar : Int) * (y : Int), 0) else (0, 0, 5) := by
  have hA := ha.1
  have hB := hb.1
  have hc0 : 0 < Nat.gcd AD BD := Nat.gcd_pos_of_pos_left _ (by omega)
  have hcA : Nat.gcd AD BD ∣ AD := Nat.gcd_dvd_left _ _
  have hcB : Nat.gcd AD BD ∣ BD := Nat.gcd_dvd_right _ _
  generalize hc : Nat.gcd AD BD = c at *
  obtain ⟨ar, har⟩ := hcA
  obtain ⟨br, hbr⟩ := hcB
  have e1 : AD / c = ar := by rw [har, Nat.mul_div_cancel_left _ hc0]
  have e2 : BD / c = br := by rw [hbr, Nat.mul_div_cancel_left _ hc0]
  have l1 : ar ≤ AD := by rw [← e1]; exact Nat.div_le_self _ _
  have l2 : br ≤ BD := by rw [← e2]; exact Nat.div_le_self _ _
  have lc : c ≤ AD := by rw [← hc]; exact Nat.gcd_le_left _ (by omega)
  obtain ⟨S, hS⟩ : ∃ S, an * (br : Int) + bn * (ar : Int) = S := ⟨_, rfl⟩
  have hgm : Nat.gcd (S.natAbs % c) c = Nat.gcd S.natAbs c := (Nat.gcd_rec c S.natAbs).symm.trans (Nat.gcd_comm _ _)
  have hgc : Nat.gcd S.natAbs c ∣ c := Nat.gcd_dvd_right _ _
  have hgS : Nat.gcd S.natAbs c ∣ S.natAbs := Nat.gcd_dvd_left _ _
  have hg0 : 0 < Nat.gcd S.natAbs c := Nat.gcd_pos_of_pos_right _ hc0
  have hlow := sum_low (an := an) (ad := AD) (bn := bn) (bd := BD) ha hb (c := c) (ar := ar) (br := br) (g := Nat.gcd S.natAbs c) (by simp [hc]) (by rw [har]; push_cast; rw [Int.mul_comm]) (by rw [hbr]; push_cast; rw [Int.mul_comm]) (by rw [hS])
  rw [hS] at hlow
  generalize hg : Nat.gcd S.natAbs c = g at *
  obtain ⟨q, hq⟩ : ∃ q, (g : Int) * q = S := by
    obtain ⟨q, hq⟩ := Int.ofNat_dvd_left.2 hgS
    exact ⟨q, hq.symm⟩
  have hqa : S.natAbs / g = q.natAbs := by rw [← hq, Int.natAbs_mul, Int.natAbs_natCast, Nat.mul_div_cancel_left _ hg0]
  have hsg : decide (S < 0) = decide (q < 0) := by
    apply decide_eq_decide.2
    rw [← hq]
    constructor
    · intro h
      rcases Int.lt_or_le q 0 with k | k
      · exact k
      · have := Int.mul_nonneg (by omega : (0 : Int) ≤ g) k; omega
    · intro h; exact Int.mul_neg_of_pos_of_neg (by omega) h
  refine ⟨c, ar, br, S.natAbs % c, g, BD / g, S, q, rfl, hc0, e1, e2, l1, l2, hS, rfl, hgm, hg0, Nat.le_of_dvd hc0 hgc, lc, Nat.mod_lt _ hc0, by rw [← hq, Int.mul_comm], rfl, Nat.div_le_self _ _, ?_, ?_⟩
  · have h1 : (an * (br : Int)).natAbs ≤ 4611686018427387904 * 4611686018427387904 := by
      rw [Int.natAbs_mul]
      have := ha.2.2.1; have := ha.2.2.2.1; have := hb.2.1
      exact Nat.mul_le_mul (by omega) (by omega)
    have h2 : (bn * (ar : Int)).natAbs ≤ 4611686018427387904 * 4611686018427387904 := by
      rw [Int.natAbs_mul]
      have := hb.2.2.1; have := hb.2.2.2.1; have := ha.2.1
      exact Nat.mul_le_mul (by omega) (by omega)
    rw [← hS]
    omega
  · unfold addR
    rw [if_pos ⟨ha, hb⟩, hlow, hqa, hsg, Int.natAbs_natCast]
    have hy : ((ar : Int) * ((BD / g : Nat) : Int)).natAbs = ar * (BD / g) := by rw [Int.natAbs_mul, Int.natAbs_natCast, Int.natAbs_natCast]
    rw [hy]
    by_cases hb2 : q.natAbs ≤ 4611686018427387904 ∧ ar * (BD / g) ≤ 4611686018427387904
    · rw [if_pos hb2, if_pos hb2]
      rcases Int.lt_or_le q 0 with k | k
      · rw [decide_eq_true k]
        refine Prod.ext ?_ (Prod.ext ?_ rfl)
        · simp only [if_true]; omega
        · push_cast; rfl
      · rw [decide_eq_false (by omega : ¬ q < 0)]
        refine Prod.ext ?_ (Prod.ext ?_ rfl)
        · simp only [Bool.false_eq_true, if_false]; omega
        · push_cast; rfl
    · rw [if_neg hb2, if_neg hb2]

theorem FS.draw {w W : World} {an ad bn bd : Int} (h : FS w W an ad bn bd) (n : Nat) : FS w (W.drewN n) an ad bn bd := ⟨h.1, h.2.1, h.2.2.1, h.2.2.2.1, below_draw h.2.2.2.2 n⟩
theorem valid_way (an ad bn bd : Int) (h : ¬ (vP an ad ∧ vP bn bd)) : vB an ad = false ∨ (vB an ad = true ∧ vB bn bd = false) := by
  by_cases k : vP an ad
  · exact .inr ⟨decide_eq_true k, decide_eq_false (fun h' => h ⟨k, h'⟩)⟩
  · exact .inl (decide_eq_false k)
theorem over_from (w0 W : World) (hW : Below w0.heap.size w0 W) (z q : Int) (d : Nat) (hz : z.natAbs < 340282366920938463463374607431768211456) (hd : d < 18446744073709551616) (hd0 : 0 < d) (hq : z = q * d) : Calls Try.prog 99 #[wideV z, .int .u64 d] W fun e w' => e = .returned (wideV q) ∧ Below w0.heap.size w0 w' :=
  (over_any z q d W hz hd hd0 hq).mono fun _ _ ⟨he, hB⟩ => ⟨he, below_st hW hB⟩
theorem product_from (w0 W : World) (hW : Below w0.heap.size w0 W) (a b : Int) (a0 : -9223372036854775808 < a) (a1 : a ≤ 9223372036854775807) (b0 : -9223372036854775808 < b) (b1 : b ≤ 9223372036854775807) : Calls Try.prog 91 #[.int .i64 a, .int .i64 b] W fun e w' => e = .returned (wideV (a * b)) ∧ Below w0.heap.size w0 w' :=
  (product_any a b W a0 a1 b0 b1).mono fun _ _ ⟨he, hB⟩ => ⟨he, below_st hW hB⟩
theorem fraction_from (w0 W : World) (hW : Below w0.heap.size w0 W) (n d : Int) (hn : n.natAbs < 340282366920938463463374607431768211456) (hd : d.natAbs < 340282366920938463463374607431768211456) : Calls Try.prog 97 #[wideV n, wideV d] W fun e w' => e = .returned (RV (if n.natAbs ≤ 4611686018427387904 ∧ d.natAbs ≤ 4611686018427387904 then (n, d, 0) else (0, 0, 5))) ∧ Below w0.heap.size w0 w' :=
  (fraction_any n d W hn hd).mono fun _ _ ⟨he, hB⟩ => ⟨he, below_st hW hB⟩

set_option maxRecDepth 100000 in
set_option maxHeartbeats 4000000 in
theorem add_any (an ad bn bd : Int) (w : World) (a0 : -9223372036854775808 ≤ an) (a1 : an ≤ 9223372036854775807) (a2 : -9223372036854775808 ≤ ad) (a3 : ad ≤ 9223372036854775807) (b0 : -9223372036854775808 ≤ bn) (b1 : bn ≤ 9223372036854775807) (b2 : -9223372036854775808 ≤ bd) (b3 : bd ≤ 9223372036854775807) :
    Calls Try.prog 81 #[.agg #[.int .i64 an, .int .i64 ad], .agg #[.int .i64 bn, .int .i64 bd]] w fun e w' => e = .returned (RV (addR an ad bn bd)) ∧ Below w.heap.size w w' := by
  have hst := FS.start w an ad bn bd
  by_cases hv : vP an ad ∧ vP bn bd
  · obtain ⟨hva, hvb⟩ := hv
    have v1 := hva.1
    have v2 := hvb.1
    obtain ⟨AD, rfl⟩ := Int.eq_ofNat_of_zero_le (show 0 ≤ ad by omega)
    obtain ⟨BD, rfl⟩ := Int.eq_ofNat_of_zero_le (show 0 ≤ bd by omega)
    have e1 : vB an AD = true := decide_eq_true hva
    have e2 : vB bn BD = true := decide_eq_true hvb
    obtain ⟨c, ar, br, m, g, y, S, q, p1, p2, p3, p4, p5, p6, p7, p8, p9, p10, p11, p12, p13, p14, p15, p16, p17, p18⟩ := add_parts hva hvb
    have P1 := Lib.hid p1
    have P8 := Lib.hid p8
    have P9 := Lib.hid p9
    have P14 := Lib.hid p14
    have P17 := Lib.hid p17
    have P18 := Lib.hid p18
    have P7 := Lib.hid p7
    have hxi : (AD : Int) / (c : Int) = (ar : Int) := by rw [← p3]; rfl
    have hyi : (BD : Int) / (c : Int) = (br : Int) := by rw [← p4]; rfl
    have hzi : (BD : Int) / (g : Int) = (y : Int) := by rw [← p15]; rfl
    have hcz : ((c : Int) == 0) = false := by simp; omega
    have hgz : ((g : Int) == 0) = false := by simp; omega
    have hcp : (0 : Int) < (c : Int) := by omega
    have hgp : (0 : Int) < (g : Int) := by omega
    have hADb : AD ≤ 4611686018427387904 := by have := hva.2.1; omega
    have hBDb : BD ≤ 4611686018427387904 := by have := hvb.2.1; omega
    have HVA := Lib.hid hva
    have HVB := Lib.hid hvb
    clear p1 p3 p4 p7 p8 p9 p14 p15 p17 p18 hva hvb
    go_enter Try.func81, Try.ntmps81
    go_wp2_with fail
    refine (valid_any an AD _ a0 a1 a2 a3).mono ?_
    rintro e w1 ⟨rfl, hB⟩
    have h1 := hst.call hB
    obtain ⟨c0, c1, c2, c3, c4, c5, c6, c7⟩ := h1.cells
    rw [e1]
    clear hst hB
    go_wp2_with fail
    refine (valid_any bn BD _ b0 b1 b2 b3).mono ?_
    rintro e w2 ⟨rfl, hB⟩
    have h2 := h1.call hB
    rw [e2]
    clear h1 hB c0 c1 c2 c3 c4 c5 c6 c7
    obtain ⟨c0, c1, c2, c3, c4, c5, c6, c7⟩ := h2.cells
    go_wp2_with fail
    refine (gcdi_any AD BD _ (by omega) (by omega)).mono ?_
    rintro e w' ⟨rfl, k, rfl⟩
    rw [P1.out]
    have H2 := Lib.hid h2
    clear h2
    go_wp2_with fail
    go_quiet (fail)
    go_wp2_with fail
    refine (sop_any an br bn ar _ (by have := HVA.out.2.2.1; omega) (by have := HVA.out.2.2.2.1; omega) (by omega) (by omega) (by have := HVB.out.2.2.1; omega) (by have := HVB.out.2.2.2.1; omega) (by omega) (by omega)).mono ?_
    rintro e w3 ⟨rfl, hB⟩
    rw [P7.out]
    have H3 := Lib.hid ((H2.out.draw (k + nq)).call hB)
    clear hB c0 c1 c2 c3 c4 c5 c6 c7
    obtain ⟨sh, sl, ss, es, es2, es3, es4, es5⟩ := wide_parts S P17.out
    have MO := fun W => modulo_any S c W P17.out (by omega) p2
    have OV := fun w0 W h => over_from w0 W h S q g P17.out (by omega) p10 P14.out
    rw [es] at MO OV
    rw [es]
    have MO := Lib.hid MO
    have OV := Lib.hid OV
    clear es es2 es5
    go_wp2_with fail
    refine (MO.out _).mono ?_
    rintro e w4 ⟨rfl, hB⟩
    rw [P8.out]
    have H4 := Lib.hid ((H3.out.alloc _).call hB)
    have hX := Lib.hid ((Blk.new w3 72 #[.int .u64 sh, .int .u64 sl, .bool ss]).below hB (by simp))
    obtain ⟨gx, hgx⟩ : ∃ gx, w3.heap.size = gx := ⟨_, rfl⟩
    rw [hgx] at hX ⊢
    clear hB hgx
    go_wp2_with fail
    refine (gcdu_any m c _ (by omega) (by omega)).mono ?_
    rintro e w' ⟨rfl, k2, rfl⟩
    rw [P9.out]
    have H5 := H4.out.draw k2
    have hX5 := Blk.drewN hX.out k2
    obtain ⟨w0, hw0⟩ : ∃ w0, w4.drewN k2 = w0 := ⟨_, rfl⟩
    rw [hw0] at H5 hX5 ⊢
    clear hw0
    have keep : ∀ W : World, Below w0.heap.size w0 W → W.cell? ⟨gx, 0, none⟩ = some (.int .u64 sh) ∧ W.cell? ⟨gx, 1, none⟩ = some (.int .u64 sl) ∧ W.cell? ⟨gx, 2, none⟩ = some (.bool ss) ∧ W.cell? ⟨w.heap.size + 1, 1, none⟩ = some (.int .i64 BD) ∧
        W.cell? ⟨w.heap.size + 1 + 1, 0, none⟩ = some (.int .i64 0) ∧ W.cell? ⟨w.heap.size + 1 + 1, 1, none⟩ = some (.int .i64 0) ∧ W.frozen? ⟨w.heap.size + 1 + 1, 0, none⟩ = false ∧ W.frozen? ⟨w.heap.size + 1 + 1, 1, none⟩ = false := fun W hW => by
      have x1 := hX5.below hW hX5.lt
      have x2 := H5.2.1.below hW H5.2.1.lt
      have x3 := H5.2.2.1.below hW H5.2.2.1.lt
      exact ⟨x1.cell 0, x1.cell 1, x1.cell 2, x2.cell 1, x3.cell 0, x3.cell 1, x3.frozen 0, x3.frozen 1⟩
    have Keep := Lib.hid keep
    have h00 := Below.refl w0.heap.size w0
    have h0d : Below w0.heap.size w0 w0.drew := h00.drew
    obtain ⟨k0, k1, k3, k4, k5, k6, k7, k8⟩ := Keep.out w0 h00
    obtain ⟨⟨r1, r2, r3⟩, hr⟩ : ∃ r : R3, (if q.natAbs ≤ 4611686018427387904 ∧ ((ar : Int) * (y : Int)).natAbs ≤ 4611686018427387904 then (q, (ar : Int) * (y : Int), 0) else (0, 0, 5)) = r := ⟨_, rfl⟩
    have HF := Lib.hid (P18.out.trans hr)
    have hq128 : q.natAbs < 340282366920938463463374607431768211456 := by
      have h1 := P17.out
      rw [P14.out, Int.natAbs_mul, Int.natAbs_natCast] at h1
      have := Nat.le_mul_of_pos_right q.natAbs p10
      omega
    have hy128 : ((ar : Int) * (y : Int)).natAbs < 340282366920938463463374607431768211456 := by
      rw [Int.natAbs_mul, Int.natAbs_natCast, Int.natAbs_natCast]
      have : ar * y ≤ 4611686018427387904 * 4611686018427387904 := Nat.mul_le_mul (by omega) (by omega)
      omega
    have FR := fun W h => fraction_from w0 W h q ((ar : Int) * (y : Int)) hq128 hy128
    rw [hr] at FR
    have FR := Lib.hid FR
    have HHr := Lib.hid hr
    have H5 := Lib.hid H5
    have hgw : IntKind.i64.wrap (g : Int) = (g : Int) := by rw [IntKind.wrap_i64]; omega
    have hgi0 : (0 : Int) ≤ (g : Int) := by omega
    have hgi1 : (g : Int) ≤ 4611686018427387904 := by omega
    have hbd0 : (0 : Int) ≤ (BD : Int) := by omega
    have hbd1 : (BD : Int) ≤ 4611686018427387904 := by omega
    have hyb : y ≤ 4611686018427387904 := by omega
    have harb : ar ≤ 4611686018427387904 := by omega
    clear keep hX5 hq128 hy128 hr
    go_wp2
    go_region_with ((first | (go_at_call 99; (with_reducible refine (OV.out w0 _ (by with_reducible assumption)).mono ?_); rintro e w' ⟨rfl, hb⟩; obtain ⟨k0, k1, k3, k4, k5, k6, k7, k8⟩ := Keep.out _ hb) | (go_at_call 91; (with_reducible refine (product_from w0 _ (by with_reducible assumption) (ar : Int) (y : Int) (by omega) (by omega) (by omega) (by omega)).mono ?_); rintro e w' ⟨rfl, hb⟩; obtain ⟨k0, k1, k3, k4, k5, k6, k7, k8⟩ := Keep.out _ hb) | (go_at_call 97; (with_reducible refine (FR.out _ (by with_reducible assumption)).mono ?_); rintro e w' ⟨rfl, hb⟩; obtain ⟨k0, k1, k3, k4, k5, k6, k7, k8⟩ := Keep.out _ hb; simp only [RV])))
    all_goals
      go_wp2
      exact ret_frac (p := 4) (q := 5) (by kernel_rfl) rfl rfl (fr_end1 H5.out.2.2.1 (by with_reducible assumption) _ _) ⟨by rw [HF.out], fr_end2 H5.out.2.2.2.2 (by with_reducible assumption) (by omega) _ _⟩
  · have HM := Lib.hid (show addR an ad bn bd = (0, 0, 1) by unfold addR; rw [if_neg hv])
    have hway := valid_way an ad bn bd hv
    clear hv
    rcases hway with e1 | ⟨e1, e2⟩
    · go_enter Try.func81, Try.ntmps81
      go_wp2_with fail
      refine (valid_any an ad _ a0 a1 a2 a3).mono ?_
      rintro e w1 ⟨rfl, hB⟩
      have h1 := hst.call hB
      obtain ⟨c0, c1, c2, c3, c4, c5, c6, c7⟩ := h1.cells
      rw [e1]
      have H2 := Lib.hid h1
      clear hst hB h1
      go_wp2
      exact ret_frac (p := 4) (q := 5) (by kernel_rfl) rfl rfl (H2.out.put 0 0).1 ⟨by rw [HM.out], (H2.out.put 0 0).2⟩
    · go_enter Try.func81, Try.ntmps81
      go_wp2_with fail
      refine (valid_any an ad _ a0 a1 a2 a3).mono ?_
      rintro e w1 ⟨rfl, hB⟩
      have h1 := hst.call hB
      obtain ⟨c0, c1, c2, c3, c4, c5, c6, c7⟩ := h1.cells
      rw [e1]
      clear hst hB
      go_wp2_with fail
      refine (valid_any bn bd _ b0 b1 b2 b3).mono ?_
      rintro e w2 ⟨rfl, hB⟩
      have h2 := h1.call hB
      rw [e2]
      clear h1 hB c0 c1 c2 c3 c4 c5 c6 c7
      obtain ⟨c0, c1, c2, c3, c4, c5, c6, c7⟩ := h2.cells
      have H2 := Lib.hid h2
      clear h2
      go_wp2
      exact ret_frac (p := 4) (q := 5) (by kernel_rfl) rfl rfl (H2.out.put 0 0).1 ⟨by rw [HM.out], (H2.out.put 0 0).2⟩

theorem sub_any (an ad bn bd : Int) (w : World) (a0 : -9223372036854775808 ≤ an) (a1 : an ≤ 9223372036854775807) (a2 : -9223372036854775808 ≤ ad) (a3 : ad ≤ 9223372036854775807) (b0 : -9223372036854775808 ≤ bn) (b1 : bn ≤ 9223372036854775807) (b2 : -9223372036854775808 ≤ bd) (b3 : bd ≤ 9223372036854775807) :
    Calls Try.prog 64 #[.agg #[.int .i64 an, .int .i64 ad], .agg #[.int .i64 bn, .int .i64 bd]] w fun e w' => e = .returned (RV (subR an ad bn bd)) ∧ Below w.heap.size w w' := by
  have hst := FS.start w an ad bn bd
  obtain ⟨nb, hnb⟩ : ∃ nb, IntKind.i64.wrap (-bn) = nb := ⟨_, rfl⟩
  have hnb2 : (nb = -bn ∧ -9223372036854775808 ≤ nb ∧ nb ≤ 9223372036854775807) ∨ (bn = -9223372036854775808 ∧ nb = -9223372036854775808) := by
    rw [IntKind.wrap_i64] at hnb; omega
  have hres : subR an ad bn bd = addR an ad nb bd := by
    rcases hnb2 with ⟨h, _⟩ | ⟨h, k⟩
    · unfold subR; rw [h]
    · unfold subR addR
      rw [if_neg (fun x => by have := x.2.2.2.2.1; omega), if_neg (fun x => by have := x.2.2.2.1; omega)]
  have HR := Lib.hid hres
  have hn0 : -9223372036854775808 ≤ nb := by omega
  have hn1 : nb ≤ 9223372036854775807 := by omega
  clear hres hnb2
  go_enter Try.func64, Try.ntmps64
  go_wp2_with fail
  refine (add_any an ad nb bd _ a0 a1 a2 a3 hn0 hn1 b2 b3).mono ?_
  rintro e w1 ⟨rfl, hB⟩
  have h1 := hst.call hB
  obtain ⟨c0, c1, c2, c3, c4, c5, c6, c7⟩ := h1.cells
  have H1 := Lib.hid h1
  obtain ⟨⟨r1, r2, r3⟩, hr⟩ : ∃ r : R3, addR an ad nb bd = r := ⟨_, rfl⟩
  rw [hr]
  have HF := Lib.hid (HR.out.trans hr)
  unfold RV
  simp only []
  clear hst hB h1 hr hnb
  go_wp2
  exact ret_frac (p := 4) (q := 5) (by kernel_rfl) rfl rfl (H1.out.put r1 r2).1 ⟨by rw [HF.out], (H1.out.put r1 r2).2⟩
end Go.Proofs.Ytkdbffhmnkkbcaa
