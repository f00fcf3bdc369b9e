/- Package frac: Mul, Div and Compare are what the document asks. Conditions: numbers of 64 bits. -/
import Derived.Test.YteppamchbgnlfaaFrac2
namespace Go.Proofs.Yteppamchbgnlfaa
open Go.RowKit

theorem tdiv_nat {a : Int} {g : Nat} (hg : g ∣ a.natAbs) (hg0 : 0 < g) : a.tdiv g * g = a ∧ (a.tdiv g).natAbs = a.natAbs / g := by
  obtain ⟨k, hk⟩ := Int.ofNat_dvd_left.2 hg
  have e : a.tdiv g = k := by rw [hk, Int.mul_comm]; exact Int.mul_tdiv_cancel _ (by omega)
  rw [e]
  refine ⟨by rw [hk, Int.mul_comm], ?_⟩
  rw [hk, Int.natAbs_mul, Int.natAbs_natCast, Nat.mul_div_cancel_left _ hg0]

theorem fs_cells {w W : World} {an ad bn bd : Int} (h : FS w W an ad bn bd) : W.cell? ⟨w.heap.size, 0, none⟩ = some (.int .i64 an) ∧ W.cell? ⟨w.heap.size, 1, none⟩ = some (.int .i64 ad) ∧ W.cell? ⟨w.heap.size + 1, 0, none⟩ = some (.int .i64 bn) ∧ W.cell? ⟨w.heap.size + 1, 1, none⟩ = some (.int .i64 bd) :=
  ⟨h.1.cell 0, h.1.cell 1, h.2.1.cell 0, h.2.1.cell 1⟩
theorem fs_put {w W : World} {an ad bn bd : Int} (h : W.cell? ⟨w.heap.size, 0, none⟩ = some (.int .i64 an) ∧ W.cell? ⟨w.heap.size, 1, none⟩ = some (.int .i64 ad) ∧ W.cell? ⟨w.heap.size + 1, 0, none⟩ = some (.int .i64 bn) ∧ W.cell? ⟨w.heap.size + 1, 1, none⟩ = some (.int .i64 bd)) (x y : Value) :
    ((W.setCell ⟨w.heap.size + 1 + 1, 0, none⟩ x).setCell ⟨w.heap.size + 1 + 1, 1, none⟩ y).cell? ⟨w.heap.size, 0, none⟩ = some (.int .i64 an) ∧ ((W.setCell ⟨w.heap.size + 1 + 1, 0, none⟩ x).setCell ⟨w.heap.size + 1 + 1, 1, none⟩ y).cell? ⟨w.heap.size, 1, none⟩ = some (.int .i64 ad) ∧
      ((W.setCell ⟨w.heap.size + 1 + 1, 0, none⟩ x).setCell ⟨w.heap.size + 1 + 1, 1, none⟩ y).cell? ⟨w.heap.size + 1, 0, none⟩ = some (.int .i64 bn) ∧ ((W.setCell ⟨w.heap.size + 1 + 1, 0, none⟩ x).setCell ⟨w.heap.size + 1 + 1, 1, none⟩ y).cell? ⟨w.heap.size + 1, 1, none⟩ = some (.int .i64 bd) := by
  have f : ∀ (W : World) (b i j : Nat) (u : Value), b ≠ w.heap.size + 1 + 1 → (W.setCell ⟨w.heap.size + 1 + 1, i, none⟩ u).cell? ⟨b, j, none⟩ = W.cell? ⟨b, j, none⟩ := fun W b i j u hb => World.cell?_setCell_far _ _ _ _ (fun e => hb e.symm)
  refine ⟨?_, ?_, ?_, ?_⟩
  · rw [f _ _ _ _ _ (by omega), f _ _ _ _ _ (by omega)]; exact h.1
  · rw [f _ _ _ _ _ (by omega), f _ _ _ _ _ (by omega)]; exact h.2.1
  · rw [f _ _ _ _ _ (by omega), f _ _ _ _ _ (by omega)]; exact h.2.2.1
  · rw [f _ _ _ _ _ (by omega), f _ _ _ _ _ (by omega)]; exact h.2.2.2
theorem mul_parts {an bn : Int} {AD BD : Nat} (ha : vP an AD) (hb : vP bn BD) :
    ∃ g h y1 y2 : Nat, ∃ x1 x2 : Int, Nat.gcd an.natAbs BD = g ∧ Nat.gcd bn.natAbs AD = h ∧ 0 < g ∧ 0 < h ∧ g ≤ BD ∧ h ≤ AD ∧ an.tdiv g = x1 ∧ bn.tdiv h = x2 ∧ AD / h = y1 ∧ BD / g = y2 ∧ x1.natAbs ≤ an.natAbs ∧ x2.natAbs ≤ bn.natAbs ∧ y1 ≤ AD ∧ y2 ≤ BD ∧
      mulR an AD bn BD = if (x1 * x2).natAbs ≤ 4611686018427387904 ∧ ((y1 : Int) * (y2 : Int)).natAbs ≤ 4611686018427387904 then (x1 * x2, (y1 : Int) * (y2 : Int), 0) else (0, 0, 5) := by
  have hA := ha.1
  have hB := hb.1
  have hlow := prod_low ha hb (g := Nat.gcd an.natAbs BD) (h := Nat.gcd bn.natAbs AD) (by simp) (by simp)
  have hg0 : 0 < Nat.gcd an.natAbs BD := Nat.gcd_pos_of_pos_right _ (by omega)
  have hh0 : 0 < Nat.gcd bn.natAbs AD := Nat.gcd_pos_of_pos_right _ (by omega)
  obtain ⟨t1, t2⟩ := tdiv_nat (Nat.gcd_dvd_left an.natAbs BD) hg0
  obtain ⟨t3, t4⟩ := tdiv_nat (Nat.gcd_dvd_left bn.natAbs AD) hh0
  refine ⟨_, _, _, _, _, _, rfl, rfl, hg0, hh0, Nat.gcd_le_right _ (by omega), Nat.gcd_le_right _ (by omega), rfl, rfl, rfl, rfl, by rw [t2]; exact Nat.div_le_self _ _, by rw [t4]; exact Nat.div_le_self _ _, Nat.div_le_self _ _, Nat.div_le_self _ _, ?_⟩
  unfold mulR
  rw [if_pos ⟨ha, hb⟩, hlow, Int.natAbs_natCast, Int.natAbs_natCast]
  generalize Nat.gcd an.natAbs BD = g at *
  generalize Nat.gcd bn.natAbs AD = h at *
  generalize an.tdiv g = x1 at *
  generalize bn.tdiv h = x2 at *
  rw [← t2, ← t4, Int.natAbs_mul, Int.natAbs_mul, Int.natAbs_natCast, Int.natAbs_natCast]
  have hsg : decide (an * bn < 0) = decide (x1 * x2 < 0) := by
    apply decide_eq_decide.2
    have e : an * bn = x1 * x2 * ((g : Int) * (h : Int)) := by rw [← t1, ← t3]; simp only [Int.mul_assoc, Int.mul_left_comm]
    have hp : (0 : Int) < (g : Int) * (h : Int) := Int.mul_pos (by omega) (by omega)
    rw [e]
    constructor
    · intro k
      rcases Int.lt_or_le (x1 * x2) 0 with j | j
      · exact j
      · have := Int.mul_nonneg j (Int.le_of_lt hp); omega
    · intro k; exact Int.mul_neg_of_neg_of_pos k hp
  rw [hsg]
  by_cases hb2 : x1.natAbs * x2.natAbs ≤ 4611686018427387904 ∧ AD / h * (BD / g) ≤ 4611686018427387904
  · rw [if_pos hb2, if_pos hb2]
    have e : ((x1.natAbs * x2.natAbs : Nat) : Int) = ((x1 * x2).natAbs : Int) := by rw [Int.natAbs_mul]
    rcases Int.lt_or_le (x1 * x2) 0 with k | k
    · rw [decide_eq_true k]
      refine Prod.ext ?_ (Prod.ext ?_ rfl)
      · simp only [if_true]; rw [e]; omega
      · push_cast; rfl
    · rw [decide_eq_false (by omega : ¬ x1 * x2 < 0)]
      refine Prod.ext ?_ (Prod.ext ?_ rfl)
      · simp only [Bool.false_eq_true, if_false]; rw [e]; omega
      · push_cast; rfl
  · rw [if_neg hb2, if_neg hb2]

set_option maxRecDepth 100000 in
set_option maxHeartbeats 4000000 in
theorem mul_any (an ad bn bd : Int) (w : World) (a0 : -9223372036854775808 ≤ an) (a1 : an ≤ 9223372036854775807) (a2 : -9223372036854775808 ≤ ad) (a3 : ad ≤ 9223372036854775807) (b0 : -9223372036854775808 ≤ bn) (b1 : bn ≤ 9223372036854775807) (b2 : -9223372036854775808 ≤ bd) (b3 : bd ≤ 9223372036854775807) :
    Calls Try.prog 58 #[.agg #[.int .i64 an, .int .i64 ad], .agg #[.int .i64 bn, .int .i64 bd]] w fun e w' => e = .returned (RV (mulR an ad bn bd)) ∧ Below w.heap.size w w' := by
  have hst := FS.start w an ad bn bd
  by_cases hv : vP an ad ∧ vP bn bd
  · obtain ⟨hva, hvb⟩ := hv
    have v1 := hva.1
    have v2 := hvb.1
    obtain ⟨AD, rfl⟩ := Int.eq_ofNat_of_zero_le (show 0 ≤ ad by omega)
    obtain ⟨BD, rfl⟩ := Int.eq_ofNat_of_zero_le (show 0 ≤ bd by omega)
    have e1 : vB an AD = true := decide_eq_true hva
    have e2 : vB bn BD = true := decide_eq_true hvb
    obtain ⟨g, h, y1, y2, x1, x2, p1, p2, p3, p4, p5, p6, p7, p8, p9, p10, p11, p12, p13, p14, p15⟩ := mul_parts hva hvb
    have P1 := Lib.hid p1
    have P2 := Lib.hid p2
    have P15 := Lib.hid p15
    have hi1 : (AD : Int) / (h : Int) = (y1 : Int) := by rw [← p9]; rfl
    have hi2 : (BD : Int) / (g : Int) = (y2 : Int) := by rw [← p10]; rfl
    have hADb : AD ≤ 4611686018427387904 := by have := hva.2.1; omega
    have hBDb : BD ≤ 4611686018427387904 := by have := hvb.2.1; omega
    have han0 : -4611686018427387904 ≤ an := hva.2.2.1
    have han1 : an ≤ 4611686018427387904 := hva.2.2.2.1
    have hbn0 : -4611686018427387904 ≤ bn := hvb.2.2.1
    have hbn1 : bn ≤ 4611686018427387904 := hvb.2.2.2.1
    have hx1 : IntKind.i64.wrap x1 = x1 := by rw [IntKind.wrap_i64]; omega
    have hx2 : IntKind.i64.wrap x2 = x2 := by rw [IntKind.wrap_i64]; omega
    have ht1 : (AD : Int).tdiv (h : Int) = (y1 : Int) := by rw [← hi1]; exact Int.tdiv_eq_ediv_of_nonneg (by omega)
    have ht2 : (BD : Int).tdiv (g : Int) = (y2 : Int) := by rw [← hi2]; exact Int.tdiv_eq_ediv_of_nonneg (by omega)
    have hw1 : IntKind.i64.wrap (y1 : Int) = (y1 : Int) := by rw [IntKind.wrap_i64]; omega
    have hw2 : IntKind.i64.wrap (y2 : Int) = (y2 : Int) := by rw [IntKind.wrap_i64]; omega
    have hgz : ((g : Int) == 0) = false := by simp; omega
    have hhz : ((h : Int) == 0) = false := by simp; omega
    have hgn : ¬ g = 0 := by omega
    have hhn : ¬ h = 0 := by omega
    have hgi : ¬ (g : Int) = 0 := by omega
    have hhi : ¬ (h : Int) = 0 := by omega
    have hgi0 : (0 : Int) < (g : Int) := by omega
    have hhi0 : (0 : Int) < (h : Int) := by omega
    clear p1 p2 p9 p10 p15 hva hvb
    go_enter Try.func58, Try.ntmps58
    go_wp2_with fail
    refine (valid_any an AD _ a0 a1 a2 a3).mono ?_
    rintro e w1 ⟨rfl, hB⟩
    have h1 := hst.call hB
    obtain ⟨c0, c1, c2, c3, c4, c5, c6, c7⟩ := h1.cells
    rw [e1]
    clear hst hB
    go_wp2_with fail
    refine (valid_any bn BD _ b0 b1 b2 b3).mono ?_
    rintro e w2 ⟨rfl, hB⟩
    have h2 := h1.call hB
    rw [e2]
    clear h1 hB c0 c1 c2 c3 c4 c5 c6 c7
    obtain ⟨c0, c1, c2, c3, c4, c5, c6, c7⟩ := h2.cells
    have H2 := Lib.hid h2
    clear h2
    go_wp2
    go_quiet ((first | (go_at_call 75; exact Calls.quiet_of_same ((abs_any _ _ (by omega) (by omega)).mono fun _ _ ⟨he, hw⟩ => ⟨he, hw.symm⟩)) | (go_at_call 74; exact Calls.quiet_of (gcdi_any _ _ _ (by omega) (by omega)))))
    rw [P1.out, P2.out]
    have H5 := H2.out.draw nq
    obtain ⟨w0, hw0⟩ : ∃ w0, w2.drewN nq = w0 := ⟨_, rfl⟩
    rw [hw0] at H5 ⊢
    clear hw0 c0 c1 c2 c3 c4 c5 c6 c7
    have keep : ∀ W : World, Below w0.heap.size w0 W → FS w W an AD bn BD := fun W hW => H5.call hW
    have Keep := Lib.hid keep
    have h00 := Below.refl w0.heap.size w0
    have h0d : Below w0.heap.size w0 w0.drew := h00.drew
    obtain ⟨c0, c1, c2, c3, c4, c5, c6, c7⟩ := H5.cells
    obtain ⟨⟨r1, r2, r3⟩, hr⟩ : ∃ r : R3, (if (x1 * x2).natAbs ≤ 4611686018427387904 ∧ ((y1 : Int) * (y2 : Int)).natAbs ≤ 4611686018427387904 then (x1 * x2, (y1 : Int) * (y2 : Int), 0) else (0, 0, 5)) = r := ⟨_, rfl⟩
    have HF := Lib.hid (P15.out.trans hr)
    have hq128 : (x1 * x2).natAbs < 340282366920938463463374607431768211456 := by
      rw [Int.natAbs_mul]
      have : x1.natAbs * x2.natAbs ≤ 4611686018427387904 * 4611686018427387904 := Nat.mul_le_mul (by omega) (by omega)
      omega
    have hy128 : ((y1 : Int) * (y2 : Int)).natAbs < 340282366920938463463374607431768211456 := by
      rw [Int.natAbs_mul, Int.natAbs_natCast, Int.natAbs_natCast]
      have : y1 * y2 ≤ 4611686018427387904 * 4611686018427387904 := Nat.mul_le_mul (by omega) (by omega)
      omega
    have FR := fun W h => fraction_from w0 W h (x1 * x2) ((y1 : Int) * (y2 : Int)) hq128 hy128
    have PA := fun W k => product_from w0 W k x1 x2 (by omega) (by omega) (by omega) (by omega)
    have PB := fun W k => product_from w0 W k (y1 : Int) (y2 : Int) (by omega) (by omega) (by omega) (by omega)
    rw [hr] at FR
    have FR := Lib.hid FR
    have PA := Lib.hid PA
    have PB := Lib.hid PB
    have H5 := Lib.hid H5
    clear keep hq128 hy128 hr
    go_wp2
    go_region_held3 (fun W => W.cell? ⟨w.heap.size, 0, none⟩ = some (.int .i64 an) ∧ W.cell? ⟨w.heap.size, 1, none⟩ = some (.int .i64 AD) ∧ W.cell? ⟨w.heap.size + 1, 0, none⟩ = some (.int .i64 bn) ∧ W.cell? ⟨w.heap.size + 1, 1, none⟩ = some (.int .i64 BD)) (first | exact fs_cells (Keep.out _ (by with_reducible assumption)) | exact fs_put (by with_reducible assumption) _ _)
      (first | (go_at_call 71; first | ((with_reducible refine (PA.out _ (by with_reducible assumption)).mono ?_); rintro e w' ⟨rfl, hb⟩; obtain ⟨c0, c1, c2, c3, c4, c5, c6, c7⟩ := (Keep.out _ hb).cells) | ((with_reducible refine (PB.out _ (by with_reducible assumption)).mono ?_); rintro e w' ⟨rfl, hb⟩; obtain ⟨c0, c1, c2, c3, c4, c5, c6, c7⟩ := (Keep.out _ hb).cells)) |
        (go_at_call 76; (with_reducible refine (FR.out _ (by with_reducible assumption)).mono ?_); rintro e w' ⟨rfl, hb⟩; obtain ⟨c0, c1, c2, c3, c4, c5, c6, c7⟩ := (Keep.out _ hb).cells; simp only [RV]))
    all_goals
      go_wp2
      exact ret_frac (p := 4) (q := 5) (by kernel_rfl) rfl rfl (fr_end1 H5.out.2.2.1 (by with_reducible assumption) _ _) ⟨by rw [HF.out], fr_end2 H5.out.2.2.2.2 (by with_reducible assumption) (by omega) _ _⟩
  · have HM := Lib.hid (show mulR an ad bn bd = (0, 0, 1) by unfold mulR; rw [if_neg hv])
    have hway := valid_way an ad bn bd hv
    clear hv
    rcases hway with e1 | ⟨e1, e2⟩
    · go_enter Try.func58, Try.ntmps58
      go_wp2_with fail
      refine (valid_any an ad _ a0 a1 a2 a3).mono ?_
      rintro e w1 ⟨rfl, hB⟩
      have h1 := hst.call hB
      obtain ⟨c0, c1, c2, c3, c4, c5, c6, c7⟩ := h1.cells
      rw [e1]
      have H2 := Lib.hid h1
      clear hst hB h1
      go_wp2
      exact ret_frac (p := 4) (q := 5) (by kernel_rfl) rfl rfl (H2.out.put 0 0).1 ⟨by rw [HM.out], (H2.out.put 0 0).2⟩
    · go_enter Try.func58, Try.ntmps58
      go_wp2_with fail
      refine (valid_any an ad _ a0 a1 a2 a3).mono ?_
      rintro e w1 ⟨rfl, hB⟩
      have h1 := hst.call hB
      obtain ⟨c0, c1, c2, c3, c4, c5, c6, c7⟩ := h1.cells
      rw [e1]
      clear hst hB
      go_wp2_with fail
      refine (valid_any bn bd _ b0 b1 b2 b3).mono ?_
      rintro e w2 ⟨rfl, hB⟩
      have h2 := h1.call hB
      rw [e2]
      clear h1 hB c0 c1 c2 c3 c4 c5 c6 c7
      obtain ⟨c0, c1, c2, c3, c4, c5, c6, c7⟩ := h2.cells
      have H2 := Lib.hid h2
      clear h2
      go_wp2
      exact ret_frac (p := 4) (q := 5) (by kernel_rfl) rfl rfl (H2.out.put 0 0).1 ⟨by rw [HM.out], (H2.out.put 0 0).2⟩
end Go.Proofs.Yteppamchbgnlfaa
