/- Package frac: Div and Compare are what the document asks. Conditions: numbers of 64 bits. -/
import Derived.Test.YteppamchbgnlfaaFrac3
namespace Go.Proofs.Yteppamchbgnlfaa
open Go.RowKit

theorem weq_walk (h l : Nat) (s : Bool) (w : World) : (Op.equalIn 10000 71 (.agg #[.int .u64 (h : Nat), .int .u64 (l : Nat), .bool s]) (.agg #[.int .u64 0, .int .u64 0, .bool false])).run Try.prog w = .ok (decide (h = 0) && (decide (l = 0) && !s)) w := by
  have tu := Try.underlying41
  have ta := Try.isAgg41
  have tz := Try.sizeOf41
  have tu2 := Try.underlying4
  have ta2 := Try.isAgg4
  have tz2 := Try.sizeOf4
  have hS : Try.prog.underlying 71 = some (.struct (Try.prog.fieldsOf 71)) := by kernel_rfl
  rw [show (10000 : Nat) = 9999 + 1 from rfl, run_equalIn_agg w 9999 71 _ _ hS (by kernel_rfl)]
  simp only [Program.fieldsOf, Try.underlying71]
  go_simp
  by_cases h1 : h = 0 <;> by_cases h2 : l = 0 <;> cases s <;> simp [h1, h2]

set_option maxRecDepth 100000 in
set_option maxHeartbeats 4000000 in
theorem div_any (an ad bn bd : Int) (w : World) (a0 : -9223372036854775808 ≤ an) (a1 : an ≤ 9223372036854775807) (a2 : -9223372036854775808 ≤ ad) (a3 : ad ≤ 9223372036854775807) (b0 : -9223372036854775808 ≤ bn) (b1 : bn ≤ 9223372036854775807) (b2 : -9223372036854775808 ≤ bd) (b3 : bd ≤ 9223372036854775807) :
    Calls Try.prog 59 #[.agg #[.int .i64 an, .int .i64 ad], .agg #[.int .i64 bn, .int .i64 bd]] w fun e w' => e = .returned (RV (divR an ad bn bd)) ∧ Below w.heap.size w w' := by
  have hst := FS.start w an ad bn bd
  by_cases hv : vP an ad ∧ vP bn bd
  · have e1 : vB an ad = true := decide_eq_true hv.1
    have e2 : vB bn bd = true := decide_eq_true hv.2
    have hd0 := hv.2.1
    have hd1 := hv.2.2.1
    have hn0 := hv.2.2.2.1
    have hn1 := hv.2.2.2.2.1
    by_cases hz : bn = 0
    · have HM := Lib.hid (show divR an ad bn bd = (0, 0, 6) by unfold divR; rw [if_pos hv, if_pos hz])
      clear hv
      subst hz
      go_enter Try.func59, Try.ntmps59
      go_wp2_with fail
      refine (valid_any an ad _ a0 a1 a2 a3).mono ?_
      rintro e w1 ⟨rfl, hB⟩
      have h1 := hst.call hB
      obtain ⟨c0, c1, c2, c3, c4, c5, c6, c7⟩ := h1.cells
      rw [e1]
      clear hst hB
      go_wp2_with fail
      refine (valid_any 0 bd _ b0 b1 b2 b3).mono ?_
      rintro e w2 ⟨rfl, hB⟩
      have h2 := h1.call hB
      rw [e2]
      clear h1 hB c0 c1 c2 c3 c4 c5 c6 c7
      obtain ⟨c0, c1, c2, c3, c4, c5, c6, c7⟩ := h2.cells
      have H2 := Lib.hid h2
      clear h2
      go_wp2
      exact ret_frac (p := 4) (q := 5) (by kernel_rfl) rfl rfl (H2.out.put 0 0).1 ⟨by rw [HM.out], (H2.out.put 0 0).2⟩
    · have hz1 : (bn == 0) = false := by simpa using hz
      by_cases hs : bn < 0
      · have HM := Lib.hid (show divR an ad bn bd = mulR an ad (-bd) (-bn) by unfold divR; rw [if_pos hv, if_neg hz, if_pos hs])
        have hs1 : decide (bn < 0) = true := decide_eq_true hs
        have hq1 : IntKind.i64.wrap (-bd) = -bd := by rw [IntKind.wrap_i64]; omega
        have hq2 : IntKind.i64.wrap (-bn) = -bn := by rw [IntKind.wrap_i64]; omega
        have MU := fun W => mul_any an ad (-bd) (-bn) W a0 a1 a2 a3 (by omega) (by omega) (by omega) (by omega)
        obtain ⟨⟨r1, r2, r3⟩, hr⟩ : ∃ r : R3, mulR an ad (-bd) (-bn) = r := ⟨_, rfl⟩
        have HF := Lib.hid (HM.out.trans hr)
        rw [hr] at MU
        have MU := Lib.hid MU
        clear hv hz hs hd0 hd1 hn0 hn1 hr HM
        go_enter Try.func59, Try.ntmps59
        go_wp2_with fail
        refine (valid_any an ad _ a0 a1 a2 a3).mono ?_
        rintro e w1 ⟨rfl, hB⟩
        have h1 := hst.call hB
        obtain ⟨c0, c1, c2, c3, c4, c5, c6, c7⟩ := h1.cells
        rw [e1]
        clear hst hB
        go_wp2_with fail
        refine (valid_any bn bd _ b0 b1 b2 b3).mono ?_
        rintro e w2 ⟨rfl, hB⟩
        have h2 := h1.call hB
        rw [e2]
        clear h1 hB c0 c1 c2 c3 c4 c5 c6 c7
        obtain ⟨c0, c1, c2, c3, c4, c5, c6, c7⟩ := h2.cells
        have H2 := Lib.hid h2
        clear h2
        go_wp2_with fail
        refine (MU.out _).mono ?_
        rintro e w3 ⟨rfl, hB⟩
        have h2 := H2.out.call hB
        clear hB c0 c1 c2 c3 c4 c5 c6 c7
        obtain ⟨c0, c1, c2, c3, c4, c5, c6, c7⟩ := h2.cells
        have H1 := Lib.hid h2
        clear h2 H2
        unfold RV
        simp only []
        go_wp2
        exact ret_frac (p := 4) (q := 5) (by kernel_rfl) rfl rfl (H1.out.put r1 r2).1 ⟨by rw [HF.out], (H1.out.put r1 r2).2⟩
      · have HM := Lib.hid (show divR an ad bn bd = mulR an ad bd bn by unfold divR; rw [if_pos hv, if_neg hz, if_neg hs])
        have hs1 : decide (bn < 0) = false := decide_eq_false hs
        have MU := fun W => mul_any an ad bd bn W a0 a1 a2 a3 (by omega) (by omega) (by omega) (by omega)
        obtain ⟨⟨r1, r2, r3⟩, hr⟩ : ∃ r : R3, mulR an ad bd bn = r := ⟨_, rfl⟩
        have HF := Lib.hid (HM.out.trans hr)
        rw [hr] at MU
        have MU := Lib.hid MU
        clear hv hz hs hd0 hd1 hn0 hn1 hr HM
        go_enter Try.func59, Try.ntmps59
        go_wp2_with fail
        refine (valid_any an ad _ a0 a1 a2 a3).mono ?_
        rintro e w1 ⟨rfl, hB⟩
        have h1 := hst.call hB
        obtain ⟨c0, c1, c2, c3, c4, c5, c6, c7⟩ := h1.cells
        rw [e1]
        clear hst hB
        go_wp2_with fail
        refine (valid_any bn bd _ b0 b1 b2 b3).mono ?_
        rintro e w2 ⟨rfl, hB⟩
        have h2 := h1.call hB
        rw [e2]
        clear h1 hB c0 c1 c2 c3 c4 c5 c6 c7
        obtain ⟨c0, c1, c2, c3, c4, c5, c6, c7⟩ := h2.cells
        have H2 := Lib.hid h2
        clear h2
        go_wp2_with fail
        refine (MU.out _).mono ?_
        rintro e w3 ⟨rfl, hB⟩
        have h2 := H2.out.call hB
        clear hB c0 c1 c2 c3 c4 c5 c6 c7
        obtain ⟨c0, c1, c2, c3, c4, c5, c6, c7⟩ := h2.cells
        have H1 := Lib.hid h2
        clear h2 H2
        unfold RV
        simp only []
        go_wp2
        exact ret_frac (p := 4) (q := 5) (by kernel_rfl) rfl rfl (H1.out.put r1 r2).1 ⟨by rw [HF.out], (H1.out.put r1 r2).2⟩
  · have HM := Lib.hid (show divR an ad bn bd = (0, 0, 1) by unfold divR; rw [if_neg hv])
    have hway := valid_way an ad bn bd hv
    clear hv
    rcases hway with e1 | ⟨e1, e2⟩
    · go_enter Try.func59, Try.ntmps59
      go_wp2_with fail
      refine (valid_any an ad _ a0 a1 a2 a3).mono ?_
      rintro e w1 ⟨rfl, hB⟩
      have h1 := hst.call hB
      obtain ⟨c0, c1, c2, c3, c4, c5, c6, c7⟩ := h1.cells
      rw [e1]
      have H2 := Lib.hid h1
      clear hst hB h1
      go_wp2
      exact ret_frac (p := 4) (q := 5) (by kernel_rfl) rfl rfl (H2.out.put 0 0).1 ⟨by rw [HM.out], (H2.out.put 0 0).2⟩
    · go_enter Try.func59, Try.ntmps59
      go_wp2_with fail
      refine (valid_any an ad _ a0 a1 a2 a3).mono ?_
      rintro e w1 ⟨rfl, hB⟩
      have h1 := hst.call hB
      obtain ⟨c0, c1, c2, c3, c4, c5, c6, c7⟩ := h1.cells
      rw [e1]
      clear hst hB
      go_wp2_with fail
      refine (valid_any bn bd _ b0 b1 b2 b3).mono ?_
      rintro e w2 ⟨rfl, hB⟩
      have h2 := h1.call hB
      rw [e2]
      clear h1 hB c0 c1 c2 c3 c4 c5 c6 c7
      obtain ⟨c0, c1, c2, c3, c4, c5, c6, c7⟩ := h2.cells
      have H2 := Lib.hid h2
      clear h2
      go_wp2
      exact ret_frac (p := 4) (q := 5) (by kernel_rfl) rfl rfl (H2.out.put 0 0).1 ⟨by rw [HM.out], (H2.out.put 0 0).2⟩

/-- The two boxed arguments in a later world. -/
def C2 (w W : World) (an ad bn bd : Int) : Prop := Blk W w.heap.size 23 #[.int .i64 an, .int .i64 ad] ∧ Blk W (w.heap.size + 1) 23 #[.int .i64 bn, .int .i64 bd] ∧ Below w.heap.size w W ∧ w.heap.size + 1 < W.heap.size
theorem C2.start (w : World) (an ad bn bd : Int) : C2 w ((w.alloc (.cells #[.int .i64 an, .int .i64 ad] 23)).alloc (.cells #[.int .i64 bn, .int .i64 bd] 23)) an ad bn bd := by
  refine ⟨(Blk.new w _ _).below ((Below.refl _ _).alloc (Nat.le_refl _) _) (by simp), ?_, ((Below.refl _ w).alloc (Nat.le_refl _) _).alloc (by simp) _, by simp⟩
  have := Blk.new (w.alloc (.cells #[.int .i64 an, .int .i64 ad] 23)) 23 #[.int .i64 bn, .int .i64 bd]
  simpa using this
theorem C2.call {w W W' : World} {an ad bn bd : Int} (h : C2 w W an ad bn bd) (hb : Below W.heap.size W W') : C2 w W' an ad bn bd :=
  ⟨h.1.below hb h.1.lt, h.2.1.below hb h.2.1.lt, below_st h.2.2.1 hb, by have := hb.size; have := h.2.2.2; omega⟩
theorem C2.cells {w W : World} {an ad bn bd : Int} (h : C2 w W an ad bn bd) : W.cell? ⟨w.heap.size, 0, none⟩ = some (.int .i64 an) ∧ W.cell? ⟨w.heap.size, 1, none⟩ = some (.int .i64 ad) ∧ W.cell? ⟨w.heap.size + 1, 0, none⟩ = some (.int .i64 bn) ∧ W.cell? ⟨w.heap.size + 1, 1, none⟩ = some (.int .i64 bd) :=
  ⟨h.1.cell 0, h.1.cell 1, h.2.1.cell 0, h.2.1.cell 1⟩

set_option maxRecDepth 100000 in
set_option maxHeartbeats 4000000 in
theorem cmp_any (an ad bn bd : Int) (w : World) (a0 : -9223372036854775808 ≤ an) (a1 : an ≤ 9223372036854775807) (a2 : -9223372036854775808 ≤ ad) (a3 : ad ≤ 9223372036854775807) (b0 : -9223372036854775808 ≤ bn) (b1 : bn ≤ 9223372036854775807) (b2 : -9223372036854775808 ≤ bd) (b3 : bd ≤ 9223372036854775807) :
    Calls Try.prog 33 #[.agg #[.int .i64 an, .int .i64 ad], .agg #[.int .i64 bn, .int .i64 bd]] w fun e w' => e = .returned (.int .i64 (cmpR an ad bn bd)) ∧ Below w.heap.size w w' := by
  have hst := C2.start w an ad bn bd
  obtain ⟨c0, c1, c2, c3⟩ := hst.cells
  by_cases hv : vP an ad ∧ vP bn bd
  · have e1 : vB an ad = true := decide_eq_true hv.1
    have e2 : vB bn bd = true := decide_eq_true hv.2
    obtain ⟨⟨p1, p2, p3, p4, -⟩, q1, q2, q3, q4, -⟩ := hv
    have hq2 : IntKind.i64.wrap (-bn) = -bn := by rw [IntKind.wrap_i64]; omega
    have SP := fun W => sop_any an bd (-bn) ad W p3 p4 (by omega) q2 (by omega) (by omega) (by omega) p2
    obtain ⟨z, hz⟩ : ∃ z, an * bd + -bn * ad = z := ⟨_, rfl⟩
    have HM := Lib.hid (show cmpR an ad bn bd = sgn z by
      unfold cmpR; rw [if_pos ⟨decide_eq_true_iff.1 e1, decide_eq_true_iff.1 e2⟩, ← hz]; congr 1; rw [Int.neg_mul]; omega)
    rw [hz] at SP
    obtain ⟨h, hh⟩ : ∃ h, z.natAbs / 18446744073709551616 = h := ⟨_, rfl⟩
    obtain ⟨l, hl⟩ : ∃ l, z.natAbs % 18446744073709551616 = l := ⟨_, rfl⟩
    obtain ⟨s, hs⟩ : ∃ s, decide (z < 0) = s := ⟨_, rfl⟩
    unfold wideV at SP
    rw [hh, hl, hs] at SP
    have SP := Lib.hid SP
    have hg : (if s then (-1 : Int) else if (decide (h = 0) && (decide (l = 0) && !s)) then 0 else 1) = sgn z := by
      rw [← hh, ← hl, ← hs]
      unfold sgn
      by_cases k : z < 0
      · simp [k]
      · by_cases k0 : z = 0
        · subst k0; rfl
        · have : ¬ (z.natAbs / 18446744073709551616 = 0 ∧ z.natAbs % 18446744073709551616 = 0) := by omega
          simp [k, show 0 < z by omega]
          omega
    have hg2 := hg
    have HG := Lib.hid hg
    have EQ := weq_walk h l s
    clear hg hg2 hz hh hl hs p1 p2 p3 p4 q1 q2 q3 q4
    go_enter Try.func33, Try.ntmps33
    go_wp2_with fail
    refine (valid_any an ad _ a0 a1 a2 a3).mono ?_
    rintro e w1 ⟨rfl, hB⟩
    have h1 := hst.call hB
    clear c0 c1 c2 c3
    obtain ⟨c0, c1, c2, c3⟩ := h1.cells
    rw [e1]
    clear hst hB
    go_wp2_with fail
    refine (valid_any bn bd _ b0 b1 b2 b3).mono ?_
    rintro e w2 ⟨rfl, hB⟩
    have h2 := h1.call hB
    rw [e2]
    clear h1 hB c0 c1 c2 c3
    obtain ⟨c0, c1, c2, c3⟩ := h2.cells
    go_wp2_with fail
    refine (SP.out _).mono ?_
    rintro e w3 ⟨rfl, hB⟩
    have h3 := h2.call hB
    have HB := Lib.hid (h3.2.2.1.alloc (by have := h3.2.2.2; omega) (.cells #[.int .u64 h, .int .u64 l, .bool s] 71))
    clear h2 h3 hB c0 c1 c2 c3
    go_wp2
    · rename_i hcase
      go_ret
      exact ⟨ret_int (by rw [HM.out, ← HG.out]; obtain ⟨rfl, rfl, h3⟩ := hcase; cases s <;> simp at h3 ⊢), HB.out⟩
    · rename_i hcase hs'
      go_ret
      exact ⟨ret_int (by rw [HM.out, ← HG.out]; simp [hs']), HB.out⟩
    · rename_i hcase hs'
      go_ret
      exact ⟨ret_int (by
        rw [HM.out, ← HG.out]
        have hs2 : s = false := by simpa using hs'
        subst hs2
        rw [if_neg (by simp), if_neg (by simp only [Bool.not_false, Bool.and_true, Bool.and_eq_true, decide_eq_true_eq]; rintro ⟨rfl, rfl⟩; simp at hcase)]), HB.out⟩
  · have HM := Lib.hid (show cmpR an ad bn bd = 0 by unfold cmpR; rw [if_neg hv])
    have hway := valid_way an ad bn bd hv
    clear hv
    rcases hway with e1 | ⟨e1, e2⟩
    · go_enter Try.func33, Try.ntmps33
      go_wp2_with fail
      refine (valid_any an ad _ a0 a1 a2 a3).mono ?_
      rintro e w1 ⟨rfl, hB⟩
      have h1 := hst.call hB
      rw [e1]
      clear hst hB c0 c1 c2 c3
      have H1 := Lib.hid h1
      obtain ⟨c0, c1, c2, c3⟩ := h1.cells
      clear h1
      go_wp2
      go_ret
      exact ⟨ret_int HM.out.symm, H1.out.2.2.1⟩
    · go_enter Try.func33, Try.ntmps33
      go_wp2_with fail
      refine (valid_any an ad _ a0 a1 a2 a3).mono ?_
      rintro e w1 ⟨rfl, hB⟩
      have h1 := hst.call hB
      rw [e1]
      clear hst hB c0 c1 c2 c3
      obtain ⟨c0, c1, c2, c3⟩ := h1.cells
      go_wp2_with fail
      refine (valid_any bn bd _ b0 b1 b2 b3).mono ?_
      rintro e w2 ⟨rfl, hB⟩
      have h2 := h1.call hB
      rw [e2]
      clear h1 hB c0 c1 c2 c3
      have H1 := Lib.hid h2
      obtain ⟨c0, c1, c2, c3⟩ := h2.cells
      clear h2
      go_wp2
      go_ret
      exact ⟨ret_int HM.out.symm, H1.out.2.2.1⟩
end Go.Proofs.Yteppamchbgnlfaa
