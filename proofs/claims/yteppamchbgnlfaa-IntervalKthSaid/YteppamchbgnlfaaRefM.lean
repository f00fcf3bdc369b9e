/- The reference's Mul. Conditions: numbers of 64 bits. -/
import Derived.Test.YteppamchbgnlfaaFS
import Derived.Test.YteppamchbgnlfaaFrac2
import Derived.Deep.DeepCutAuto
namespace Go.Proofs.Yteppamchbgnlfaa
open Go.RowKit

theorem prod_neg {an bn : Int} {D : Nat} : lowR (decide (an < 0) != decide (bn < 0)) (an * bn).natAbs D = lowR (decide (an * bn < 0)) (an * bn).natAbs D := by
  by_cases h0 : an * bn = 0
  · rw [h0]; exact lowR_zero _ _ _
  · congr 1
    have ha : an ≠ 0 := fun h => h0 (by rw [h, Int.zero_mul])
    have hb : bn ≠ 0 := fun h => h0 (by rw [h, Int.mul_zero])
    rcases Int.lt_or_le an 0 with s1 | s1 <;> rcases Int.lt_or_le bn 0 with s2 | s2
    · have := Int.mul_pos_of_neg_of_neg s1 s2
      rw [decide_eq_true s1, decide_eq_true s2, decide_eq_false (by omega)]; rfl
    · have := Int.mul_neg_of_neg_of_pos s1 (by omega : 0 < bn)
      rw [decide_eq_true s1, decide_eq_false (by omega : ¬ bn < 0), decide_eq_true this]; rfl
    · have := Int.mul_neg_of_pos_of_neg (by omega : 0 < an) s2
      rw [decide_eq_false (by omega : ¬ an < 0), decide_eq_true s2, decide_eq_true this]; rfl
    · have := Int.mul_nonneg s1 s2
      rw [decide_eq_false (by omega : ¬ an < 0), decide_eq_false (by omega : ¬ bn < 0), decide_eq_false (by omega : ¬ an * bn < 0)]; rfl
theorem prod_short {an ad bn bd : Int} (ha : vP an ad) (hb : vP bn bd) : prodR an ad bn bd = if an * bn = -9223372036854775808 ∨ ad * bd = -9223372036854775808 then prodR an ad bn bd else newR (an * bn) (ad * bd) := by
  split
  · rfl
  · rename_i hm
    have h : 0 < ad * bd := Int.mul_pos (by have := ha.1; omega) (by have := hb.1; omega)
    unfold newR prodR
    rw [if_neg (by omega), if_neg hm, decide_eq_false (by omega : ¬ ad * bd < 0), Bool.bne_false]
theorem mul_bd {a b m n : Int} (h1 : -m ≤ a) (h2 : a ≤ m) (h3 : -n ≤ b) (h4 : b ≤ n) (hm : 0 ≤ m) : -(m * n) ≤ a * b ∧ a * b ≤ m * n := by
  have hn : 0 ≤ n := by omega
  have h : (a * b).natAbs ≤ (m * n).natAbs := by
    rw [Int.natAbs_mul, Int.natAbs_mul]
    exact Nat.mul_le_mul (by omega) (by omega)
  have := Int.mul_nonneg hm hn
  omega
theorem shortB_out {n d : Int} (h : shortB n d = true) : -1073741824 ≤ n ∧ n ≤ 1073741824 ∧ d ≤ 1073741824 := by
  unfold shortB at h
  rw [Bool.and_eq_true, decide_eq_true_eq, decide_eq_true_eq] at h
  omega
theorem short_bounds {an ad bn bd : Int} (ha : vP an ad) (hb : vP bn bd) (h1 : shortB an ad = true) (h2 : shortB bn bd = true) :
    -1152921504606846976 ≤ an * bn ∧ an * bn ≤ 1152921504606846976 ∧ 1 ≤ ad * bd ∧ ad * bd ≤ 1152921504606846976 := by
  obtain ⟨x1, x2, x3⟩ := shortB_out h1
  obtain ⟨y1, y2, y3⟩ := shortB_out h2
  have p := mul_bd x1 x2 y1 y2 (by omega)
  have q := mul_bd (a := ad) (b := bd) (m := 1073741824) (n := 1073741824) (by have := ha.1; omega) x3 (by have := hb.1; omega) y3 (by omega)
  have h : 0 < ad * bd := Int.mul_pos (by have := ha.1; omega) (by have := hb.1; omega)
  omega


theorem below_put8 {w0 W X : World} (h : Below w0.heap.size w0 W) (hX : Below w0.heap.size w0 X) (v0 v1 v2 v3 v4 v5 v6 v7 : Value) : Below w0.heap.size w0 ((((((((W.setCell ⟨X.heap.size, 0, none⟩ v0).setCell ⟨X.heap.size, 1, none⟩ v1).setCell ⟨X.heap.size, 2, none⟩ v2).setCell ⟨X.heap.size, 3, none⟩ v3).setCell ⟨X.heap.size, 4, none⟩ v4).setCell ⟨X.heap.size, 5, none⟩ v5).setCell ⟨X.heap.size, 6, none⟩ v6).setCell ⟨X.heap.size, 7, none⟩ v7) :=
  (((((((h.setCell (p := ⟨X.heap.size, 0, none⟩) hX.size _).setCell (p := ⟨X.heap.size, 1, none⟩) hX.size _).setCell (p := ⟨X.heap.size, 2, none⟩) hX.size _).setCell (p := ⟨X.heap.size, 3, none⟩) hX.size _).setCell (p := ⟨X.heap.size, 4, none⟩) hX.size _).setCell (p := ⟨X.heap.size, 5, none⟩) hX.size _).setCell (p := ⟨X.heap.size, 6, none⟩) hX.size _).setCell (p := ⟨X.heap.size, 7, none⟩) hX.size _
theorem nb_newd {X W' : World} (hB : Below ((X.alloc (.cells #[.int .u64 0, .int .u64 0, .int .u64 0, .int .u64 0, .int .u64 0, .int .u64 0, .int .u64 0, .int .u64 0] 66)).drew).heap.size ((X.alloc (.cells #[.int .u64 0, .int .u64 0, .int .u64 0, .int .u64 0, .int .u64 0, .int .u64 0, .int .u64 0, .int .u64 0] 66)).drew) W') : NB W' X.heap.size (limbs 0) :=
  nb_keep hB (NB.new X 0)
theorem nv_letters (n : Nat) : ∃ p0 p1 p2 p3 p4 p5 p6 p7 : Int, NV n = .agg #[.int .u64 p0, .int .u64 p1, .int .u64 p2, .int .u64 p3, .int .u64 p4, .int .u64 p5, .int .u64 p6, .int .u64 p7] := ⟨_, _, _, _, _, _, _, _, rfl⟩
theorem nb_zero {W : World} {g : Nat} (h : NB W g (limbs 0)) : W.cell? ⟨g, 0, none⟩ = some (.int .u64 0) ∧ W.cell? ⟨g, 1, none⟩ = some (.int .u64 0) ∧ W.cell? ⟨g, 2, none⟩ = some (.int .u64 0) ∧ W.cell? ⟨g, 3, none⟩ = some (.int .u64 0) ∧ W.cell? ⟨g, 4, none⟩ = some (.int .u64 0) ∧ W.cell? ⟨g, 5, none⟩ = some (.int .u64 0) ∧ W.cell? ⟨g, 6, none⟩ = some (.int .u64 0) ∧ W.cell? ⟨g, 7, none⟩ = some (.int .u64 0) := h.cells
theorem nv_inj {n : Nat} {p0 p1 p2 p3 p4 p5 p6 p7 : Int} (h : NV n = .agg #[.int .u64 p0, .int .u64 p1, .int .u64 p2, .int .u64 p3, .int .u64 p4, .int .u64 p5, .int .u64 p6, .int .u64 p7]) : (lim n 0 : Nat) = p0 ∧ (lim n 1 : Nat) = p1 ∧ (lim n 2 : Nat) = p2 ∧ (lim n 3 : Nat) = p3 ∧ (lim n 4 : Nat) = p4 ∧ (lim n 5 : Nat) = p5 ∧ (lim n 6 : Nat) = p6 ∧ (lim n 7 : Nat) = p7 := by
  unfold NV at h
  simpa using h
theorem met_new {w0 W : World} {n : Nat} {p0 p1 p2 p3 p4 p5 p6 p7 : Int} (hN : Hid (NV n = .agg #[.int .u64 p0, .int .u64 p1, .int .u64 p2, .int .u64 p3, .int .u64 p4, .int .u64 p5, .int .u64 p6, .int .u64 p7])) (h : Below w0.heap.size w0 W) :
    ∃ g, (.pointer (some ⟨W.heap.size, 0, none⟩) : Value) = .pointer (some ⟨g, 0, none⟩) ∧ NB (W.alloc (.cells #[.int .u64 p0, .int .u64 p1, .int .u64 p2, .int .u64 p3, .int .u64 p4, .int .u64 p5, .int .u64 p6, .int .u64 p7] 66)) g (limbs n) ∧ Below w0.heap.size w0 (W.alloc (.cells #[.int .u64 p0, .int .u64 p1, .int .u64 p2, .int .u64 p3, .int .u64 p4, .int .u64 p5, .int .u64 p6, .int .u64 p7] 66)) ∧ w0.heap.size ≤ g := by
  obtain ⟨rfl, rfl, rfl, rfl, rfl, rfl, rfl, rfl⟩ := nv_inj hN.out
  exact ⟨_, rfl, NB.new W n, h.alloc h.size _, h.size⟩
theorem met_set {w0 W X : World} {n : Nat} {p0 p1 p2 p3 p4 p5 p6 p7 : Int} (hN : Hid (NV n = .agg #[.int .u64 p0, .int .u64 p1, .int .u64 p2, .int .u64 p3, .int .u64 p4, .int .u64 p5, .int .u64 p6, .int .u64 p7])) (h : Below w0.heap.size w0 W) (hX : Below w0.heap.size w0 X) (hz : Hid (NB W X.heap.size (limbs 0))) :
    ∃ g, (.pointer (some ⟨X.heap.size, 0, none⟩) : Value) = .pointer (some ⟨g, 0, none⟩) ∧ NB ((((((((W.setCell ⟨X.heap.size, 0, none⟩ (.int .u64 p0)).setCell ⟨X.heap.size, 1, none⟩ (.int .u64 p1)).setCell ⟨X.heap.size, 2, none⟩ (.int .u64 p2)).setCell ⟨X.heap.size, 3, none⟩ (.int .u64 p3)).setCell ⟨X.heap.size, 4, none⟩ (.int .u64 p4)).setCell ⟨X.heap.size, 5, none⟩ (.int .u64 p5)).setCell ⟨X.heap.size, 6, none⟩ (.int .u64 p6)).setCell ⟨X.heap.size, 7, none⟩ (.int .u64 p7)) g (limbs n) ∧ Below w0.heap.size w0 ((((((((W.setCell ⟨X.heap.size, 0, none⟩ (.int .u64 p0)).setCell ⟨X.heap.size, 1, none⟩ (.int .u64 p1)).setCell ⟨X.heap.size, 2, none⟩ (.int .u64 p2)).setCell ⟨X.heap.size, 3, none⟩ (.int .u64 p3)).setCell ⟨X.heap.size, 4, none⟩ (.int .u64 p4)).setCell ⟨X.heap.size, 5, none⟩ (.int .u64 p5)).setCell ⟨X.heap.size, 6, none⟩ (.int .u64 p6)).setCell ⟨X.heap.size, 7, none⟩ (.int .u64 p7)) ∧ w0.heap.size ≤ g := by
  obtain ⟨rfl, rfl, rfl, rfl, rfl, rfl, rfl, rfl⟩ := nv_inj hN.out
  exact ⟨_, rfl, hz.out.store8 n, below_put8 h hX _ _ _ _ _ _ _ _, hX.size⟩
theorem nb_cells8 {W : World} {g n : Nat} {p0 p1 p2 p3 p4 p5 p6 p7 : Int} (hN : Hid (NV n = .agg #[.int .u64 p0, .int .u64 p1, .int .u64 p2, .int .u64 p3, .int .u64 p4, .int .u64 p5, .int .u64 p6, .int .u64 p7])) (h : NB W g (limbs n)) : W.cell? ⟨g, 0, none⟩ = some (.int .u64 p0) ∧ W.cell? ⟨g, 1, none⟩ = some (.int .u64 p1) ∧ W.cell? ⟨g, 2, none⟩ = some (.int .u64 p2) ∧ W.cell? ⟨g, 3, none⟩ = some (.int .u64 p3) ∧ W.cell? ⟨g, 4, none⟩ = some (.int .u64 p4) ∧ W.cell? ⟨g, 5, none⟩ = some (.int .u64 p5) ∧ W.cell? ⟨g, 6, none⟩ = some (.int .u64 p6) ∧ W.cell? ⟨g, 7, none⟩ = some (.int .u64 p7) := by
  obtain ⟨rfl, rfl, rfl, rfl, rfl, rfl, rfl, rfl⟩ := nv_inj hN.out
  exact h.cells
set_option maxRecDepth 100000 in
set_option maxHeartbeats 8000000 in
theorem rmul_long (an ad bn bd : Int) (w : World) (a0 : -9223372036854775808 ≤ an) (a1 : an ≤ 9223372036854775807) (a2 : -9223372036854775808 ≤ ad) (a3 : ad ≤ 9223372036854775807) (b0 : -9223372036854775808 ≤ bn) (b1 : bn ≤ 9223372036854775807) (b2 : -9223372036854775808 ≤ bd) (b3 : bd ≤ 9223372036854775807) (hva : vP an ad) (hvb : vP bn bd) (hs : ¬ (shortB an ad = true ∧ shortB bn bd = true)) :
    Calls Try.prog 46 #[.agg #[.int .i64 an, .int .i64 ad], .agg #[.int .i64 bn, .int .i64 bd]] w fun e w' => e = .returned (RV (mulR an ad bn bd)) ∧ Below w.heap.size w w' := by
  have hst := FS.start w an ad bn bd
  have V1 := fun W => rvalid_any an ad W a0 a1 a2 a3
  have V2 := fun W => rvalid_any bn bd W b0 b1 b2 b3
  have v1 := hva.1
  have v2 := hva.2.1
  have v3 := hvb.1
  have v4 := hvb.2.1
  have v5 := hva.2.2.1
  have v6 := hva.2.2.2.1
  have v7 := hvb.2.2.1
  have v8 := hvb.2.2.2.1
  have e1 : vB an ad = true := decide_eq_true hva
  have e2 : vB bn bd = true := decide_eq_true hvb
  rw [e1] at V1
  rw [e2] at V2
  replace V1 := Lib.hid V1
  replace V2 := Lib.hid V2
  clear e1 e2
  obtain ⟨AD, rfl⟩ := Int.eq_ofNat_of_zero_le (show 0 ≤ ad by omega)
  obtain ⟨BD, rfl⟩ := Int.eq_ofNat_of_zero_le (show 0 ≤ bd by omega)
  have T1 := fun W => rshort_any an AD W a0 a1 a2 a3
  have T2 := fun W => rshort_any bn BD W b0 b1 b2 b3
  have S1 := fun (w0 W : World) (hW : Below w0.heap.size w0 W) => rsize_from w0 W hW an a0 a1
  have S2 := fun (w0 W : World) (hW : Below w0.heap.size w0 W) => rsize_from w0 W hW bn b0 b1
  have hway : shortB an AD = false ∨ (shortB an AD = true ∧ shortB bn BD = false) := by
    cases h : shortB an AD
    · exact .inl rfl
    · exact .inr ⟨rfl, by simpa [h] using hs⟩
  generalize shortB an AD = t1 at T1 hway
  generalize shortB bn BD = t2 at T2 hway
  replace T1 := Lib.hid T1
  replace T2 := Lib.hid T2
  have HW := Lib.hid hway
  clear hway hs
  obtain ⟨A, hA⟩ : ∃ A, an.natAbs = A := ⟨_, rfl⟩
  obtain ⟨B, hB⟩ : ∃ B, bn.natAbs = B := ⟨_, rfl⟩
  rw [hA] at S1
  rw [hB] at S2
  have F1 := fun (w0 W : World) (hW : Below w0.heap.size w0 W) => nfrom_from w0 W hW A (by omega)
  have F2 := fun (w0 W : World) (hW : Below w0.heap.size w0 W) => nfrom_from w0 W hW B (by omega)
  have m1 : A * B ≤ 4611686018427387904 * 4611686018427387904 := Nat.mul_le_mul (by omega) (by omega)
  have T3 := fun (w0 W : World) (hW : Below w0.heap.size w0 W) => ntimes_from w0 W hW A B (by unfold W8; omega) (by unfold W8; omega) (by unfold W8; omega)
  obtain ⟨P, hP⟩ : ∃ P, A * B = P := ⟨_, rfl⟩
  rw [hP] at T3
  obtain ⟨p0, p1, p2, p3, p4, p5, p6, p7, hNP⟩ := nv_letters P
  rw [hNP] at T3
  have HNP := Lib.hid hNP
  clear hNP
  replace S1 := Lib.hid S1
  replace S2 := Lib.hid S2
  replace F1 := Lib.hid F1
  replace F2 := Lib.hid F2
  replace T3 := Lib.hid T3
  have F3 := fun (w0 W : World) (hW : Below w0.heap.size w0 W) => nfrom_from w0 W hW AD (by omega)
  have F4 := fun (w0 W : World) (hW : Below w0.heap.size w0 W) => nfrom_from w0 W hW BD (by omega)
  have m2 : AD * BD ≤ 4611686018427387904 * 4611686018427387904 := Nat.mul_le_mul (by omega) (by omega)
  have m3 : 0 < AD * BD := Nat.mul_pos (by omega) (by omega)
  have T4 := fun (w0 W : World) (hW : Below w0.heap.size w0 W) => ntimes_from w0 W hW AD BD (by unfold W8; omega) (by unfold W8; omega) (by unfold W8; omega)
  have hpn := @prod_neg an bn (AD * BD)
  have hmr : mulR an (AD : Int) bn (BD : Int) = lowR (decide (an < 0) != decide (bn < 0)) P (AD * BD) := by
    unfold mulR prodR; rw [if_pos ⟨hva, hvb⟩, show ((AD : Int) * (BD : Int)).natAbs = AD * BD by rw [Int.natAbs_mul]; rfl, ← hpn, Int.natAbs_mul, hA, hB, hP]
  obtain ⟨Q, hQ⟩ : ∃ Q, AD * BD = Q := ⟨_, rfl⟩
  rw [hQ] at T4 m2 m3 hmr
  obtain ⟨q0, q1, q2, q3, q4, q5, q6, q7, hNQ⟩ := nv_letters Q
  rw [hNQ] at T4
  obtain ⟨sa, hsa⟩ : ∃ b, decide (an < 0) = b := ⟨_, rfl⟩
  obtain ⟨sb, hsb⟩ : ∃ b, decide (bn < 0) = b := ⟨_, rfl⟩
  rw [hsa, hsb] at hmr
  have L1 := fun (w0 W : World) (hW : Below w0.heap.size w0 W) => rlowest_from w0 W hW (sa != sb) P Q (by have := w250; unfold W250; omega) (by unfold W250; omega) m3
  rw [HNP.out, hNQ] at L1
  obtain ⟨⟨r1, r2, r3⟩, hr⟩ : ∃ r, lowR (sa != sb) P Q = r := ⟨_, rfl⟩
  rw [hr] at L1 hmr
  rw [show (sa != sb) = (!(sa == sb)) from rfl] at L1
  unfold RV at L1
  simp only at L1
  rw [hmr]
  have w1 : IntKind.u64.wrap ((AD : Nat) : Int) = (AD : Int) := by rw [IntKind.wrap_u64]; omega
  have w2 : IntKind.u64.wrap ((BD : Nat) : Int) = (BD : Int) := by rw [IntKind.wrap_u64]; omega
  replace F3 := Lib.hid F3
  replace F4 := Lib.hid F4
  replace T4 := Lib.hid T4
  replace L1 := Lib.hid L1
  clear hva hvb a0 a1 a2 a3 b0 b1 b2 b3 hA hB m1 hP m2 m3 hpn hmr hQ hNQ hr
  go_enter Try.func46, Try.ntmps46
  go_wp2_with fail
  refine (V1.out _).mono ?_
  rintro e w1 ⟨rfl, hB⟩
  have h1 := hst.call hB
  obtain ⟨c0, c1, c2, c3, c4, c5, c6, c7⟩ := h1.cells
  clear hst hB
  go_wp2_with fail
  refine (V2.out _).mono ?_
  rintro e w2 ⟨rfl, hB⟩
  have h2 := h1.call hB
  clear h1 hB c0 c1 c2 c3 c4 c5 c6 c7
  obtain ⟨c0, c1, c2, c3, c4, c5, c6, c7⟩ := h2.cells
  go_wp2_with fail
  refine (T1.out _).mono ?_
  rintro e w3 ⟨rfl, hB⟩
  have h3 := h2.call hB
  clear h2 hB c0 c1 c2 c3 c4 c5 c6 c7
  obtain ⟨c0, c1, c2, c3, c4, c5, c6, c7⟩ := h3.cells
  go_wp2_with fail
  refine (T2.out _).mono ?_
  rintro e w0 ⟨rfl, hB⟩
  have h4 := h3.call hB
  clear h3 hB c0 c1 c2 c3 c4 c5 c6 c7
  obtain ⟨c0, c1, c2, c3, c4, c5, c6, c7⟩ := h4.cells
  have g0 := h4.2.2.2.1
  have keep : ∀ W : World, Below w0.heap.size w0 W → (W.cell? ⟨w.heap.size, 0, none⟩ = some (.int .i64 an) ∧ W.cell? ⟨w.heap.size + 1, 0, none⟩ = some (.int .i64 bn)) ∧ Below w0.heap.size w0 W :=
    fun W hW => ⟨⟨(hW.cell (p := ⟨w.heap.size, 0, none⟩) (by show w.heap.size < w0.heap.size; omega)).trans c0, (hW.cell (p := ⟨w.heap.size + 1, 0, none⟩) (by show w.heap.size + 1 < w0.heap.size; omega)).trans c2⟩, hW⟩
  have Keep := Lib.hid keep
  have h00 := Below.refl w0.heap.size w0
  have h0d : Below w0.heap.size w0 w0.drew := h00.drew
  have H4 := Lib.hid h4
  clear keep h4 V1 V2 T1 T2 c1 c3 c4 c5 c6 c7
  go_upto_region 7 with fail
  go_cut [27] (fun s27 wx => s27 = .bool false ∧ w0 = wx)
  case first =>
    rcases HW.out with rfl | ⟨rfl, rfl⟩
    · go_wp2_with fail
      go_meet
      case rel => exact ⟨rfl, rfl⟩
    · go_wp2_with fail
      go_meet
      case rel => exact ⟨rfl, rfl⟩
  case rest =>
    obtain ⟨rfl, rfl⟩ := hcut
    go_upto_region 9 with fail
    go_cut [8] (fun s8 wx => ∃ g, s8 = .pointer (some ⟨g, 0, none⟩) ∧ NB wx g (limbs P) ∧ Below w0.heap.size w0 wx ∧ w0.heap.size ≤ g)
    case first =>
      go_region_held3 (fun w' => (w'.cell? ⟨w.heap.size, 0, none⟩ = some (.int .i64 an) ∧ w'.cell? ⟨w.heap.size + 1, 0, none⟩ = some (.int .i64 bn)) ∧ Below w0.heap.size w0 w') (((with_reducible refine Keep.out _ ?_); first | (with_reducible assumption) | (with_reducible refine below_put8 ?_ ?_ _ _ _ _ _ _ _ _ <;> with_reducible assumption) | ((with_reducible refine below_al ?_ _); first | with_reducible assumption | (with_reducible exact held2 (by with_reducible assumption))) | ((with_reducible refine Below.drew ?_); first | with_reducible assumption | ((with_reducible refine below_al ?_ _); first | with_reducible assumption | (with_reducible exact held2 (by with_reducible assumption))))))
        (first | (go_at_call 54; first | ((with_reducible refine (S1.out w0 _ (by first | with_reducible assumption | exact held2 (by with_reducible assumption))).mono ?_); rintro e w' ⟨rfl, hb, hB⟩; (first | (have hz : NB _ _ (limbs 0) := (by with_reducible exact nb_newd hB); obtain ⟨z0, z1, z2, z3, z4, z5, z6, z7⟩ := nb_zero hz; have hzf := hz.frozen; have hz := Lib.hid hz) | (have hz : NB _ _ (limbs 0) := (by with_reducible exact nb_new hB); obtain ⟨z0, z1, z2, z3, z4, z5, z6, z7⟩ := nb_zero hz; have hzf := hz.frozen; have hz := Lib.hid hz) | (have hz : NB _ _ (limbs 0) := (by with_reducible exact nb_hid hB (by with_reducible assumption)); obtain ⟨z0, z1, z2, z3, z4, z5, z6, z7⟩ := nb_zero hz; have hzf := hz.frozen; have hz := Lib.hid hz) | skip); clear hB) | ((with_reducible refine (S2.out w0 _ (by first | with_reducible assumption | exact held2 (by with_reducible assumption))).mono ?_); rintro e w' ⟨rfl, hb, hB⟩; (first | (have hz : NB _ _ (limbs 0) := (by with_reducible exact nb_newd hB); obtain ⟨z0, z1, z2, z3, z4, z5, z6, z7⟩ := nb_zero hz; have hzf := hz.frozen; have hz := Lib.hid hz) | (have hz : NB _ _ (limbs 0) := (by with_reducible exact nb_new hB); obtain ⟨z0, z1, z2, z3, z4, z5, z6, z7⟩ := nb_zero hz; have hzf := hz.frozen; have hz := Lib.hid hz) | (have hz : NB _ _ (limbs 0) := (by with_reducible exact nb_hid hB (by with_reducible assumption)); obtain ⟨z0, z1, z2, z3, z4, z5, z6, z7⟩ := nb_zero hz; have hzf := hz.frozen; have hz := Lib.hid hz) | skip); clear hB)) | (go_at_call 53; first | ((with_reducible refine (F1.out w0 _ (by first | with_reducible assumption | exact held2 (by with_reducible assumption))).mono ?_); rintro e w' ⟨rfl, hb, hB⟩; (first | (have hz : NB _ _ (limbs 0) := (by with_reducible exact nb_newd hB); obtain ⟨z0, z1, z2, z3, z4, z5, z6, z7⟩ := nb_zero hz; have hzf := hz.frozen; have hz := Lib.hid hz) | (have hz : NB _ _ (limbs 0) := (by with_reducible exact nb_new hB); obtain ⟨z0, z1, z2, z3, z4, z5, z6, z7⟩ := nb_zero hz; have hzf := hz.frozen; have hz := Lib.hid hz) | (have hz : NB _ _ (limbs 0) := (by with_reducible exact nb_hid hB (by with_reducible assumption)); obtain ⟨z0, z1, z2, z3, z4, z5, z6, z7⟩ := nb_zero hz; have hzf := hz.frozen; have hz := Lib.hid hz) | skip); clear hB) | ((with_reducible refine (F2.out w0 _ (by first | with_reducible assumption | exact held2 (by with_reducible assumption))).mono ?_); rintro e w' ⟨rfl, hb, hB⟩; (first | (have hz : NB _ _ (limbs 0) := (by with_reducible exact nb_newd hB); obtain ⟨z0, z1, z2, z3, z4, z5, z6, z7⟩ := nb_zero hz; have hzf := hz.frozen; have hz := Lib.hid hz) | (have hz : NB _ _ (limbs 0) := (by with_reducible exact nb_new hB); obtain ⟨z0, z1, z2, z3, z4, z5, z6, z7⟩ := nb_zero hz; have hzf := hz.frozen; have hz := Lib.hid hz) | (have hz : NB _ _ (limbs 0) := (by with_reducible exact nb_hid hB (by with_reducible assumption)); obtain ⟨z0, z1, z2, z3, z4, z5, z6, z7⟩ := nb_zero hz; have hzf := hz.frozen; have hz := Lib.hid hz) | skip); clear hB)) | (go_at_call 52; first | ((with_reducible refine (T3.out w0 _ (by first | with_reducible assumption | exact held2 (by with_reducible assumption))).mono ?_); rintro e w' ⟨rfl, hb, hB⟩; (first | (have hz : NB _ _ (limbs 0) := (by with_reducible exact nb_newd hB); obtain ⟨z0, z1, z2, z3, z4, z5, z6, z7⟩ := nb_zero hz; have hzf := hz.frozen; have hz := Lib.hid hz) | (have hz : NB _ _ (limbs 0) := (by with_reducible exact nb_new hB); obtain ⟨z0, z1, z2, z3, z4, z5, z6, z7⟩ := nb_zero hz; have hzf := hz.frozen; have hz := Lib.hid hz) | (have hz : NB _ _ (limbs 0) := (by with_reducible exact nb_hid hB (by with_reducible assumption)); obtain ⟨z0, z1, z2, z3, z4, z5, z6, z7⟩ := nb_zero hz; have hzf := hz.frozen; have hz := Lib.hid hz) | skip); clear hB)))
      all_goals
        go_wp2_with fail
        go_meet
        case rel => first | (with_reducible refine met_new HNP ?_; with_reducible assumption) | (with_reducible refine met_set HNP ?_ ?_ ?_ <;> with_reducible assumption)
    case rest =>
      obtain ⟨g, rfl, hg, hb0, hgn⟩ := hcut
      have h5 := H4.out.call hb0
      have e4 : ¬ g = w.heap.size + 1 + 1 := by omega
      have e5 : ¬ w.heap.size + 1 + 1 = g := by omega
      have e6 : ¬ w.heap.size = w.heap.size + 1 + 1 := by omega
      have e7 : ¬ w.heap.size + 1 + 1 = w.heap.size := by omega
      obtain ⟨w0, hw0⟩ : ∃ w0 : World, wc = w0 := ⟨_, rfl⟩
      rw [hw0] at h5 hg ⊢
      clear H4 Keep h00 h0d c0 c2 g0 HW hb0 hgn hw0
      have keep : ∀ W : World, Below w0.heap.size w0 W → W.cell? ⟨w.heap.size, 0, none⟩ = some (.int .i64 an) ∧ W.cell? ⟨w.heap.size, 1, none⟩ = some (.int .i64 AD) ∧ W.cell? ⟨w.heap.size + 1, 0, none⟩ = some (.int .i64 bn) ∧ W.cell? ⟨w.heap.size + 1, 1, none⟩ = some (.int .i64 BD) ∧ W.cell? ⟨g, 0, none⟩ = some (.int .u64 p0) ∧ W.cell? ⟨g, 1, none⟩ = some (.int .u64 p1) ∧ W.cell? ⟨g, 2, none⟩ = some (.int .u64 p2) ∧ W.cell? ⟨g, 3, none⟩ = some (.int .u64 p3) ∧ W.cell? ⟨g, 4, none⟩ = some (.int .u64 p4) ∧ W.cell? ⟨g, 5, none⟩ = some (.int .u64 p5) ∧ W.cell? ⟨g, 6, none⟩ = some (.int .u64 p6) ∧ W.cell? ⟨g, 7, none⟩ = some (.int .u64 p7) := fun W hW =>
        have k := (h5.call hW).cells
        ⟨k.1, k.2.1, k.2.2.1, k.2.2.2.1, nb_cells8 HNP (nb_keep hW hg)⟩
      have Keep4 := Lib.hid (fun (W : World) (hW : Below w0.heap.size w0 W) => (h5.call hW).cells.2.2.2.2)
      have h00 := Below.refl w0.heap.size w0
      have h0d : Below w0.heap.size w0 w0.drew := h00.drew
      obtain ⟨c0, c1, c2, c3, y0, y1, y2, y3, y4, y5, y6, y7⟩ := keep _ h00
      have Keep := Lib.hid keep
      have H5 := Lib.hid h5
      clear keep h5 hg
      go_wp2_with fail
      go_region_held3 (fun W => W.cell? ⟨w.heap.size, 0, none⟩ = some (.int .i64 an) ∧ W.cell? ⟨w.heap.size, 1, none⟩ = some (.int .i64 AD) ∧ W.cell? ⟨w.heap.size + 1, 0, none⟩ = some (.int .i64 bn) ∧ W.cell? ⟨w.heap.size + 1, 1, none⟩ = some (.int .i64 BD) ∧ W.cell? ⟨g, 0, none⟩ = some (.int .u64 p0) ∧ W.cell? ⟨g, 1, none⟩ = some (.int .u64 p1) ∧ W.cell? ⟨g, 2, none⟩ = some (.int .u64 p2) ∧ W.cell? ⟨g, 3, none⟩ = some (.int .u64 p3) ∧ W.cell? ⟨g, 4, none⟩ = some (.int .u64 p4) ∧ W.cell? ⟨g, 5, none⟩ = some (.int .u64 p5) ∧ W.cell? ⟨g, 6, none⟩ = some (.int .u64 p6) ∧ W.cell? ⟨g, 7, none⟩ = some (.int .u64 p7)) (first | exact Keep.out _ (by with_reducible assumption) | go_keep)
        (first | (go_at_call 53; first | ((with_reducible refine (F3.out w0 _ (by with_reducible assumption)).mono ?_); rintro e w' ⟨rfl, hb, -⟩; obtain ⟨c0, c1, c2, c3, y0, y1, y2, y3, y4, y5, y6, y7⟩ := Keep.out _ hb) | ((with_reducible refine (F4.out w0 _ (by with_reducible assumption)).mono ?_); rintro e w' ⟨rfl, hb, -⟩; obtain ⟨c0, c1, c2, c3, y0, y1, y2, y3, y4, y5, y6, y7⟩ := Keep.out _ hb)) | (go_at_call 52; first | ((with_reducible refine (T4.out w0 _ (by with_reducible assumption)).mono ?_); rintro e w' ⟨rfl, hb, -⟩; obtain ⟨c0, c1, c2, c3, y0, y1, y2, y3, y4, y5, y6, y7⟩ := Keep.out _ hb)) | (go_at_call 66; first | ((with_reducible refine (L1.out w0 _ (by with_reducible assumption)).mono ?_); rintro e w' ⟨rfl, hb, -⟩; obtain ⟨c0, c1, c2, c3, y0, y1, y2, y3, y4, y5, y6, y7⟩ := Keep.out _ hb; obtain ⟨c4, c5, c6, c7⟩ := Keep4.out _ hb)))
      all_goals
        go_wp2
        have h6 := H5.out.call (by with_reducible assumption : Below w0.heap.size w0 _)
        exact ret_frac (p := 4) (q := 5) (by kernel_rfl) rfl rfl (h6.put r1 r2).1 ⟨rfl, (h6.put r1 r2).2⟩

set_option maxRecDepth 100000 in
set_option maxHeartbeats 4000000 in
theorem rmul_any (an ad bn bd : Int) (w : World) (a0 : -9223372036854775808 ≤ an) (a1 : an ≤ 9223372036854775807) (a2 : -9223372036854775808 ≤ ad) (a3 : ad ≤ 9223372036854775807) (b0 : -9223372036854775808 ≤ bn) (b1 : bn ≤ 9223372036854775807) (b2 : -9223372036854775808 ≤ bd) (b3 : bd ≤ 9223372036854775807) :
    Calls Try.prog 46 #[.agg #[.int .i64 an, .int .i64 ad], .agg #[.int .i64 bn, .int .i64 bd]] w fun e w' => e = .returned (RV (mulR an ad bn bd)) ∧ Below w.heap.size w w' := by
  have hst := FS.start w an ad bn bd
  have V1 := fun W => rvalid_any an ad W a0 a1 a2 a3
  have V2 := fun W => rvalid_any bn bd W b0 b1 b2 b3
  by_cases hv : vP an ad ∧ vP bn bd
  · obtain ⟨hva, hvb⟩ := hv
    by_cases hs : shortB an ad = true ∧ shortB bn bd = true
    · have e1 : vB an ad = true := decide_eq_true hva
      have e2 : vB bn bd = true := decide_eq_true hvb
      have T1 := fun W => rshort_any an ad W a0 a1 a2 a3
      have T2 := fun W => rshort_any bn bd W b0 b1 b2 b3
      rw [e1] at V1
      rw [e2] at V2
      rw [hs.1] at T1
      rw [hs.2] at T2
      have HN := (show mulR an ad bn bd = prodR an ad bn bd by unfold mulR; rw [if_pos ⟨hva, hvb⟩]).trans (prod_short hva hvb)
      obtain ⟨k1, k2, k3, k4⟩ := short_bounds hva hvb hs.1 hs.2
      obtain ⟨p, hp⟩ : ∃ p, an * bn = p := ⟨_, rfl⟩
      obtain ⟨q, hq⟩ : ∃ q, ad * bd = q := ⟨_, rfl⟩
      rw [hp] at k1 k2
      rw [hq] at k3 k4
      rw [hp, hq, if_neg (by omega)] at HN
      rw [HN]
      have NW := fun W => rnew_any p q W (by omega) (by omega) (by omega) (by omega)
      obtain ⟨⟨r1, r2, r3⟩, hr⟩ : ∃ r, newR p q = r := ⟨_, rfl⟩
      rw [hr] at NW ⊢
      unfold RV at NW
      simp only at NW
      replace V1 := Lib.hid V1
      replace V2 := Lib.hid V2
      replace T1 := Lib.hid T1
      replace T2 := Lib.hid T2
      replace NW := Lib.hid NW
      have x1 : IntKind.i64.wrap (an * bn) = p := by rw [hp, IntKind.wrap_i64]; omega
      have x2 : IntKind.i64.wrap (ad * bd) = q := by rw [hq, IntKind.wrap_i64]; omega
      clear hva hvb hs e1 e2 HN hp hq hr a0 a1 a2 a3 b0 b1 b2 b3
      go_enter Try.func46, Try.ntmps46
      go_wp2_with fail
      refine (V1.out _).mono ?_
      rintro e w1 ⟨rfl, hB⟩
      have h1 := hst.call hB
      obtain ⟨c0, c1, c2, c3, c4, c5, c6, c7⟩ := h1.cells
      clear hst hB
      go_wp2_with fail
      refine (V2.out _).mono ?_
      rintro e w2 ⟨rfl, hB⟩
      have h2 := h1.call hB
      clear h1 hB c0 c1 c2 c3 c4 c5 c6 c7
      obtain ⟨c0, c1, c2, c3, c4, c5, c6, c7⟩ := h2.cells
      go_wp2_with fail
      refine (T1.out _).mono ?_
      rintro e w3 ⟨rfl, hB⟩
      have h3 := h2.call hB
      clear h2 hB c0 c1 c2 c3 c4 c5 c6 c7
      obtain ⟨c0, c1, c2, c3, c4, c5, c6, c7⟩ := h3.cells
      go_wp2_with fail
      refine (T2.out _).mono ?_
      rintro e w4 ⟨rfl, hB⟩
      have h4 := h3.call hB
      clear h3 hB c0 c1 c2 c3 c4 c5 c6 c7
      obtain ⟨c0, c1, c2, c3, c4, c5, c6, c7⟩ := h4.cells
      go_wp2_with fail
      refine (NW.out _).mono ?_
      rintro e w5 ⟨rfl, hB⟩
      have h5 := h4.call hB
      clear h4 hB c0 c1 c2 c3 c4 c5 c6 c7
      obtain ⟨c0, c1, c2, c3, c4, c5, c6, c7⟩ := h5.cells
      have H5 := Lib.hid h5
      clear h5
      go_wp2
      exact ret_frac (p := 4) (q := 5) (by kernel_rfl) rfl rfl (H5.out.put r1 r2).1 ⟨rfl, (H5.out.put r1 r2).2⟩
    · exact rmul_long an ad bn bd w a0 a1 a2 a3 b0 b1 b2 b3 hva hvb hs
  · have HM := Lib.hid (show mulR an ad bn bd = (0, 0, 1) by unfold mulR; rw [if_neg hv])
    have hway := valid_way an ad bn bd hv
    clear hv
    rcases hway with e1 | ⟨e1, e2⟩
    all_goals
      rw [e1] at V1
      try rw [e2] at V2
      replace V1 := Lib.hid V1
      replace V2 := Lib.hid V2
      go_enter Try.func46, Try.ntmps46
      go_wp2_with fail
      refine (V1.out _).mono ?_
      rintro e w1 ⟨rfl, hB⟩
      have h1 := hst.call hB
      obtain ⟨c0, c1, c2, c3, c4, c5, c6, c7⟩ := h1.cells
      clear hst hB
      go_wp2_with fail
      refine (V2.out _).mono ?_
      rintro e w2 ⟨rfl, hB⟩
      have h2 := h1.call hB
      clear h1 hB c0 c1 c2 c3 c4 c5 c6 c7
      obtain ⟨c0, c1, c2, c3, c4, c5, c6, c7⟩ := h2.cells
      have H2 := Lib.hid h2
      clear h2
      go_wp2
      exact ret_frac (p := 4) (q := 5) (by kernel_rfl) rfl rfl (H2.out.put 0 0).1 ⟨by rw [HM.out], (H2.out.put 0 0).2⟩
end Go.Proofs.Yteppamchbgnlfaa
