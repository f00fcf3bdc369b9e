/- The reference's Add and Sub. Conditions: numbers of 64 bits. -/
import Derived.Test.YteppamchbgnlfaaRefM
namespace Go.Proofs.Yteppamchbgnlfaa
open Go.RowKit

/-- A sum over the product of the denominators, by the sizes of the two products. -/
theorem sum_way {an bn : Int} {AD BD A B X Y D : Nat} (hA : an.natAbs = A) (hB : bn.natAbs = B) (hX : A * BD = X) (hY : B * AD = Y) (hD : AD * BD = D) :
    sumR an AD bn BD = if decide (an < 0) = decide (bn < 0) then lowR (decide (an < 0)) (X + Y) D else if X < Y then lowR (decide (bn < 0)) (Y - X) D else lowR (decide (an < 0)) (X - Y) D := by
  have h1 : an * (BD : Int) = if an < 0 then -(X : Int) else (X : Int) := by
    rw [← hX, ← hA]; push_cast; split
    · rw [show ((an.natAbs : Nat) : Int) = -an by omega, Int.neg_mul, Int.neg_neg]
    · rw [show ((an.natAbs : Nat) : Int) = an by omega]
  have h2 : bn * (AD : Int) = if bn < 0 then -(Y : Int) else (Y : Int) := by
    rw [← hY, ← hB]; push_cast; split
    · rw [show ((bn.natAbs : Nat) : Int) = -bn by omega, Int.neg_mul, Int.neg_neg]
    · rw [show ((bn.natAbs : Nat) : Int) = bn by omega]
  have h3 : ((AD : Int) * (BD : Int)).natAbs = D := by rw [Int.natAbs_mul]; exact hD
  unfold sumR
  rw [h1, h2, h3]
  have z : ∀ (s t : Bool) (N M : Nat), N = M → (N = 0 ∨ s = t) → lowR s N D = lowR t M D := fun s t N M h h' => by
    subst h
    rcases h' with rfl | rfl
    · exact lowR_zero _ _ _
    · rfl
  by_cases s1 : an < 0 <;> by_cases s2 : bn < 0 <;> simp only [s1, s2, decide_true, decide_false, if_true, if_false]
  · exact z _ _ _ _ (by omega) (by rcases Nat.eq_zero_or_pos (X + Y) with h | h; exact .inl (by omega); exact .inr (decide_eq_true (by omega)))
  · rw [if_neg (by simp)]
    split
    · exact z _ _ _ _ (by omega) (.inr (decide_eq_false (by omega)))
    · exact z _ _ _ _ (by omega) (by rcases Nat.eq_zero_or_pos (X - Y) with h | h; exact .inl (by omega); exact .inr (decide_eq_true (by omega)))
  · rw [if_neg (by simp)]
    split
    · exact z _ _ _ _ (by omega) (.inr (decide_eq_true (by omega)))
    · exact z _ _ _ _ (by omega) (.inr (decide_eq_false (by omega)))
  · exact z _ _ _ _ (by omega) (.inr (decide_eq_false (by omega)))
theorem and_cells {a b0 b1 b2 b3 b4 b5 b6 b7 c0 c1 c2 c3 c4 c5 c6 c7 : Prop} {d : Prop} (h : a) (hb : b0 ∧ b1 ∧ b2 ∧ b3 ∧ b4 ∧ b5 ∧ b6 ∧ b7) (hc : c0 ∧ c1 ∧ c2 ∧ c3 ∧ c4 ∧ c5 ∧ c6 ∧ c7) (hd : d) :
    a ∧ b0 ∧ b1 ∧ b2 ∧ b3 ∧ b4 ∧ b5 ∧ b6 ∧ b7 ∧ c0 ∧ c1 ∧ c2 ∧ c3 ∧ c4 ∧ c5 ∧ c6 ∧ c7 ∧ d := by
  obtain ⟨h0, h1, h2, h3, h4, h5, h6, h7⟩ := hb
  obtain ⟨k0, k1, k2, k3, k4, k5, k6, k7⟩ := hc
  exact ⟨h, h0, h1, h2, h3, h4, h5, h6, h7, k0, k1, k2, k3, k4, k5, k6, k7, hd⟩

set_option maxRecDepth 100000 in
set_option maxHeartbeats 16000000 in
theorem radd_long (an ad bn bd : Int) (w : World) (a0 : -9223372036854775808 ≤ an) (a1 : an ≤ 9223372036854775807) (a2 : -9223372036854775808 ≤ ad) (a3 : ad ≤ 9223372036854775807) (b0 : -9223372036854775808 ≤ bn) (b1 : bn ≤ 9223372036854775807) (b2 : -9223372036854775808 ≤ bd) (b3 : bd ≤ 9223372036854775807) (hva : vP an ad) (hvb : vP bn bd) (hs : ¬ (shortB an ad = true ∧ shortB bn bd = true)) :
    Calls Try.prog 47 #[.agg #[.int .i64 an, .int .i64 ad], .agg #[.int .i64 bn, .int .i64 bd]] w fun e w' => e = .returned (RV (addR an ad bn bd)) ∧ Below w.heap.size w w' := by
  have hst := FS.start w an ad bn bd
  have V1 := fun W => rvalid_any an ad W a0 a1 a2 a3
  have V2 := fun W => rvalid_any bn bd W b0 b1 b2 b3
  have v1 := hva.1
  have v2 := hva.2.1
  have v3 := hvb.1
  have v4 := hvb.2.1
  have v5 := hva.2.2.1
  have v6 := hva.2.2.2.1
  have v7 := hvb.2.2.1
  have v8 := hvb.2.2.2.1
  have e1 : vB an ad = true := decide_eq_true hva
  have e2 : vB bn bd = true := decide_eq_true hvb
  rw [e1] at V1
  rw [e2] at V2
  replace V1 := Lib.hid V1
  replace V2 := Lib.hid V2
  clear e1 e2
  obtain ⟨AD, rfl⟩ := Int.eq_ofNat_of_zero_le (show 0 ≤ ad by omega)
  obtain ⟨BD, rfl⟩ := Int.eq_ofNat_of_zero_le (show 0 ≤ bd by omega)
  have T1 := fun W => rshort_any an AD W a0 a1 a2 a3
  have T2 := fun W => rshort_any bn BD W b0 b1 b2 b3
  have S1 := fun (w0 W : World) (hW : Below w0.heap.size w0 W) => rsize_from w0 W hW an a0 a1
  have S2 := fun (w0 W : World) (hW : Below w0.heap.size w0 W) => rsize_from w0 W hW bn b0 b1
  have hway : shortB an AD = false ∨ (shortB an AD = true ∧ shortB bn BD = false) := by
    cases h : shortB an AD
    · exact .inl rfl
    · exact .inr ⟨rfl, by simpa [h] using hs⟩
  generalize shortB an AD = t1 at T1 hway
  generalize shortB bn BD = t2 at T2 hway
  replace T1 := Lib.hid T1
  replace T2 := Lib.hid T2
  have HW := Lib.hid hway
  clear hway hs
  obtain ⟨A, hA⟩ : ∃ A, an.natAbs = A := ⟨_, rfl⟩
  obtain ⟨B, hB⟩ : ∃ B, bn.natAbs = B := ⟨_, rfl⟩
  rw [hA] at S1
  rw [hB] at S2
  have F1 := fun (w0 W : World) (hW : Below w0.heap.size w0 W) => nfrom_from w0 W hW A (by omega)
  have F2 := fun (w0 W : World) (hW : Below w0.heap.size w0 W) => nfrom_from w0 W hW B (by omega)
  have F3 := fun (w0 W : World) (hW : Below w0.heap.size w0 W) => nfrom_from w0 W hW AD (by omega)
  have F4 := fun (w0 W : World) (hW : Below w0.heap.size w0 W) => nfrom_from w0 W hW BD (by omega)
  have m1 : A * BD ≤ 4611686018427387904 * 4611686018427387904 := Nat.mul_le_mul (by omega) (by omega)
  have m2 : B * AD ≤ 4611686018427387904 * 4611686018427387904 := Nat.mul_le_mul (by omega) (by omega)
  have m3 : AD * BD ≤ 4611686018427387904 * 4611686018427387904 := Nat.mul_le_mul (by omega) (by omega)
  have m4 : 0 < AD * BD := Nat.mul_pos (by omega) (by omega)
  have TX := fun (w0 W : World) (hW : Below w0.heap.size w0 W) => ntimes_from w0 W hW A BD (by unfold W8; omega) (by unfold W8; omega) (by unfold W8; omega)
  have TY := fun (w0 W : World) (hW : Below w0.heap.size w0 W) => ntimes_from w0 W hW B AD (by unfold W8; omega) (by unfold W8; omega) (by unfold W8; omega)
  have TD := fun (w0 W : World) (hW : Below w0.heap.size w0 W) => ntimes_from w0 W hW AD BD (by unfold W8; omega) (by unfold W8; omega) (by unfold W8; omega)
  obtain ⟨X, hX⟩ : ∃ X, A * BD = X := ⟨_, rfl⟩
  obtain ⟨Y, hY⟩ : ∃ Y, B * AD = Y := ⟨_, rfl⟩
  obtain ⟨D, hD⟩ : ∃ D, AD * BD = D := ⟨_, rfl⟩
  have hsum : addR an (AD : Int) bn (BD : Int) = _ := (show addR an (AD : Int) bn (BD : Int) = sumR an AD bn BD by unfold addR; rw [if_pos ⟨hva, hvb⟩]).trans (sum_way hA hB hX hY hD)
  rw [hX] at TX m1
  rw [hY] at TY m2
  rw [hD] at TD m3 m4
  obtain ⟨p0, p1, p2, p3, p4, p5, p6, p7, hNX⟩ := nv_letters X
  obtain ⟨q0, q1, q2, q3, q4, q5, q6, q7, hNY⟩ := nv_letters Y
  obtain ⟨d0, d1, d2, d3, d4, d5, d6, d7, hND⟩ := nv_letters D
  rw [hNX] at TX
  rw [hNY] at TY
  rw [hND] at TD
  obtain ⟨sa, hsa⟩ : ∃ b, decide (an < 0) = b := ⟨_, rfl⟩
  obtain ⟨sb, hsb⟩ : ∃ b, decide (bn < 0) = b := ⟨_, rfl⟩
  rw [hsa, hsb] at hsum
  obtain ⟨⟨r1, r2, r3⟩, hr⟩ : ∃ r, addR an (AD : Int) bn (BD : Int) = r := ⟨_, rfl⟩
  rw [hr] at hsum ⊢
  clear hr
  have HSUM := Lib.hid hsum
  have HNX := Lib.hid hNX
  have HNY := Lib.hid hNY
  have HND := Lib.hid hND
  have M1 := Lib.hid m1
  have M2 := Lib.hid m2
  have M3 := Lib.hid m3
  have M4 := Lib.hid m4
  have x1 : IntKind.u64.wrap ((AD : Nat) : Int) = (AD : Int) := by rw [IntKind.wrap_u64]; omega
  have x2 : IntKind.u64.wrap ((BD : Nat) : Int) = (BD : Int) := by rw [IntKind.wrap_u64]; omega
  replace S1 := Lib.hid S1
  replace S2 := Lib.hid S2
  replace F1 := Lib.hid F1
  replace F2 := Lib.hid F2
  replace F3 := Lib.hid F3
  replace F4 := Lib.hid F4
  replace TX := Lib.hid TX
  replace TY := Lib.hid TY
  replace TD := Lib.hid TD
  clear hva hvb a0 a1 a2 a3 b0 b1 b2 b3 hA hB m1 m2 m3 m4 hX hY hD hNX hNY hND hsum
  go_enter Try.func47, Try.ntmps47
  go_wp2_with fail
  refine (V1.out _).mono ?_
  rintro e w1 ⟨rfl, hB⟩
  have h1 := hst.call hB
  obtain ⟨c0, c1, c2, c3, c4, c5, c6, c7⟩ := h1.cells
  clear hst hB
  go_wp2_with fail
  refine (V2.out _).mono ?_
  rintro e w2 ⟨rfl, hB⟩
  have h2 := h1.call hB
  clear h1 hB c0 c1 c2 c3 c4 c5 c6 c7
  obtain ⟨c0, c1, c2, c3, c4, c5, c6, c7⟩ := h2.cells
  go_wp2_with fail
  refine (T1.out _).mono ?_
  rintro e w3 ⟨rfl, hB⟩
  have h3 := h2.call hB
  clear h2 hB c0 c1 c2 c3 c4 c5 c6 c7
  obtain ⟨c0, c1, c2, c3, c4, c5, c6, c7⟩ := h3.cells
  go_wp2_with fail
  refine (T2.out _).mono ?_
  rintro e w0 ⟨rfl, hB⟩
  have h4 := h3.call hB
  clear h3 hB c0 c1 c2 c3 c4 c5 c6 c7
  obtain ⟨c0, c1, c2, c3, -, -, -, -⟩ := h4.cells
  have g0 := h4.2.2.2.1
  have H4 := Lib.hid h4
  clear h4 V1 V2 T1 T2
  go_upto_region 7 with fail
  go_cut [29] (fun s wx => s = .bool false ∧ w0 = wx)
  case first =>
    rcases HW.out with rfl | ⟨rfl, rfl⟩
    · go_wp2_with fail
      go_meet
      case rel => exact ⟨rfl, rfl⟩
    · go_wp2_with fail
      go_meet
      case rel => exact ⟨rfl, rfl⟩
  case rest =>
    obtain ⟨rfl, rfl⟩ := hcut
    clear HW
    go_upto_region 9 with fail
    have keep : ∀ W : World, Below w0.heap.size w0 W → (W.cell? ⟨w.heap.size, 0, none⟩ = some (.int .i64 an) ∧ W.cell? ⟨w.heap.size + 1, 1, none⟩ = some (.int .i64 BD)) ∧ Below w0.heap.size w0 W :=
      fun W hW => ⟨⟨(hW.cell (p := ⟨w.heap.size, 0, none⟩) (by show w.heap.size < w0.heap.size; omega)).trans c0, (hW.cell (p := ⟨w.heap.size + 1, 1, none⟩) (by show w.heap.size + 1 < w0.heap.size; omega)).trans c3⟩, hW⟩
    have Keep := Lib.hid keep
    have h00 := Below.refl w0.heap.size w0
    have h0d : Below w0.heap.size w0 w0.drew := h00.drew
    clear keep c0 c1 c2 c3
    go_cut [8] (fun s wx => ∃ g, s = .pointer (some ⟨g, 0, none⟩) ∧ NB wx g (limbs X) ∧ Below w0.heap.size w0 wx ∧ w0.heap.size ≤ g)
    case first =>
      go_region_held3 (fun w' => (w'.cell? ⟨w.heap.size, 0, none⟩ = some (.int .i64 an) ∧ w'.cell? ⟨w.heap.size + 1, 1, none⟩ = some (.int .i64 BD)) ∧ Below w0.heap.size w0 w') (((with_reducible refine Keep.out _ ?_); first | (with_reducible assumption) | (with_reducible refine below_put8 ?_ ?_ _ _ _ _ _ _ _ _ <;> with_reducible assumption) | ((with_reducible refine below_al ?_ _); first | with_reducible assumption | (with_reducible exact held2 (by with_reducible assumption))) | ((with_reducible refine Below.drew ?_); first | with_reducible assumption | ((with_reducible refine below_al ?_ _); first | with_reducible assumption | (with_reducible exact held2 (by with_reducible assumption))))))
        (first | (go_at_call 54; first | ((with_reducible refine (S1.out w0 _ (by first | with_reducible assumption | exact held2 (by with_reducible assumption))).mono ?_); rintro e w' ⟨rfl, hb, hB⟩; (first | (have hz : NB _ _ (limbs 0) := (by with_reducible exact nb_newd hB); obtain ⟨z0, z1, z2, z3, z4, z5, z6, z7⟩ := nb_zero hz; have hzf := hz.frozen; have hz := Lib.hid hz) | (have hz : NB _ _ (limbs 0) := (by with_reducible exact nb_new hB); obtain ⟨z0, z1, z2, z3, z4, z5, z6, z7⟩ := nb_zero hz; have hzf := hz.frozen; have hz := Lib.hid hz) | (have hz : NB _ _ (limbs 0) := (by with_reducible exact nb_hid hB (by with_reducible assumption)); obtain ⟨z0, z1, z2, z3, z4, z5, z6, z7⟩ := nb_zero hz; have hzf := hz.frozen; have hz := Lib.hid hz) | skip); clear hB) | ((with_reducible refine (S2.out w0 _ (by first | with_reducible assumption | exact held2 (by with_reducible assumption))).mono ?_); rintro e w' ⟨rfl, hb, hB⟩; (first | (have hz : NB _ _ (limbs 0) := (by with_reducible exact nb_newd hB); obtain ⟨z0, z1, z2, z3, z4, z5, z6, z7⟩ := nb_zero hz; have hzf := hz.frozen; have hz := Lib.hid hz) | (have hz : NB _ _ (limbs 0) := (by with_reducible exact nb_new hB); obtain ⟨z0, z1, z2, z3, z4, z5, z6, z7⟩ := nb_zero hz; have hzf := hz.frozen; have hz := Lib.hid hz) | (have hz : NB _ _ (limbs 0) := (by with_reducible exact nb_hid hB (by with_reducible assumption)); obtain ⟨z0, z1, z2, z3, z4, z5, z6, z7⟩ := nb_zero hz; have hzf := hz.frozen; have hz := Lib.hid hz) | skip); clear hB)) | (go_at_call 53; first | ((with_reducible refine (F1.out w0 _ (by first | with_reducible assumption | exact held2 (by with_reducible assumption))).mono ?_); rintro e w' ⟨rfl, hb, hB⟩; (first | (have hz : NB _ _ (limbs 0) := (by with_reducible exact nb_newd hB); obtain ⟨z0, z1, z2, z3, z4, z5, z6, z7⟩ := nb_zero hz; have hzf := hz.frozen; have hz := Lib.hid hz) | (have hz : NB _ _ (limbs 0) := (by with_reducible exact nb_new hB); obtain ⟨z0, z1, z2, z3, z4, z5, z6, z7⟩ := nb_zero hz; have hzf := hz.frozen; have hz := Lib.hid hz) | (have hz : NB _ _ (limbs 0) := (by with_reducible exact nb_hid hB (by with_reducible assumption)); obtain ⟨z0, z1, z2, z3, z4, z5, z6, z7⟩ := nb_zero hz; have hzf := hz.frozen; have hz := Lib.hid hz) | skip); clear hB) | ((with_reducible refine (F4.out w0 _ (by first | with_reducible assumption | exact held2 (by with_reducible assumption))).mono ?_); rintro e w' ⟨rfl, hb, hB⟩; (first | (have hz : NB _ _ (limbs 0) := (by with_reducible exact nb_newd hB); obtain ⟨z0, z1, z2, z3, z4, z5, z6, z7⟩ := nb_zero hz; have hzf := hz.frozen; have hz := Lib.hid hz) | (have hz : NB _ _ (limbs 0) := (by with_reducible exact nb_new hB); obtain ⟨z0, z1, z2, z3, z4, z5, z6, z7⟩ := nb_zero hz; have hzf := hz.frozen; have hz := Lib.hid hz) | (have hz : NB _ _ (limbs 0) := (by with_reducible exact nb_hid hB (by with_reducible assumption)); obtain ⟨z0, z1, z2, z3, z4, z5, z6, z7⟩ := nb_zero hz; have hzf := hz.frozen; have hz := Lib.hid hz) | skip); clear hB) | ((with_reducible refine (F2.out w0 _ (by first | with_reducible assumption | exact held2 (by with_reducible assumption))).mono ?_); rintro e w' ⟨rfl, hb, hB⟩; (first | (have hz : NB _ _ (limbs 0) := (by with_reducible exact nb_newd hB); obtain ⟨z0, z1, z2, z3, z4, z5, z6, z7⟩ := nb_zero hz; have hzf := hz.frozen; have hz := Lib.hid hz) | (have hz : NB _ _ (limbs 0) := (by with_reducible exact nb_new hB); obtain ⟨z0, z1, z2, z3, z4, z5, z6, z7⟩ := nb_zero hz; have hzf := hz.frozen; have hz := Lib.hid hz) | (have hz : NB _ _ (limbs 0) := (by with_reducible exact nb_hid hB (by with_reducible assumption)); obtain ⟨z0, z1, z2, z3, z4, z5, z6, z7⟩ := nb_zero hz; have hzf := hz.frozen; have hz := Lib.hid hz) | skip); clear hB) | ((with_reducible refine (F3.out w0 _ (by first | with_reducible assumption | exact held2 (by with_reducible assumption))).mono ?_); rintro e w' ⟨rfl, hb, hB⟩; (first | (have hz : NB _ _ (limbs 0) := (by with_reducible exact nb_newd hB); obtain ⟨z0, z1, z2, z3, z4, z5, z6, z7⟩ := nb_zero hz; have hzf := hz.frozen; have hz := Lib.hid hz) | (have hz : NB _ _ (limbs 0) := (by with_reducible exact nb_new hB); obtain ⟨z0, z1, z2, z3, z4, z5, z6, z7⟩ := nb_zero hz; have hzf := hz.frozen; have hz := Lib.hid hz) | (have hz : NB _ _ (limbs 0) := (by with_reducible exact nb_hid hB (by with_reducible assumption)); obtain ⟨z0, z1, z2, z3, z4, z5, z6, z7⟩ := nb_zero hz; have hzf := hz.frozen; have hz := Lib.hid hz) | skip); clear hB)) | (go_at_call 52; first | ((with_reducible refine (TX.out w0 _ (by first | with_reducible assumption | exact held2 (by with_reducible assumption))).mono ?_); rintro e w' ⟨rfl, hb, hB⟩; (first | (have hz : NB _ _ (limbs 0) := (by with_reducible exact nb_newd hB); obtain ⟨z0, z1, z2, z3, z4, z5, z6, z7⟩ := nb_zero hz; have hzf := hz.frozen; have hz := Lib.hid hz) | (have hz : NB _ _ (limbs 0) := (by with_reducible exact nb_new hB); obtain ⟨z0, z1, z2, z3, z4, z5, z6, z7⟩ := nb_zero hz; have hzf := hz.frozen; have hz := Lib.hid hz) | (have hz : NB _ _ (limbs 0) := (by with_reducible exact nb_hid hB (by with_reducible assumption)); obtain ⟨z0, z1, z2, z3, z4, z5, z6, z7⟩ := nb_zero hz; have hzf := hz.frozen; have hz := Lib.hid hz) | skip); clear hB)))
      all_goals
        go_wp2_with fail
        go_meet
        case rel => first | (with_reducible refine met_new HNX ?_; with_reducible assumption) | (with_reducible refine met_set HNX ?_ ?_ ?_ <;> with_reducible assumption)
    case rest =>
      obtain ⟨gx, rfl, hgx, hb0, gxn⟩ := hcut
      have h5 := H4.out.call hb0
      have gxw : w.heap.size + 1 + 1 < gx := by omega
      clear H4 Keep h00 h0d g0 hb0 gxn
      obtain ⟨w0, hw0⟩ : ∃ w0 : World, wc = w0 := ⟨_, rfl⟩
      rw [hw0] at h5 hgx ⊢
      clear hw0
      have g0 := h5.2.2.2.1
      obtain ⟨c0, c1, c2, c3, -, -, -, -⟩ := h5.cells
      have H4 := Lib.hid h5
      clear h5
      go_upto_region 10 with fail
      have keep : ∀ W : World, Below w0.heap.size w0 W → (W.cell? ⟨w.heap.size + 1, 0, none⟩ = some (.int .i64 bn) ∧ W.cell? ⟨w.heap.size, 1, none⟩ = some (.int .i64 AD)) ∧ Below w0.heap.size w0 W :=
        fun W hW => ⟨⟨(hW.cell (p := ⟨w.heap.size + 1, 0, none⟩) (by show w.heap.size + 1 < w0.heap.size; omega)).trans c2, (hW.cell (p := ⟨w.heap.size, 1, none⟩) (by show w.heap.size < w0.heap.size; omega)).trans c1⟩, hW⟩
      have Keep := Lib.hid keep
      have h00 := Below.refl w0.heap.size w0
      have h0d : Below w0.heap.size w0 w0.drew := h00.drew
      clear keep c0 c1 c2 c3
      go_cut [9] (fun s wx => ∃ g, s = .pointer (some ⟨g, 0, none⟩) ∧ NB wx g (limbs Y) ∧ Below w0.heap.size w0 wx ∧ w0.heap.size ≤ g)
      case first =>
        go_region_held3 (fun w' => (w'.cell? ⟨w.heap.size + 1, 0, none⟩ = some (.int .i64 bn) ∧ w'.cell? ⟨w.heap.size, 1, none⟩ = some (.int .i64 AD)) ∧ Below w0.heap.size w0 w') (((with_reducible refine Keep.out _ ?_); first | (with_reducible assumption) | (with_reducible refine below_put8 ?_ ?_ _ _ _ _ _ _ _ _ <;> with_reducible assumption) | ((with_reducible refine below_al ?_ _); first | with_reducible assumption | (with_reducible exact held2 (by with_reducible assumption))) | ((with_reducible refine Below.drew ?_); first | with_reducible assumption | ((with_reducible refine below_al ?_ _); first | with_reducible assumption | (with_reducible exact held2 (by with_reducible assumption))))))
          (first | (go_at_call 54; first | ((with_reducible refine (S2.out w0 _ (by first | with_reducible assumption | exact held2 (by with_reducible assumption))).mono ?_); rintro e w' ⟨rfl, hb, hB⟩; (first | (have hz : NB _ _ (limbs 0) := (by with_reducible exact nb_newd hB); obtain ⟨z0, z1, z2, z3, z4, z5, z6, z7⟩ := nb_zero hz; have hzf := hz.frozen; have hz := Lib.hid hz) | (have hz : NB _ _ (limbs 0) := (by with_reducible exact nb_new hB); obtain ⟨z0, z1, z2, z3, z4, z5, z6, z7⟩ := nb_zero hz; have hzf := hz.frozen; have hz := Lib.hid hz) | (have hz : NB _ _ (limbs 0) := (by with_reducible exact nb_hid hB (by with_reducible assumption)); obtain ⟨z0, z1, z2, z3, z4, z5, z6, z7⟩ := nb_zero hz; have hzf := hz.frozen; have hz := Lib.hid hz) | skip); clear hB) | ((with_reducible refine (S1.out w0 _ (by first | with_reducible assumption | exact held2 (by with_reducible assumption))).mono ?_); rintro e w' ⟨rfl, hb, hB⟩; (first | (have hz : NB _ _ (limbs 0) := (by with_reducible exact nb_newd hB); obtain ⟨z0, z1, z2, z3, z4, z5, z6, z7⟩ := nb_zero hz; have hzf := hz.frozen; have hz := Lib.hid hz) | (have hz : NB _ _ (limbs 0) := (by with_reducible exact nb_new hB); obtain ⟨z0, z1, z2, z3, z4, z5, z6, z7⟩ := nb_zero hz; have hzf := hz.frozen; have hz := Lib.hid hz) | (have hz : NB _ _ (limbs 0) := (by with_reducible exact nb_hid hB (by with_reducible assumption)); obtain ⟨z0, z1, z2, z3, z4, z5, z6, z7⟩ := nb_zero hz; have hzf := hz.frozen; have hz := Lib.hid hz) | skip); clear hB)) | (go_at_call 53; first | ((with_reducible refine (F2.out w0 _ (by first | with_reducible assumption | exact held2 (by with_reducible assumption))).mono ?_); rintro e w' ⟨rfl, hb, hB⟩; (first | (have hz : NB _ _ (limbs 0) := (by with_reducible exact nb_newd hB); obtain ⟨z0, z1, z2, z3, z4, z5, z6, z7⟩ := nb_zero hz; have hzf := hz.frozen; have hz := Lib.hid hz) | (have hz : NB _ _ (limbs 0) := (by with_reducible exact nb_new hB); obtain ⟨z0, z1, z2, z3, z4, z5, z6, z7⟩ := nb_zero hz; have hzf := hz.frozen; have hz := Lib.hid hz) | (have hz : NB _ _ (limbs 0) := (by with_reducible exact nb_hid hB (by with_reducible assumption)); obtain ⟨z0, z1, z2, z3, z4, z5, z6, z7⟩ := nb_zero hz; have hzf := hz.frozen; have hz := Lib.hid hz) | skip); clear hB) | ((with_reducible refine (F3.out w0 _ (by first | with_reducible assumption | exact held2 (by with_reducible assumption))).mono ?_); rintro e w' ⟨rfl, hb, hB⟩; (first | (have hz : NB _ _ (limbs 0) := (by with_reducible exact nb_newd hB); obtain ⟨z0, z1, z2, z3, z4, z5, z6, z7⟩ := nb_zero hz; have hzf := hz.frozen; have hz := Lib.hid hz) | (have hz : NB _ _ (limbs 0) := (by with_reducible exact nb_new hB); obtain ⟨z0, z1, z2, z3, z4, z5, z6, z7⟩ := nb_zero hz; have hzf := hz.frozen; have hz := Lib.hid hz) | (have hz : NB _ _ (limbs 0) := (by with_reducible exact nb_hid hB (by with_reducible assumption)); obtain ⟨z0, z1, z2, z3, z4, z5, z6, z7⟩ := nb_zero hz; have hzf := hz.frozen; have hz := Lib.hid hz) | skip); clear hB) | ((with_reducible refine (F1.out w0 _ (by first | with_reducible assumption | exact held2 (by with_reducible assumption))).mono ?_); rintro e w' ⟨rfl, hb, hB⟩; (first | (have hz : NB _ _ (limbs 0) := (by with_reducible exact nb_newd hB); obtain ⟨z0, z1, z2, z3, z4, z5, z6, z7⟩ := nb_zero hz; have hzf := hz.frozen; have hz := Lib.hid hz) | (have hz : NB _ _ (limbs 0) := (by with_reducible exact nb_new hB); obtain ⟨z0, z1, z2, z3, z4, z5, z6, z7⟩ := nb_zero hz; have hzf := hz.frozen; have hz := Lib.hid hz) | (have hz : NB _ _ (limbs 0) := (by with_reducible exact nb_hid hB (by with_reducible assumption)); obtain ⟨z0, z1, z2, z3, z4, z5, z6, z7⟩ := nb_zero hz; have hzf := hz.frozen; have hz := Lib.hid hz) | skip); clear hB) | ((with_reducible refine (F4.out w0 _ (by first | with_reducible assumption | exact held2 (by with_reducible assumption))).mono ?_); rintro e w' ⟨rfl, hb, hB⟩; (first | (have hz : NB _ _ (limbs 0) := (by with_reducible exact nb_newd hB); obtain ⟨z0, z1, z2, z3, z4, z5, z6, z7⟩ := nb_zero hz; have hzf := hz.frozen; have hz := Lib.hid hz) | (have hz : NB _ _ (limbs 0) := (by with_reducible exact nb_new hB); obtain ⟨z0, z1, z2, z3, z4, z5, z6, z7⟩ := nb_zero hz; have hzf := hz.frozen; have hz := Lib.hid hz) | (have hz : NB _ _ (limbs 0) := (by with_reducible exact nb_hid hB (by with_reducible assumption)); obtain ⟨z0, z1, z2, z3, z4, z5, z6, z7⟩ := nb_zero hz; have hzf := hz.frozen; have hz := Lib.hid hz) | skip); clear hB)) | (go_at_call 52; first | ((with_reducible refine (TY.out w0 _ (by first | with_reducible assumption | exact held2 (by with_reducible assumption))).mono ?_); rintro e w' ⟨rfl, hb, hB⟩; (first | (have hz : NB _ _ (limbs 0) := (by with_reducible exact nb_newd hB); obtain ⟨z0, z1, z2, z3, z4, z5, z6, z7⟩ := nb_zero hz; have hzf := hz.frozen; have hz := Lib.hid hz) | (have hz : NB _ _ (limbs 0) := (by with_reducible exact nb_new hB); obtain ⟨z0, z1, z2, z3, z4, z5, z6, z7⟩ := nb_zero hz; have hzf := hz.frozen; have hz := Lib.hid hz) | (have hz : NB _ _ (limbs 0) := (by with_reducible exact nb_hid hB (by with_reducible assumption)); obtain ⟨z0, z1, z2, z3, z4, z5, z6, z7⟩ := nb_zero hz; have hzf := hz.frozen; have hz := Lib.hid hz) | skip); clear hB)))
        all_goals
          go_wp2_with fail
          go_meet
          case rel => first | (with_reducible refine met_new HNY ?_; with_reducible assumption) | (with_reducible refine met_set HNY ?_ ?_ ?_ <;> with_reducible assumption)
      case rest =>
        obtain ⟨gy, rfl, hgy, hb0, gyn⟩ := hcut
        have h5 := H4.out.call hb0
        replace hgx := nb_keep hb0 hgx
        have gyw : w.heap.size + 1 + 1 < gy := by omega
        clear H4 Keep h00 h0d g0 hb0 gyn
        obtain ⟨w0, hw0⟩ : ∃ w0 : World, wc = w0 := ⟨_, rfl⟩
        rw [hw0] at h5 hgy hgx ⊢
        clear hw0
        have g0 := h5.2.2.2.1
        obtain ⟨c0, c1, c2, c3, -, -, -, -⟩ := h5.cells
        have H4 := Lib.hid h5
        clear h5
        go_upto_region 11 with fail
        have keep : ∀ W : World, Below w0.heap.size w0 W → (W.cell? ⟨w.heap.size, 1, none⟩ = some (.int .i64 AD) ∧ W.cell? ⟨w.heap.size + 1, 1, none⟩ = some (.int .i64 BD)) ∧ Below w0.heap.size w0 W :=
          fun W hW => ⟨⟨(hW.cell (p := ⟨w.heap.size, 1, none⟩) (by show w.heap.size < w0.heap.size; omega)).trans c1, (hW.cell (p := ⟨w.heap.size + 1, 1, none⟩) (by show w.heap.size + 1 < w0.heap.size; omega)).trans c3⟩, hW⟩
        have Keep := Lib.hid keep
        have h00 := Below.refl w0.heap.size w0
        have h0d : Below w0.heap.size w0 w0.drew := h00.drew
        clear keep c0 c1 c2 c3
        go_cut [10] (fun s wx => ∃ g, s = .pointer (some ⟨g, 0, none⟩) ∧ NB wx g (limbs D) ∧ Below w0.heap.size w0 wx ∧ w0.heap.size ≤ g)
        case first =>
          go_region_held3 (fun w' => (w'.cell? ⟨w.heap.size, 1, none⟩ = some (.int .i64 AD) ∧ w'.cell? ⟨w.heap.size + 1, 1, none⟩ = some (.int .i64 BD)) ∧ Below w0.heap.size w0 w') (((with_reducible refine Keep.out _ ?_); first | (with_reducible assumption) | (with_reducible refine below_put8 ?_ ?_ _ _ _ _ _ _ _ _ <;> with_reducible assumption) | ((with_reducible refine below_al ?_ _); first | with_reducible assumption | (with_reducible exact held2 (by with_reducible assumption))) | ((with_reducible refine Below.drew ?_); first | with_reducible assumption | ((with_reducible refine below_al ?_ _); first | with_reducible assumption | (with_reducible exact held2 (by with_reducible assumption))))))
            (first | (go_at_call 54; first | ((with_reducible refine (S1.out w0 _ (by first | with_reducible assumption | exact held2 (by with_reducible assumption))).mono ?_); rintro e w' ⟨rfl, hb, hB⟩; (first | (have hz : NB _ _ (limbs 0) := (by with_reducible exact nb_newd hB); obtain ⟨z0, z1, z2, z3, z4, z5, z6, z7⟩ := nb_zero hz; have hzf := hz.frozen; have hz := Lib.hid hz) | (have hz : NB _ _ (limbs 0) := (by with_reducible exact nb_new hB); obtain ⟨z0, z1, z2, z3, z4, z5, z6, z7⟩ := nb_zero hz; have hzf := hz.frozen; have hz := Lib.hid hz) | (have hz : NB _ _ (limbs 0) := (by with_reducible exact nb_hid hB (by with_reducible assumption)); obtain ⟨z0, z1, z2, z3, z4, z5, z6, z7⟩ := nb_zero hz; have hzf := hz.frozen; have hz := Lib.hid hz) | skip); clear hB) | ((with_reducible refine (S2.out w0 _ (by first | with_reducible assumption | exact held2 (by with_reducible assumption))).mono ?_); rintro e w' ⟨rfl, hb, hB⟩; (first | (have hz : NB _ _ (limbs 0) := (by with_reducible exact nb_newd hB); obtain ⟨z0, z1, z2, z3, z4, z5, z6, z7⟩ := nb_zero hz; have hzf := hz.frozen; have hz := Lib.hid hz) | (have hz : NB _ _ (limbs 0) := (by with_reducible exact nb_new hB); obtain ⟨z0, z1, z2, z3, z4, z5, z6, z7⟩ := nb_zero hz; have hzf := hz.frozen; have hz := Lib.hid hz) | (have hz : NB _ _ (limbs 0) := (by with_reducible exact nb_hid hB (by with_reducible assumption)); obtain ⟨z0, z1, z2, z3, z4, z5, z6, z7⟩ := nb_zero hz; have hzf := hz.frozen; have hz := Lib.hid hz) | skip); clear hB)) | (go_at_call 53; first | ((with_reducible refine (F3.out w0 _ (by first | with_reducible assumption | exact held2 (by with_reducible assumption))).mono ?_); rintro e w' ⟨rfl, hb, hB⟩; (first | (have hz : NB _ _ (limbs 0) := (by with_reducible exact nb_newd hB); obtain ⟨z0, z1, z2, z3, z4, z5, z6, z7⟩ := nb_zero hz; have hzf := hz.frozen; have hz := Lib.hid hz) | (have hz : NB _ _ (limbs 0) := (by with_reducible exact nb_new hB); obtain ⟨z0, z1, z2, z3, z4, z5, z6, z7⟩ := nb_zero hz; have hzf := hz.frozen; have hz := Lib.hid hz) | (have hz : NB _ _ (limbs 0) := (by with_reducible exact nb_hid hB (by with_reducible assumption)); obtain ⟨z0, z1, z2, z3, z4, z5, z6, z7⟩ := nb_zero hz; have hzf := hz.frozen; have hz := Lib.hid hz) | skip); clear hB) | ((with_reducible refine (F4.out w0 _ (by first | with_reducible assumption | exact held2 (by with_reducible assumption))).mono ?_); rintro e w' ⟨rfl, hb, hB⟩; (first | (have hz : NB _ _ (limbs 0) := (by with_reducible exact nb_newd hB); obtain ⟨z0, z1, z2, z3, z4, z5, z6, z7⟩ := nb_zero hz; have hzf := hz.frozen; have hz := Lib.hid hz) | (have hz : NB _ _ (limbs 0) := (by with_reducible exact nb_new hB); obtain ⟨z0, z1, z2, z3, z4, z5, z6, z7⟩ := nb_zero hz; have hzf := hz.frozen; have hz := Lib.hid hz) | (have hz : NB _ _ (limbs 0) := (by with_reducible exact nb_hid hB (by with_reducible assumption)); obtain ⟨z0, z1, z2, z3, z4, z5, z6, z7⟩ := nb_zero hz; have hzf := hz.frozen; have hz := Lib.hid hz) | skip); clear hB)) | (go_at_call 52; first | ((with_reducible refine (TD.out w0 _ (by first | with_reducible assumption | exact held2 (by with_reducible assumption))).mono ?_); rintro e w' ⟨rfl, hb, hB⟩; (first | (have hz : NB _ _ (limbs 0) := (by with_reducible exact nb_newd hB); obtain ⟨z0, z1, z2, z3, z4, z5, z6, z7⟩ := nb_zero hz; have hzf := hz.frozen; have hz := Lib.hid hz) | (have hz : NB _ _ (limbs 0) := (by with_reducible exact nb_new hB); obtain ⟨z0, z1, z2, z3, z4, z5, z6, z7⟩ := nb_zero hz; have hzf := hz.frozen; have hz := Lib.hid hz) | (have hz : NB _ _ (limbs 0) := (by with_reducible exact nb_hid hB (by with_reducible assumption)); obtain ⟨z0, z1, z2, z3, z4, z5, z6, z7⟩ := nb_zero hz; have hzf := hz.frozen; have hz := Lib.hid hz) | skip); clear hB)))
          all_goals
            go_wp2_with fail
            go_meet
            case rel => first | (with_reducible refine met_new HND ?_; with_reducible assumption) | (with_reducible refine met_set HND ?_ ?_ ?_ <;> with_reducible assumption)
        case rest =>
          obtain ⟨gd, rfl, hgd, hb0, gdn⟩ := hcut
          have h5 := H4.out.call hb0
          replace hgx := nb_keep hb0 hgx
          replace hgy := nb_keep hb0 hgy
          have gdw : w.heap.size + 1 + 1 < gd := by omega
          clear H4 Keep h00 h0d g0 hb0 gdn
          obtain ⟨w0, hw0⟩ : ∃ w0 : World, wc = w0 := ⟨_, rfl⟩
          rw [hw0] at h5 hgd hgx hgy ⊢
          clear hw0
          have g0 := h5.2.2.2.1
          obtain ⟨c0, c1, c2, c3, -, -, -, -⟩ := h5.cells
          have H4 := Lib.hid h5
          clear h5
          by_cases hss : sa = sb
          · have hq := HSUM.out
            rw [if_pos hss] at hq
            have hbb : (sa == sb) = true := by simpa using hss
            clear hss
            have OP := fun (W1 W : World) (hW : Below W1.heap.size W1 W) => nplus_from W1 W hW X Y (by have := M1.out; have := M2.out; unfold W8; omega) (by have := M1.out; have := M2.out; unfold W8; omega) (by have := M1.out; have := M2.out; unfold W8; omega)
            obtain ⟨u0, u1, u2, u3, u4, u5, u6, u7, hNU⟩ := nv_letters (X + Y)
            have LO := fun (W1 W : World) (hW : Below W1.heap.size W1 W) => rlowest_from W1 W hW sa (X + Y) D (by have := M1.out; have := M2.out; unfold W250; omega) (by have := M3.out; unfold W250; omega) M4.out
            rw [HNX.out, HNY.out, hNU] at OP
            rw [hNU, HND.out] at LO
            rw [← hq] at LO
            unfold RV at LO
            simp only at LO
            replace OP := Lib.hid OP
            replace LO := Lib.hid LO
            clear hq hNU HSUM M1 M2 M3 M4
            have keep : ∀ W : World, Below w0.heap.size w0 W → W.cell? ⟨w.heap.size, 0, none⟩ = some (.int .i64 an) ∧ W.cell? ⟨gx, 0, none⟩ = some (.int .u64 p0) ∧ W.cell? ⟨gx, 1, none⟩ = some (.int .u64 p1) ∧ W.cell? ⟨gx, 2, none⟩ = some (.int .u64 p2) ∧ W.cell? ⟨gx, 3, none⟩ = some (.int .u64 p3) ∧ W.cell? ⟨gx, 4, none⟩ = some (.int .u64 p4) ∧ W.cell? ⟨gx, 5, none⟩ = some (.int .u64 p5) ∧ W.cell? ⟨gx, 6, none⟩ = some (.int .u64 p6) ∧ W.cell? ⟨gx, 7, none⟩ = some (.int .u64 p7) ∧ W.cell? ⟨gy, 0, none⟩ = some (.int .u64 q0) ∧ W.cell? ⟨gy, 1, none⟩ = some (.int .u64 q1) ∧ W.cell? ⟨gy, 2, none⟩ = some (.int .u64 q2) ∧ W.cell? ⟨gy, 3, none⟩ = some (.int .u64 q3) ∧ W.cell? ⟨gy, 4, none⟩ = some (.int .u64 q4) ∧ W.cell? ⟨gy, 5, none⟩ = some (.int .u64 q5) ∧ W.cell? ⟨gy, 6, none⟩ = some (.int .u64 q6) ∧ W.cell? ⟨gy, 7, none⟩ = some (.int .u64 q7) ∧ W.cell? ⟨gd, 0, none⟩ = some (.int .u64 d0) ∧ W.cell? ⟨gd, 1, none⟩ = some (.int .u64 d1) ∧ W.cell? ⟨gd, 2, none⟩ = some (.int .u64 d2) ∧ W.cell? ⟨gd, 3, none⟩ = some (.int .u64 d3) ∧ W.cell? ⟨gd, 4, none⟩ = some (.int .u64 d4) ∧ W.cell? ⟨gd, 5, none⟩ = some (.int .u64 d5) ∧ W.cell? ⟨gd, 6, none⟩ = some (.int .u64 d6) ∧ W.cell? ⟨gd, 7, none⟩ = some (.int .u64 d7) := fun W hW =>
              have k := (H4.out.call hW).cells
              and_cells k.1 (nb_cells8 HNX (nb_keep hW hgx)) (nb_cells8 HNY (nb_keep hW hgy)) (nb_cells8 HND (nb_keep hW hgd))
            have Keep4 := Lib.hid (fun (W : World) (hW : Below w0.heap.size w0 W) => (H4.out.call hW).cells.2.2.2.2)
            have h00 := Below.refl w0.heap.size w0
            have h0d : Below w0.heap.size w0 w0.drew := h00.drew
            obtain ⟨y0, y1, y2, y3, y4, y5, y6, y7, y8, y9, y10, y11, y12, y13, y14, y15, y16, y17, y18, y19, y20, y21, y22, y23, y24⟩ := keep _ h00
            have Keep := Lib.hid keep
            have egx : ¬ gx = w.heap.size + 1 + 1 := by omega
            have fgx : ¬ w.heap.size + 1 + 1 = gx := by omega
            have egy : ¬ gy = w.heap.size + 1 + 1 := by omega
            have fgy : ¬ w.heap.size + 1 + 1 = gy := by omega
            have egd : ¬ gd = w.heap.size + 1 + 1 := by omega
            have fgd : ¬ w.heap.size + 1 + 1 = gd := by omega
            have e6 : ¬ w.heap.size = w.heap.size + 1 + 1 := by omega
            have e7 : ¬ w.heap.size + 1 + 1 = w.heap.size := by omega
            have e8 : ¬ w.heap.size + 1 = w.heap.size + 1 + 1 := by omega
            have e9 : ¬ w.heap.size + 1 + 1 = w.heap.size + 1 := by omega
            clear keep g0 hgx hgy hgd gxw gyw gdw
            go_wp2_with fail
            go_region_held3 (fun W => W.cell? ⟨w.heap.size, 0, none⟩ = some (.int .i64 an) ∧ W.cell? ⟨gx, 0, none⟩ = some (.int .u64 p0) ∧ W.cell? ⟨gx, 1, none⟩ = some (.int .u64 p1) ∧ W.cell? ⟨gx, 2, none⟩ = some (.int .u64 p2) ∧ W.cell? ⟨gx, 3, none⟩ = some (.int .u64 p3) ∧ W.cell? ⟨gx, 4, none⟩ = some (.int .u64 p4) ∧ W.cell? ⟨gx, 5, none⟩ = some (.int .u64 p5) ∧ W.cell? ⟨gx, 6, none⟩ = some (.int .u64 p6) ∧ W.cell? ⟨gx, 7, none⟩ = some (.int .u64 p7) ∧ W.cell? ⟨gy, 0, none⟩ = some (.int .u64 q0) ∧ W.cell? ⟨gy, 1, none⟩ = some (.int .u64 q1) ∧ W.cell? ⟨gy, 2, none⟩ = some (.int .u64 q2) ∧ W.cell? ⟨gy, 3, none⟩ = some (.int .u64 q3) ∧ W.cell? ⟨gy, 4, none⟩ = some (.int .u64 q4) ∧ W.cell? ⟨gy, 5, none⟩ = some (.int .u64 q5) ∧ W.cell? ⟨gy, 6, none⟩ = some (.int .u64 q6) ∧ W.cell? ⟨gy, 7, none⟩ = some (.int .u64 q7) ∧ W.cell? ⟨gd, 0, none⟩ = some (.int .u64 d0) ∧ W.cell? ⟨gd, 1, none⟩ = some (.int .u64 d1) ∧ W.cell? ⟨gd, 2, none⟩ = some (.int .u64 d2) ∧ W.cell? ⟨gd, 3, none⟩ = some (.int .u64 d3) ∧ W.cell? ⟨gd, 4, none⟩ = some (.int .u64 d4) ∧ W.cell? ⟨gd, 5, none⟩ = some (.int .u64 d5) ∧ W.cell? ⟨gd, 6, none⟩ = some (.int .u64 d6) ∧ W.cell? ⟨gd, 7, none⟩ = some (.int .u64 d7)) (first | exact Keep.out _ (by with_reducible assumption) | go_keep)
              (first | (go_at_call 67; ((with_reducible refine (OP.out w0 _ (by with_reducible assumption)).mono ?_); rintro e w' ⟨rfl, hb, -⟩; obtain ⟨y0, y1, y2, y3, y4, y5, y6, y7, y8, y9, y10, y11, y12, y13, y14, y15, y16, y17, y18, y19, y20, y21, y22, y23, y24⟩ := Keep.out _ hb)) | (go_at_call 66; ((with_reducible refine (LO.out w0 _ (by with_reducible assumption)).mono ?_); rintro e w' ⟨rfl, hb, -⟩; obtain ⟨y0, y1, y2, y3, y4, y5, y6, y7, y8, y9, y10, y11, y12, y13, y14, y15, y16, y17, y18, y19, y20, y21, y22, y23, y24⟩ := Keep.out _ hb; obtain ⟨c4, c5, c6, c7⟩ := Keep4.out _ hb)))
            all_goals
              go_wp2
              have h6 := H4.out.call (by with_reducible assumption : Below w0.heap.size w0 _)
              exact ret_frac (p := 4) (q := 5) (by kernel_rfl) rfl rfl (h6.put r1 r2).1 ⟨rfl, (h6.put r1 r2).2⟩
          · have hq := HSUM.out
            rw [if_neg hss] at hq
            have hbb : (sa == sb) = false := by simpa using hss
            clear hss
            have LE := fun (W1 W : World) (hW : Below W1.heap.size W1 W) => nless_from W1 W hW X Y (by have := M1.out; unfold W8; omega) (by have := M2.out; unfold W8; omega)
            rw [HNX.out, HNY.out] at LE
            obtain ⟨c, hc⟩ : ∃ c, cmpN X Y = c := ⟨_, rfl⟩
            rw [hc] at LE
            have hcc : X < Y ↔ c < 0 := by rw [← hc]; unfold cmpN; split <;> (try split) <;> omega
            by_cases hxy : X < Y
            · have hcd : decide (c < 0) = true := decide_eq_true (by omega)
              rw [if_pos hxy] at hq
              replace LE := Lib.hid LE
              clear hc hcc
              have OP := fun (W1 W : World) (hW : Below W1.heap.size W1 W) => nminus_from W1 W hW Y X (by have := M1.out; have := M2.out; unfold W8; omega) (by have := M1.out; have := M2.out; unfold W8; omega) (by omega)
              obtain ⟨u0, u1, u2, u3, u4, u5, u6, u7, hNU⟩ := nv_letters (Y - X)
              have LO := fun (W1 W : World) (hW : Below W1.heap.size W1 W) => rlowest_from W1 W hW sb (Y - X) D (by have := M1.out; have := M2.out; unfold W250; omega) (by have := M3.out; unfold W250; omega) M4.out
              rw [HNX.out, HNY.out, hNU] at OP
              rw [hNU, HND.out] at LO
              rw [← hq] at LO
              unfold RV at LO
              simp only at LO
              replace OP := Lib.hid OP
              replace LO := Lib.hid LO
              clear hq hNU HSUM M1 M2 M3 M4
              clear hxy
              obtain ⟨y0, y1, y2, y3, y4, y5, y6, y7⟩ := nb_cells8 HNX hgx
              obtain ⟨l0, l1, l2, l3, l4, l5, l6, l7⟩ := nb_cells8 HNY hgy
              go_wp2_with fail
              refine (LE.out w0 _ (Below.refl _ _)).mono ?_
              rintro e w5 ⟨rfl, hb0, -⟩
              have h5 := H4.out.call hb0
              replace hgx := nb_keep hb0 hgx
              replace hgy := nb_keep hb0 hgy
              replace hgd := nb_keep hb0 hgd
              clear H4 g0 hb0 LE c0 c1 c2 c3 y0 y1 y2 y3 y4 y5 y6 y7 l0 l1 l2 l3 l4 l5 l6 l7
              obtain ⟨w0, hw0⟩ : ∃ w0 : World, w5 = w0 := ⟨_, rfl⟩
              rw [hw0] at h5 hgx hgy hgd ⊢
              clear hw0
              have g0 := h5.2.2.2.1
              obtain ⟨c0, c1, c2, c3, -, -, -, -⟩ := h5.cells
              have H4 := Lib.hid h5
              clear h5
              go_wp2_with fail
              have keep : ∀ W : World, Below w0.heap.size w0 W → W.cell? ⟨w.heap.size + 1, 0, none⟩ = some (.int .i64 bn) ∧ W.cell? ⟨gx, 0, none⟩ = some (.int .u64 p0) ∧ W.cell? ⟨gx, 1, none⟩ = some (.int .u64 p1) ∧ W.cell? ⟨gx, 2, none⟩ = some (.int .u64 p2) ∧ W.cell? ⟨gx, 3, none⟩ = some (.int .u64 p3) ∧ W.cell? ⟨gx, 4, none⟩ = some (.int .u64 p4) ∧ W.cell? ⟨gx, 5, none⟩ = some (.int .u64 p5) ∧ W.cell? ⟨gx, 6, none⟩ = some (.int .u64 p6) ∧ W.cell? ⟨gx, 7, none⟩ = some (.int .u64 p7) ∧ W.cell? ⟨gy, 0, none⟩ = some (.int .u64 q0) ∧ W.cell? ⟨gy, 1, none⟩ = some (.int .u64 q1) ∧ W.cell? ⟨gy, 2, none⟩ = some (.int .u64 q2) ∧ W.cell? ⟨gy, 3, none⟩ = some (.int .u64 q3) ∧ W.cell? ⟨gy, 4, none⟩ = some (.int .u64 q4) ∧ W.cell? ⟨gy, 5, none⟩ = some (.int .u64 q5) ∧ W.cell? ⟨gy, 6, none⟩ = some (.int .u64 q6) ∧ W.cell? ⟨gy, 7, none⟩ = some (.int .u64 q7) ∧ W.cell? ⟨gd, 0, none⟩ = some (.int .u64 d0) ∧ W.cell? ⟨gd, 1, none⟩ = some (.int .u64 d1) ∧ W.cell? ⟨gd, 2, none⟩ = some (.int .u64 d2) ∧ W.cell? ⟨gd, 3, none⟩ = some (.int .u64 d3) ∧ W.cell? ⟨gd, 4, none⟩ = some (.int .u64 d4) ∧ W.cell? ⟨gd, 5, none⟩ = some (.int .u64 d5) ∧ W.cell? ⟨gd, 6, none⟩ = some (.int .u64 d6) ∧ W.cell? ⟨gd, 7, none⟩ = some (.int .u64 d7) := fun W hW =>
                have k := (H4.out.call hW).cells
                and_cells k.2.2.1 (nb_cells8 HNX (nb_keep hW hgx)) (nb_cells8 HNY (nb_keep hW hgy)) (nb_cells8 HND (nb_keep hW hgd))
              have Keep4 := Lib.hid (fun (W : World) (hW : Below w0.heap.size w0 W) => (H4.out.call hW).cells.2.2.2.2)
              have h00 := Below.refl w0.heap.size w0
              have h0d : Below w0.heap.size w0 w0.drew := h00.drew
              obtain ⟨y0, y1, y2, y3, y4, y5, y6, y7, y8, y9, y10, y11, y12, y13, y14, y15, y16, y17, y18, y19, y20, y21, y22, y23, y24⟩ := keep _ h00
              have Keep := Lib.hid keep
              have egx : ¬ gx = w.heap.size + 1 + 1 := by omega
              have fgx : ¬ w.heap.size + 1 + 1 = gx := by omega
              have egy : ¬ gy = w.heap.size + 1 + 1 := by omega
              have fgy : ¬ w.heap.size + 1 + 1 = gy := by omega
              have egd : ¬ gd = w.heap.size + 1 + 1 := by omega
              have fgd : ¬ w.heap.size + 1 + 1 = gd := by omega
              have e6 : ¬ w.heap.size = w.heap.size + 1 + 1 := by omega
              have e7 : ¬ w.heap.size + 1 + 1 = w.heap.size := by omega
              have e8 : ¬ w.heap.size + 1 = w.heap.size + 1 + 1 := by omega
              have e9 : ¬ w.heap.size + 1 + 1 = w.heap.size + 1 := by omega
              clear keep g0 hgx hgy hgd gxw gyw gdw
              go_wp2_with fail
              go_region_held3 (fun W => W.cell? ⟨w.heap.size + 1, 0, none⟩ = some (.int .i64 bn) ∧ W.cell? ⟨gx, 0, none⟩ = some (.int .u64 p0) ∧ W.cell? ⟨gx, 1, none⟩ = some (.int .u64 p1) ∧ W.cell? ⟨gx, 2, none⟩ = some (.int .u64 p2) ∧ W.cell? ⟨gx, 3, none⟩ = some (.int .u64 p3) ∧ W.cell? ⟨gx, 4, none⟩ = some (.int .u64 p4) ∧ W.cell? ⟨gx, 5, none⟩ = some (.int .u64 p5) ∧ W.cell? ⟨gx, 6, none⟩ = some (.int .u64 p6) ∧ W.cell? ⟨gx, 7, none⟩ = some (.int .u64 p7) ∧ W.cell? ⟨gy, 0, none⟩ = some (.int .u64 q0) ∧ W.cell? ⟨gy, 1, none⟩ = some (.int .u64 q1) ∧ W.cell? ⟨gy, 2, none⟩ = some (.int .u64 q2) ∧ W.cell? ⟨gy, 3, none⟩ = some (.int .u64 q3) ∧ W.cell? ⟨gy, 4, none⟩ = some (.int .u64 q4) ∧ W.cell? ⟨gy, 5, none⟩ = some (.int .u64 q5) ∧ W.cell? ⟨gy, 6, none⟩ = some (.int .u64 q6) ∧ W.cell? ⟨gy, 7, none⟩ = some (.int .u64 q7) ∧ W.cell? ⟨gd, 0, none⟩ = some (.int .u64 d0) ∧ W.cell? ⟨gd, 1, none⟩ = some (.int .u64 d1) ∧ W.cell? ⟨gd, 2, none⟩ = some (.int .u64 d2) ∧ W.cell? ⟨gd, 3, none⟩ = some (.int .u64 d3) ∧ W.cell? ⟨gd, 4, none⟩ = some (.int .u64 d4) ∧ W.cell? ⟨gd, 5, none⟩ = some (.int .u64 d5) ∧ W.cell? ⟨gd, 6, none⟩ = some (.int .u64 d6) ∧ W.cell? ⟨gd, 7, none⟩ = some (.int .u64 d7)) (first | exact Keep.out _ (by with_reducible assumption) | go_keep)
                (first | (go_at_call 68; ((with_reducible refine (OP.out w0 _ (by with_reducible assumption)).mono ?_); rintro e w' ⟨rfl, hb, -⟩; obtain ⟨y0, y1, y2, y3, y4, y5, y6, y7, y8, y9, y10, y11, y12, y13, y14, y15, y16, y17, y18, y19, y20, y21, y22, y23, y24⟩ := Keep.out _ hb)) | (go_at_call 66; ((with_reducible refine (LO.out w0 _ (by with_reducible assumption)).mono ?_); rintro e w' ⟨rfl, hb, -⟩; obtain ⟨y0, y1, y2, y3, y4, y5, y6, y7, y8, y9, y10, y11, y12, y13, y14, y15, y16, y17, y18, y19, y20, y21, y22, y23, y24⟩ := Keep.out _ hb; obtain ⟨c4, c5, c6, c7⟩ := Keep4.out _ hb)))
              all_goals
                go_wp2
                have h6 := H4.out.call (by with_reducible assumption : Below w0.heap.size w0 _)
                exact ret_frac (p := 4) (q := 5) (by kernel_rfl) rfl rfl (h6.put r1 r2).1 ⟨rfl, (h6.put r1 r2).2⟩
            · have hcd : decide (c < 0) = false := decide_eq_false (by omega)
              rw [if_neg hxy] at hq
              replace LE := Lib.hid LE
              clear hc hcc
              have OP := fun (W1 W : World) (hW : Below W1.heap.size W1 W) => nminus_from W1 W hW X Y (by have := M1.out; have := M2.out; unfold W8; omega) (by have := M1.out; have := M2.out; unfold W8; omega) (by omega)
              obtain ⟨u0, u1, u2, u3, u4, u5, u6, u7, hNU⟩ := nv_letters (X - Y)
              have LO := fun (W1 W : World) (hW : Below W1.heap.size W1 W) => rlowest_from W1 W hW sa (X - Y) D (by have := M1.out; have := M2.out; unfold W250; omega) (by have := M3.out; unfold W250; omega) M4.out
              rw [HNX.out, HNY.out, hNU] at OP
              rw [hNU, HND.out] at LO
              rw [← hq] at LO
              unfold RV at LO
              simp only at LO
              replace OP := Lib.hid OP
              replace LO := Lib.hid LO
              clear hq hNU HSUM M1 M2 M3 M4
              clear hxy
              obtain ⟨y0, y1, y2, y3, y4, y5, y6, y7⟩ := nb_cells8 HNX hgx
              obtain ⟨l0, l1, l2, l3, l4, l5, l6, l7⟩ := nb_cells8 HNY hgy
              go_wp2_with fail
              refine (LE.out w0 _ (Below.refl _ _)).mono ?_
              rintro e w5 ⟨rfl, hb0, -⟩
              have h5 := H4.out.call hb0
              replace hgx := nb_keep hb0 hgx
              replace hgy := nb_keep hb0 hgy
              replace hgd := nb_keep hb0 hgd
              clear H4 g0 hb0 LE c0 c1 c2 c3 y0 y1 y2 y3 y4 y5 y6 y7 l0 l1 l2 l3 l4 l5 l6 l7
              obtain ⟨w0, hw0⟩ : ∃ w0 : World, w5 = w0 := ⟨_, rfl⟩
              rw [hw0] at h5 hgx hgy hgd ⊢
              clear hw0
              have g0 := h5.2.2.2.1
              obtain ⟨c0, c1, c2, c3, -, -, -, -⟩ := h5.cells
              have H4 := Lib.hid h5
              clear h5
              go_wp2_with fail
              have keep : ∀ W : World, Below w0.heap.size w0 W → W.cell? ⟨w.heap.size, 0, none⟩ = some (.int .i64 an) ∧ W.cell? ⟨gx, 0, none⟩ = some (.int .u64 p0) ∧ W.cell? ⟨gx, 1, none⟩ = some (.int .u64 p1) ∧ W.cell? ⟨gx, 2, none⟩ = some (.int .u64 p2) ∧ W.cell? ⟨gx, 3, none⟩ = some (.int .u64 p3) ∧ W.cell? ⟨gx, 4, none⟩ = some (.int .u64 p4) ∧ W.cell? ⟨gx, 5, none⟩ = some (.int .u64 p5) ∧ W.cell? ⟨gx, 6, none⟩ = some (.int .u64 p6) ∧ W.cell? ⟨gx, 7, none⟩ = some (.int .u64 p7) ∧ W.cell? ⟨gy, 0, none⟩ = some (.int .u64 q0) ∧ W.cell? ⟨gy, 1, none⟩ = some (.int .u64 q1) ∧ W.cell? ⟨gy, 2, none⟩ = some (.int .u64 q2) ∧ W.cell? ⟨gy, 3, none⟩ = some (.int .u64 q3) ∧ W.cell? ⟨gy, 4, none⟩ = some (.int .u64 q4) ∧ W.cell? ⟨gy, 5, none⟩ = some (.int .u64 q5) ∧ W.cell? ⟨gy, 6, none⟩ = some (.int .u64 q6) ∧ W.cell? ⟨gy, 7, none⟩ = some (.int .u64 q7) ∧ W.cell? ⟨gd, 0, none⟩ = some (.int .u64 d0) ∧ W.cell? ⟨gd, 1, none⟩ = some (.int .u64 d1) ∧ W.cell? ⟨gd, 2, none⟩ = some (.int .u64 d2) ∧ W.cell? ⟨gd, 3, none⟩ = some (.int .u64 d3) ∧ W.cell? ⟨gd, 4, none⟩ = some (.int .u64 d4) ∧ W.cell? ⟨gd, 5, none⟩ = some (.int .u64 d5) ∧ W.cell? ⟨gd, 6, none⟩ = some (.int .u64 d6) ∧ W.cell? ⟨gd, 7, none⟩ = some (.int .u64 d7) := fun W hW =>
                have k := (H4.out.call hW).cells
                and_cells k.1 (nb_cells8 HNX (nb_keep hW hgx)) (nb_cells8 HNY (nb_keep hW hgy)) (nb_cells8 HND (nb_keep hW hgd))
              have Keep4 := Lib.hid (fun (W : World) (hW : Below w0.heap.size w0 W) => (H4.out.call hW).cells.2.2.2.2)
              have h00 := Below.refl w0.heap.size w0
              have h0d : Below w0.heap.size w0 w0.drew := h00.drew
              obtain ⟨y0, y1, y2, y3, y4, y5, y6, y7, y8, y9, y10, y11, y12, y13, y14, y15, y16, y17, y18, y19, y20, y21, y22, y23, y24⟩ := keep _ h00
              have Keep := Lib.hid keep
              have egx : ¬ gx = w.heap.size + 1 + 1 := by omega
              have fgx : ¬ w.heap.size + 1 + 1 = gx := by omega
              have egy : ¬ gy = w.heap.size + 1 + 1 := by omega
              have fgy : ¬ w.heap.size + 1 + 1 = gy := by omega
              have egd : ¬ gd = w.heap.size + 1 + 1 := by omega
              have fgd : ¬ w.heap.size + 1 + 1 = gd := by omega
              have e6 : ¬ w.heap.size = w.heap.size + 1 + 1 := by omega
              have e7 : ¬ w.heap.size + 1 + 1 = w.heap.size := by omega
              have e8 : ¬ w.heap.size + 1 = w.heap.size + 1 + 1 := by omega
              have e9 : ¬ w.heap.size + 1 + 1 = w.heap.size + 1 := by omega
              clear keep g0 hgx hgy hgd gxw gyw gdw
              go_wp2_with fail
              go_region_held3 (fun W => W.cell? ⟨w.heap.size, 0, none⟩ = some (.int .i64 an) ∧ W.cell? ⟨gx, 0, none⟩ = some (.int .u64 p0) ∧ W.cell? ⟨gx, 1, none⟩ = some (.int .u64 p1) ∧ W.cell? ⟨gx, 2, none⟩ = some (.int .u64 p2) ∧ W.cell? ⟨gx, 3, none⟩ = some (.int .u64 p3) ∧ W.cell? ⟨gx, 4, none⟩ = some (.int .u64 p4) ∧ W.cell? ⟨gx, 5, none⟩ = some (.int .u64 p5) ∧ W.cell? ⟨gx, 6, none⟩ = some (.int .u64 p6) ∧ W.cell? ⟨gx, 7, none⟩ = some (.int .u64 p7) ∧ W.cell? ⟨gy, 0, none⟩ = some (.int .u64 q0) ∧ W.cell? ⟨gy, 1, none⟩ = some (.int .u64 q1) ∧ W.cell? ⟨gy, 2, none⟩ = some (.int .u64 q2) ∧ W.cell? ⟨gy, 3, none⟩ = some (.int .u64 q3) ∧ W.cell? ⟨gy, 4, none⟩ = some (.int .u64 q4) ∧ W.cell? ⟨gy, 5, none⟩ = some (.int .u64 q5) ∧ W.cell? ⟨gy, 6, none⟩ = some (.int .u64 q6) ∧ W.cell? ⟨gy, 7, none⟩ = some (.int .u64 q7) ∧ W.cell? ⟨gd, 0, none⟩ = some (.int .u64 d0) ∧ W.cell? ⟨gd, 1, none⟩ = some (.int .u64 d1) ∧ W.cell? ⟨gd, 2, none⟩ = some (.int .u64 d2) ∧ W.cell? ⟨gd, 3, none⟩ = some (.int .u64 d3) ∧ W.cell? ⟨gd, 4, none⟩ = some (.int .u64 d4) ∧ W.cell? ⟨gd, 5, none⟩ = some (.int .u64 d5) ∧ W.cell? ⟨gd, 6, none⟩ = some (.int .u64 d6) ∧ W.cell? ⟨gd, 7, none⟩ = some (.int .u64 d7)) (first | exact Keep.out _ (by with_reducible assumption) | go_keep)
                (first | (go_at_call 68; ((with_reducible refine (OP.out w0 _ (by with_reducible assumption)).mono ?_); rintro e w' ⟨rfl, hb, -⟩; obtain ⟨y0, y1, y2, y3, y4, y5, y6, y7, y8, y9, y10, y11, y12, y13, y14, y15, y16, y17, y18, y19, y20, y21, y22, y23, y24⟩ := Keep.out _ hb)) | (go_at_call 66; ((with_reducible refine (LO.out w0 _ (by with_reducible assumption)).mono ?_); rintro e w' ⟨rfl, hb, -⟩; obtain ⟨y0, y1, y2, y3, y4, y5, y6, y7, y8, y9, y10, y11, y12, y13, y14, y15, y16, y17, y18, y19, y20, y21, y22, y23, y24⟩ := Keep.out _ hb; obtain ⟨c4, c5, c6, c7⟩ := Keep4.out _ hb)))
              all_goals
                go_wp2
                have h6 := H4.out.call (by with_reducible assumption : Below w0.heap.size w0 _)
                exact ret_frac (p := 4) (q := 5) (by kernel_rfl) rfl rfl (h6.put r1 r2).1 ⟨rfl, (h6.put r1 r2).2⟩
end Go.Proofs.Yteppamchbgnlfaa
