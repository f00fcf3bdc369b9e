/- The walk of IntervalSound. Conditions: numbers of 64 bits. -/
import Derived.Test.YtkdbffhmnkkbcaaSoundM
import Derived.Test.YtkdbffhmnkkbcaaLat
import Derived.Test.YtkdbffhmnkkbcaaLives4
namespace Go.Proofs.Ytkdbffhmnkkbcaa
open Go.RowKit

set_option maxRecDepth 100000 in
set_option maxHeartbeats 16000000 in
theorem law_sound (l0 l1 l2 l3 l4 l5 : Int) (w : World) (b0 : -9223372036854775808 ≤ l0 ∧ l0 ≤ 9223372036854775807) (b1 : -9223372036854775808 ≤ l1 ∧ l1 ≤ 9223372036854775807) (b2 : -9223372036854775808 ≤ l2 ∧ l2 ≤ 9223372036854775807) (b3 : -9223372036854775808 ≤ l3 ∧ l3 ≤ 9223372036854775807) (b4 : -9223372036854775808 ≤ l4 ∧ l4 ≤ 9223372036854775807) (b5 : -9223372036854775808 ≤ l5 ∧ l5 ≤ 9223372036854775807) :
    Calls Try.prog 8 #[.agg #[.int .i64 l0, .int .i64 l1, .int .i64 l2, .int .i64 l3, .int .i64 l4, .int .i64 l5]] w fun e w' => e = .returned (.bool true) ∧ Below w.heap.size w w' := by
  have S1 := Lib.hid (fun W => ismall_any l0 l1 W b0 b1)
  have S2 := Lib.hid (fun W => ismall_any l2 l3 W b2 b3)
  have J1 := Lib.hid (fun (a b c d : Int) (h : SmI 50 12 a b c d) => inner_any l4 h b4 (by decide) (by decide) (by decide) (by decide) (by decide) (by decide) (by decide) (by decide))
  have J2 := Lib.hid (fun (a b c d : Int) (h : SmI 50 12 a b c d) => inner_any l5 h b5 (by decide) (by decide) (by decide) (by decide) (by decide) (by decide) (by decide) (by decide))
  obtain ⟨hL, hW⟩ := start1 w 47 #[.int .i64 l0, .int .i64 l1, .int .i64 l2, .int .i64 l3, .int .i64 l4, .int .i64 l5]
  clear b0 b1 b2 b3 b4 b5
  go_enter Try.func8, Try.ntmps8
  go_wp2_with fail
  (with_reducible refine (S1.out _).mono ?_)
  rintro e u1 ⟨⟨a, b, c, d, rfl, hx⟩, hb⟩
  replace hL := hL.below hb hL.lt
  replace hW := below_st hW hb
  have L0 := hL.cell 0
  have L1 := hL.cell 1
  have L2 := hL.cell 2
  have L3 := hL.cell 3
  have L4 := hL.cell 4
  have L5 := hL.cell 5
  have zL := hL.lt
  clear hb S1
  have hX := Blk.new u1 25 #[.int .i64 a, .int .i64 b, .int .i64 c, .int .i64 d]
  replace hL := hL.alloc (.cells #[.int .i64 a, .int .i64 b, .int .i64 c, .int .i64 d] 25)
  replace hW := hW.alloc hW.size (.cells #[.int .i64 a, .int .i64 b, .int .i64 c, .int .i64 d] 25)
  go_wp2_with fail
  (with_reducible refine (S2.out _).mono ?_)
  rintro e u2 ⟨⟨a', b', c', d', rfl, hy⟩, hb⟩
  replace hL := hL.below hb hL.lt
  replace hX := hX.below hb hX.lt
  replace hW := below_st hW hb
  have L0 := hL.cell 0
  have L1 := hL.cell 1
  have L2 := hL.cell 2
  have L3 := hL.cell 3
  have L4 := hL.cell 4
  have L5 := hL.cell 5
  have zL := hL.lt
  have X0 := hX.cell 0
  have X1 := hX.cell 1
  have X2 := hX.cell 2
  have X3 := hX.cell 3
  have zX := hX.lt
  clear hb S2
  have hY := Blk.new u2 25 #[.int .i64 a', .int .i64 b', .int .i64 c', .int .i64 d']
  replace hL := hL.alloc (.cells #[.int .i64 a', .int .i64 b', .int .i64 c', .int .i64 d'] 25)
  replace hX := hX.alloc (.cells #[.int .i64 a', .int .i64 b', .int .i64 c', .int .i64 d'] 25)
  replace hW := hW.alloc hW.size (.cells #[.int .i64 a', .int .i64 b', .int .i64 c', .int .i64 d'] 25)
  obtain ⟨n, m, ⟨ha, h1, h2⟩, IC⟩ := J1.out _ _ _ _ hx
  obtain ⟨n', m', ⟨hb', h3, h4⟩, JC⟩ := J2.out _ _ _ _ hy
  replace IC := Lib.hid IC
  replace JC := Lib.hid JC
  have T := Lib.hid (sound_ops hx hy ha hb' h1 h2 h3 h4 (by decide))
  obtain ⟨⟨v1, v2, v3⟩, hmin⟩ := sound_min hx hy ha hb' h1 h2 h3 h4
  obtain ⟨⟨v4, v5, v6⟩, hmax⟩ := sound_max hx hy ha hb' h1 h2 h3 h4
  have MI := imin_w hx.vI hy.vI
  have MA := imax_w hx.vI hy.vI
  have CI := icon_w v1.w2 v2.w2 v3.w2
  have CA := icon_w v4.w2 v5.w2 v6.w2
  rw [hmin] at CI
  rw [hmax] at CA
  have VV := Lib.hid (vl_two ha.1 hb'.1)
  have EN := Lib.hid (fun k (hp : k.Perm [(n, m), (n', m')]) (hs : Srt k k.length) => ends_of VV.out (by simp) hp hs)
  obtain ⟨⟨i1, i2⟩, hi1⟩ : ∃ x, minL [(a, b), (a', b')] = x := ⟨_, rfl⟩
  obtain ⟨⟨i3, i4⟩, hi2⟩ : ∃ x, minL [(c, d), (c', d')] = x := ⟨_, rfl⟩
  obtain ⟨⟨s1, s2⟩, hs1⟩ : ∃ x, minL [(n, m), (n', m')] = x := ⟨_, rfl⟩
  obtain ⟨⟨j1, j2⟩, hj1⟩ : ∃ x, maxL [(a, b), (a', b')] = x := ⟨_, rfl⟩
  obtain ⟨⟨j3, j4⟩, hj2⟩ : ∃ x, maxL [(c, d), (c', d')] = x := ⟨_, rfl⟩
  obtain ⟨⟨s3, s4⟩, hs2⟩ : ∃ x, maxL [(n, m), (n', m')] = x := ⟨_, rfl⟩
  rw [hi1, hi2] at MI CI
  rw [hj1, hj2] at MA CA
  rw [hs1] at CI EN
  rw [hs2] at CA EN
  simp only at MI CI MA CA
  replace MI := Lib.hid MI
  replace MA := Lib.hid MA
  replace CI := Lib.hid CI
  replace CA := Lib.hid CA
  clear hx hy ha hb' h1 h2 h3 h4 J1 J2 v1 v2 v3 v4 v5 v6 hmin hmax hi1 hi2 hs1 hj1 hj2 hs2
  go_wp2_with fail
  (with_reducible refine (IC.out _).mono ?_)
  rintro e u3 ⟨rfl, hb⟩
  replace hL := hL.below hb hL.lt
  replace hX := hX.below hb hX.lt
  replace hY := hY.below hb hY.lt
  replace hW := below_st hW hb
  have L0 := hL.cell 0
  have L1 := hL.cell 1
  have L2 := hL.cell 2
  have L3 := hL.cell 3
  have L4 := hL.cell 4
  have L5 := hL.cell 5
  have zL := hL.lt
  have X0 := hX.cell 0
  have X1 := hX.cell 1
  have X2 := hX.cell 2
  have X3 := hX.cell 3
  have zX := hX.lt
  have Y0 := hY.cell 0
  have Y1 := hY.cell 1
  have Y2 := hY.cell 2
  have Y3 := hY.cell 3
  have zY := hY.lt
  clear hb IC
  have hP := Blk.new u3 23 #[.int .i64 n, .int .i64 m]
  replace hL := hL.alloc (.cells #[.int .i64 n, .int .i64 m] 23)
  replace hX := hX.alloc (.cells #[.int .i64 n, .int .i64 m] 23)
  replace hY := hY.alloc (.cells #[.int .i64 n, .int .i64 m] 23)
  replace hW := hW.alloc hW.size (.cells #[.int .i64 n, .int .i64 m] 23)
  go_wp2_with fail
  (with_reducible refine (JC.out _).mono ?_)
  rintro e u4 ⟨rfl, hb⟩
  replace hL := hL.below hb hL.lt
  replace hX := hX.below hb hX.lt
  replace hY := hY.below hb hY.lt
  replace hP := hP.below hb hP.lt
  replace hW := below_st hW hb
  have L0 := hL.cell 0
  have L1 := hL.cell 1
  have L2 := hL.cell 2
  have L3 := hL.cell 3
  have L4 := hL.cell 4
  have L5 := hL.cell 5
  have zL := hL.lt
  have X0 := hX.cell 0
  have X1 := hX.cell 1
  have X2 := hX.cell 2
  have X3 := hX.cell 3
  have zX := hX.lt
  have Y0 := hY.cell 0
  have Y1 := hY.cell 1
  have Y2 := hY.cell 2
  have Y3 := hY.cell 3
  have zY := hY.lt
  have P0 := hP.cell 0
  have P1 := hP.cell 1
  have zP := hP.lt
  clear hb JC
  have hQ := Blk.new u4 23 #[.int .i64 n', .int .i64 m']
  replace hL := hL.alloc (.cells #[.int .i64 n', .int .i64 m'] 23)
  replace hX := hX.alloc (.cells #[.int .i64 n', .int .i64 m'] 23)
  replace hY := hY.alloc (.cells #[.int .i64 n', .int .i64 m'] 23)
  replace hP := hP.alloc (.cells #[.int .i64 n', .int .i64 m'] 23)
  replace hW := hW.alloc hW.size (.cells #[.int .i64 n', .int .i64 m'] 23)
  go_wp2_with fail
  obtain ⟨wo, hwo⟩ : ∃ wo : World, u4.alloc (.cells #[.int .i64 n', .int .i64 m'] 23) = wo := ⟨_, rfl⟩
  rw [hwo] at hX hY hP hQ hW ⊢
  obtain ⟨gX, hgX⟩ : ∃ g, u1.heap.size = g := ⟨_, rfl⟩
  obtain ⟨gY, hgY⟩ : ∃ g, u2.heap.size = g := ⟨_, rfl⟩
  obtain ⟨gP, hgP⟩ : ∃ g, u3.heap.size = g := ⟨_, rfl⟩
  obtain ⟨gQ, hgQ⟩ : ∃ g, u4.heap.size = g := ⟨_, rfl⟩
  rw [hgX] at hX ⊢
  rw [hgY] at hY ⊢
  rw [hgP] at hP ⊢
  rw [hgQ] at hQ ⊢
  clear hwo hgX hgY hgP hgQ hL X0 X1 X2 X3 zX Y0 Y1 Y2 Y3 zY P0 P1 zP L0 L1 L2 L3 L4 L5 zL
  have HX := Lib.hid hX
  have HY := Lib.hid hY
  have HP := Lib.hid hP
  have HQ := Lib.hid hQ
  have HW := Lib.hid hW
  clear hX hY hP hQ hW
  go_loopw [7] (fun ov wr => ∃ o : Nat, o ≤ 4 ∧ ov = .int .i64 o ∧ Below wo.heap.size wo wr) (fun ov _ => 4 - (intOf ov).toNat)
  case atStart => exact ⟨0, by omega, rfl, Below.refl _ _⟩
  case round =>
    obtain ⟨o, ho, rfl, hB⟩ := hrel
    have HB := Lib.hid hB
    have hX := HX.out.below hB HX.out.lt
    have hY := HY.out.below hB HY.out.lt
    have hP := HP.out.below hB HP.out.lt
    have hQ := HQ.out.below hB HQ.out.lt
    clear hB
    by_cases ho4 : o < 4
    · obtain ⟨z1, z2, z3, z4, e, DO, hC⟩ := T.out o ho4
      have HC := Lib.hid hC
      replace DO := Lib.hid DO
      clear hC
      have ho4' : (o : Int) < 4 := by omega
      have X0 := hX.cell 0
      have X1 := hX.cell 1
      have X2 := hX.cell 2
      have X3 := hX.cell 3
      have zX := hX.lt
      have Y0 := hY.cell 0
      have Y1 := hY.cell 1
      have Y2 := hY.cell 2
      have Y3 := hY.cell 3
      have zY := hY.lt
      have P0 := hP.cell 0
      have P1 := hP.cell 1
      have zP := hP.lt
      have Q0 := hQ.cell 0
      have Q1 := hQ.cell 1
      have zQ := hQ.lt
      go_wp2_with fail
      (with_reducible refine (DO.out _).mono ?_)
      rintro r v1 ⟨rfl, hb⟩
      clear X0 X1 X2 X3 Y0 Y1 Y2 Y3 P0 P1 Q0 Q1 zX zY zP zQ
      replace hX := hX.below hb hX.lt
      replace hY := hY.below hb hY.lt
      replace hP := hP.below hb hP.lt
      replace hQ := hQ.below hb hQ.lt
      replace HB := Lib.hid (below_st HB.out hb)
      have hZ := Blk.new v1 25 #[.int .i64 z1, .int .i64 z2, .int .i64 z3, .int .i64 z4]
      replace hX := hX.alloc (.cells #[.int .i64 z1, .int .i64 z2, .int .i64 z3, .int .i64 z4] 25)
      replace hY := hY.alloc (.cells #[.int .i64 z1, .int .i64 z2, .int .i64 z3, .int .i64 z4] 25)
      replace hP := hP.alloc (.cells #[.int .i64 z1, .int .i64 z2, .int .i64 z3, .int .i64 z4] 25)
      replace hQ := hQ.alloc (.cells #[.int .i64 z1, .int .i64 z2, .int .i64 z3, .int .i64 z4] 25)
      replace HB := Lib.hid (HB.out.alloc HB.out.size (.cells #[.int .i64 z1, .int .i64 z2, .int .i64 z3, .int .i64 z4] 25))
      clear hb
      have X0 := hX.cell 0
      have X1 := hX.cell 1
      have X2 := hX.cell 2
      have X3 := hX.cell 3
      have zX := hX.lt
      have Y0 := hY.cell 0
      have Y1 := hY.cell 1
      have Y2 := hY.cell 2
      have Y3 := hY.cell 3
      have zY := hY.lt
      have P0 := hP.cell 0
      have P1 := hP.cell 1
      have zP := hP.lt
      have Q0 := hQ.cell 0
      have Q1 := hQ.cell 1
      have zQ := hQ.lt
      have Z0 := hZ.cell 0
      have Z1 := hZ.cell 1
      have Z2 := hZ.cell 2
      have Z3 := hZ.cell 3
      have zZ := hZ.lt
      clear DO
      rcases HC.out with ⟨rfl, rfl⟩ | ⟨rfl, c1, c2, A1, A2⟩
      · go_wp2_with fail
        go_roundw
        case rel => exact ⟨4, by omega, by go_num, HB.out⟩
        case measure => simp [intOf]
      · replace A1 := Lib.hid A1
        replace A2 := Lib.hid A2
        clear HC
        go_wp2_with fail
        (with_reducible refine (A1.out _).mono ?_)
        rintro r v2 ⟨rfl, hb⟩
        clear X0 X1 X2 X3 Y0 Y1 Y2 Y3 P0 P1 Q0 Q1 Z0 Z1 Z2 Z3 zX zY zP zQ zZ
        replace hX := hX.below hb hX.lt
        replace hY := hY.below hb hY.lt
        replace hP := hP.below hb hP.lt
        replace hQ := hQ.below hb hQ.lt
        replace hZ := hZ.below hb hZ.lt
        replace HB := Lib.hid (below_st HB.out hb)
        have hC := Blk.new v2 23 #[.int .i64 c1, .int .i64 c2]
        replace hX := hX.alloc (.cells #[.int .i64 c1, .int .i64 c2] 23)
        replace hY := hY.alloc (.cells #[.int .i64 c1, .int .i64 c2] 23)
        replace hP := hP.alloc (.cells #[.int .i64 c1, .int .i64 c2] 23)
        replace hQ := hQ.alloc (.cells #[.int .i64 c1, .int .i64 c2] 23)
        replace hZ := hZ.alloc (.cells #[.int .i64 c1, .int .i64 c2] 23)
        replace HB := Lib.hid (HB.out.alloc HB.out.size (.cells #[.int .i64 c1, .int .i64 c2] 23))
        clear hb
        have X0 := hX.cell 0
        have X1 := hX.cell 1
        have X2 := hX.cell 2
        have X3 := hX.cell 3
        have zX := hX.lt
        have Y0 := hY.cell 0
        have Y1 := hY.cell 1
        have Y2 := hY.cell 2
        have Y3 := hY.cell 3
        have zY := hY.lt
        have P0 := hP.cell 0
        have P1 := hP.cell 1
        have zP := hP.lt
        have Q0 := hQ.cell 0
        have Q1 := hQ.cell 1
        have zQ := hQ.lt
        have Z0 := hZ.cell 0
        have Z1 := hZ.cell 1
        have Z2 := hZ.cell 2
        have Z3 := hZ.cell 3
        have zZ := hZ.lt
        have C0 := hC.cell 0
        have C1 := hC.cell 1
        have zC := hC.lt
        go_wp2_with fail
        (with_reducible refine (A2.out _).mono ?_)
        rintro r v3 ⟨rfl, hb⟩
        clear X0 X1 X2 X3 Y0 Y1 Y2 Y3 P0 P1 Q0 Q1 Z0 Z1 Z2 Z3 C0 C1 zX zY zP zQ zZ zC
        replace hX := hX.below hb hX.lt
        replace hY := hY.below hb hY.lt
        replace hP := hP.below hb hP.lt
        replace hQ := hQ.below hb hQ.lt
        replace hZ := hZ.below hb hZ.lt
        replace hC := hC.below hb hC.lt
        replace HB := Lib.hid (below_st HB.out hb)
        clear hb
        have X0 := hX.cell 0
        have X1 := hX.cell 1
        have X2 := hX.cell 2
        have X3 := hX.cell 3
        have zX := hX.lt
        have Y0 := hY.cell 0
        have Y1 := hY.cell 1
        have Y2 := hY.cell 2
        have Y3 := hY.cell 3
        have zY := hY.lt
        have P0 := hP.cell 0
        have P1 := hP.cell 1
        have zP := hP.lt
        have Q0 := hQ.cell 0
        have Q1 := hQ.cell 1
        have zQ := hQ.lt
        have Z0 := hZ.cell 0
        have Z1 := hZ.cell 1
        have Z2 := hZ.cell 2
        have Z3 := hZ.cell 3
        have zZ := hZ.lt
        have C0 := hC.cell 0
        have C1 := hC.cell 1
        have zC := hC.lt
        go_wp2_with fail
        go_roundw
        case rel => exact ⟨o + 1, by omega, by go_num, HB.out⟩
        case measure => simp [intOf]; omega
    · clear T
      have X0 := hX.cell 0
      have X1 := hX.cell 1
      have X2 := hX.cell 2
      have X3 := hX.cell 3
      have zX := hX.lt
      have Y0 := hY.cell 0
      have Y1 := hY.cell 1
      have Y2 := hY.cell 2
      have Y3 := hY.cell 3
      have zY := hY.lt
      have P0 := hP.cell 0
      have P1 := hP.cell 1
      have zP := hP.lt
      have Q0 := hQ.cell 0
      have Q1 := hQ.cell 1
      have zQ := hQ.lt
      go_wp2_with fail
      refine (sorted_any _ [(n, m), (n', m')] _ (fsAt_two wr n m n' m') VV.out (by simp)).mono ?_
      rintro e v1 ⟨v, k, rfl, hp, hs, hO, hb⟩
      have hkl : k.length = 2 := hp.length_eq
      obtain ⟨e0, e1⟩ := EN.out k hp hs
      have hb1 : Below wr.heap.size wr v1 := below_st (pal_below (Below.refl _ wr) _) hb
      clear X0 X1 X2 X3 Y0 Y1 Y2 Y3 P0 P1 Q0 Q1 zX zY zP zQ
      rcases FsAt.of_owns hO with ⟨-, h0⟩ | ⟨gS, cap, rfl, hcap, hgb, hg, hF⟩
      · rw [h0] at hkl
        simp at hkl
      · rw [hkl] at e1 ⊢
        obtain ⟨x0, x1⟩ := hF.zero e0
        obtain ⟨y0, y1⟩ := hF.zero e1
        rw [Nat.zero_mul] at x0 x1
        have y0' : v1.cell? ⟨gS, 2, none⟩ = some (.int .i64 s3) := y0
        have y1' : v1.cell? ⟨gS, 3, none⟩ = some (.int .i64 s4) := y1
        replace hX := hX.below hb1 hX.lt
        replace hY := hY.below hb1 hY.lt
        have HT := Lib.hid (below_st (below_st HW.out HB.out) hb1)
        have keep : ∀ W : World, Below v1.heap.size v1 W → W.cell? ⟨gX, 0, none⟩ = some (.int .i64 a) ∧ W.cell? ⟨gX, 1, none⟩ = some (.int .i64 b) ∧ W.cell? ⟨gX, 2, none⟩ = some (.int .i64 c) ∧ W.cell? ⟨gX, 3, none⟩ = some (.int .i64 d) ∧ W.cell? ⟨gY, 0, none⟩ = some (.int .i64 a') ∧ W.cell? ⟨gY, 1, none⟩ = some (.int .i64 b') ∧ W.cell? ⟨gY, 2, none⟩ = some (.int .i64 c') ∧ W.cell? ⟨gY, 3, none⟩ = some (.int .i64 d') ∧ W.cell? ⟨gS, 0, none⟩ = some (.int .i64 s1) ∧ W.cell? ⟨gS, 1, none⟩ = some (.int .i64 s2) ∧ W.cell? ⟨gS, 2, none⟩ = some (.int .i64 s3) ∧ W.cell? ⟨gS, 3, none⟩ = some (.int .i64 s4) := fun W hB =>
          ⟨(hX.below hB hX.lt).cell 0, (hX.below hB hX.lt).cell 1, (hX.below hB hX.lt).cell 2, (hX.below hB hX.lt).cell 3, (hY.below hB hY.lt).cell 0, (hY.below hB hY.lt).cell 1, (hY.below hB hY.lt).cell 2, (hY.below hB hY.lt).cell 3, (hB.cell (p := ⟨gS, 0, none⟩) hg).trans x0, (hB.cell (p := ⟨gS, 1, none⟩) hg).trans x1, (hB.cell (p := ⟨gS, 2, none⟩) hg).trans y0', (hB.cell (p := ⟨gS, 3, none⟩) hg).trans y1'⟩
        have Keep := Lib.hid keep
        have h00 := Below.refl v1.heap.size v1
        have h0d : Below v1.heap.size v1 v1.drew := h00.drew
        obtain ⟨c0, c1, c2, c3, c4, c5, c6, c7, c8, c9, c10, c11⟩ := keep v1 h00
        have MI' := Lib.hid (fun (W : World) (hb : Below v1.heap.size v1 W) => calls_step hb (MI.out W))
        have MA' := Lib.hid (fun (W : World) (hb : Below v1.heap.size v1 W) => calls_step hb (MA.out W))
        have CI' := Lib.hid (fun (W : World) (hb : Below v1.heap.size v1 W) => calls_step hb (CI.out W))
        have CA' := Lib.hid (fun (W : World) (hb : Below v1.heap.size v1 W) => calls_step hb (CA.out W))
        have LV' := Lib.hid (fun (W : World) (hb : Below v1.heap.size v1 W) => calls_step hb (lives_any W))
        have HC2 := Lib.hid hcap
        rw [hkl] at HC2
        have hcap2 : (2 : Int) ≤ (cap : Int) := by have := HC2.out; omega
        clear hp hs hO hb hkl e0 e1 hb1 hcap hgb hF x0 x1 y0 y1 y0' y1' keep hX hY hP hQ MI MA CI CA VV EN HX HY HP HQ HW HB
        go_wp2_with fail
        go_region_held3 (fun W => W.cell? ⟨gX, 0, none⟩ = some (.int .i64 a) ∧ W.cell? ⟨gX, 1, none⟩ = some (.int .i64 b) ∧ W.cell? ⟨gX, 2, none⟩ = some (.int .i64 c) ∧ W.cell? ⟨gX, 3, none⟩ = some (.int .i64 d) ∧ W.cell? ⟨gY, 0, none⟩ = some (.int .i64 a') ∧ W.cell? ⟨gY, 1, none⟩ = some (.int .i64 b') ∧ W.cell? ⟨gY, 2, none⟩ = some (.int .i64 c') ∧ W.cell? ⟨gY, 3, none⟩ = some (.int .i64 d') ∧ W.cell? ⟨gS, 0, none⟩ = some (.int .i64 s1) ∧ W.cell? ⟨gS, 1, none⟩ = some (.int .i64 s2) ∧ W.cell? ⟨gS, 2, none⟩ = some (.int .i64 s3) ∧ W.cell? ⟨gS, 3, none⟩ = some (.int .i64 s4))
          (first | (with_reducible exact Keep.out _ (by with_reducible assumption)))
          (first | (go_at_call 23; ((with_reducible refine (MI'.out _ (by with_reducible assumption)).mono ?_); rintro e w' ⟨rfl, hb⟩; obtain ⟨c0, c1, c2, c3, c4, c5, c6, c7, c8, c9, c10, c11⟩ := Keep.out _ hb)) | (go_at_call 25; ((with_reducible refine (MA'.out _ (by with_reducible assumption)).mono ?_); rintro e w' ⟨rfl, hb⟩; obtain ⟨c0, c1, c2, c3, c4, c5, c6, c7, c8, c9, c10, c11⟩ := Keep.out _ hb)) | (go_at_call 18; ((with_reducible refine (LV'.out _ (by with_reducible assumption)).mono ?_); rintro e w' ⟨rfl, hb⟩; obtain ⟨c0, c1, c2, c3, c4, c5, c6, c7, c8, c9, c10, c11⟩ := Keep.out _ hb)) | (go_at_call 31; first | ((with_reducible refine (CI'.out _ (by with_reducible assumption)).mono ?_); rintro e w' ⟨rfl, hb⟩; obtain ⟨c0, c1, c2, c3, c4, c5, c6, c7, c8, c9, c10, c11⟩ := Keep.out _ hb) | ((with_reducible refine (CA'.out _ (by with_reducible assumption)).mono ?_); rintro e w' ⟨rfl, hb⟩; obtain ⟨c0, c1, c2, c3, c4, c5, c6, c7, c8, c9, c10, c11⟩ := Keep.out _ hb) | fail))
        all_goals
          go_wp2
          go_ret
          exact ⟨rfl, below_st HT.out (by with_reducible assumption)⟩
end Go.Proofs.Ytkdbffhmnkkbcaa
