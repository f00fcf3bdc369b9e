/- The walk of LexerConcatenation. Conditions: the table of symbols as the program lays it. -/
import Derived.Laws.StructEq
import Derived.Test.YtpmndopcemdniaaDoorTSrc
import Derived.Test.YtpmndopcemdniaaDoorTCatM
import Derived.Test.YtpmndopcemdniaaDoorTCov
namespace Go.Proofs.YtpmndopcemdniaaDoor
open Go.RowKit

theorem teq_walk (a n p : Int) (s : ByteArray) (w : World) : (Op.equalIn 10000 37 (.agg #[.int .i64 a, .string s, .int .i64 n, .int .i64 p]) (.agg #[.int .i64 a, .string s, .int .i64 n, .int .i64 p])).run Tryd.prog w = .ok true w := by
  have tu := Tryd.underlying3
  have ta := Tryd.isAgg3
  have tz := Tryd.sizeOf3
  have su := Tryd.underlying9
  have sa := Tryd.isAgg9
  have sz := Tryd.sizeOf9
  have hS : Tryd.prog.underlying 37 = some (.struct (Tryd.prog.fieldsOf 37)) := by kernel_rfl
  rw [show (10000 : Nat) = 9999 + 1 from rfl, run_equalIn_agg w 9999 37 _ _ hS (by kernel_rfl)]
  simp only [Program.fieldsOf, Tryd.underlying37]
  go_simp
theorem four_white (k : Nat) (hk : k < 4) : ∃ x : UInt8, whB x = true ∧ ∀ W : World, (Instr.slice 9 (.string ⟨#[32, 9, 10, 13]⟩) (some (.int .i64 (k : Int))) (some (.int .i64 ((k : Int) + 1))) none).run Tryd.prog W = .ok (.string (ba [x])) W := by
  have hl : (⟨#[32, 9, 10, 13]⟩ : ByteArray) = ba [32, 9, 10, 13] := rfl
  have hall : ([32, 9, 10, 13] : List UInt8).all whB = true := by decide
  refine ⟨([32, 9, 10, 13] : List UInt8)[k]'hk, List.all_eq_true.1 hall _ (List.getElem_mem _), fun W => ?_⟩
  have h := run_slice_string (P := Tryd.prog) W 9 ⟨#[32, 9, 10, 13]⟩ .i64 .i64 k (k + 1) Tryd.underlying9 (by omega) (by omega) (by show (k : Int) + 1 ≤ 4; omega)
  rw [show ((k : Int)).toNat = k by omega, show ((k : Int) + 1).toNat = k + 1 by omega, hl, show (ba [32, 9, 10, 13]).extract k (k + 1) = ba [([32, 9, 10, 13] : List UInt8)[k]'hk] from by rw [ba_ext, ba_list, List.drop_take, show k + 1 - k = 1 by omega, List.drop_eq_getElem_cons hk, List.take_succ_cons, List.take_zero]] at h
  exact h

theorem lex_pos : ∀ (n p : Nat) (l : List UInt8), l.length ≤ n → ∀ t ∈ (lexP p l).1, t.pos ≤ p + l.length
  | n, p, [], _, t, h => by rw [lex_nil] at h; simp at h
  | 0, p, c :: r, h, _, _ => by simp at h
  | n + 1, p, c :: r, hn, t, h => by
    rw [List.length_cons] at hn ⊢
    cases hw : whB c with
    | true =>
      rw [lex_white _ _ hw] at h
      have := lex_pos n (p + 1) r (by omega) t h
      omega
    | false =>
      by_cases h0 : (firstL (c :: r)).2 = 0
      · rw [lex_tok p hw h0] at h
        have hs := first_size h0
        rw [List.length_cons] at hs
        rcases List.mem_cons.1 h with rfl | h
        · show p ≤ _; omega
        · have := lex_pos n _ ((c :: r).drop (sizeT (firstL (c :: r)).1)) (by rw [List.length_drop, List.length_cons]; omega) t h
          rw [List.length_drop, List.length_cons] at this
          omega
      · rw [lex_err p hw h0] at h
        simp at h
theorem tok_pos (l : List UInt8) (t : Tk) (h : t ∈ (tokL l).1) : t.pos ≤ l.length := by
  unfold tokL at h
  split at h
  · simp at h
  · unfold comb at h
    split at h
    · rw [List.nil_append] at h
      have := lex_pos l.length 0 l (Nat.le_refl _) t h
      omega
    · simp at h

set_option maxRecDepth 100000 in
set_option maxHeartbeats 16000000 in
theorem concat_walk (sv1 : Value) (zs1 : List Int) (sv2 : Value) (zs2 : List Int) (which : Int) (w : World) (hI1 : IntsIn w sv1 zs1) (hI2 : IntsIn w sv2 zs2) (m1 : -9223372036854775808 ≤ which) (m2 : which ≤ 9223372036854775807) (hE : LEnv w) :
    Calls Tryd.prog 7 #[sv1, sv2, .int .i64 which] w fun e w' => e = .returned (.bool true) ∧ Below w.heap.size w w' := by
  have hW := Below.refl w.heap.size w
  obtain ⟨⟨a0, c0, hsv1, -⟩, -⟩ := id hI1
  obtain ⟨⟨b0, d0, hsv2, -⟩, -⟩ := id hI2
  subst hsv1 hsv2
  obtain ⟨k4, hk4⟩ : ∃ k : Nat, aroundI which 4 = (k : Int) := ⟨(aroundI which 4).toNat, by have := aroundI_lo which 4 (by omega); omega⟩
  have hk4l : k4 < 4 := by have := aroundI_hi which 4 (by omega); omega
  obtain ⟨xb, hxb, hslx⟩ := four_white k4 hk4l
  have AR := Lib.hid (fun W => around_any which 4 W m1 m2 (by omega) (by omega))
  rw [hk4] at AR
  have HX := Lib.hid hxb
  have bk : IntKind.i64.wrap ((k4 : Int) + 1) = (k4 : Int) + 1 := by rw [IntKind.wrap_i64]; omega
  clear hk4 hxb
  go_enter Tryd.func7, Tryd.ntmps7
  go_wp2_with (first
    | (go_at_call 12; first
       | (have _h := hs1; refine (source_any _ _ _ (hI2.below hW)).mono ?_; rintro e w1 ⟨s2, rfl, hs2, hB⟩; replace hW := step_low hW hB; clear hB)
       | (refine (source_any _ _ _ (hI1.below hW)).mono ?_; rintro e w1 ⟨s1, rfl, hs1, hB⟩; replace hW := step_low hW hB; clear hB))
    | (go_at_call 15; first
       | (refine (short_any s2 300 _ (by omega) (by omega) (by omega)).mono ?_; rintro e w1 ⟨⟨f2, rfl, hf2⟩, rfl⟩)
       | (refine (short_any s1 300 _ (by omega) (by omega) (by omega)).mono ?_; rintro e w1 ⟨⟨f1, rfl, hf1⟩, rfl⟩))
    | (go_at_call 16; refine (AR.out _).mono ?_; rintro e w' ⟨rfl, rfl⟩))
  have hE1 := hE.below hW
  have hl1 := list_len f1
  have hl2 := list_len f2
  obtain ⟨c1, c2, c3⟩ := tok_cat f1.data.toList f2.data.toList HX.out (by omega)
  have T1 := fun W (h : LEnv W) => tokens_any f1 W (by omega) h
  have T2 := fun W (h : LEnv W) => tokens_any f2 W (by omega) h
  have hsx : (ba [xb]).size = 1 := ba_len [xb]
  have hcl : (f1 ++ ba [xb] ++ f2 : ByteArray).data.toList = f1.data.toList ++ xb :: f2.data.toList := by simp [ba]
  have T3 := fun W (h : LEnv W) => tokens_any (f1 ++ ba [xb] ++ f2) W (by simp only [ByteArray.size_append]; omega) h
  rw [hcl] at T3
  have hn1 := comb_len f1.data.toList
  have hn2 := comb_len f2.data.toList
  obtain ⟨⟨ts1, a1, e1⟩, hq1⟩ : ∃ q, tokL f1.data.toList = q := ⟨_, rfl⟩
  obtain ⟨⟨ts2, a2, e2⟩, hq2⟩ : ∃ q, tokL f2.data.toList = q := ⟨_, rfl⟩
  have ha2 : a2 ≤ 2000 := by
    by_cases h : (tokL f2.data.toList).2.2 = 0
    · have h3 : tokL f2.data.toList = (ts2, a2, 0) := by rw [hq2]; rw [hq2] at h; rw [show e2 = 0 from h]
      have := (tok_ok h3).2.1
      omega
    · have := (err_at _ h).2
      rw [hq2] at this
      have h4 : a2 ≤ f2.data.toList.length := this
      omega
  have hpos : ∀ t ∈ ts2, t.pos ≤ 2000 := fun t ht => by
    have h := tok_pos f2.data.toList t (by rw [hq2]; exact ht)
    omega
  rw [hq1] at c1 c2 c3 T1 hn1
  rw [hq2] at c2 c3 T2 hn2
  obtain ⟨q3, hq3⟩ : ∃ q, tokL (f1.data.toList ++ xb :: f2.data.toList) = q := ⟨_, rfl⟩
  rw [hq3] at c1 c2 c3 T3
  obtain ⟨D, hD⟩ : ∃ D, f1.data.toList.length + 1 = D := ⟨_, rfl⟩
  rw [hD] at c2 c3
  have bD : IntKind.i64.wrap ((f1.size : Int) + 1) = (D : Int) := by rw [IntKind.wrap_i64]; omega
  have hD3 : D ≤ 301 := by omega
  replace T1 := Lib.hid T1
  replace T2 := Lib.hid T2
  clear hq1 hq2 hq3 hcl hl1 hl2 hD hI1 hI2
  by_cases h1 : e1 = 0
  · subst h1
    by_cases h2 : e2 = 0
    · subst h2
      obtain rfl := c3 rfl rfl
      clear c1 c2 c3
      replace T3 := Lib.hid T3
      obtain ⟨N1, hN1⟩ : ∃ N, ts1.length = N := ⟨_, rfl⟩
      obtain ⟨N2, hN2⟩ : ∃ N, ts2.length = N := ⟨_, rfl⟩
      obtain ⟨N3, hN3⟩ : ∃ N, (ts1 ++ ts2.map (shiftT D)).length = N := ⟨_, rfl⟩
      replace hn1 : N1 ≤ 2000 := by rw [← hN1]; exact hn1
      replace hn2 : N2 ≤ 2000 := by rw [← hN2]; exact hn2
      have hN : N3 = N1 + N2 := by rw [← hN3, List.length_append, List.length_map, hN1, hN2]
      have bN : IntKind.i64.wrap ((N1 : Int) + (N2 : Int)) = (N3 : Int) := by rw [IntKind.wrap_i64]; omega
      have bNe : ((N3 : Int) != (N3 : Int)) = false := by simp
      have HN1 := Lib.hid hN1
      have HN2 := Lib.hid hN2
      have HN3 := Lib.hid hN3
      have HNN := Lib.hid hN
      have HP := Lib.hid (show ∀ t ∈ ts2, t.pos ≤ 2000 from hpos)
      clear hN1 hN2 hN3 hN hpos
      (with_reducible refine (T1.out _ hE1).mono ?_)
      rintro e w2 ⟨v1, rfl, ho1, hB1⟩
      have hT1 := tsAt_of ho1; clear ho1; obtain ⟨p1, cp1, hv1⟩ := hT1.slice; rw [HN1.out] at hv1; subst hv1
      go_wp2_with (first | (go_at_call 20; first | (refine (T3.out _ (hE1.below (step_low hB1 hB2))).mono ?_; rintro e w4 ⟨v3, rfl, ho3, hB3⟩; have hW4 := step_low (step_low (step_low hW hB1) hB2) hB3; have hT3 := tsAt_of ho3; clear ho3; obtain ⟨p3, cp3, hv3⟩ := hT3.slice; rw [HN3.out] at hv3; subst hv3) | (refine (T2.out _ (hE1.below hB1)).mono ?_; rintro e w3 ⟨v2, rfl, ho2, hB2⟩; have hT2 := tsAt_of ho2; clear ho2; obtain ⟨p2, cp2, hv2⟩ := hT2.slice; rw [HN2.out] at hv2; subst hv2)))
      have H1 := Lib.hid ((hT1.below hB2).below hB3)
      have H2 := Lib.hid (hT2.below hB3)
      have H3 := Lib.hid hT3
      replace hW4 := Lib.hid hW4
      clear hT1 hT2 hT3 hB1 hB2 hB3 T1 T2 T3 bN bNe
      go_loopw [21] (fun v wr => ∃ k : Nat, k ≤ N3 ∧ v = .int .i64 (k : Int) ∧ Below w4.heap.size w4 wr) (fun v _ => N3 - (intOf v).toNat)
      case atStart => exact ⟨0, Nat.zero_le _, rfl, Below.refl _ _⟩
      case round =>
        obtain ⟨k, hk, rfl, hw⟩ := hrel
        have hNN := HNN.out
        have hN4 : N3 ≤ 4000 := by omega
        by_cases hlt : k < N3
        · have b1 : (k : Int) < (N3 : Int) := by omega
          rcases H3.out with ⟨_, h0⟩ | ⟨g3, q3, hv3, hg3, hc3⟩
          · have := HN3.out; rw [h0] at this; simp at this; omega
          obtain rfl : p3 = some ⟨g3, 0, none⟩ := by simp at hv3; exact hv3.1
          have hz3 : g3 < wr.heap.size := Nat.lt_of_lt_of_le hg3 hw.size
          by_cases hk1 : k < N1
          · have b2 : (k : Int) < (N1 : Int) := by omega
            have b3 : ¬ (N1 : Int) ≤ (k : Int) := by omega
            obtain ⟨t, ht⟩ : ∃ t, ts1[k]? = some t := ⟨_, List.getElem?_eq_getElem (by rw [HN1.out]; exact hk1)⟩
            have ht3 : (ts1 ++ ts2.map (shiftT D))[k]? = some t := by rw [List.getElem?_append_left (by rw [HN1.out]; exact hk1)]; exact ht
            rcases H1.out with ⟨_, h0⟩ | ⟨g1, q1, hv1, hg1, hc1⟩
            · rw [h0] at ht; simp at ht
            obtain rfl : p1 = some ⟨g1, 0, none⟩ := by simp at hv1; exact hv1.1
            have hz1 : g1 < wr.heap.size := Nat.lt_of_lt_of_le hg1 hw.size
            obtain ⟨x0, x1, x2, x3⟩ := t
            obtain ⟨c3a, c3b, c3c, c3d⟩ := hc3 k _ ht3
            replace c3a := (hw.cell (p := ⟨g3, k * 4, none⟩) hg3).trans c3a
            replace c3b := (hw.cell (p := ⟨g3, k * 4 + 1, none⟩) hg3).trans c3b
            replace c3c := (hw.cell (p := ⟨g3, k * 4 + 2, none⟩) hg3).trans c3c
            replace c3d := (hw.cell (p := ⟨g3, k * 4 + 3, none⟩) hg3).trans c3d
            obtain ⟨c1a, c1b, c1c, c1d⟩ := hc1 k _ ht
            replace c1a := (hw.cell (p := ⟨g1, k * 4, none⟩) hg1).trans c1a
            replace c1b := (hw.cell (p := ⟨g1, k * 4 + 1, none⟩) hg1).trans c1b
            replace c1c := (hw.cell (p := ⟨g1, k * 4 + 2, none⟩) hg1).trans c1c
            replace c1d := (hw.cell (p := ⟨g1, k * 4 + 3, none⟩) hg1).trans c1d
            have TQ := fun W => teq_walk (x0 : Int) (x2 : Int) (x3 : Int) (ba x1) W
            clear ht ht3 hc1 hc3 hv1 hv3 hNN
            go_wp2
            go_quiet (fail)
            go_wp2
            go_roundw
            case measure => simp [intOf]; omega
            case rel => exact ⟨k + 1, by omega, by go_num, below_draw (hw.alloc hw.size _) _⟩
          · have b2 : decide (k < N1) = false := decide_eq_false hk1
            have b2i : ¬ (k : Int) < (N1 : Int) := by omega
            have B2 := Lib.hid b2
            have b3 : (N1 : Int) ≤ (k : Int) := by omega
            obtain ⟨j, hj⟩ : ∃ j, k - N1 = j := ⟨_, rfl⟩
            have bj : IntKind.i64.wrap ((k : Int) - (N1 : Int)) = (j : Int) := by rw [IntKind.wrap_i64]; omega
            have bj2 : (j : Int) < (N2 : Int) := by omega
            obtain ⟨t, ht⟩ : ∃ t, ts2[j]? = some t := ⟨_, List.getElem?_eq_getElem (by rw [HN2.out]; omega)⟩
            have ht3 : (ts1 ++ ts2.map (shiftT D))[k]? = some (shiftT D t) := by
              rw [List.getElem?_append_right (by rw [HN1.out]; omega), HN1.out, hj, List.getElem?_map, ht]; rfl
            have hpt := HP.out t (List.mem_of_getElem? ht)
            rcases H2.out with ⟨_, h0⟩ | ⟨g2, q2, hv2, hg2, hc2⟩
            · rw [h0] at ht; simp at ht
            obtain rfl : p2 = some ⟨g2, 0, none⟩ := by simp at hv2; exact hv2.1
            have hz2 : g2 < wr.heap.size := Nat.lt_of_lt_of_le hg2 hw.size
            obtain ⟨x0, x1, x2, x3⟩ := t
            obtain ⟨P, hP⟩ : ∃ P, x3 + D = P := ⟨_, rfl⟩
            have ht3' : (ts1 ++ ts2.map (shiftT D))[k]? = some ⟨x0, x1, x2, P⟩ := by rw [ht3, ← hP]; rfl
            have bP : IntKind.i64.wrap ((x3 : Int) + (D : Int)) = (P : Int) := by
              have h9 : x3 ≤ 2000 := hpt
              rw [IntKind.wrap_i64]; omega
            obtain ⟨c3a, c3b, c3c, c3d⟩ := hc3 k _ ht3'
            replace c3a := (hw.cell (p := ⟨g3, k * 4, none⟩) hg3).trans c3a
            replace c3b := (hw.cell (p := ⟨g3, k * 4 + 1, none⟩) hg3).trans c3b
            replace c3c := (hw.cell (p := ⟨g3, k * 4 + 2, none⟩) hg3).trans c3c
            replace c3d := (hw.cell (p := ⟨g3, k * 4 + 3, none⟩) hg3).trans c3d
            obtain ⟨c2a, c2b, c2c, c2d⟩ := hc2 j _ ht
            replace c2a := (hw.cell (p := ⟨g2, j * 4, none⟩) hg2).trans c2a
            replace c2b := (hw.cell (p := ⟨g2, j * 4 + 1, none⟩) hg2).trans c2b
            replace c2c := (hw.cell (p := ⟨g2, j * 4 + 2, none⟩) hg2).trans c2c
            replace c2d := (hw.cell (p := ⟨g2, j * 4 + 3, none⟩) hg2).trans c2d
            have TQ := fun W => teq_walk (x0 : Int) (x2 : Int) (P : Int) (ba x1) W
            clear ht ht3 ht3' hc2 hc3 hv2 hv3 hNN hj hP hpt b2 hk1
            go_wp2
            have b2 := B2.out
            go_quiet (fail)
            go_wp2
            go_roundw
            case measure => simp [intOf]; omega
            case rel => exact ⟨k + 1, by omega, by go_num, by first | exact below_draw (hw.alloc hw.size _) _ | exact (below_draw (hw.alloc hw.size _) _).alloc (Below.size (below_draw (hw.alloc hw.size _) _)) _⟩
        · have b1 : ¬ (k : Int) < (N3 : Int) := by omega
          clear hNN
          go_wp2_with (go_at_call 14; refine (lives_any _ (hE.below (step_low hW4.out hw))).mono ?_; rintro e w5 ⟨rfl, hB5⟩)
          go_ret
          exact ⟨rfl, step_low (step_low hW4.out hw) hB5⟩
    · obtain rfl := c2 rfl h2
      have e2n : ((e2 : Int) != 0) = true := by simp; exact h2
      have bj : IntKind.i64.wrap ((a2 : Int) + (D : Int)) = ((a2 + D : Nat) : Int) := by rw [IntKind.wrap_i64]; omega
      replace T3 := Lib.hid T3
      clear c1 c2 c3 h2
      (with_reducible refine (T1.out _ hE1).mono ?_)
      rintro e w2 ⟨v1, rfl, ho1, hB1⟩
      have hT1 := tsAt_of ho1; clear ho1; obtain ⟨p1, cp1, hv1⟩ := hT1.slice; subst hv1
      go_wp2_with (first | (go_at_call 20; first | (refine (T3.out _ (hE1.below (step_low hB1 hB2))).mono ?_; rintro e w4 ⟨v3, rfl, ho3, hB3⟩; have hW4 := step_low (step_low (step_low hW hB1) hB2) hB3; have hT3 := tsAt_of ho3; clear ho3; obtain ⟨p3, cp3, hv3⟩ := hT3.slice; subst hv3) | (refine (T2.out _ (hE1.below hB1)).mono ?_; rintro e w3 ⟨v2, rfl, ho2, hB2⟩; have hT2 := tsAt_of ho2; clear ho2; obtain ⟨p2, cp2, hv2⟩ := hT2.slice; subst hv2)) | (go_at_call 14; refine (lives_any _ (hE.below hW4)).mono ?_; rintro e w5 ⟨rfl, hB5⟩; have hW5 := step_low hW4 hB5))
      go_ret
      exact ⟨rfl, hW5⟩
  · obtain rfl := c1 h1
    have e1n : ((e1 : Int) != 0) = true := by simp; exact h1
    replace T3 := Lib.hid T3
    clear c1 c2 c3 h1
    (with_reducible refine (T1.out _ hE1).mono ?_)
    rintro e w2 ⟨v1, rfl, ho1, hB1⟩
    have hT1 := tsAt_of ho1; clear ho1; obtain ⟨p1, cp1, hv1⟩ := hT1.slice; subst hv1
    go_wp2_with (first | (go_at_call 20; first | (refine (T3.out _ (hE1.below (step_low hB1 hB2))).mono ?_; rintro e w4 ⟨v3, rfl, ho3, hB3⟩; have hW4 := step_low (step_low (step_low hW hB1) hB2) hB3; have hT3 := tsAt_of ho3; clear ho3; obtain ⟨p3, cp3, hv3⟩ := hT3.slice; subst hv3) | (refine (T2.out _ (hE1.below hB1)).mono ?_; rintro e w3 ⟨v2, rfl, ho2, hB2⟩; have hT2 := tsAt_of ho2; clear ho2; obtain ⟨p2, cp2, hv2⟩ := hT2.slice; subst hv2)) | (go_at_call 14; refine (lives_any _ (hE.below hW4)).mono ?_; rintro e w5 ⟨rfl, hB5⟩; have hW5 := step_low hW4 hB5))
    go_ret
    exact ⟨rfl, hW5⟩
end Go.Proofs.YtpmndopcemdniaaDoor
