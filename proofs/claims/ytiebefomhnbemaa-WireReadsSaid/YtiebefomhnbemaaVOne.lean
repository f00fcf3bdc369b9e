/- Statement WireOne: bytes that are read without an error to their end have one encoding. Conditions: none. -/
import Derived.Deep.DeepCutAuto
import Derived.Test.YtiebefomhnbemaaVOneH
namespace Go.Proofs.Ytiebefomhnbemaa
open Go.ChangeShapes Go.WideShapes Go.ChangeAt Go.RowKit

theorem InAt.belowW {k : IntKind} {w W : World} {sv : Value} {zs : List Int} (h : InAt k w.heap.size w sv zs) (hB : Below w.heap.size w W) : InAt k w.heap.size W sv zs := InAt.below hB h
set_option maxRecDepth 100000 in
set_option maxHeartbeats 16000000 in
theorem one_walk (ra : Option Addr) (rcap : Nat) (raw : List UInt8) (a : Option Addr) (cap : Nat) (zs : List Int) (at_ z : Int) (ka : Option Addr) (kcap : Nat) (ks : List Int) (w : World) (hraw : raw.length ≤ 140737488351232) (hIr : InAt .u8 w.heap.size w (.slice ra raw.length rcap) (raw.map ofByte)) (hz : zs.length ≤ 140737488351232) (hzi : ∀ z ∈ zs, (Lit.int .i64 z).wf = true) (hI : InAt .i64 w.heap.size w (.slice a zs.length cap) zs) (ha' : (Lit.int .i64 at_).wf = true) (hz' : (Lit.int .u8 z).wf = true) (_hks : ks.length ≤ 140737488351232) (hki : ∀ z ∈ ks, (Lit.int .i64 z).wf = true) (hIk : InAt .i64 w.heap.size w (.slice ka ks.length kcap) ks) :
    Calls Try.prog 6 #[.slice ra raw.length rcap, .slice a zs.length cap, .int .i64 at_, .int .u8 z, .slice ka ks.length kcap] w fun e w' => e = .returned (.bool true) ∧ Below w.heap.size w w' := by
  obtain ⟨i0, hi, hz0, hz1, hz2⟩ := info_parts Try.infoVal
  have hat := in_of_i64 ha'
  obtain ⟨cb, rfl⟩ := byte_of hz'
  have hv := vals_any a cap zs w hz hzi hI
  have Hki := Lib.hid hki
  have HIk := Lib.hid hIk
  have HIr := Lib.hid hIr
  clear ha' hz' hzi hI hki hIk hIr
  go_enter Try.func6, Try.ntmps6
  go_wp2_with fail
  refine hv.mono ?_
  rintro e w1 ⟨v, it, rfl, hG, hF, hil, hB1⟩
  have hvs := hG.at
  have hsm : ∀ t ∈ it, Small t.1 := fun t ht => (hF t ht).small
  obtain ⟨a1, c1, rfl⟩ := hvs.slice
  have hv1 := hvs.mono (Q := (· < w1.heap.size)) (fun k hk _ => hk)
  have Hsm := Lib.hid hsm
  have HFi := Lib.hid hF
  have hs1 := hB1.size
  clear hG hvs hsm hF hv
  go_wp2_with fail
  refine (encode_any (· < w1.heap.size) a1 c1 it w1 (by omega) Hsm.out hv1).mono ?_
  rintro e w2 ⟨v2, rfl, hb2, hB2⟩
  have hv2 := hv1.below hB2
  obtain ⟨B, hBd⟩ : ∃ B, encAll (vals it) = B := ⟨_, rfl⟩
  have hel := encAll_fine it HFi.out
  rw [hBd] at hel
  rw [hBd] at hb2
  obtain ⟨a2, c2, rfl⟩ := hb2.slice
  have hA := below_then hB1 hB2
  have hs2 := hB2.size
  have hel2 : B.length ≤ 1000 := by omega
  clear hBd hv1 hB1 hB2 hel
  go_upto_if 24 with fail
  go_cut [] from 18 (fun wx => ∃ T : List UInt8, T.length = B.length ∧ Bs w1.heap.size wx (.slice a2 B.length c2) T ∧ VsAt (· < w1.heap.size) wx (.slice a1 it.length c1) it ∧ Below w.heap.size w wx ∧ w1.heap.size ≤ wx.heap.size)
  case first =>
    by_cases hB0 : B.length = 0
    · go_wp2_with fail
      go_meet
      case rel => exact ⟨B, rfl, hb2, hv2, hA, hs2⟩
    · have hBz : ¬ (B.length : Int) = 0 := by omega
      obtain ⟨g, rfl⟩ := row_some hb2.row (by rw [List.length_map]; omega)
      have hBi : (1 : Int) ≤ (B.length : Int) := by omega
      have hbpos : (0 : Int) < (B.length : Int) := by omega
      go_wp2_with fail
      refine (around_any at_ (B.length : Int) w2 hat.1 hat.2 hBi (by omega)).mono ?_
      rintro e w' ⟨rfl, rfl⟩
      have hm0 := aroundI_lo at_ (B.length : Int) hBi
      have hm1 := aroundI_hi at_ (B.length : Int) hBi
      obtain ⟨m, hm⟩ := Int.eq_ofNat_of_zero_le hm0
      rw [hm] at hm1 ⊢
      clear hm hm0
      have hmB : m < B.length := by omega
      have hcm := hb2.row.cell (by rw [List.length_map]) m (by rw [List.length_map]; exact hmB)
      have hfm := hb2.row.free (by rw [List.length_map]) m
      have hgl := hb2.row.lt
      have hbT := hb2.stored rfl m cb
      have hvT := hv2.kp (Kp.of_base (cset (Below.refl w1.heap.size w2) g m hgl.1 (.int .u8 (ofByte cb))))
      have hsW : w1.heap.size ≤ (w2.setCell ⟨g, m, none⟩ (.int .u8 (ofByte cb))).heap.size := Nat.le_trans hs2 (cset (Below.refl w1.heap.size w2) g m hgl.1 (.int .u8 (ofByte cb))).size
      have hAT := hA.trans (cset (Below.refl w.heap.size w2) g m (by omega) (.int .u8 (ofByte cb)))
      go_wp2_with fail
      go_meet
      case rel => exact ⟨B.set m cb, List.length_set, hbT, hvT, hAT, hsW⟩
  case rest =>
    obtain ⟨T, hTl, hbT, hvT, hAT, hsW⟩ := hcut
    obtain ⟨W2, rfl⟩ : ∃ W : World, W = wc := ⟨_, rfl⟩
    have hTn : T.length ≤ 1000 := by omega
    rw [← hTl] at hbT ⊢
    clear hTl hb2 hv2 hA hel2
    go_wp2_with fail
    obtain ⟨a9, rfl⟩ : ∃ a9, a9 = a2 := ⟨_, rfl⟩
    have hs3 := hAT.size
    refine (read_any W2.heap.size a9 c2 T W2 (by omega) hbT.in (Nat.le_refl _)).mono ?_
    rintro e w4 ⟨r, rfl, hrb, hR, hB4⟩
    have hv4 := hvT.below hB4
    have hbI := hbT.in.below hB4
    have hA4 := below_then hAT hB4
    have hs4 := hA4.size
    have hs5 := hB4.size
    have hrl := hR.lt
    clear hvT hbT hAT hB4
    go_wp2_with fail
    go_loopw [14, 15] (fun gv iv wr => ∃ (k : Nat) (gs : List VT) (st : St), iv = .int .i64 k ∧ k ≤ it.length ∧ gs.length = k ∧ Rd W2.heap.size wr r st ∧ st.bs.length ≤ 1000 ∧ Read1 T gs st ∧ Gen w4.heap.size wr gv gs ∧ (∀ t ∈ gs, Small t.1) ∧ Kp (fun j => j < w4.heap.size ∧ j ≠ r) w4 wr) (fun _ iv _ => it.length - (intOf iv).toNat)
    case atStart => exact ⟨0, [], ⟨T, 0⟩, rfl, Nat.zero_le _, rfl, hR, hTn, Read1.start T, Gen.nil _ _, by simp, Kp.refl _ _⟩
    case round =>
      obtain ⟨gv, rfl⟩ : ∃ x : Value, x = u14 := ⟨_, rfl⟩
      obtain ⟨k, gs, st, rfl, hk, hgl, hRk, hsb, hR1, hGk, hSk, hK⟩ := hrel
      have HSk := Lib.hid hSk
      have hbw : w4.heap.size ≤ wr.heap.size := hK.size
      clear hSk hR
      by_cases hlt : k < it.length
      · have hvr := hv4.kp (hK.mono (fun j (h : j < w1.heap.size) => ⟨by omega, by omega⟩))
        obtain ⟨g, rfl, hg, hgs, hlc, hcell, hvp⟩ := hvr.get k hlt
        have c0 := hcell 0 (by omega)
        simp only [cells5, Nat.add_zero, List.getElem?_cons_zero] at c0
        have hkk := (HFi.out it[k] (List.getElem_mem hlt)).1.1
        obtain ⟨kd, hkd⟩ : ∃ kd, it[k].1.k = kd := ⟨_, rfl⟩
        rw [hkd] at c0 hkk
        have hk0 : (0 : Int) ≤ (k : Int) := by omega
        have hk1 : (k : Int) < (it.length : Int) := by omega
        clear hcell hvp hvr hkd
        go_wp2_with fail
        refine (vread_any W2.heap.size r kd hkk.1 hkk.2 st wr (by omega) hRk).mono ?_
        rintro e wn ⟨⟨⟨tk, tu, tn, tb, tl⟩, q1, q2⟩, rfl, ht, hvt, hRn, hKn⟩
        have hsm := rV_small kd st hkk.1 hkk.2 hsb
        rw [← ht] at hsm
        have hbl := Nat.le_trans (rV_len kd st) hsb
        have hN1 := hR1.next (k := kd) (t := ((⟨tk, tu, tn, tb, tl⟩ : V), q1, q2)) ht
        have hGn := hGk.kp hKn (fun j hj => by omega)
        have hKK := hK.trans (hKn.mono (fun j h => h.2))
        obtain ⟨st2, hst2⟩ : ∃ s, (rV kd st).2 = s := ⟨_, rfl⟩
        rw [hst2] at hRn hbl hN1
        obtain ⟨x1, y1, e1⟩ := hvt.1.in'.slice
        obtain ⟨x2, y2, e2⟩ := hvt.2.in'.slice
        simp only at e1 e2
        subst e1
        subst e2
        have hvq := hvt.mono (Q := fun j => w4.heap.size ≤ j ∧ some j ≠ gv.ownBlock) (fun j _ h => ⟨Nat.le_trans hbw h, fun e => by have := (hGk.1.lt j e.symm).2; have h' : wr.heap.size ≤ j := h; omega⟩)
        have hrown := hGn.1
        have hbn : w4.heap.size ≤ wn.heap.size := hKK.size
        have HN1 := Lib.hid hN1
        have Hsm2 := Lib.hid hsm
        simp only [aggV]
        clear ht hst2 hRk hR1 hGk hvt hN1 hsm
        go_wp2_with (at_builtin; refine wpList_append_own_at _ rfl _ _ 25 rfl w4.heap.size 28 i0 (.agg #[.int .i64 0, .int .u64 0, .int .i64 0, .slice none 0 0, .slice none 0 0]) 5 72 Try.underlying25 hi hz0 hz1 hz2 rfl (by decide) _ _ _ rfl (hrown.alloc _) ⟨_, 0, none⟩ 1 1 [.int .i64 tk, .int .u64 (tu : Int), .int .i64 tn, .slice x1 tb.length y1, .slice x2 tl.length y2] rfl rfl (World.news_of_block (cs := #[.int .i64 tk, .int .u64 (tu : Int), .int .i64 tn, .slice x1 tb.length y1, .slice x2 tl.length y2]) (World.alloc_heap_new _ _)) (by simp [Value.oneCell']) (by unfold maxLen; omega) (by omega) (by simp; omega) ?_; intro v' w5 hown' hgrow hnn hat; clear hnn)
        have hp := Gen.push2 (t := ((⟨tk, tu, tn, tb, tl⟩ : V), .slice x1 tb.length y1, .slice x2 tl.length y2)) hGn hbn hvq hown' hgrow hat
        have hR5 := hRn.kp (.of_base hp.2) (fun j h => show j < w4.heap.size by omega)
        have hK5 := hKK.trans ((Kp.of_base hp.2).mono (fun j h => h.1))
        have hS5 := small_snoc HSk.out Hsm2.out
        clear hown' hgrow hat hrown hvq hGn
        go_roundw
        case rel => exact ⟨k + 1, gs ++ [((⟨tk, tu, tn, tb, tl⟩ : V), .slice x1 tb.length y1, .slice x2 tl.length y2)], st2, by go_num, by omega, by rw [List.length_append, hgl]; rfl, hR5, hbl, HN1.out, hp.1, hS5, hK5⟩
        case measure => simp [intOf]; omega
      · obtain rfl : k = it.length := by omega
        have hE := rend_any r st wr (by omega) hRk
        have hA5 : Below w.heap.size w wr := hA4.trans (hK.below hs4 (fun j h => ⟨by omega, by omega⟩))
        have hbIr := hbI.below (hK.below hs5 (fun j h => ⟨by omega, by omega⟩))
        have hvg := hGk.at
        obtain ⟨ag, cg, rfl⟩ := hvg.slice
        obtain ⟨W5, rfl⟩ : ∃ W : World, W = wr := ⟨_, rfl⟩
        have hg30 : gs.length ≤ 30 := by omega
        clear hK hGk hRk hgl
        go_upto_region 13 with fail
        go_cut [61] from 18 (fun s61 wx => s61 = .bool false ∧ Below w.heap.size w wx)
        case first =>
          go_wp2_with fail
          refine hE.mono ?_
          rintro e w' ⟨rfl, rfl⟩
          clear hE
          by_cases he : endE st = 0
          · have heZ : ((endE st : Nat) : Int) = 0 := by omega
            go_wp2_with fail
            have hT := hR1.fin he
            refine (encode_any _ ag cg gs W5 hg30 HSk.out hvg).mono ?_
            rintro e w5 ⟨v5, rfl, hb5, hB5⟩
            rw [← hT] at hb5
            obtain ⟨a5, c5, rfl⟩ := hb5.slice
            have hbI5 := BIn.below hbIr (hB5.mono (Nat.le_trans hs5 hbw))
            have hsw := hB5.size
            have hB6 := below_then hA5 hB5
            clear hT
            go_wp2_with fail
            refine (sameb_any a5 a9 c5 c2 T T w5 (by omega) (Nat.le_refl _) hb5.in (BIn.mono (Nat.le_trans hs5 (Nat.le_trans hbw hsw)) hbI5)).mono ?_
            rintro e w6 ⟨rfl, hB7⟩
            rw [decide_eq_true (rfl : T = T)]
            replace hB6 := below_then hB6 hB7
            clear hb5 hB7
            go_wp2_with fail
            go_meet
            case rel => exact ⟨rfl, hB6⟩
          · have heZ : ¬ ((endE st : Nat) : Int) = 0 := by omega
            go_wp2_with fail
            go_meet
            case rel => exact ⟨rfl, hA5⟩
        case rest =>
          obtain ⟨rfl, hB6⟩ := hcut
          obtain ⟨W6, rfl⟩ : ∃ W : World, W = wc := ⟨_, rfl⟩
          clear hE hR1 HSk hvg hbIr hA5
          go_wp2_with fail
          refine (few_row ra rcap raw 60 _ (by omega) (by omega) (by omega) (n₀ := w.heap.size) (InAt.belowW HIr.out hB6)).mono ?_
          rintro e w6 ⟨a6, c6, rfl, hf6, hBf⟩
          obtain ⟨Fw, hFw⟩ : ∃ Fw, raw.take (60 : Int).toNat = Fw := ⟨_, rfl⟩
          have hFl : Fw.length ≤ 60 := by rw [← hFw]; exact Nat.le_trans (List.length_take_le _ _) (by decide)
          rw [hFw] at hf6 ⊢
          have hA6 := below_then hB6 hBf
          have hbs6 := hf6.bs
          clear hFw hf6 hBf hB6
          go_wp2_with fail
          refine (read_any w6.heap.size a6 c6 Fw w6 (by omega) hbs6.in (Nat.le_refl _)).mono ?_
          rintro e w7 ⟨r2, rfl, hrb2, hRR, hB7⟩
          have hbI2 := hbs6.in.below hB7
          have hs6 := hA6.size
          have hA7 := below_then hA6 hB7
          have hs7 := hA7.size
          have hs8 := hB7.size
          have hrl2 := hRR.lt
          clear hbs6 hA6 hB7
          go_wp2_with fail
          go_loopw [14, 17] (fun gv iv wr => ∃ (k : Nat) (gs : List VT) (st : St), iv = .int .i64 k ∧ k ≤ 10 ∧ gs.length = k ∧ Rd w6.heap.size wr r2 st ∧ st.bs.length ≤ 1000 ∧ Read1 Fw gs st ∧ Gen w7.heap.size wr gv gs ∧ (∀ t ∈ gs, Small t.1) ∧ Kp (fun j => j < w7.heap.size ∧ j ≠ r2) w7 wr) (fun _ iv _ => 10 - (intOf iv).toNat)
          case atStart => exact ⟨0, [], ⟨Fw, 0⟩, rfl, Nat.zero_le _, rfl, hRR, by show Fw.length ≤ 1000; omega, Read1.start Fw, Gen.nil _ _, by simp, Kp.refl _ _⟩
          case round =>
            obtain ⟨gv, rfl⟩ : ∃ x : Value, x = u14 := ⟨_, rfl⟩
            obtain ⟨k, gs, st, rfl, hk, hgl, hRk, hsb, hR1, hGk, hSk, hK⟩ := hrel
            have HSk := Lib.hid hSk
            have hbw : w7.heap.size ≤ wr.heap.size := hK.size
            have hE := rend_any r2 st wr (by omega) hRk
            have hA5 : Below w.heap.size w wr := hA7.trans (hK.below hs7 (fun j h => ⟨by omega, by omega⟩))
            have hbIr := hbI2.below (hK.below hs8 (fun j h => ⟨by omega, by omega⟩))
            have hvg := hGk.at
            obtain ⟨ag, cg, rfl⟩ := hvg.slice
            clear hSk hRR
            have hg30 : gs.length ≤ 30 := by omega
            have Hgl := Lib.hid hgl
            clear hgl
            go_upto_region 21 with fail
            go_cut [80] from 68 to 92 (fun s80 wx => ∃ b : Bool, s80 = .bool b ∧ (b = true → k < ks.length ∧ k < 10 ∧ ¬ endE st = 0) ∧ wr = wx)
            case first =>
              by_cases hlt : k < ks.length
              · by_cases h10 : k < 10
                · go_wp2_with fail
                  refine hE.mono ?_
                  rintro e w' ⟨rfl, rfl⟩
                  by_cases he : endE st = 0
                  · have heZ : ((endE st : Nat) : Int) = 0 := by omega
                    go_wp2_with fail
                    go_meet
                    case rel => exact ⟨_, rfl, by simp_all, rfl⟩
                  · have heZ : ¬ ((endE st : Nat) : Int) = 0 := by omega
                    go_wp2_with fail
                    go_meet
                    case rel => exact ⟨_, rfl, fun _ => ⟨hlt, h10, he⟩, rfl⟩
                · go_wp2_with fail
                  go_meet
                  case rel => exact ⟨_, rfl, by simp, rfl⟩
              · go_wp2_with fail
                go_meet
                case rel => exact ⟨_, rfl, by simp, rfl⟩
            case rest =>
              obtain ⟨b, rfl, hb, rfl⟩ := hcut
              cases b
              · clear hb
                by_cases he : endE st = 0
                · obtain ⟨W5, rfl⟩ : ∃ W : World, W = wr := ⟨_, rfl⟩
                  clear hK hGk hRk
                  go_wp2_with fail
                  refine hE.mono ?_
                  rintro e w' ⟨rfl, rfl⟩
                  clear hE
                  have heZ : ((endE st : Nat) : Int) = 0 := by omega
                  go_wp2_with fail
                  have hT := hR1.fin he
                  refine (encode_any _ ag cg gs W5 hg30 HSk.out hvg).mono ?_
                  rintro e w5 ⟨v5, rfl, hb5, hB5⟩
                  rw [← hT] at hb5
                  obtain ⟨a5, c5, rfl⟩ := hb5.slice
                  have hbI5 := BIn.below hbIr (hB5.mono (Nat.le_trans hs8 hbw))
                  have hsw := hB5.size
                  have hB6 := below_then hA5 hB5
                  clear hT
                  go_wp2_with fail
                  refine (sameb_any a5 a6 c5 c6 Fw Fw w5 (by omega) (Nat.le_refl _) hb5.in (BIn.mono (Nat.le_trans hs8 (Nat.le_trans hbw hsw)) hbI5)).mono ?_
                  rintro e w6 ⟨rfl, hB7⟩
                  rw [decide_eq_true (rfl : Fw = Fw)]
                  replace hB6 := below_then hB6 hB7
                  clear hb5 hB7
                  go_wp2_with fail
                  refine (lives_any _).mono ?_
                  rintro e w9 ⟨rfl, hB9⟩
                  go_wp2
                  go_ret
                  exact ⟨rfl, below_then hB6 hB9⟩
                · obtain ⟨W5, rfl⟩ : ∃ W : World, W = wr := ⟨_, rfl⟩
                  clear hK hGk hRk
                  go_wp2_with fail
                  refine hE.mono ?_
                  rintro e w' ⟨rfl, rfl⟩
                  clear hE
                  have heZ : ¬ ((endE st : Nat) : Int) = 0 := by omega
                  go_wp2_with fail
                  refine (lives_any _).mono ?_
                  rintro e w9 ⟨rfl, hB9⟩
                  go_wp2
                  go_ret
                  exact ⟨rfl, below_then hA5 hB9⟩
              · obtain ⟨hlt, h10, he⟩ := hb rfl
                have hgl := Hgl.out
                clear hb hE hvg hbIr
                obtain ⟨gv, hgv⟩ : ∃ gv, Value.slice ag gs.length cg = gv := ⟨_, rfl⟩
                rw [hgv] at hGk ⊢
                have hz := Hki.out ks[k] (List.getElem_mem hlt)
                have hzz := in_of_i64 hz
                obtain ⟨kb, ko, rfl, hkb, hkc⟩ := (InAt.belowW HIk.out hA5).get hlt
                have hk0 : (0 : Int) ≤ (k : Int) := by omega
                have hk1 : (k : Int) < (ks.length : Int) := by omega
                obtain ⟨zk, hzk⟩ : ∃ zk, ks[k] = zk := ⟨_, rfl⟩
                rw [show ks[k]?.getD 0 = ks[k] by rw [List.getElem?_eq_getElem hlt]; rfl, hzk] at hkc
                rw [hzk] at hzz
                have hm0 := aroundI_lo zk 6 (by omega)
                have hm1 := aroundI_hi zk 6 (by omega)
                clear hz hzk hgv he
                go_wp2_with fail
                refine (around_any zk 6 wr hzz.1 hzz.2 (by omega) (by omega)).mono ?_
                rintro e w' ⟨rfl, rfl⟩
                obtain ⟨kd, hkd⟩ : ∃ kd, aroundI zk 6 = kd := ⟨_, rfl⟩
                rw [hkd] at hm0 hm1 ⊢
                have hm5 : kd ≤ 5 := by omega
                clear hkd hkc
                go_wp2_with fail
                refine (vread_any w6.heap.size r2 kd hm0 hm5 st wr (by omega) hRk).mono ?_
                rintro e wn ⟨⟨⟨tk, tu, tn, tb, tl⟩, q1, q2⟩, rfl, ht, hvt, hRn, hKn⟩
                have hsm := rV_small kd st hm0 hm5 hsb
                rw [← ht] at hsm
                have hbl := Nat.le_trans (rV_len kd st) hsb
                have hN1 := hR1.next (k := kd) (t := ((⟨tk, tu, tn, tb, tl⟩ : V), q1, q2)) ht
                have hGn := hGk.kp hKn (fun j hj => by omega)
                have hKK := hK.trans (hKn.mono (fun j h => h.2))
                obtain ⟨st2, hst2⟩ : ∃ s, (rV kd st).2 = s := ⟨_, rfl⟩
                rw [hst2] at hRn hbl hN1
                obtain ⟨x1, y1, e1⟩ := hvt.1.in'.slice
                obtain ⟨x2, y2, e2⟩ := hvt.2.in'.slice
                simp only at e1 e2
                subst e1
                subst e2
                have hvq := hvt.mono (Q := fun j => w7.heap.size ≤ j ∧ some j ≠ gv.ownBlock) (fun j _ h => ⟨Nat.le_trans hbw h, fun e => by have := (hGk.1.lt j e.symm).2; have h' : wr.heap.size ≤ j := h; omega⟩)
                have hrown := hGn.1
                have hbn : w7.heap.size ≤ wn.heap.size := hKK.size
                have HN1 := Lib.hid hN1
                have Hsm2 := Lib.hid hsm
                simp only [aggV]
                clear ht hst2 hRk hR1 hGk hvt hN1 hsm
                go_wp2_with (at_builtin; refine wpList_append_own_at _ rfl _ _ 25 rfl w7.heap.size 28 i0 (.agg #[.int .i64 0, .int .u64 0, .int .i64 0, .slice none 0 0, .slice none 0 0]) 5 72 Try.underlying25 hi hz0 hz1 hz2 rfl (by decide) _ _ _ rfl (hrown.alloc _) ⟨_, 0, none⟩ 1 1 [.int .i64 tk, .int .u64 (tu : Int), .int .i64 tn, .slice x1 tb.length y1, .slice x2 tl.length y2] rfl rfl (World.news_of_block (cs := #[.int .i64 tk, .int .u64 (tu : Int), .int .i64 tn, .slice x1 tb.length y1, .slice x2 tl.length y2]) (World.alloc_heap_new _ _)) (by simp [Value.oneCell']) (by unfold maxLen; omega) (by omega) (by simp; omega) ?_; intro v' w5 hown' hgrow hnn hat; clear hnn)
                have hp := Gen.push2 (t := ((⟨tk, tu, tn, tb, tl⟩ : V), .slice x1 tb.length y1, .slice x2 tl.length y2)) hGn hbn hvq hown' hgrow hat
                have hR5 := hRn.kp (.of_base hp.2) (fun j h => show j < w7.heap.size by omega)
                have hK5 := hKK.trans ((Kp.of_base hp.2).mono (fun j h => h.1))
                have hS5 := small_snoc HSk.out Hsm2.out
                clear hown' hgrow hat hrown hvq hGn
                go_roundw
                case rel => exact ⟨k + 1, gs ++ [((⟨tk, tu, tn, tb, tl⟩ : V), .slice x1 tb.length y1, .slice x2 tl.length y2)], st2, by go_num, by omega, by rw [List.length_append, hgl]; rfl, hR5, hbl, HN1.out, hp.1, hS5, hK5⟩
                case measure => simp [intOf]; omega
set_option maxRecDepth 100000 in
theorem one_lifted (os : Os) (started : os.Started) (H : Type) (enc : TypeId × Value → H) :
    ReturnsInHanded {} Try.checked os 6 .any (Rows.wireOneSpec.pre6 enc Try.prog Try.f6 Rows.wireOneRow.domain false) (Rows.wireOneSpec.post enc Try.prog Try.f6 false true false false) := by
  refine returnsInHanded_of_change_sized (C := Try.checked) Try.own started (by kernel_rfl) Try.func6
    (ChangeSpec.witness6 (enc := enc) (C := Try.checked) false ⟨#[], #[.slice none 0 0, .slice none 0 0, .int .i64 0, .int .u8 0, .slice none 0 0], []⟩ 8 (by kernel_rfl) (by kernel_rfl) (by kernel_rfl) (by kernel_rfl)) ?_
  intro W base args ds gs before hval0 hW _ hsz0 _
  have hsz : (DataW.weightsEach Try.prog (Try.f6.params.toList ++ Rows.wireOneSpec.plain.varTypes Try.prog) (ds ++ gs)).all (· ≤ reachBytes) = true := hsz0
  clear hsz0
  have hval : ∀ (j : Nat) t v, Try.f6.params[j]? = some t → args[j]? = some v → Value.okWide Try.prog W .any base t v := hval0
  have hW' := hW
  obtain ⟨p, q, hA0, hV, rfl, _, _⟩ := hW
  have hA : DataW.TrodAll enc Try.prog W 0 (fun _ => true) true Try.f6.params.toList args.toList ds p := hA0
  rw [Try.params6] at hA hval hsz
  obtain ⟨v0, vs0, d0, ds0, p0, q0, hargs, rfl, rfl, h0, r0⟩ := trodAll_cons hA
  obtain ⟨v1, vs1, d1, ds1, p1, q1, rfl, rfl, rfl, h1, r1⟩ := trodAll_cons r0
  obtain ⟨v2, vs2, d2, ds2, p2, q2, rfl, rfl, rfl, h2, r2⟩ := trodAll_cons r1
  obtain ⟨v3, vs3, d3, ds3, p3, q3, rfl, rfl, rfl, h3, r3⟩ := trodAll_cons r2
  obtain ⟨v4, vs4, d4, ds4, p4, q4, rfl, rfl, rfl, h4, r4⟩ := trodAll_cons r3
  obtain ⟨rfl, rfl, rfl⟩ := trodAll_nil r4
  obtain rfl : args = #[v0, v1, v2, v3, v4] := by cases args; simp_all
  obtain ⟨rfl, rfl⟩ := trodVars_none hV
  obtain ⟨a0, c0, zs0, rfl, hI0, hw0, hz0⟩ := open_row Try.underlying24 Try.underlying5 Try.cellsU8 Try.bytesU8 (hval 0 24 v0 rfl rfl) h0 (fun x hx => by simpa using hW'.lt x (by simp [hx])) hsz (j := 0) rfl rfl
  obtain ⟨bs0, rfl⟩ := bytes_of zs0 hw0
  rw [List.length_map] at hI0 hz0
  obtain ⟨a1, c1, zs1, rfl, hI1, hw1, hz1⟩ := open_row Try.underlying22 Try.underlying3 Try.cellsInt Try.bytesInt (hval 1 22 v1 rfl rfl) h1 (fun x hx => by simpa using hW'.lt x (by simp [hx])) hsz (j := 1) rfl rfl
  obtain ⟨a2, rfl, rfl, rfl, w2⟩ := open_int Try.underlying3 (hval 2 3 v2 rfl rfl) h2
  obtain ⟨a3, rfl, rfl, rfl, w3⟩ := open_int Try.underlying5 (hval 3 5 v3 rfl rfl) h3
  obtain ⟨a4, c4, zs4, rfl, hI4, hw4, hz4⟩ := open_row Try.underlying22 Try.underlying3 Try.cellsInt Try.bytesInt (hval 4 22 v4 rfl rfl) h4 (fun x hx => by simpa using hW'.lt x (by simp [hx])) hsz (j := 4) rfl rfl
  clear hA0 hval0
  have hwalk := one_walk a0 c0 bs0 a1 c1 zs1 a2 a3 a4 c4 zs4 W (by omega) hI0 (by omega) hw1 hI1 w2 w3 (by omega) hw4 hI4
  try rw [List.length_map] at hW'
  try rw [List.length_map]
  refine hwalk.mono fun e W' ⟨he, hB⟩ => ?_
  subst he
  exact ⟨_, rfl, law_post (by kernel_rfl) (by kernel_rfl) rfl hW' rfl hB⟩

theorem one_holds : Rows.WireOneSaid :=
  OpenClaim.holds_of_wide 6 Try.f6 rfl rfl rfl rfl rfl rfl rfl ⟨rfl, rfl, rfl, rfl, rfl⟩ rfl rfl rfl rfl rfl (by kernel_rfl) Try.func6 (by kernel_rfl)
    (of_decide_eq_true (by kernel_rfl)) (by unfold Func.isWrapper; first | (rw [if_pos (by decide +kernel)]; kernel_rfl) | (rw [if_neg (by decide +kernel)]; exact ⟨rfl, rfl⟩))
    (fun os started H enc _ => one_lifted os started H enc)
#print axioms one_holds
end Go.Proofs.Ytiebefomhnbemaa
