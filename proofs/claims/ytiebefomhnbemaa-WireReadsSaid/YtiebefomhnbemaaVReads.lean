/- Statement WireReads: a reader's values and errors, read for read. Conditions: none. -/
import Derived.Deep.DeepCutAuto
import Derived.Test.YtiebefomhnbemaaVRefE
import Derived.Test.YtiebefomhnbemaaVRefV
import Derived.Test.YtiebefomhnbemaaVOne
namespace Go.Proofs.Ytiebefomhnbemaa
open Go.ChangeShapes Go.WideShapes Go.ChangeAt Go.RowKit

/-- The reference's reader, newly made. -/
theorem rr_new {lo : Nat} {W : World} {a : Option Addr} {c : Nat} {X : List UInt8} (hS : SAt (· < lo) W (.slice a X.length c) X) (hlo : lo ≤ W.heap.size) : RR lo (W.alloc (.cells #[.slice a X.length c, .int .i64 0] 47)) W.heap.size ⟨X, 0⟩ :=
  ⟨_, World.alloc_heap_new W _, ⟨_, _, _, rfl⟩, fun _ => (hS.kp (.of_below ((Below.refl _ W).alloc (Nat.le_refl _) _))).mono (fun _ _ h => ⟨h, Nat.lt_of_lt_of_le h hlo⟩)⟩

set_option maxRecDepth 100000 in
set_option maxHeartbeats 16000000 in
theorem reads_walk (ra : Option Addr) (rcap : Nat) (raw : List UInt8) (a : Option Addr) (cap : Nat) (zs : List Int) (at_ z : Int) (ka : Option Addr) (kcap : Nat) (ks : List Int) (w : World) (hraw : raw.length ≤ 140737488351232) (hIr : InAt .u8 w.heap.size w (.slice ra raw.length rcap) (raw.map ofByte)) (hz : zs.length ≤ 140737488351232) (hzi : ∀ z ∈ zs, (Lit.int .i64 z).wf = true) (hI : InAt .i64 w.heap.size w (.slice a zs.length cap) zs) (ha' : (Lit.int .i64 at_).wf = true) (hz' : (Lit.int .u8 z).wf = true) (_hks : ks.length ≤ 140737488351232) (hki : ∀ z ∈ ks, (Lit.int .i64 z).wf = true) (hIk : InAt .i64 w.heap.size w (.slice ka ks.length kcap) ks) :
    Calls Try.prog 4 #[.slice ra raw.length rcap, .slice a zs.length cap, .int .i64 at_, .int .u8 z, .slice ka ks.length kcap] w fun e w' => e = .returned (.bool true) ∧ Below w.heap.size w w' := by
  have hat := in_of_i64 ha'
  obtain ⟨cb, rfl⟩ := byte_of hz'
  have hv := vals_any a cap zs w hz hzi hI
  have Hki := Lib.hid hki
  have HIk := Lib.hid hIk
  have HIr := Lib.hid hIr
  clear ha' hz' hzi hI hki hIk hIr
  go_enter Try.func4, Try.ntmps4
  go_wp2_with fail
  refine hv.mono ?_
  rintro e w1 ⟨v, it, rfl, hG, hF, hil, hB1⟩
  have hvs := hG.at
  have hsm : ∀ t ∈ it, Small t.1 := fun t ht => (hF t ht).small
  obtain ⟨a1, c1, rfl⟩ := hvs.slice
  have hv1 := hvs.mono (Q := (· < w1.heap.size)) (fun k hk _ => hk)
  have Hsm := Lib.hid hsm
  have HFi := Lib.hid hF
  have hs1 := hB1.size
  clear hG hvs hsm hF hv
  go_wp2_with fail
  refine (refenc_any (· < w1.heap.size) a1 c1 it w1 (by omega) Hsm.out hv1).mono ?_
  rintro e w2 ⟨v2, rfl, hb2, hB2⟩
  obtain ⟨B, hBd⟩ : ∃ B, encAll (vals it) = B := ⟨_, rfl⟩
  have hel := encAll_fine it HFi.out
  rw [hBd] at hel
  rw [hBd] at hb2
  obtain ⟨a2, c2, rfl⟩ := hb2.slice
  have hA := below_then hB1 hB2
  have hs2 := hB2.size
  have hel2 : B.length ≤ 1000 := by omega
  clear hBd hv1 hB1 hB2 hel
  go_upto_if 23 with fail
  go_cut [] from 18 (fun wx => ∃ T : List UInt8, T.length = B.length ∧ Bs w1.heap.size wx (.slice a2 B.length c2) T ∧ Below w.heap.size w wx ∧ w1.heap.size ≤ wx.heap.size)
  case first =>
    by_cases hB0 : B.length = 0
    · go_wp2_with fail
      go_meet
      case rel => exact ⟨B, rfl, hb2, hA, hs2⟩
    · have hBz : ¬ (B.length : Int) = 0 := by omega
      obtain ⟨g, rfl⟩ := row_some hb2.row (by rw [List.length_map]; omega)
      have hBi : (1 : Int) ≤ (B.length : Int) := by omega
      have hbpos : (0 : Int) < (B.length : Int) := by omega
      go_wp2_with fail
      refine (around_any at_ (B.length : Int) w2 hat.1 hat.2 hBi (by omega)).mono ?_
      rintro e w' ⟨rfl, rfl⟩
      have hm0 := aroundI_lo at_ (B.length : Int) hBi
      have hm1 := aroundI_hi at_ (B.length : Int) hBi
      obtain ⟨m, hm⟩ := Int.eq_ofNat_of_zero_le hm0
      rw [hm] at hm1 ⊢
      clear hm hm0
      have hmB : m < B.length := by omega
      have hcm := hb2.row.cell (by rw [List.length_map]) m (by rw [List.length_map]; exact hmB)
      have hfm := hb2.row.free (by rw [List.length_map]) m
      have hgl := hb2.row.lt
      have hbT := hb2.stored rfl m cb
      have hsW : w1.heap.size ≤ (w2.setCell ⟨g, m, none⟩ (.int .u8 (ofByte cb))).heap.size := Nat.le_trans hs2 (cset (Below.refl w1.heap.size w2) g m hgl.1 (.int .u8 (ofByte cb))).size
      have hAT := hA.trans (cset (Below.refl w.heap.size w2) g m (by omega) (.int .u8 (ofByte cb)))
      go_wp2_with fail
      go_meet
      case rel => exact ⟨B.set m cb, List.length_set, hbT, hAT, hsW⟩
  case rest =>
    obtain ⟨T, hTl, hbT, hAT, hsW⟩ := hcut
    obtain ⟨W2, rfl⟩ : ∃ W : World, W = wc := ⟨_, rfl⟩
    have hTn : T.length ≤ 1000 := by omega
    rw [← hTl] at hbT ⊢
    clear hTl hb2 hA hel2
    go_wp2_with fail
    obtain ⟨a9, rfl⟩ : ∃ a9, a9 = a2 := ⟨_, rfl⟩
    refine (few_row ra rcap raw 60 W2 (by omega) (by omega) (by omega) (n₀ := w.heap.size) (InAt.belowW HIr.out hAT)).mono ?_
    rintro e w6 ⟨a6, c6, rfl, hf6, hBf⟩
    obtain ⟨Fw, hFw⟩ : ∃ Fw, raw.take (60 : Int).toNat = Fw := ⟨_, rfl⟩
    have hFl : Fw.length ≤ 1000 := by rw [← hFw]; exact Nat.le_trans (List.length_take_le _ _) (by decide)
    rw [hFw] at hf6 ⊢
    have hA6 := below_then hAT hBf
    have hbs6 := hf6.bs
    have hbT6 := hbT.below hBf
    have hs6 := hA6.size
    have hsF := hbs6.sat.mono (Q := (· < w6.heap.size)) (fun k hk _ => hk)
    have hsT := hbT6.sat.mono (Q := (· < w6.heap.size)) (fun k hk _ => hk)
    have hFI := hbs6.in
    have hTI := hbT6.in
    have hpick : ∀ (W : World) (i : Nat), W.cell? ⟨w6.heap.size, 0, none⟩ = some (.slice a6 Fw.length c6) → W.cell? ⟨w6.heap.size, 1, none⟩ = some (.slice a9 T.length c2) → i < 2 → ∃ (X : List UInt8) (ax : Option Addr) (cx : Nat), W.cell? ⟨w6.heap.size, i, none⟩ = some (.slice ax X.length cx) ∧ BIn w6.heap.size w6 (.slice ax X.length cx) X ∧ SAt (· < w6.heap.size) w6 (.slice ax X.length cx) X ∧ X.length ≤ 1000 := by
      intro W i h0 h1 hi
      have hi2 : i = 0 ∨ i = 1 := by omega
      rcases hi2 with rfl | rfl
      · exact ⟨Fw, a6, c6, h0, hFI, hsF, hFl⟩
      · exact ⟨T, a9, c2, h1, hTI, hsT, hTn⟩
    have Hpick := Lib.hid hpick
    clear hpick hFw hf6 hBf hbs6 hbT6 hbT hAT hFI hTI hsF hsT
    go_wp2_with fail
    go_loopw [13] (fun iv wr => ∃ i : Nat, i ≤ 2 ∧ iv = .int .i64 i ∧ wr.cell? ⟨w6.heap.size, 0, none⟩ = some (.slice a6 Fw.length c6) ∧ wr.cell? ⟨w6.heap.size, 1, none⟩ = some (.slice a9 T.length c2) ∧ Below w6.heap.size w6 wr ∧ w6.heap.size < wr.heap.size) (fun iv _ => 2 - (intOf iv).toNat)
    case atStart => exact ⟨0, by omega, rfl, by simp [World.cell?_alloc_new], by simp [World.cell?_alloc_new], (Below.refl _ w6).alloc (Nat.le_refl _) _, by simp⟩
    case round =>
      obtain ⟨i, hi, rfl, hc0, hc1, hB, hsz⟩ := hrel
      obtain ⟨wo, rfl⟩ : ∃ wo : World, wo = wr := ⟨_, rfl⟩
      have hAo : Below w.heap.size w wo := hA6.trans (hB.mono hs6)
      by_cases hi2 : i < 2
      · obtain ⟨X, ax, cx, hcX, hXI, hXS, hXl⟩ := Hpick.out wo i hc0 hc1 hi2
        have hi0 : (0 : Int) ≤ (i : Int) := by omega
        have hi1 : (i : Int) < 2 := by omega
        have HXS := Lib.hid hXS
        have HXI := Lib.hid hXI
        have Hc0 := Lib.hid hc0
        have Hc1 := Lib.hid hc1
        clear hXS hXI hc0 hc1
        go_wp2_with fail
        refine (read_any w6.heap.size ax cx X wo (by omega) (HXI.out.below hB) (by omega)).mono ?_
        rintro e wq ⟨r, rfl, hrb, hR, hBq⟩
        have hcX2 := (hBq.cell (p := ⟨w6.heap.size, i, none⟩) hsz).trans hcX
        have hrl := hR.lt
        have hsq := hBq.size
        have hal : Below wq.heap.size wq (wq.alloc (.cells #[.slice ax X.length cx, .int .i64 0] 47)) := (Below.refl _ wq).alloc (Nat.le_refl _) _
        have hRR := rr_new (lo := w6.heap.size) ((HXS.out.kp (.of_base hB)).kp ((Kp.of_base hBq).mono (fun k (h : k < w6.heap.size) => show k < wo.heap.size by omega))) (by omega : w6.heap.size ≤ wq.heap.size)
        have hR1 := hR.below hal
        have hBo := below_then hBq hal
        have HRR := Lib.hid hRR
        have HR1 := Lib.hid hR1
        have HBo := Lib.hid hBo
        clear hR hal hcX hRR hR1 hBo
        go_wp2_with fail
        go_loopw [16] (fun kv wr => ∃ (k : Nat) (s : St), kv = .int .i64 k ∧ k ≤ 10 ∧ s.bs.length ≤ 1000 ∧ Rd wo.heap.size wr r s ∧ RR w6.heap.size wr wq.heap.size s ∧ Below wo.heap.size wo wr) (fun kv _ => 10 - (intOf kv).toNat)
        case atStart => exact ⟨0, ⟨X, 0⟩, rfl, by omega, hXl, HR1.out, HRR.out, HBo.out⟩
        case round =>
          obtain ⟨k, s, rfl, hk, hsl, hRk, hRRk, hBk⟩ := hrel
          have hsk := hRRk.lt
          have hAk : Below w.heap.size w wr := hAo.trans (hBk.mono hAo.size)
          clear hcX2
          by_cases hlt : k < ks.length ∧ k < 10
          · obtain ⟨hlt, h10⟩ := hlt
            have hz := Hki.out ks[k] (List.getElem_mem hlt)
            have hzz := in_of_i64 hz
            obtain ⟨kb, ko, rfl, hkb, hkc⟩ := (InAt.belowW HIk.out hAk).get hlt
            have hk0 : (0 : Int) ≤ (k : Int) := by omega
            have hk1 : (k : Int) < (ks.length : Int) := by omega
            obtain ⟨zk, hzk⟩ : ∃ zk, ks[k] = zk := ⟨_, rfl⟩
            rw [show ks[k]?.getD 0 = ks[k] by rw [List.getElem?_eq_getElem hlt]; rfl, hzk] at hkc
            rw [hzk] at hzz
            have hm0 := aroundI_lo zk 6 (by omega)
            have hm1 := aroundI_hi zk 6 (by omega)
            clear hz hzk
            go_wp2_with fail
            refine (around_any zk 6 wr hzz.1 hzz.2 (by omega) (by omega)).mono ?_
            rintro e w' ⟨rfl, rfl⟩
            obtain ⟨kd, hkd⟩ : ∃ kd, aroundI zk 6 = kd := ⟨_, rfl⟩
            rw [hkd] at hm0 hm1 ⊢
            have hm5 : kd ≤ 5 := by omega
            have hsm := rV_small kd s hm0 hm5 hsl
            have hbl := Nat.le_trans (rV_len kd s) hsl
            clear hkd hkc
            go_wp2_with fail
            refine (vread_any wo.heap.size r kd hm0 hm5 s wr (by omega) hRk).mono ?_
            rintro e wa ⟨⟨t1, p1, p2⟩, rfl, ht1, hvt1, hRa, hKa⟩
            have hRRa := hRRk.kp hKa (fun j hj => by omega)
            have hsa := hKa.size
            have Ht1 := Lib.hid ht1
            clear hRRk hRk ht1
            go_wp2_with fail
            refine (rrread_any w6.heap.size wq.heap.size kd hm0 hm5 s wa (by omega) hRRa).mono ?_
            rintro e wb ⟨⟨t2, p3, p4⟩, rfl, ht2, hvt2, hRRb, hKb⟩
            have hRb := hRa.kp hKb (fun j hj => by omega)
            have hvtb := hvt1.kp (hKb.mono (fun j (h : wr.heap.size ≤ j) => show j ≠ wq.heap.size by omega))
            have hBb : Below wo.heap.size wo wb := hBk.trans ((hKa.below hBk.size (fun j h => by show j ≠ r; omega)).trans (hKb.below (Nat.le_trans hBk.size hsa) (fun j h => by show j ≠ wq.heap.size; omega)))
            have ht1 := Ht1.out
            simp only at ht1 ht2
            have hsame := same_any (wr.heap.size ≤ ·) (fun _ => True) (t1, p1, p2) (t2, p3, p4) wb (by show t1.b.length ≤ 1000000; rw [ht1]; have := hsm.2.1; omega) (by show t1.l.length ≤ 1000000; rw [ht1]; have := hsm.2.2; omega) (by show t1 = t2; rw [ht1, ht2]) hvtb hvt2
            obtain ⟨s2, hs2'⟩ : ∃ s2, (rV kd s).2 = s2 := ⟨_, rfl⟩
            rw [hs2'] at hRb hRRb hbl
            have Hsame := Lib.hid hsame
            clear hRa hRRa hvt1 hvt2 hvtb ht1 ht2 hsm hs2' hsame hKa hKb
            go_wp2_with fail
            refine Hsame.out.mono ?_
            rintro e wc ⟨rfl, hBc⟩
            have hRc := hRb.below hBc
            have hRRc := hRRb.below hBc
            have hBoc := below_then hBb hBc
            clear hRb hRRb
            go_wp2_with fail
            refine (rend_any r s2 wc (by omega) hRc).mono ?_
            rintro e w' ⟨rfl, rfl⟩
            go_wp2_with fail
            refine (rrend_any wq.heap.size s2 wc hRRc).mono ?_
            rintro e w' ⟨rfl, rfl⟩
            go_wp2
            go_roundw
            case rel => exact ⟨k + 1, s2, by go_num, by omega, hbl, hRc, hRRc, hBoc⟩
            case measure => simp [intOf]; omega
          · have hcase : (¬ k < ks.length) ∨ (k < ks.length ∧ ¬ k < 10) := by omega
            have hc00 := (hBk.cell (p := ⟨w6.heap.size, 0, none⟩) hsz).trans Hc0.out
            have hc11 := (hBk.cell (p := ⟨w6.heap.size, 1, none⟩) hsz).trans Hc1.out
            have Hc00 := Lib.hid hc00
            have Hc11 := Lib.hid hc11
            have hBB : Below w6.heap.size w6 wr := hB.trans (hBk.mono (by omega))
            have hszz : w6.heap.size < wr.heap.size := by have := hBk.size; omega
            clear hc00 hc11 hRk hRRk
            rcases hcase with h1 | ⟨h1, h2⟩
            all_goals
              go_wp2
              go_roundw
              case rel => exact ⟨i + 1, by omega, by go_num, Hc00.out, Hc11.out, hBB, hszz⟩
              case measure => simp [intOf]; omega
      · obtain rfl : i = 2 := by omega
        go_wp2_with fail
        refine (lives_any wo).mono ?_
        rintro e w9 ⟨rfl, hB9⟩
        go_wp2
        go_ret
        exact ⟨rfl, below_then hAo hB9⟩

set_option maxRecDepth 100000 in
theorem reads_lifted (os : Os) (started : os.Started) (H : Type) (enc : TypeId × Value → H) :
    ReturnsInHanded {} Try.checked os 4 .any (Rows.wireReadsSpec.pre6 enc Try.prog Try.f4 Rows.wireReadsRow.domain false) (Rows.wireReadsSpec.post enc Try.prog Try.f4 false true false false) := by
  refine returnsInHanded_of_change_sized (C := Try.checked) Try.own started (by kernel_rfl) Try.func4
    (ChangeSpec.witness6 (enc := enc) (C := Try.checked) false ⟨#[], #[.slice none 0 0, .slice none 0 0, .int .i64 0, .int .u8 0, .slice none 0 0], []⟩ 8 (by kernel_rfl) (by kernel_rfl) (by kernel_rfl) (by kernel_rfl)) ?_
  intro W base args ds gs before hval0 hW _ hsz0 _
  have hsz : (DataW.weightsEach Try.prog (Try.f4.params.toList ++ Rows.wireReadsSpec.plain.varTypes Try.prog) (ds ++ gs)).all (· ≤ reachBytes) = true := hsz0
  clear hsz0
  have hval : ∀ (j : Nat) t v, Try.f4.params[j]? = some t → args[j]? = some v → Value.okWide Try.prog W .any base t v := hval0
  have hW' := hW
  obtain ⟨p, q, hA0, hV, rfl, _, _⟩ := hW
  have hA : DataW.TrodAll enc Try.prog W 0 (fun _ => true) true Try.f4.params.toList args.toList ds p := hA0
  rw [Try.params4] at hA hval hsz
  obtain ⟨v0, vs0, d0, ds0, p0, q0, hargs, rfl, rfl, h0, r0⟩ := trodAll_cons hA
  obtain ⟨v1, vs1, d1, ds1, p1, q1, rfl, rfl, rfl, h1, r1⟩ := trodAll_cons r0
  obtain ⟨v2, vs2, d2, ds2, p2, q2, rfl, rfl, rfl, h2, r2⟩ := trodAll_cons r1
  obtain ⟨v3, vs3, d3, ds3, p3, q3, rfl, rfl, rfl, h3, r3⟩ := trodAll_cons r2
  obtain ⟨v4, vs4, d4, ds4, p4, q4, rfl, rfl, rfl, h4, r4⟩ := trodAll_cons r3
  obtain ⟨rfl, rfl, rfl⟩ := trodAll_nil r4
  obtain rfl : args = #[v0, v1, v2, v3, v4] := by cases args; simp_all
  obtain ⟨rfl, rfl⟩ := trodVars_none hV
  obtain ⟨a0, c0, zs0, rfl, hI0, hw0, hz0⟩ := open_row Try.underlying24 Try.underlying5 Try.cellsU8 Try.bytesU8 (hval 0 24 v0 rfl rfl) h0 (fun x hx => by simpa using hW'.lt x (by simp [hx])) hsz (j := 0) rfl rfl
  obtain ⟨bs0, rfl⟩ := bytes_of zs0 hw0
  rw [List.length_map] at hI0 hz0
  obtain ⟨a1, c1, zs1, rfl, hI1, hw1, hz1⟩ := open_row Try.underlying22 Try.underlying3 Try.cellsInt Try.bytesInt (hval 1 22 v1 rfl rfl) h1 (fun x hx => by simpa using hW'.lt x (by simp [hx])) hsz (j := 1) rfl rfl
  obtain ⟨a2, rfl, rfl, rfl, w2⟩ := open_int Try.underlying3 (hval 2 3 v2 rfl rfl) h2
  obtain ⟨a3, rfl, rfl, rfl, w3⟩ := open_int Try.underlying5 (hval 3 5 v3 rfl rfl) h3
  obtain ⟨a4, c4, zs4, rfl, hI4, hw4, hz4⟩ := open_row Try.underlying22 Try.underlying3 Try.cellsInt Try.bytesInt (hval 4 22 v4 rfl rfl) h4 (fun x hx => by simpa using hW'.lt x (by simp [hx])) hsz (j := 4) rfl rfl
  clear hA0 hval0
  have hwalk := reads_walk a0 c0 bs0 a1 c1 zs1 a2 a3 a4 c4 zs4 W (by omega) hI0 (by omega) hw1 hI1 w2 w3 (by omega) hw4 hI4
  try rw [List.length_map] at hW'
  try rw [List.length_map]
  refine hwalk.mono fun e W' ⟨he, hB⟩ => ?_
  subst he
  exact ⟨_, rfl, law_post (by kernel_rfl) (by kernel_rfl) rfl hW' rfl hB⟩

theorem reads_holds : Rows.WireReadsSaid :=
  OpenClaim.holds_of_wide 4 Try.f4 rfl rfl rfl rfl rfl rfl rfl ⟨rfl, rfl, rfl, rfl, rfl⟩ rfl rfl rfl rfl rfl (by kernel_rfl) Try.func4 (by kernel_rfl)
    (of_decide_eq_true (by kernel_rfl)) (by unfold Func.isWrapper; first | (rw [if_pos (by decide +kernel)]; kernel_rfl) | (rw [if_neg (by decide +kernel)]; exact ⟨rfl, rfl⟩))
    (fun os started H enc _ => reads_lifted os started H enc)
#print axioms reads_holds
end Go.Proofs.Ytiebefomhnbemaa
