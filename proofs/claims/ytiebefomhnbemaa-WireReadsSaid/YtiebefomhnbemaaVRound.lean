/- Statement WireRound: what was written is read back. Conditions: none. -/
import Derived.Test.YtiebefomhnbemaaVMore
namespace Go.Proofs.Ytiebefomhnbemaa
open Go.ChangeShapes Go.WideShapes Go.ChangeAt Go.RowKit

theorem vp_from {n r : Nat} {wr W : World} {t : VT} (h : VP (· < n) wr t) (hn : n ≤ r) (hk : Kp (· ≠ r) wr W) : VP (· < n) W t := h.kp (hk.mono (fun j (hj : j < n) => show j ≠ r by omega))

set_option maxRecDepth 100000 in
set_option maxHeartbeats 8000000 in
theorem round_walk (a : Option Addr) (cap : Nat) (zs : List Int) (u n : Int) (w : World) (hz : zs.length ≤ 140737488351232) (hzi : ∀ z ∈ zs, (Lit.int .i64 z).wf = true) (hI : InAt .i64 w.heap.size w (.slice a zs.length cap) zs) (hu' : (Lit.int .u64 u).wf = true) (hn' : (Lit.int .i64 n).wf = true) :
    Calls Try.prog 5 #[.slice a zs.length cap, .int .u64 u, .int .i64 n] w fun e w' => e = .returned (.bool true) ∧ Below w.heap.size w w' := by
  obtain ⟨i0, hi, hz0, hz1, hz2⟩ := info_parts Try.infoVal
  have hu := in_of_u64 hu'
  have hn := in_of_i64 hn'
  obtain ⟨U, rfl⟩ := Int.eq_ofNat_of_zero_le hu.1
  have hv := vals_any a cap zs w hz hzi hI
  clear hu' hn' hzi hI
  go_enter Try.func5, Try.ntmps5
  go_wp2_with fail
  refine hv.mono ?_
  rintro e w1 ⟨v, it, rfl, hG, hF, hil, hB1⟩
  have hrow := hG.1
  have hs1 := hB1.size
  go_wp2_with (at_builtin; refine wpList_append_own_at _ rfl _ _ 25 rfl w.heap.size 28 i0 (.agg #[.int .i64 0, .int .u64 0, .int .i64 0, .slice none 0 0, .slice none 0 0]) 5 72 Try.underlying25 hi hz0 hz1 hz2 rfl (by decide) _ _ _ rfl (hrow.alloc _) ⟨w1.heap.size, 0, none⟩ 2 2 [.int .i64 0, .int .u64 (U : Int), .int .i64 0, .slice none 0 0, .slice none 0 0, .int .i64 1, .int .u64 0, .int .i64 n, .slice none 0 0, .slice none 0 0] rfl rfl (World.news_of_block (cs := #[.int .i64 0, .int .u64 (U : Int), .int .i64 0, .slice none 0 0, .slice none 0 0, .int .i64 1, .int .u64 0, .int .i64 n, .slice none 0 0, .slice none 0 0]) (World.alloc_heap_new _ _)) (by simp [Value.oneCell']) (by unfold maxLen; omega) (by omega) (by simp; omega) ?_; intro v' w2 hown' hgrow hnn hat; clear hnn)
  have hp := Gen.pushes (ts := [((⟨0, U, 0, [], []⟩ : V), .slice none 0 0, .slice none 0 0), ((⟨1, 0, n, [], []⟩ : V), .slice none 0 0, .slice none 0 0)]) hG hs1 (Below.refl _ w1) (by intro t ht; simp at ht; rcases ht with rfl | rfl <;> exact ⟨.nil, .nil⟩) hown' hgrow hat
  have hF2 := fine_snoc (fine_snoc hF (fine0 U (by omega) (.slice none 0 0) (.slice none 0 0))) (fine1 n hn (.slice none 0 0) (.slice none 0 0))
  rw [List.append_assoc] at hF2
  obtain ⟨is, his⟩ : ∃ is, it ++ [((⟨0, U, 0, [], []⟩ : V), Value.slice none 0 0, Value.slice none 0 0), ((⟨1, 0, n, [], []⟩ : V), Value.slice none 0 0, Value.slice none 0 0)] = is := ⟨_, rfl⟩
  have hisl : is.length ≤ 10 := by rw [← his, List.length_append]; simp; omega
  rw [his] at hp
  have hFi : ∀ t ∈ is, Fine t := by rw [← his]; exact hF2
  clear his hF2 hown' hgrow hat hrow hG hF hil
  obtain ⟨hG2, hB2⟩ := hp
  have hvs := hG2.at
  have hsm : ∀ t ∈ is, Small t.1 := fun t ht => (hFi t ht).small
  have hB : Below w.heap.size w w2 := hB1.trans hB2
  obtain ⟨a2, c2, rfl⟩ := hvs.slice
  have hv2 := hvs.mono (Q := (· < w2.heap.size)) (fun k hk _ => hk)
  have Hsm := Lib.hid hsm
  have HFi := Lib.hid hFi
  clear hG2 hvs hB1 hB2 hsm hFi
  refine (encode_any (· < w2.heap.size) a2 c2 is w2 (by omega) Hsm.out hv2).mono ?_
  rintro e w3 ⟨v3, rfl, hb3, hB3⟩
  have hel := encAll_len is 0 (by omega) Hsm.out
  rw [List.drop_zero] at hel
  obtain ⟨a3, c3, rfl⟩ := hb3.slice
  have hv3 := hv2.below hB3
  replace hB := below_then hB hB3
  have hs3 := hB3.size
  clear hv2 hB3
  go_wp2_with fail
  refine (read_any w3.heap.size a3 c3 _ w3 hel hb3.in (Nat.le_refl _)).mono ?_
  rintro e w4 ⟨r, rfl, hrb, hR, hB4⟩
  have hv4 := hv3.below hB4
  have hs4 := hB.size
  have hs5 := hB4.size
  replace hB := below_then hB hB4
  clear hb3 hB4 hv3 hel
  go_wp2_with fail
  go_loopw [9] (fun i wr => ∃ k : Nat, k ≤ is.length ∧ i = .int .i64 k ∧ Rd w3.heap.size wr r ⟨encAll (vals (is.drop k)), 0⟩ ∧ Kp (· ≠ r) w4 wr) (fun i _ => is.length - (intOf i).toNat)
  case atStart => exact ⟨0, Nat.zero_le _, rfl, by rw [List.drop_zero]; exact hR, Kp.refl _ _⟩
  case round =>
    obtain ⟨k, hk, rfl, hRk, hK⟩ := hrel
    have hrl := hR.lt
    by_cases hlt : k < is.length
    · have hfk := HFi.out is[k] (List.getElem_mem hlt)
      have hvr := hv4.kp (hK.mono (fun j (h : j < w2.heap.size) => show j ≠ r by omega))
      obtain ⟨g, rfl, hg, hgs, hlc, hcell, hvp⟩ := hvr.get k hlt
      have hrv := rV_drop is k hlt hfk.1
      have c0 := hcell 0 (by omega)
      have c1 := hcell 1 (by omega)
      have cc2 := hcell 2 (by omega)
      have cc3 := hcell 3 (by omega)
      have cc4 := hcell 4 (by omega)
      have hlen := encAll_len is k (by omega) Hsm.out
      have hkk := hfk.1.1
      obtain ⟨t, ht⟩ : ∃ t, is[k] = t := ⟨_, rfl⟩
      rw [ht] at c0 c1 cc2 cc3 cc4 hrv hvp hfk hkk
      have Hcell := Lib.hid hcell
      have Hrv := Lib.hid hrv
      have Hfk := Lib.hid hfk
      clear ht hcell hrv hfk
      obtain ⟨⟨tk, tu, tn, tb, tl⟩, sb, sl⟩ := t
      simp only [cells5, Nat.add_zero, List.getElem?_cons_zero, List.getElem?_cons_succ] at c0 c1 cc2 cc3 cc4 hkk
      have hk0 : (0 : Int) ≤ (k : Int) := by omega
      have hk1 : (k : Int) < (is.length : Int) := by omega
      have keep : ∀ W : World, Kp (· ≠ r) wr W → (W.cell? ⟨g, k * 5, none⟩ = some (.int .i64 tk) ∧ W.cell? ⟨g, k * 5 + 1, none⟩ = some (.int .u64 (tu : Int)) ∧ W.cell? ⟨g, k * 5 + 2, none⟩ = some (.int .i64 tn) ∧ W.cell? ⟨g, k * 5 + 3, none⟩ = some sb ∧ W.cell? ⟨g, k * 5 + 4, none⟩ = some sl) ∧ Kp (· ≠ r) wr W := by
        intro W hW
        have hgr : g ≠ r := by omega
        exact ⟨⟨(hW.cell (p := ⟨g, k * 5, none⟩) hgr hgs).trans c0, (hW.cell (p := ⟨g, k * 5 + 1, none⟩) hgr hgs).trans c1, (hW.cell (p := ⟨g, k * 5 + 2, none⟩) hgr hgs).trans cc2, (hW.cell (p := ⟨g, k * 5 + 3, none⟩) hgr hgs).trans cc3, (hW.cell (p := ⟨g, k * 5 + 4, none⟩) hgr hgs).trans cc4⟩, hW⟩
      have Keep := Lib.hid keep
      have h00 : Kp (· ≠ r) wr wr := Kp.refl _ _
      have hrd := vread_any w3.heap.size r tk hkk.1 hkk.2 ⟨encAll (vals (is.drop k)), 0⟩ wr.drew hlen hRk.drew
      clear keep
      go_wp2_with fail
      go_region_held3 (fun w' => (w'.cell? ⟨g, k * 5, none⟩ = some (.int .i64 tk) ∧ w'.cell? ⟨g, k * 5 + 1, none⟩ = some (.int .u64 (tu : Int)) ∧ w'.cell? ⟨g, k * 5 + 2, none⟩ = some (.int .i64 tn) ∧ w'.cell? ⟨g, k * 5 + 3, none⟩ = some sb ∧ w'.cell? ⟨g, k * 5 + 4, none⟩ = some sl) ∧ Kp (· ≠ r) wr w') (first | exact Keep.out _ (by assumption) | exact Keep.out _ (Kp.drew (by assumption)))
        (first | (go_at_call 22; refine hrd.mono ?_; rintro e w' ⟨t', rfl, ht', hvp', hR', hK'⟩; have hk2 := (Kp.drew h00).trans hK') | (go_at_call 21; refine (same_any _ (· < w2.heap.size) _ ((⟨tk, tu, tn, tb, tl⟩ : V), sb, sl) _ (by rw [ht', Hrv.out]; have := Hfk.out.2.1; simp only at this ⊢; omega) (by rw [ht', Hrv.out]; have := Hfk.out.2.2; simp only at this ⊢; omega) (by rw [ht', Hrv.out]) hvp' (vp_from hvp (by omega) hk2)).mono ?_; rintro e w'' ⟨rfl, hB''⟩; have hk3 := Kp.trans hk2 (Kp.of_below hB'')))
      have hR2 := hR'.below hB''
      rw [Hrv.out] at hR2
      have hK2 := hK.trans hk3
      clear hR' hrd hK' hk2 hB'' hk3
      go_wp2
      go_roundw
      case rel => exact ⟨k + 1, by omega, by go_num, hR2, hK2⟩
      case measure => simp [intOf]; omega
    · obtain rfl : k = is.length := by omega
      have hR2 : Rd w3.heap.size wr r ⟨[], 0⟩ := by
        have := hRk
        rw [List.drop_length] at this
        exact this
      have hE := rend_any r _ wr (by decide) hR2
      have hBr : Below w.heap.size w wr := hB.trans (hK.below hB.size (fun j h => by show j ≠ r; omega))
      clear hRk hK
      go_wp2_with fail
      refine hE.mono ?_
      rintro e w' ⟨rfl, rfl⟩
      clear hE
      go_wp2_with fail
      refine (lives_any wr).mono ?_
      rintro e w7 ⟨rfl, hB7⟩
      go_wp2
      go_ret
      exact ⟨rfl, below_then hBr hB7⟩

set_option maxRecDepth 100000 in
theorem round_lifted (os : Os) (started : os.Started) (H : Type) (enc : TypeId × Value → H) :
    ReturnsInHanded {} Try.checked os 5 .any (Rows.wireRoundSpec.pre6 enc Try.prog Try.f5 Rows.wireRoundRow.domain false) (Rows.wireRoundSpec.post enc Try.prog Try.f5 false true false false) := by
  refine returnsInHanded_of_change_sized (C := Try.checked) Try.own started (by kernel_rfl) Try.func5
    (ChangeSpec.witness6 (enc := enc) (C := Try.checked) false ⟨#[], #[.slice none 0 0, .int .u64 0, .int .i64 0], []⟩ 8 (by kernel_rfl) (by kernel_rfl) (by kernel_rfl) (by kernel_rfl)) ?_
  intro W base args ds gs before hval0 hW _ hsz0 _
  have hsz : (DataW.weightsEach Try.prog (Try.f5.params.toList ++ Rows.wireRoundSpec.plain.varTypes Try.prog) (ds ++ gs)).all (· ≤ reachBytes) = true := hsz0
  clear hsz0
  have hval : ∀ (j : Nat) t v, Try.f5.params[j]? = some t → args[j]? = some v → Value.okWide Try.prog W .any base t v := hval0
  have hW' := hW
  obtain ⟨p, q, hA0, hV, rfl, _, _⟩ := hW
  have hA : DataW.TrodAll enc Try.prog W 0 (fun _ => true) true Try.f5.params.toList args.toList ds p := hA0
  rw [Try.params5] at hA hval hsz
  obtain ⟨v0, vs0, d0, ds0, p0, q0, hargs, rfl, rfl, h0, r0⟩ := trodAll_cons hA
  obtain ⟨v1, vs1, d1, ds1, p1, q1, rfl, rfl, rfl, h1, r1⟩ := trodAll_cons r0
  obtain ⟨v2, vs2, d2, ds2, p2, q2, rfl, rfl, rfl, h2, r2⟩ := trodAll_cons r1
  obtain ⟨rfl, rfl, rfl⟩ := trodAll_nil r2
  obtain rfl : args = #[v0, v1, v2] := by cases args; simp_all
  obtain ⟨rfl, rfl⟩ := trodVars_none hV
  obtain ⟨a0, c0, zs0, rfl, hI0, hw0, hz0⟩ := open_row Try.underlying22 Try.underlying3 Try.cellsInt Try.bytesInt (hval 0 22 v0 rfl rfl) h0 (fun x hx => by simpa using hW'.lt x (by simp [hx])) hsz (j := 0) rfl rfl
  obtain ⟨a1, rfl, rfl, rfl, w1⟩ := open_int Try.underlying23 (hval 1 23 v1 rfl rfl) h1
  obtain ⟨a2, rfl, rfl, rfl, w2⟩ := open_int Try.underlying3 (hval 2 3 v2 rfl rfl) h2
  clear hA0 hval0
  have hwalk := round_walk a0 c0 zs0 a1 a2 W (by omega) hw0 hI0 w1 w2
  refine hwalk.mono fun e W' ⟨he, hB⟩ => ?_
  subst he
  exact ⟨_, rfl, law_post (by kernel_rfl) (by kernel_rfl) rfl hW' rfl hB⟩

theorem round_holds : Rows.WireRoundSaid :=
  OpenClaim.holds_of_wide 5 Try.f5 rfl rfl rfl rfl rfl rfl rfl ⟨rfl, rfl, rfl, rfl, rfl⟩ rfl rfl rfl rfl rfl (by kernel_rfl) Try.func5 (by kernel_rfl)
    (of_decide_eq_true (by kernel_rfl)) (by unfold Func.isWrapper; first | (rw [if_pos (by decide +kernel)]; kernel_rfl) | (rw [if_neg (by decide +kernel)]; exact ⟨rfl, rfl⟩))
    (fun os started H enc _ => round_lifted os started H enc)
#print axioms round_holds
end Go.Proofs.Ytiebefomhnbemaa
