/- Statement WirePrefix: a proper prefix of an encoding is incomplete, and a longer one leaves bytes. Conditions: none. -/
import Derived.Test.YtiebefomhnbemaaVRound
namespace Go.Proofs.Ytiebefomhnbemaa
open Go.ChangeShapes Go.WideShapes Go.ChangeAt Go.RowKit

theorem rL_len (s : St) : (rL s).2.bs.length ≤ s.bs.length := by
  have h := rU_len s
  unfold rL
  by_cases h1 : (rU s).2.e = 0
  · rw [if_pos h1]
    by_cases h2 : (rU s).2.bs.length < (rU s).1
    · rw [if_pos h2]; simp
    · rw [if_neg h2]; exact h
  · rw [if_neg h1]; exact h
theorem rIs_len : ∀ (k : Nat) (a : List Int) (s : St), (rIs k a s).2.bs.length ≤ s.bs.length
  | 0, _, _ => Nat.le_refl _
  | k + 1, a, s => by
    have h : (rI s).2.bs.length ≤ s.bs.length := rU_len s
    unfold rIs
    by_cases h1 : (rI s).2.e = 0
    · rw [if_pos h1]; exact Nat.le_trans (rIs_len k _ _) h
    · rw [if_neg h1]; exact h
theorem rV_len (k : Int) (s : St) : (rV k s).2.bs.length ≤ s.bs.length := by
  unfold rV
  by_cases h0 : k = 0
  · rw [if_pos h0]; exact rU_len s
  · rw [if_neg h0]
    by_cases h1 : k = 1
    · rw [if_pos h1]; exact rU_len s
    · rw [if_neg h1]
      by_cases h2 : k = 2
      · rw [if_pos h2]
        unfold rB
        by_cases h3 : s.e = 0
        · rw [if_pos h3]
          cases hb : s.bs with
          | nil => simp
          | cons c r =>
            simp only
            by_cases h4 : 1 < c.toNat
            · rw [if_pos h4]; simp
            · rw [if_neg h4]; simp
        · rw [if_neg h3]; exact Nat.le_refl _
      · rw [if_neg h2]
        by_cases h3 : k = 3 ∨ k = 4
        · rw [if_pos h3]
          unfold rRaw
          by_cases h4 : (rL s).2.e = 0
          · rw [if_pos h4]; have := rL_len s; simp only [List.length_drop]; omega
          · rw [if_neg h4]; exact rL_len s
        · rw [if_neg h3]
          unfold rInts
          by_cases h4 : (rL s).2.e = 0
          · rw [if_pos h4]; exact Nat.le_trans (rIs_len _ _ _) (rL_len s)
          · rw [if_neg h4]; exact rL_len s
theorem rVs_len : ∀ (ks : List Int) (s : St), (rVs ks s).bs.length ≤ s.bs.length
  | [], _ => Nat.le_refl _
  | k :: ks, s => Nat.le_trans (rVs_len ks _) (rV_len k s)
/-- A prefix of a row of bytes. -/
theorem Bs.cutAt {base : Nat} {W : World} {g l c : Nat} {ys : List UInt8} (h : Bs base W (.slice (some ⟨g, 0, none⟩) l c) ys) (m : Nat) (hm : m ≤ ys.length) : BIn W.heap.size W (.slice (some ⟨g, 0, none⟩) m c) (ys.take m) ∧ ys.length ≤ c := by
  have h0 : W.ownsRow base 5 1 (.slice (some ⟨g, 0, none⟩) l c) ys.length (u8s ys) := h
  obtain ⟨a', c', e⟩ := h.slice
  simp only [Value.slice.injEq] at e
  obtain ⟨-, rfl, -⟩ := e
  rcases h.2 with ⟨h1, _⟩ | ⟨g', cap, cur, e, hb, hg, hn, _⟩
  · simp at h1
  · simp only [Value.slice.injEq, Option.some.injEq, Addr.mk.injEq, and_true, true_and] at e
    obtain ⟨rfl, rfl⟩ := e
    refine ⟨.inl (.inr ⟨g, 0, c, by rw [List.length_map, List.length_take, Nat.min_eq_left hm], by rw [List.length_map, List.length_take]; omega, heap_lt hg, fun j hj => ?_⟩), hn⟩
    rw [List.length_map, List.length_take] at hj
    rw [Nat.zero_add, h0.cellAt j (by omega)]
    have hj1 : j < m := by omega
    have hj2 : j < ys.length := by omega
    simp [u8s, hj1, hj2]
/-- A byte of a parameter. -/
theorem byte_of {z : Int} (h : (Lit.int .u8 z).wf = true) : ∃ c : UInt8, z = ofByte c := by
  have h1 : IntKind.u8.min = 0 := rfl
  have h2 : IntKind.u8.max = 255 := rfl
  simp only [Lit.wf, Bool.and_eq_true, decide_eq_true_eq] at h
  refine ⟨UInt8.ofNat z.toNat, ?_⟩
  rw [ofByte_ofNat _ (by omega)]
  omega
theorem encAll_less (it : List VT) (k : Nat) (hn : it.length ≤ 30) (hs : ∀ t ∈ it, Small t.1) : (encAll (vals (it.drop k))).length ≤ 400000 := by
  have h1 := encAll_length (vals (it.drop k)) (fun v hv => by
    obtain ⟨t, ht, rfl⟩ := List.mem_map.1 hv
    exact hs t (List.mem_of_mem_drop ht))
  rw [vals_length, List.length_drop] at h1
  omega
theorem rV_more (it : List VT) (k : Nat) (q : List UInt8) (h : k < it.length) (hc : Canon it[k].1) : rV it[k].1.k ⟨encAll (vals (it.drop k)) ++ q, 0⟩ = (it[k].1, ⟨encAll (vals (it.drop (k + 1))) ++ q, 0⟩) := by
  rw [encAll_drop it k h, List.append_assoc]
  exact rV_enc _ _ hc

set_option maxRecDepth 100000 in
set_option maxHeartbeats 8000000 in
theorem partlaw_walk (a : Option Addr) (cap : Nat) (zs : List Int) (cut z : Int) (w : World) (hz : zs.length ≤ 140737488351232) (hzi : ∀ z ∈ zs, (Lit.int .i64 z).wf = true) (hI : InAt .i64 w.heap.size w (.slice a zs.length cap) zs) (hc' : (Lit.int .i64 cut).wf = true) (hz' : (Lit.int .u8 z).wf = true) :
    Calls Try.prog 7 #[.slice a zs.length cap, .int .i64 cut, .int .u8 z] w fun e w' => e = .returned (.bool true) ∧ Below w.heap.size w w' := by
  obtain ⟨i0, hi, hz0, hz1, hz2⟩ := info_parts Try.infoU8
  have hcut := in_of_i64 hc'
  obtain ⟨cb, rfl⟩ := byte_of hz'
  have hv := vals_any a cap zs w hz hzi hI
  clear hc' hz' hzi hI
  go_enter Try.func7, Try.ntmps7
  go_wp2_with fail
  refine hv.mono ?_
  rintro e w1 ⟨v, it, rfl, hG, hF, hil, hB1⟩
  have hvs := hG.at
  have hsm : ∀ t ∈ it, Small t.1 := fun t ht => (hF t ht).small
  obtain ⟨a1, c1, rfl⟩ := hvs.slice
  have hv1 := hvs.mono (Q := (· < w1.heap.size)) (fun k hk _ => hk)
  have Hsm := Lib.hid hsm
  have HFi := Lib.hid hF
  clear hG hvs hsm hF hv
  go_wp2_with fail
  refine (encode_any (· < w1.heap.size) a1 c1 it w1 (by omega) Hsm.out hv1).mono ?_
  rintro e w2 ⟨v2, rfl, hb2, hB2⟩
  have hv2 := hv1.below hB2
  obtain ⟨B, hBd⟩ : ∃ B, encAll (vals it) = B := ⟨_, rfl⟩
  have hel := encAll_less it 0 (by omega) Hsm.out
  rw [List.drop_zero, hBd] at hel
  rw [hBd] at hb2
  have HB := Lib.hid hBd
  obtain ⟨a2, c2, rfl⟩ := hb2.slice
  have hB := below_then hB1 hB2
  have hs1 := hB2.size
  have hw2 := hB.size
  clear hBd hv1 hB1 hB2
  by_cases hB0 : B.length = 0
  · go_wp2_with fail
    refine (read_any w2.heap.size none 0 [] w2 (by simp) (.inl (.inl ⟨rfl, rfl⟩)) (Nat.le_refl _)).mono ?_
    rintro e w3 ⟨r, rfl, hrb, hR, hB3⟩
    have hE := rend_any r _ w3 (by simp) hR
    replace hB := below_then hB hB3
    have s5 : endE ⟨[], 0⟩ = 0 := rfl
    rw [s5] at hE
    clear s5
    go_wp2_with fail
    refine hE.mono ?_
    rintro e w' ⟨rfl, rfl⟩
    clear hE
    go_wp2_with fail
    refine (lives_any w3).mono ?_
    rintro e w7 ⟨rfl, hB7⟩
    go_wp2
    go_ret
    exact ⟨rfl, below_then hB hB7⟩
  · obtain ⟨g, rfl⟩ := row_some hb2.row (by rw [List.length_map]; omega)
    have hBi : (1 : Int) ≤ (B.length : Int) := by omega
    have hb0 : ((B.length : Int) == 0) = false := beq_eq_false_iff_ne.2 (by omega)
    go_wp2_with fail
    refine (around_any cut (B.length : Int) w2 hcut.1 hcut.2 hBi (by omega)).mono ?_
    rintro e w' ⟨rfl, rfl⟩
    have hm0 := aroundI_lo cut (B.length : Int) hBi
    have hm1 := aroundI_hi cut (B.length : Int) hBi
    obtain ⟨m, hm⟩ := Int.eq_ofNat_of_zero_le hm0
    rw [hm] at hm1 ⊢
    clear hm hm0
    have hpre := hb2.cutAt m (by omega)
    have hcap := hpre.2
    have hml : (B.take m).length = m := by rw [List.length_take]; omega
    have hrd := read_any w2.heap.size (some ⟨g, 0, none⟩) c2 (B.take m) w2 (by rw [hml]; omega) (by rw [hml]; exact hpre.1) (Nat.le_refl _)
    rw [hml] at hrd
    have Hml := Lib.hid hml
    clear hml
    go_wp2_with fail
    refine hrd.mono ?_
    rintro e w3 ⟨r, rfl, hrb, hR, hB3⟩
    clear hrd
    have hb3 := hb2.below hB3
    have hv3 := hv2.below hB3
    have hrl := hR.lt
    replace hB := below_then hB hB3
    have hs3 := hB3.size
    have hw3 := hB.size
    have hfew := few_row (some ⟨g, 0, none⟩) c2 B (B.length : Int) w3 (by omega) (by omega) (by omega) hb3.in
    rw [Int.toNat_natCast, List.take_length] at hfew
    clear hb2 hv2 hpre hB3
    go_wp2_with fail
    refine hfew.mono ?_
    rintro e w4 ⟨a4, c4, rfl, hr4, hB4⟩
    have hv4 := hv3.below hB4
    have hR4 := hR.below hB4
    replace hB := below_then hB hB4
    have hs4 := hB4.size
    have hown4 : w4.ownsRow w3.heap.size 5 1 (.slice a4 B.length c4) B.length (u8s B) := hr4.bs
    clear hfew hr4 hb3 hv3 hR
    go_wp2_with (at_builtin; refine wpList_append_own _ rfl _ _ 24 rfl w3.heap.size 5 i0 (.int .u8 0) 1 1 Try.underlying24 hi hz0 hz1 hz2 rfl (by decide) _ _ _ rfl (hown4.alloc _) ⟨w4.heap.size, 0, none⟩ 1 1 [.int .u8 (ofByte cb)] rfl rfl (cell_one_new _ _ _) (by simp [Value.oneCell']) (by unfold maxLen; omega) (by omega) (by simp; omega) ?_; intro v' w5 hown' hgrow hnn; clear hnn; obtain ⟨g5, c5, rfl⟩ := slice_succ hown'; have hB5 : Below w3.heap.size w4 w5 := ((Below.refl _ w4).alloc hs4 _).grown hgrow (by simp; omega) (fun j hj => (hown4.lt j hj).1))
    have hb5 : Bs w3.heap.size w5 (.slice (some ⟨g5, 0, none⟩) (B.length + 1) c5) (B ++ [cb]) := by
      unfold Bs
      rw [List.length_append, u8s_append]
      exact hown'
    have hv5 := hv4.kp (Kp.mono (Kp.of_base hB5) (fun j (h : j < w1.heap.size) => show j < w3.heap.size by omega))
    have hR5 := hR4.kp (P := (· < w3.heap.size)) (.of_base hB5) (fun j h => show j < w3.heap.size by omega)
    replace hB := hB.trans (hB5.mono hw3)
    have hs5 := hB5.size
    have hrd2 := read_any w5.heap.size (some ⟨g5, 0, none⟩) c5 (B ++ [cb]) w5 (by rw [List.length_append]; simp; omega) (by rw [List.length_append]; exact hb5.in) (Nat.le_refl _)
    rw [List.length_append, List.length_singleton] at hrd2
    clear hown' hgrow hown4 hB4 hB5 hv4 hR4 hb5
    refine hrd2.mono ?_
    rintro e w6 ⟨q, rfl, hqb, hQ, hB6⟩
    have hv6 := hv5.below hB6
    have hR6 := hR5.below hB6
    replace hB := below_then hB hB6
    have hs6 := hB6.size
    have hql := hQ.lt
    clear hrd2 hv5 hR5 hB6
    go_wp2_with fail
    go_loopw [12] (fun i wr => ∃ k : Nat, k ≤ it.length ∧ i = .int .i64 k ∧ Rd w2.heap.size wr r (rVs ((vals (it.take k)).map V.k) ⟨B.take m, 0⟩) ∧ Rd w5.heap.size wr q ⟨encAll (vals (it.drop k)) ++ [cb], 0⟩ ∧ Kp (fun j => j ≠ r ∧ j ≠ q) w6 wr) (fun i _ => it.length - (intOf i).toNat)
    case atStart => exact ⟨0, Nat.zero_le _, rfl, hR6, by rw [List.drop_zero, HB.out]; exact hQ, Kp.refl _ _⟩
    case round =>
      obtain ⟨k, hk, rfl, hRk, hQk, hK⟩ := hrel
      by_cases hlt : k < it.length
      · have hfk := HFi.out it[k] (List.getElem_mem hlt)
        have hvr := hv6.kp (hK.mono (fun j (h : j < w1.heap.size) => show j ≠ r ∧ j ≠ q by omega))
        obtain ⟨g1, rfl, hg1, hgs1, hlc, hcell, -⟩ := hvr.get k hlt
        have hrv := rV_more it k [cb] hlt hfk.1
        have c0 := hcell 0 (by omega)
        have hlen := encAll_less it k (by omega) Hsm.out
        have hkk := hfk.1.1
        have hvt : rVs ((vals (it.take (k + 1))).map V.k) ⟨B.take m, 0⟩ = (rV it[k].1.k (rVs ((vals (it.take k)).map V.k) ⟨B.take m, 0⟩)).2 := by
          rw [vals_take it k hlt, List.map_append, List.map_singleton, rVs_snoc]
        have hrl2 := rVs_len ((vals (it.take k)).map V.k) ⟨B.take m, 0⟩
        simp only [Hml.out] at hrl2
        obtain ⟨sr, hsr⟩ : ∃ sr, rVs ((vals (it.take k)).map V.k) ⟨B.take m, 0⟩ = sr := ⟨_, rfl⟩
        rw [hsr] at hvt hRk hrl2
        obtain ⟨t, ht⟩ : ∃ t, it[k] = t := ⟨_, rfl⟩
        rw [ht] at c0 hrv hkk hvt
        obtain ⟨tk, htk⟩ : ∃ tk, t.1.k = tk := ⟨_, rfl⟩
        simp only [cells5, Nat.add_zero, List.getElem?_cons_zero] at c0
        rw [htk] at c0 hrv hkk hvt
        have Hrv := Lib.hid hrv
        have Hvt := Lib.hid hvt
        have hrdr := vread_any w2.heap.size r tk hkk.1 hkk.2 sr wr (by omega) hRk
        have Hv6 := Lib.hid hv6
        clear hsr ht htk hrv hvt hcell hvr hfk hv6
        go_wp2_with fail
        refine hrdr.mono ?_
        rintro e wa ⟨t1, rfl, -, -, hRa, hKa⟩
        rw [← Hvt.out] at hRa
        have hQa := hQk.kp hKa (fun j h => show j ≠ r by omega)
        have hrdq := vread_any w5.heap.size q tk hkk.1 hkk.2 _ wa (by simp only [List.length_append, List.length_singleton]; omega) hQa
        have c0a := (hKa.cell (p := ⟨g1, k * 5, none⟩) (by show g1 ≠ r; omega) hgs1).trans c0
        clear hRk hQk hrdr c0 hQa
        go_wp2_with fail
        refine hrdq.mono ?_
        rintro e wb ⟨t2, rfl, -, -, hQb, hKb⟩
        rw [Hrv.out] at hQb
        have hRb := hRa.kp hKb (fun j h => show j ≠ q by omega)
        have hK2 : Kp (fun j => j ≠ r ∧ j ≠ q) w6 wb := (hK.trans (hKa.mono (fun j h => h.1))).trans (hKb.mono (fun j h => h.2))
        clear hRa hrdq c0a hKa hKb hK
        go_wp2
        go_roundw
        case rel => exact ⟨k + 1, by omega, by go_num, hRb, hQb, hK2⟩
        case measure => simp [intOf]; omega
      · obtain rfl : k = it.length := by omega
        have hmore : (rVs ((vals (it.take it.length)).map V.k) ⟨B.take m, 0⟩).e = 3 := by
          rw [List.take_length]
          refine prefix_more (vals it) (B.take m) (B.drop m) (fun v hv => ?_) (by rw [List.take_append_drop]; exact HB.out) (fun h => ?_)
          · obtain ⟨t, ht, rfl⟩ := List.mem_map.1 hv
            exact (HFi.out t ht).1
          · have := congrArg List.length h
            rw [List.length_drop, List.length_nil] at this
            omega
        have hrl2 := rVs_len ((vals (it.take it.length)).map V.k) ⟨B.take m, 0⟩
        simp only [Hml.out] at hrl2
        obtain ⟨sr, hsr⟩ : ∃ sr, rVs ((vals (it.take it.length)).map V.k) ⟨B.take m, 0⟩ = sr := ⟨_, rfl⟩
        rw [hsr] at hRk hrl2 hmore
        have hQ2 : Rd w5.heap.size wr q ⟨[cb], 0⟩ := by
          have := hQk
          rw [List.drop_length] at this
          exact this
        have hEr := rend_any r sr wr (by omega) hRk
        have hEq := rend_any q _ wr (by simp) hQ2
        have e1 : endE sr = 3 := by simp [endE, hmore]
        have e2 : endE ⟨[cb], 0⟩ = 2 := by simp [endE]
        rw [e1] at hEr
        rw [e2] at hEq
        have hBr : Below w.heap.size w wr := hB.trans (hK.below hB.size (fun j h => by have h2 := hB.size; constructor <;> omega))
        have hk0 := aroundI_lo cut 6 (by omega)
        have hk5 := aroundI_hi cut 6 (by omega)
        have hne : sr.e ≠ 0 := by omega
        have hverr := rV_err (aroundI cut 6) hne
        have E1 := Lib.hid e1
        have Hverr := Lib.hid hverr
        clear hsr hmore e1 e2 hQk hQ2 hK hB hverr hne
        go_wp2_with fail
        refine hEr.mono ?_
        rintro e w' ⟨rfl, rfl⟩
        clear hEr
        go_wp2_with fail
        refine hEq.mono ?_
        rintro e w' ⟨rfl, rfl⟩
        clear hEq
        go_wp2_with fail
        refine (around_any cut 6 wr hcut.1 hcut.2 (by omega) (by omega)).mono ?_
        rintro e w' ⟨rfl, rfl⟩
        obtain ⟨kd, hkd⟩ : ∃ kd, aroundI cut 6 = kd := ⟨_, rfl⟩
        have hve := Hverr.out
        rw [hkd] at hk0 hk5 hve ⊢
        have hrd3 := vread_any w2.heap.size r kd hk0 (by omega) sr wr (by omega) hRk
        have Hve := Lib.hid hve
        clear hkd hve Hverr
        go_wp2_with fail
        refine hrd3.mono ?_
        rintro e wa ⟨⟨t1, sb, sl⟩, rfl, ht1, hvp1, hRa, hKa⟩
        rw [Hve.out.2] at ht1
        rw [Hve.out.1] at hRa
        simp only at ht1
        subst ht1
        unfold aggV
        have hBa := hBr.trans (hKa.below hBr.size (fun j h => by have h2 := hw3; show j ≠ r; omega))
        clear hrd3 hKa hBr hRk
        have hal : Below wa.heap.size wa (wa.alloc (.cells #[.int .i64 kd, .int .u64 0, .int .i64 0, sb, sl] 28)) := (Below.refl _ wa).alloc (Nat.le_refl _) _
        have hsame := same_any (wr.heap.size ≤ ·) (fun _ => True) ((⟨kd, 0, 0, [], []⟩ : V), sb, sl) ((⟨kd, 0, 0, [], []⟩ : V), .slice none 0 0, .slice none 0 0) _ (by simp) (by simp) rfl (hvp1.below hal) ⟨.nil, .nil⟩
        have hRb := hRa.below hal
        replace hBa := below_then hBa hal
        unfold aggV at hsame
        obtain ⟨a8, c8, e8⟩ := (hvp1.1).in'.slice
        obtain ⟨a9, c9, e9⟩ := (hvp1.2).in'.slice
        simp only at e8 e9
        subst e8
        subst e9
        clear hRa hal hvp1
        go_wp2_with fail
        refine hsame.mono ?_
        rintro e wc ⟨rfl, hBc⟩
        have hRc := hRb.below hBc
        replace hBa := below_then hBa hBc
        have hEc := rend_any r sr wc (by omega) hRc
        rw [E1.out] at hEc
        clear hsame hRb hBc hRc
        go_wp2_with fail
        refine hEc.mono ?_
        rintro e w' ⟨rfl, rfl⟩
        clear hEc
        go_wp2_with fail
        refine (lives_any wc).mono ?_
        rintro e w7 ⟨rfl, hB7⟩
        go_wp2
        go_ret
        exact ⟨rfl, below_then hBa hB7⟩

set_option maxRecDepth 100000 in
theorem partlaw_lifted (os : Os) (started : os.Started) (H : Type) (enc : TypeId × Value → H) :
    ReturnsInHanded {} Try.checked os 7 .any (Rows.wirePrefixSpec.pre6 enc Try.prog Try.f7 Rows.wirePrefixRow.domain false) (Rows.wirePrefixSpec.post enc Try.prog Try.f7 false true false false) := by
  refine returnsInHanded_of_change_sized (C := Try.checked) Try.own started (by kernel_rfl) Try.func7
    (ChangeSpec.witness6 (enc := enc) (C := Try.checked) false ⟨#[], #[.slice none 0 0, .int .i64 0, .int .u8 0], []⟩ 8 (by kernel_rfl) (by kernel_rfl) (by kernel_rfl) (by kernel_rfl)) ?_
  intro W base args ds gs before hval0 hW _ hsz0 _
  have hsz : (DataW.weightsEach Try.prog (Try.f7.params.toList ++ Rows.wirePrefixSpec.plain.varTypes Try.prog) (ds ++ gs)).all (· ≤ reachBytes) = true := hsz0
  clear hsz0
  have hval : ∀ (j : Nat) t v, Try.f7.params[j]? = some t → args[j]? = some v → Value.okWide Try.prog W .any base t v := hval0
  have hW' := hW
  obtain ⟨p, q, hA0, hV, rfl, _, _⟩ := hW
  have hA : DataW.TrodAll enc Try.prog W 0 (fun _ => true) true Try.f7.params.toList args.toList ds p := hA0
  rw [Try.params7] at hA hval hsz
  obtain ⟨v0, vs0, d0, ds0, p0, q0, hargs, rfl, rfl, h0, r0⟩ := trodAll_cons hA
  obtain ⟨v1, vs1, d1, ds1, p1, q1, rfl, rfl, rfl, h1, r1⟩ := trodAll_cons r0
  obtain ⟨v2, vs2, d2, ds2, p2, q2, rfl, rfl, rfl, h2, r2⟩ := trodAll_cons r1
  obtain ⟨rfl, rfl, rfl⟩ := trodAll_nil r2
  obtain rfl : args = #[v0, v1, v2] := by cases args; simp_all
  obtain ⟨rfl, rfl⟩ := trodVars_none hV
  obtain ⟨a0, c0, zs0, rfl, hI0, hw0, hz0⟩ := open_row Try.underlying22 Try.underlying3 Try.cellsInt Try.bytesInt (hval 0 22 v0 rfl rfl) h0 (fun x hx => by simpa using hW'.lt x (by simp [hx])) hsz (j := 0) rfl rfl
  obtain ⟨a1, rfl, rfl, rfl, w1⟩ := open_int Try.underlying3 (hval 1 3 v1 rfl rfl) h1
  obtain ⟨a2, rfl, rfl, rfl, w2⟩ := open_int Try.underlying5 (hval 2 5 v2 rfl rfl) h2
  clear hA0 hval0
  have hwalk := partlaw_walk a0 c0 zs0 a1 a2 W (by omega) hw0 hI0 w1 w2
  refine hwalk.mono fun e W' ⟨he, hB⟩ => ?_
  subst he
  exact ⟨_, rfl, law_post (by kernel_rfl) (by kernel_rfl) rfl hW' rfl hB⟩

theorem partlaw_holds : Rows.WirePrefixSaid :=
  OpenClaim.holds_of_wide 7 Try.f7 rfl rfl rfl rfl rfl rfl rfl ⟨rfl, rfl, rfl, rfl, rfl⟩ rfl rfl rfl rfl rfl (by kernel_rfl) Try.func7 (by kernel_rfl)
    (of_decide_eq_true (by kernel_rfl)) (by unfold Func.isWrapper; first | (rw [if_pos (by decide +kernel)]; kernel_rfl) | (rw [if_neg (by decide +kernel)]; exact ⟨rfl, rfl⟩))
    (fun os started H enc _ => partlaw_lifted os started H enc)
#print axioms partlaw_holds
end Go.Proofs.Ytiebefomhnbemaa
