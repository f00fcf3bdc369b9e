/- The contract of the reference's Encode. Conditions: at most 30 values as the methods take them. -/
import Derived.Test.YtiebefomhnbemaaVRef
namespace Go.Proofs.Ytiebefomhnbemaa
open Go.RowKit

theorem enc_pos (v : V) : 1 ≤ (enc v).length := by
  have h1 := uv_pos v.u
  have h2 := uv_pos (zz v.n)
  have h3 := uv_pos v.b.length
  have h4 := uv_pos v.l.length
  unfold enc
  by_cases k0 : v.k = 0
  · rw [if_pos k0]; omega
  · rw [if_neg k0]
    by_cases k1 : v.k = 1
    · rw [if_pos k1]; omega
    · rw [if_neg k1]
      by_cases k2 : v.k = 2
      · rw [if_pos k2]; simp
      · rw [if_neg k2]
        by_cases k3 : v.k = 3 ∨ v.k = 4
        · rw [if_pos k3, List.length_append]; omega
        · rw [if_neg k3, List.length_append]; omega

set_option maxRecDepth 100000 in
set_option maxHeartbeats 4000000 in
theorem refenc_any (P : Nat → Prop) (a : Option Addr) (c : Nat) (it : List VT) (w : World) (hn : it.length ≤ 30) (hs : ∀ t ∈ it, Small t.1) (hI : VsAt P w (.slice a it.length c) it) :
    Calls Try.prog 17 #[.slice a it.length c] w fun e w' => ∃ v, e = .returned v ∧ Bs w.heap.size w' v (encAll (vals it)) ∧ Below w.heap.size w w' := by
  obtain ⟨i0, hi, hz0, hz1, hz2⟩ := info_parts Try.infoU8
  have hI0 := hI.mono (Q := (· < w.heap.size)) (fun k hk _ => hk)
  have Hs := Lib.hid hs
  clear hI hs
  go_enter Try.func17, Try.ntmps17
  go_wp2
  go_loopw [3, 4] (fun v i wr => ∃ k : Nat, k ≤ it.length ∧ i = .int .i64 k ∧ Bs w.heap.size wr v (encAll (vals (it.take k))) ∧ Below w.heap.size w wr) (fun _ i _ => it.length - (intOf i).toNat)
  case atStart => exact ⟨0, Nat.zero_le _, rfl, Bs.nil _ _, Below.refl _ _⟩
  case round =>
    obtain ⟨k, hk, rfl, hv, hB⟩ := hrel
    have hlen : (encAll (vals (it.take k))).length ≤ 330600 := by
      have h1 := encAll_length (vals (it.take k)) (fun v hv => by
        obtain ⟨t, ht, rfl⟩ := List.mem_map.1 hv
        exact Hs.out t (List.mem_of_mem_take ht))
      have h2 : (it.take k).length ≤ k := List.length_take_le _ _
      rw [vals_length] at h1
      omega
    have hbs := hB.size
    by_cases hlt : k < it.length
    · have hsm := Hs.out it[k] (List.getElem_mem hlt)
      have hIr := hI0.kp (.of_base hB)
      obtain ⟨g, rfl, hg, hgs, hlc, hcell, hvp⟩ := hIr.get k hlt
      have htk : encAll (vals (it.take (k + 1))) = encAll (vals (it.take k)) ++ enc it[k].1 := by rw [vals_take it k hlt, encAll_snoc]
      have c0 := hcell 0 (by omega)
      have c1 := hcell 1 (by omega)
      have c2 := hcell 2 (by omega)
      have c3 := hcell 3 (by omega)
      have c4 := hcell 4 (by omega)
      have hel := enc_length _ hsm
      have hep := enc_pos it[k].1
      obtain ⟨t, ht⟩ : ∃ t, it[k] = t := ⟨_, rfl⟩
      rw [ht] at c0 c1 c2 c3 c4 htk hsm hvp hel hep
      obtain ⟨pre, hpre⟩ : ∃ pre, encAll (vals (it.take k)) = pre := ⟨_, rfl⟩
      rw [hpre] at hv hlen htk
      have Htk := Lib.hid htk
      obtain ⟨⟨vk, vu, vn, vb, vl⟩, sb, sl⟩ := t
      simp only [cells5, Nat.add_zero, List.getElem?_cons_zero, List.getElem?_cons_succ] at c0 c1 c2 c3 c4 Htk hel hep
      obtain ⟨⟨hkk, hu, hnn0, hl, -, -, -, -, -, hbl, hll⟩, hb3, hl3⟩ := hsm
      simp only at hkk hu hnn0 hl hbl hll hb3 hl3
      have hi1 := hvp.1.in'
      have hi2 := hvp.2.in'
      obtain ⟨a3, p3, e3⟩ := hi1.slice
      obtain ⟨a4, p4, e4⟩ := hi2.slice
      simp only at e3 e4
      subst e3
      subst e4
      have Hl := Lib.hid hl
      have hk0 : (0 : Int) ≤ (k : Int) := by omega
      have hk1 : (k : Int) < (it.length : Int) := by omega
      clear hcell hvp ht hpre htk hl
      obtain ⟨E, hE⟩ : ∃ E, enc ⟨vk, vu, vn, vb, vl⟩ = E := ⟨_, rfl⟩
      rw [hE] at hel hep Htk
      have hkc : vk = 0 ∨ vk = 1 ∨ vk = 2 ∨ vk = 3 ∨ vk = 4 ∨ vk = 5 := by omega
      rcases hkc with rfl | rfl | rfl | rfl | rfl | rfl
      case' inl =>
        have key := refuint_any vu wr hu
        rw [show uv vu = enc ⟨0, vu, vn, vb, vl⟩ from rfl, hE] at key
      case' inr.inl =>
        have key := refint_any vn wr hnn0.1 hnn0.2
        rw [show uv (zz vn) = enc ⟨1, vu, vn, vb, vl⟩ from rfl, hE] at key
      case' inr.inr.inl =>
        have key := refbool_any (vn == 1) wr
        rw [show boolB (vn == 1) = enc ⟨2, vu, vn, vb, vl⟩ from by rw [boolB_eq]; rfl, hE] at key
      case' inr.inr.inr.inl =>
        have key := refraw_any wr.heap.size a3 p3 vb wr (by omega) (Nat.le_refl _) hi1
        rw [show uv vb.length ++ vb = enc ⟨3, vu, vn, vb, vl⟩ from rfl, hE] at key
      case' inr.inr.inr.inr.inl =>
        have key := refraw_any wr.heap.size a3 p3 vb wr (by omega) (Nat.le_refl _) hi1
        rw [show uv vb.length ++ vb = enc ⟨4, vu, vn, vb, vl⟩ from rfl, hE] at key
      case' inr.inr.inr.inr.inr =>
        have key := refints_any wr.heap.size a4 p4 vl wr (by omega) Hl.out (Nat.le_refl _) hi2
        rw [show uv vl.length ++ encL vl = enc ⟨5, vu, vn, vb, vl⟩ from rfl, hE] at key
      all_goals
        clear hi1 hi2 hE hnn0
        go_wp2_with fail
        refine key.mono ?_
        rintro e w2 ⟨v2, rfl, hv2, hB2⟩
        clear key c0 c1 c2 c3 c4
        obtain ⟨d, c, rfl, hcs⟩ := hv2.some hep
        have hvk := hv.below hB2
        have hr : w2.ownsRow w.heap.size 5 1 u3 pre.length (u8s pre) := hvk
        have hs2 := hB2.size
        have Hcs := Lib.hid hcs
        clear hcs hv2
        go_wp2_with (at_builtin; refine wpList_append_own _ rfl _ _ 24 rfl w.heap.size 5 i0 (.int .u8 0) 1 1 Try.underlying24 hi hz0 hz1 hz2 rfl (by decide) _ _ _ rfl hr d E.length c (u8s E) rfl (by rw [u8s_length, Nat.mul_one]) Hcs.out (u8s_one _) (by unfold maxLen; omega) (by omega) (by omega) ?_; intro v' w3 hown' hgrow hnn; clear hnn; have hP := hvk.pushN (Nat.le_trans hbs hs2) hown' hgrow; clear hgrow hown')
        go_roundw
        case rel => exact ⟨k + 1, by omega, by go_num, by rw [Htk.out]; exact hP.1, (below_then hB hB2).trans hP.2⟩
        case measure => simp [intOf]; omega
    · obtain rfl : k = it.length := by omega
      rw [List.take_length] at hv
      go_wp2
      go_ret
      exact ⟨_, rfl, hv, hB⟩
end Go.Proofs.Ytiebefomhnbemaa
