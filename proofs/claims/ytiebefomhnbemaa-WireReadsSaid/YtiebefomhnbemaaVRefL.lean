/- Contracts of the reference's reader: Uint in every state, Int, Bool, length, Raw, Ints. Conditions: at most a million bytes. -/
import Derived.Test.YtiebefomhnbemaaVRefR
import Derived.Test.YtiebefomhnbemaaVPrefix
namespace Go.Proofs.Ytiebefomhnbemaa
open Go.RowKit
variable {lo : Nat}

theorem rL_le' (s : St) : (rL s).2.e = 0 → (rL s).1 ≤ (rL s).2.bs.length := by
  intro h
  have h1 : (rU s).2.e = 0 := by
    by_cases h1 : (rU s).2.e = 0
    · exact h1
    · unfold rL at h
      rw [if_neg h1] at h
      exact h
  exact (uv_rL (rU_e h1) h).2
theorem rL_v (s : St) : (rL s).2.e ≠ 0 → (rL s).1 = 0 := by
  intro h
  unfold rL at h ⊢
  by_cases h1 : (rU s).2.e = 0
  · rw [if_pos h1] at h ⊢
    by_cases h2 : (rU s).2.bs.length < (rU s).1
    · rw [if_pos h2]
    · rw [if_neg h2] at h; exact absurd h1 h
  · rw [if_neg h1]

/-- The reference's Uint, in every state. -/
theorem rruint_any (b : Nat) (s : St) (w : World) (hs : s.bs.length ≤ 1000000) (hr : RR lo w b s) :
    Calls Try.prog 49 #[.pointer (some ⟨b, 0, none⟩)] w fun e w' => e = .returned (.int .u64 ((rU s).1 : Int)) ∧ RR lo w' b (rU s).2 ∧ Kp (· ≠ b) w w' := by
  obtain ⟨bs, e⟩ := s
  by_cases he : e = 0
  · subst he
    simp only [rU, if_true]
    exact rruint_ok b bs w hs hr
  · simp only [rU, if_neg he]
    refine (rruint_err b ⟨bs, e⟩ w he hr).mono ?_
    rintro e' w' ⟨rfl, rfl⟩
    exact ⟨rfl, hr, Kp.refl _ _⟩

set_option maxHeartbeats 1000000 in
theorem rrint_any (b : Nat) (s : St) (w : World) (hs : s.bs.length ≤ 1000000) (hr : RR lo w b s) :
    Calls Try.prog 50 #[.pointer (some ⟨b, 0, none⟩)] w fun e w' => e = .returned (.int .i64 (rI s).1) ∧ RR lo w' b (rI s).2 ∧ Kp (· ≠ b) w w' := by
  have hlt := rU_lt s
  have hI : (rI s).1 = unzz (rU s).1 := rfl
  have hI2 : (rI s).2 = (rU s).2 := rfl
  rw [hI, hI2]
  have hu := rruint_any b s w hs hr
  generalize (rU s).1 = z at *
  generalize (rU s).2 = t at *
  clear hI hI2
  go_enter Try.func50, Try.ntmps50
  go_wp2_with fail
  refine hu.mono ?_
  rintro e w1 ⟨rfl, hr1, hk1⟩
  go_wp2_with fail
  refine (refback_any z w1 hlt).mono ?_
  rintro e w' ⟨rfl, rfl⟩
  go_wp2
  go_ret
  exact ⟨rfl, hr1, hk1⟩

set_option maxRecDepth 100000 in
set_option maxHeartbeats 1000000 in
theorem rrlen_any (b : Nat) (s : St) (w : World) (hs : s.bs.length ≤ 1000000) (hr : RR lo w b s) :
    Calls Try.prog 64 #[.pointer (some ⟨b, 0, none⟩)] w fun e w' => e = .returned (.int .i64 ((rL s).1 : Int)) ∧ RR lo w' b (rL s).2 ∧ Kp (· ≠ b) w w' := by
  have hu := rruint_any b s w hs hr
  have hul := rU_len s
  have hlt := rU_lt s
  unfold rL
  obtain ⟨z, hz⟩ : ∃ z, (rU s).1 = z := ⟨_, rfl⟩
  obtain ⟨t, ht⟩ : ∃ t, (rU s).2 = t := ⟨_, rfl⟩
  have hpair : rU s = (z, t) := by rw [← hz, ← ht]
  rw [hpair] at hu hul hlt ⊢
  simp only at hu hul hlt ⊢
  clear hz ht hpair hr
  obtain ⟨bs, e⟩ := t
  simp only at hul ⊢
  by_cases he : e = 0
  · subst he
    by_cases hsz : bs.length < z
    · simp only [if_true, if_pos hsz]
      go_enter Try.func64, Try.ntmps64
      go_wp2_with fail
      refine hu.mono ?_
      rintro e w1 ⟨rfl, hr1, hk1⟩
      obtain ⟨a, l, c, hh, hl⟩ := hr1.left
      obtain rfl := hl rfl
      have hc0 := cell_0 hh
      have hc1 := cell_1 hh
      have hf1 := free_1 hh
      have hbl : bs.length ≤ 1000000 := by omega
      have hgt : (bs.length : Int) < (z : Int) := by omega
      have hfl := rr_fail (lo := lo) (bs := []) 3 (by decide) ⟨a, _, c, rfl⟩ hh
      clear hh hl hr1 hu
      go_wp2
      go_ret
      exact ⟨rfl, hfl.1, hk1.trans hfl.2⟩
    · simp only [if_true, if_neg hsz]
      go_enter Try.func64, Try.ntmps64
      go_wp2_with fail
      refine hu.mono ?_
      rintro e w1 ⟨rfl, hr1, hk1⟩
      obtain ⟨a, l, c, hh, hl⟩ := hr1.left
      obtain rfl := hl rfl
      have hc0 := cell_0 hh
      have hc1 := cell_1 hh
      have hbl : bs.length ≤ 1000000 := by omega
      have hgt : (z : Int) ≤ (bs.length : Int) := by omega
      clear hh hl hu
      go_wp2
      go_ret
      exact ⟨rfl, hr1, hk1⟩
  · simp only [if_neg he]
    have hne : ¬ (e : Int) = 0 := by omega
    go_enter Try.func64, Try.ntmps64
    go_wp2_with fail
    refine hu.mono ?_
    rintro e' w1 ⟨rfl, hr1, hk1⟩
    obtain ⟨a, l, c, hh, hl⟩ := hr1.left
    have hc0 := cell_0 hh
    have hc1 := cell_1 hh
    simp only at hc1
    clear hh hl hu he
    go_wp2
    go_ret
    exact ⟨rfl, hr1, hk1⟩

theorem sat_take {P : Nat → Prop} {w : World} {a : Option Addr} {l c m : Nat} {bs : List UInt8} (h : SAt P w (.slice a l c) bs) (hm : m ≤ bs.length) : SAt P w (.slice a m c) (bs.take m) := by
  obtain ⟨a', c', e, hl, hn, h1⟩ := h
  simp only [Value.slice.injEq] at e
  obtain ⟨rfl, rfl, rfl⟩ := e
  have hlen : (bs.take m).length = m := by rw [List.length_take]; omega
  refine ⟨a, c, by rw [hlen], by omega, hn, fun hne => ?_⟩
  obtain ⟨g, off, ea, hp, hg, hc⟩ := h1 (by rintro rfl; simp at hne)
  refine ⟨g, off, ea, hp, hg, fun j hj => ?_⟩
  rw [hlen] at hj
  rw [hc j (by omega), List.getElem?_take, if_pos hj]

set_option maxRecDepth 100000 in
set_option maxHeartbeats 2000000 in
theorem rrraw_any (b : Nat) (s : St) (w : World) (hs : s.bs.length ≤ 1000000) (hr : RR lo w b s) :
    Calls Try.prog 52 #[.pointer (some ⟨b, 0, none⟩)] w fun e w' => ∃ v, e = .returned v ∧ SAt (fun k => k < lo ∧ k < b) w' v (rRaw s).1 ∧ RR lo w' b (rRaw s).2 ∧ Kp (· ≠ b) w w' := by
  have hu := rrlen_any b s w hs hr
  have hul := rL_len s
  have hle := rL_le' s
  unfold rRaw
  obtain ⟨z, hz⟩ : ∃ z, (rL s).1 = z := ⟨_, rfl⟩
  obtain ⟨t, ht⟩ : ∃ t, (rL s).2 = t := ⟨_, rfl⟩
  have hpair : rL s = (z, t) := by rw [← hz, ← ht]
  rw [hpair] at hu hul hle ⊢
  simp only at hu hul hle ⊢
  clear hz ht hpair hr
  obtain ⟨bs, e⟩ := t
  simp only at hul hle ⊢
  by_cases he : e = 0
  · subst he
    have hzl := hle rfl
    simp only [if_true]
    clear hle
    go_enter Try.func52, Try.ntmps52
    go_wp2_with fail
    refine hu.mono ?_
    rintro e w1 ⟨rfl, hr1, hk1⟩
    obtain ⟨sv, hh, -, h1⟩ := hr1
    have hsat := h1 rfl
    obtain ⟨a, c, rfl, hl, hn0, h3⟩ := hsat
    simp only at hl hn0 h3 hh
    have hc0 := cell_0 hh
    have hc1 := cell_1 hh
    have hf0 := free_0 hh
    have hbl : bs.length ≤ 1000000 := by omega
    have hz0 : (0 : Int) ≤ (z : Int) := by omega
    have hz1 : (z : Int) ≤ (bs.length : Int) := by omega
    have hz2 : (z : Int) ≤ (c : Int) := by omega
    have hst := sat_take (h1 rfl) hzl
    have Hh := Lib.hid hh
    clear hh h1 hu
    by_cases hb : bs = []
    · subst hb
      obtain rfl : z = 0 := by simpa using hzl
      cases a with
      | none =>
        obtain rfl := hn0 rfl
        clear h3 hzl hz0 hz1 hz2 hbl hul
        go_wp2
        go_ret
        exact ⟨_, rfl, .nil, (rr_moved Hh.out rfl .nil).1, hk1.trans (kp_set _)⟩
      | some d =>
        clear h3 hzl hz0 hz1 hz2 hbl hul
        go_wp2
        go_ret
        exact ⟨_, rfl, sat_nil (r := []) rfl, (rr_moved Hh.out rfl (sat_nil (r := []) rfl)).1, hk1.trans (kp_set _)⟩
    · obtain ⟨g, off, rfl, hp, hg, hcs⟩ := h3 hb
      have hsd := sat_drop (P := fun k => k < lo ∧ k < b) (m := z) hzl rfl hl hp hg hcs
      have Hcs := Lib.hid hcs
      have hb0 := hb
      clear hcs h3 hb
      have hbne : ¬ bs = [] := hb0
      go_wp2
      all_goals
        go_ret
        first
          | exact ⟨_, rfl, hst.kp ((kp_set _).mono (fun k h => Nat.ne_of_lt h.2)), (rr_moved Hh.out rfl hsd).1, hk1.trans (kp_set _)⟩
          | exact ⟨_, rfl, hst.kp ((kp_set _).mono (fun k h => Nat.ne_of_lt h.2)), (rr_moved Hh.out rfl (sat_end (by omega) rfl)).1, hk1.trans (kp_set _)⟩
          | (have hst2 := hst
             rw [show c = z by omega] at hst2
             refine ⟨_, rfl, hst2.kp ((kp_set _).mono (fun k h => Nat.ne_of_lt h.2)), ?_, hk1.trans (kp_set _)⟩
             have hse : SAt (fun k => k < lo ∧ k < b) w1 (.slice (some ⟨g, off, none⟩) (bs.length - z) 0) (bs.drop z) := sat_end (by omega) rfl
             exact (rr_moved Hh.out rfl hse).1)
  · simp only [if_neg he]
    have hne : ¬ (e : Int) = 0 := by omega
    go_enter Try.func52, Try.ntmps52
    go_wp2_with fail
    refine hu.mono ?_
    rintro e' w1 ⟨rfl, hr1, hk1⟩
    obtain ⟨a, l, c, hh, hl⟩ := hr1.left
    have hc1 := cell_1 hh
    simp only at hc1
    clear hh hl hu he
    go_wp2
    go_ret
    exact ⟨_, rfl, .nil, hr1, hk1⟩

set_option maxRecDepth 100000 in
set_option maxHeartbeats 4000000 in
theorem rrints_any (b : Nat) (s : St) (w : World) (hs : s.bs.length ≤ 1000000) (hr : RR lo w b s) :
    Calls Try.prog 53 #[.pointer (some ⟨b, 0, none⟩)] w fun e w' => ∃ v, e = .returned v ∧ Row .i64 3 w.heap.size w' v (rInts s).1 ∧ RR lo w' b (rInts s).2 ∧ Kp (· ≠ b) w w' := by
  obtain ⟨i0, hi, hz0, hz1, hz2⟩ := info_parts Try.infoInt
  have hu := rrlen_any b s w hs hr
  have hul := rL_len s
  have hle := rL_le' s
  have hlv := rL_v s
  have hbn := hr.lt
  unfold rInts
  obtain ⟨z, hz⟩ : ∃ z, (rL s).1 = z := ⟨_, rfl⟩
  obtain ⟨t, ht⟩ : ∃ t, (rL s).2 = t := ⟨_, rfl⟩
  have hpair : rL s = (z, t) := by rw [← hz, ← ht]
  rw [hpair] at hu hul hle hlv ⊢
  simp only at hu hul hle hlv ⊢
  clear hz ht hpair hr
  by_cases he : t.e = 0
  · have hzl := hle he
    rw [if_pos he]
    have He := Lib.hid he
    clear hle hlv he
    go_enter Try.func53, Try.ntmps53
    go_wp2_with fail
    refine hu.mono ?_
    rintro e w1 ⟨rfl, hr1, hk1⟩
    have hbl : t.bs.length ≤ 1000000 := by omega
    clear hu
    go_wp2_with fail
    go_loopw [4, 5] (fun v i wr => ∃ (k : Nat) (acc : List Int) (q : St), i = .int .i64 k ∧ k ≤ z ∧ acc.length ≤ k ∧ q.bs.length ≤ 1000000 ∧ ((q.e = 0 ∧ acc.length = k ∧ rIs (z - k) acc q = rIs z [] t) ∨ (q.e ≠ 0 ∧ rIs z [] t = ([], q))) ∧ Row .i64 3 w.heap.size wr v acc ∧ RR lo wr b q ∧ Kp (· ≠ b) w wr) (fun _ i _ => z - (intOf i).toNat)
    case atStart => exact ⟨0, [], t, rfl, by omega, by simp, hbl, .inl ⟨He.out, rfl, rfl⟩, World.ownsRow_nil _ _ _ _, hr1, hk1⟩
    case round =>
      obtain ⟨k, acc, q, rfl, hk, hal, hql, hcase, hrow, hrq, hK⟩ := hrel
      have hs1 := hK.size
      obtain ⟨a, l, c, hh, -⟩ := hrq.left
      have hc1 := cell_1 hh
      clear hh
      rcases hcase with ⟨hqe, hacc, hrec⟩ | ⟨hqe, hrec⟩
      · by_cases hlt : k < z
        · have hi1 := rrint_any b q wr hql hrq
          have hil : (rI q).2.bs.length ≤ 1000000 := Nat.le_trans (rU_len q) hql
          have hin := rI_in q
          have hz1' : z - k = (z - (k + 1)) + 1 := by omega
          rw [hz1', rIs] at hrec
          obtain ⟨y, hy⟩ : ∃ y, (rI q).1 = y := ⟨_, rfl⟩
          obtain ⟨q2, hq2⟩ : ∃ q2, (rI q).2 = q2 := ⟨_, rfl⟩
          rw [hy] at hi1 hin hrec
          rw [hq2] at hi1 hil hrec
          have hqz : (q.e : Int) = 0 := by omega
          rw [hqz] at hc1
          have Hrec := Lib.hid hrec
          have Hacc := Lib.hid hacc
          clear hrec hy hq2 hqe hqz hz1' hacc
          go_wp2_with fail
          refine hi1.mono ?_
          rintro e w2 ⟨rfl, hr2, hk2⟩
          have hown : w2.ownsRow w.heap.size 3 1 u4 acc.length (acc.map (Value.int .i64)) := by
            have h := owns_kp (show wr.ownsRow w.heap.size 3 1 u4 _ _ from hrow) hk2 (fun j hj _ => by omega)
            first | exact h | simpa using h
          have hK2 := hK.trans hk2
          have hs2 := hK2.size
          clear hrow hi1 hrq hk2 hc1
          go_wp2_with (at_builtin; refine wpList_append_own _ rfl _ _ 22 rfl w.heap.size 3 i0 (.int .i64 0) 1 8 Try.underlying22 hi hz0 hz1 hz2 rfl (by decide) _ _ _ rfl (hown.alloc _) ⟨w2.heap.size, 0, none⟩ 1 1 [.int .i64 y] rfl rfl (cell_one_new _ _ _) (by simp [Value.oneCell']) (by unfold maxLen; omega) (by omega) (by simp; omega) ?_; intro v' w4 hown' hgrow hnn; clear hnn)
          have hB4 : Below w.heap.size w2 w4 := ((Below.refl _ w2).alloc hs2 _).grown hgrow (by simp; omega) (fun j hj => (hown.lt j hj).1)
          go_roundw
          case rel =>
            refine ⟨k + 1, acc ++ [y], q2, by go_num, by omega, by rw [List.length_append, Hacc.out]; exact Nat.le_refl _, hil, ?_, ?_, hr2.kp (P := (· < w.heap.size)) (.of_base hB4) (fun j hj => by omega), hK2.then hB4⟩
            · have h := Hrec.out
              by_cases hq : q2.e = 0
              · rw [if_pos hq] at h
                exact .inl ⟨hq, by rw [List.length_append, Hacc.out]; rfl, h⟩
              · rw [if_neg hq] at h
                exact .inr ⟨hq, h.symm⟩
            · unfold Row
              rw [List.length_append, List.map_append]
              exact hown'
          case measure => simp [intOf]; omega
        · obtain rfl : k = z := by omega
          rw [Nat.sub_self, rIs] at hrec
          have hqz : (q.e : Int) = 0 := by omega
          rw [hqz] at hc1
          have Hrec := Lib.hid hrec
          clear hrec hqe hqz
          go_wp2
          go_ret
          rw [← Hrec.out]
          exact ⟨_, rfl, hrow, hrq, hK⟩
      · have hqz : ¬ (q.e : Int) = 0 := by omega
        have Hrec := Lib.hid hrec
        clear hrec hqe
        by_cases hlt : k < z
        all_goals
          go_wp2
          go_ret
          rw [Hrec.out]
          exact ⟨_, rfl, World.ownsRow_nil _ _ _ _, hrq, hK⟩
  · rw [if_neg he]
    obtain rfl := hlv he
    have hne : ¬ (t.e : Int) = 0 := by omega
    go_enter Try.func53, Try.ntmps53
    go_wp2_with fail
    refine hu.mono ?_
    rintro e' w1 ⟨rfl, hr1, hk1⟩
    obtain ⟨a, l, c, hh, -⟩ := hr1.left
    have hc1 := cell_1 hh
    clear hh hu he hle hlv
    go_wp2_with fail
    go_loopw [4, 5] (fun v i wr => v = .slice none 0 0 ∧ i = .int .i64 0 ∧ w1 = wr) (fun _ _ _ => 0)
    case atStart => exact ⟨rfl, rfl, rfl⟩
    case round =>
      obtain ⟨rfl, rfl, rfl⟩ := hrel
      go_wp2
      go_ret
      exact ⟨_, rfl, World.ownsRow_nil _ _ _ _, hr1, hk1⟩
end Go.Proofs.Ytiebefomhnbemaa
