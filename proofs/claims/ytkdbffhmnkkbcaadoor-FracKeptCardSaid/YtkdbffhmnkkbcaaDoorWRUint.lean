/- The contract of a reader's Uint. Conditions: at most a million bytes. -/
import Derived.Test.YtkdbffhmnkkbcaaDoorWRd
namespace Go.Proofs.YtkdbffhmnkkbcaaDoor.W
open Go.RowKit
variable {lo : Nat}

theorem rO_cons (x : UInt8) (r : List UInt8) : rO ⟨x :: r, 0⟩ = (x, ⟨r, 0⟩) := rfl
theorem rO_nil : rO ⟨[], 0⟩ = (0, ⟨[], 3⟩) := rfl

set_option maxRecDepth 100000 in
set_option maxHeartbeats 2000000 in
theorem ruint_err (b : Nat) (s : St) (w : World) (hs : s.bs.length ≤ 1000000) (he : s.e ≠ 0) (hr : Rd lo w b s) :
    Calls Tryd.prog 25 #[.pointer (some ⟨b, 0, none⟩)] w fun e w' => e = .returned (.int .u64 0) ∧ Rd lo w' b s ∧ Kp (· ≠ b) w w' := by
  have hne : ((s.e : Int) != 0) = true := by simp; omega
  have hro : rO s = (0, s) := by simp [rO, he]
  have ho := roctet_any b s w hs hr
  rw [hro] at ho
  clear he hro
  go_enter Tryd.func25, Tryd.ntmps25
  go_wp2
  go_loopw [3, 4] (fun n i wr => n = .int .u64 0 ∧ i = .int .i64 0 ∧ wr = w) (fun _ _ _ => 0)
  case atStart => exact ⟨rfl, rfl, rfl⟩
  case round =>
    obtain ⟨rfl, rfl, rfl⟩ := hrel
    go_wp2_with fail
    refine ho.mono ?_
    rintro e w1 ⟨rfl, hr1, hk⟩
    have hr2 := hr1
    obtain ⟨sv, hh, ⟨a, l, c, rfl⟩, h1⟩ := hr1
    have hc1 := cell_1 hh
    clear h1 hh
    go_wp2
    go_ret
    exact ⟨rfl, hr2, hk⟩

set_option maxRecDepth 100000 in
set_option maxHeartbeats 4000000 in
theorem ruint_ok (b : Nat) (bs : List UInt8) (w : World) (hs : bs.length ≤ 1000000) (hr : Rd lo w b ⟨bs, 0⟩) :
    Calls Tryd.prog 25 #[.pointer (some ⟨b, 0, none⟩)] w fun e w' => e = .returned (.int .u64 ((rdF 0 0 bs).1 : Int)) ∧ Rd lo w' b ⟨(rdF 0 0 bs).2.1, (rdF 0 0 bs).2.2⟩ ∧ Kp (· ≠ b) w w' := by
  go_enter Tryd.func25, Tryd.ntmps25
  go_wp2
  go_loopw [3, 4] (fun n i wr => ∃ (k acc : Nat) (t : List UInt8), n = .int .u64 acc ∧ i = .int .i64 k ∧ k ≤ 9 ∧ acc < 128 ^ k ∧ t.length ≤ 1000000 ∧ rdF k acc t = rdF 0 0 bs ∧ Rd lo wr b ⟨t, 0⟩ ∧ Kp (· ≠ b) w wr) (fun _ i _ => (9 - intOf i).toNat)
  case atStart => exact ⟨0, 0, bs, rfl, rfl, by omega, by decide, hs, rfl, hr, Kp.refl _ _⟩
  case round =>
    obtain ⟨k, acc, t, rfl, rfl, hk, hacc, ht, hf, hrt, hK⟩ := hrel
    have ho := roctet_any b ⟨t, 0⟩ wr ht hrt
    have Hf := Lib.hid hf
    have Hacc := Lib.hid hacc
    clear hf hacc
    cases t with
    | nil =>
      rw [rO_nil] at ho
      go_wp2_with fail
      refine ho.mono ?_
      rintro e w1 ⟨rfl, hr1, hk1⟩
      have hr2 := hr1
      obtain ⟨sv, hh, ⟨a, l, c, rfl⟩, h1⟩ := hr1
      have hc1 := cell_1 hh
      clear h1 hh
      go_wp2
      go_ret
      have h2 := Hf.out
      rw [rdF] at h2
      rw [← h2]
      exact ⟨rfl, hr2, hK.trans hk1⟩
    | cons x r =>
      rw [rO_cons] at ho
      have hlo := ofByte_lo x
      have hhi := ofByte_hi x
      have hzx : ofByte x = (x.toNat : Int) := rfl
      obtain ⟨z, hz⟩ : ∃ z, ofByte x = z := ⟨_, rfl⟩
      rw [hz] at hlo hhi hzx
      simp only [hz] at ho
      have Hz := Lib.hid hz
      have Hzx := Lib.hid hzx
      clear hz hzx
      have hor := or_digits k acc (x.toNat % 128) hk Hacc.out (by omega)
      have hzm : ((x.toNat % 128 : Nat) : Int) = z % 128 := by have := Hzx.out; omega
      rw [hzm] at hor
      have Hor := Lib.hid hor
      clear hor hzm
      have hcase : ((0 < k ∧ z = 0) ∨ (k = 9 ∧ 1 < z)) ∨ ((0 < k ∧ k < 9 ∧ 1 ≤ z ∧ z < 128) ∨ (k ≤ 0 ∧ k < 9 ∧ 0 ≤ z ∧ z < 128) ∨ (0 < k ∧ 9 ≤ k ∧ 1 ≤ z ∧ z ≤ 1)) ∨ ((0 < k ∧ k < 9 ∧ 1 ≤ z ∧ 128 ≤ z) ∨ (k ≤ 0 ∧ k < 9 ∧ 1 ≤ z ∧ 128 ≤ z)) := by omega
      rcases hcase with hc | hc | hc
      · have hbad : rdF 0 0 bs = (0, [], 2) := by
          rw [← Hf.out, rdF, if_pos (by have := Hzx.out; omega)]
        have Hbad := Lib.hid hbad
        clear hbad
        rcases hc with ⟨hk0, rfl⟩ | ⟨rfl, hz1⟩
        all_goals
          go_wp2_with fail
          refine ho.mono ?_
          rintro e w1 ⟨rfl, hr1, hk1⟩
          have hr2 := hr1
          obtain ⟨sv, hh, ⟨a, l, c, rfl⟩, h1⟩ := hr1
          have hc1 := cell_1 hh
          clear h1 hh
          go_wp2_with fail
          refine (rfail_any b 2 _ w1 (by omega) hr2).mono ?_
          rintro e w2 ⟨rfl, hr3, hk2⟩
          go_wp2
          go_ret
          rw [Hbad.out]
          exact ⟨rfl, hr3, (hK.trans hk1).trans hk2⟩
      · have hval : rdF 0 0 bs = (acc + x.toNat * 128 ^ k, r, 0) := by
          rw [← Hf.out, rdF, if_neg (by have := Hzx.out; omega), if_pos (by have := Hzx.out; omega)]
        have hor := Hor.out (by have := Hzx.out; omega)
        rw [show x.toNat % 128 = x.toNat by have := Hzx.out; omega] at hor
        have Hval := Lib.hid hval
        have Hor2 := Lib.hid hor
        clear hval hor
        have hz0 : (0 < k ∧ k < 9 ∧ 1 ≤ z ∧ z < 128 ∧ True) ∨ (k ≤ 0 ∧ k < 9 ∧ 0 ≤ z ∧ z < 128 ∧ True) ∨ (0 < k ∧ 9 ≤ k ∧ 1 ≤ z ∧ z ≤ 1 ∧ (z == 0) = false) := by
          rcases hc with h | h | h
          · exact .inl ⟨h.1, h.2.1, h.2.2.1, h.2.2.2, trivial⟩
          · exact .inr (.inl ⟨h.1, h.2.1, h.2.2.1, h.2.2.2, trivial⟩)
          · exact .inr (.inr ⟨h.1, h.2.1, h.2.2.1, h.2.2.2, by simp; omega⟩)
        rcases hz0 with ⟨hk0, hk9, hz1, hz2, hz3⟩ | ⟨hk0, hk9, hz1, hz2, hz3⟩ | ⟨hk0, hk9, hz1, hz2, hz3⟩
        all_goals
          go_wp2_with fail
          refine ho.mono ?_
          rintro e w1 ⟨rfl, hr1, hk1⟩
          have hr2 := hr1
          obtain ⟨sv, hh, ⟨a, l, c, rfl⟩, h1⟩ := hr1
          have hc1 := cell_1 hh
          clear h1 hh
          go_wp2
          go_ret
          rw [Hval.out]
          refine ⟨ret_u64 ?_, hr2, hK.trans hk1⟩
          first
            | exact Hor2.out
            | (obtain rfl : k = 9 := by omega
               have h9 := Hor2.out
               have e9 : (2 : Int) ^ (7 * 9) = 9223372036854775808 := by decide
               rw [e9, wrap_u64_in (z % 128 * 9223372036854775808) (by omega) (by omega)] at h9
               exact h9)
      · have hval : rdF (k + 1) (acc + x.toNat % 128 * 128 ^ k) r = rdF 0 0 bs := by
          rw [← Hf.out, rdF, if_neg (by have := Hzx.out; omega), if_neg (by have := Hzx.out; omega)]
        have hor := Hor.out (by have := Hzx.out; omega)
        have hab : acc + x.toNat % 128 * 128 ^ k < 128 ^ (k + 1) := by
          have h1 := Hacc.out
          have h2 : x.toNat % 128 * 128 ^ k ≤ 127 * 128 ^ k := Nat.mul_le_mul_right _ (by omega)
          rw [Nat.pow_succ]
          omega
        have Hval := Lib.hid hval
        have Hor2 := Lib.hid hor
        have Hab := Lib.hid hab
        clear hval hor hab
        rw [List.length_cons] at ht
        rcases hc with ⟨hk0, hk9, hz1, hz2⟩ | ⟨hk0, hk9, hz1, hz2⟩
        all_goals
          go_wp2_with fail
          refine ho.mono ?_
          rintro e w1 ⟨rfl, hr1, hk1⟩
          have hr2 := hr1
          obtain ⟨sv, hh, ⟨a, l, c, rfl⟩, h1⟩ := hr1
          have hc1 := cell_1 hh
          clear h1 hh
          go_wp2
          go_roundw
          case rel => exact ⟨k + 1, acc + x.toNat % 128 * 128 ^ k, r, by rw [← Hor2.out], by go_num, by omega, Hab.out, by omega, Hval.out, hr2, hK.trans hk1⟩
          case measure => simp [intOf]; omega

/-- A reader's Uint, in every state. -/
theorem ruint_any (b : Nat) (s : St) (w : World) (hs : s.bs.length ≤ 1000000) (hr : Rd lo w b s) :
    Calls Tryd.prog 25 #[.pointer (some ⟨b, 0, none⟩)] w fun e w' => e = .returned (.int .u64 ((rU s).1 : Int)) ∧ Rd lo w' b (rU s).2 ∧ Kp (· ≠ b) w w' := by
  obtain ⟨bs, e⟩ := s
  by_cases he : e = 0
  · subst he
    simp only [rU, if_true]
    exact ruint_ok b bs w hs hr
  · simp only [rU, if_neg he]
    exact ruint_err b ⟨bs, e⟩ w hs he hr

set_option maxHeartbeats 1000000 in
theorem rint_any (b : Nat) (s : St) (w : World) (hs : s.bs.length ≤ 1000000) (hr : Rd lo w b s) :
    Calls Tryd.prog 10 #[.pointer (some ⟨b, 0, none⟩)] w fun e w' => e = .returned (.int .i64 (rI s).1) ∧ Rd lo w' b (rI s).2 ∧ Kp (· ≠ b) w w' := by
  have hlt := rU_lt s
  have hI : (rI s).1 = unzz (rU s).1 := rfl
  have hI2 : (rI s).2 = (rU s).2 := rfl
  rw [hI, hI2]
  have hu := ruint_any b s w hs hr
  generalize (rU s).1 = z at *
  generalize (rU s).2 = t at *
  clear hI hI2
  go_enter Tryd.func10, Tryd.ntmps10
  go_wp2_with fail
  refine hu.mono ?_
  rintro e w1 ⟨rfl, hr1, hk1⟩
  go_wp2_with fail
  refine (unzigzag_any (z : Int) w1 (by omega) (by omega)).mono ?_
  rintro e w' ⟨rfl, rfl⟩
  go_wp2
  go_ret
  exact ⟨rfl, hr1, hk1⟩

end Go.Proofs.YtkdbffhmnkkbcaaDoor.W
