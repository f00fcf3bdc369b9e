/- Contracts of package wire's list at bytes and at integers, and of Text, Raw, Ints, End, Read. Conditions: at most a million bytes. -/
import Derived.Test.YtkdbffhmnkkbcaaDoorWRUint
namespace Go.Proofs.YtkdbffhmnkkbcaaDoor.W
open Go.RowKit
variable {lo : Nat}

theorem rdF_len : ∀ (bs : List UInt8) (i acc : Nat), (rdF i acc bs).2.1.length ≤ bs.length
  | [], i, acc => by simp [rdF]
  | c :: bs, i, acc => by
    rw [rdF]
    by_cases h1 : (0 < i ∧ c.toNat = 0) ∨ (i = 9 ∧ 1 < c.toNat)
    · rw [if_pos h1]; simp
    · rw [if_neg h1]
      by_cases h2 : c.toNat < 128
      · rw [if_pos h2]; simp
      · rw [if_neg h2]
        have := rdF_len bs (i + 1) (acc + c.toNat % 128 * 128 ^ i)
        rw [List.length_cons]
        omega
theorem rU_len (s : St) : (rU s).2.bs.length ≤ s.bs.length := by
  unfold rU
  by_cases h : s.e = 0
  · rw [if_pos h]; exact rdF_len _ _ _
  · rw [if_neg h]; exact Nat.le_refl _
theorem Kp.then {P : Nat → Prop} {A B C : World} (h : Kp P A B) (k : Below A.heap.size B C) : Kp P A C :=
  ⟨k.os.trans h.os, k.tape.trans h.tape, k.output.trans h.output, Nat.le_trans h.size k.size, fun i hi hp => (k.block i hi).trans (h.block i hi hp)⟩
theorem take_u8s (bs : List UInt8) (k : Nat) (h : k < bs.length) : u8s (bs.take (k + 1)) = u8s (bs.take k) ++ [.int .u8 (ofByte bs[k])] := by
  rw [List.take_succ_eq_append_getElem h, u8s_append]; rfl
/-- The length of the slice that a reader holds. -/
theorem Rd.left {W : World} {b : Nat} {s : St} (h : Rd lo W b s) : ∃ a l c, W.heap[b]? = some (.cells #[.slice a l c, .int .i64 (s.e : Int)] 54 (0, 0)) ∧ (s.e = 0 → l = s.bs.length) := by
  obtain ⟨sv, hh, ⟨a, l, c, rfl⟩, h1⟩ := h
  refine ⟨a, l, c, hh, fun e => ?_⟩
  obtain ⟨a', c', e', -⟩ := h1 e
  simp only [Value.slice.injEq] at e'
  exact e'.2.1

set_option maxRecDepth 100000 in
set_option maxHeartbeats 4000000 in
theorem listb_any (b : Nat) (s : St) (w : World) (hs : s.bs.length ≤ 1000000) (hr : Rd lo w b s) :
    Calls Tryd.prog 28 #[.pointer (some ⟨b, 0, none⟩), .func (.func 29) #[.pointer (some ⟨b, 0, none⟩)] #[]] w fun e w' => ∃ v, e = .returned v ∧ Bs w.heap.size w' v (rRaw s).1 ∧ Rd lo w' b (rRaw s).2 ∧ Kp (· ≠ b) w w' := by
  obtain ⟨i0, hi, hz0, hz1, hz2⟩ := info_parts Tryd.infoU8
  have hu := ruint_any b s w hs hr
  have hul := rU_len s
  have hlt := rU_lt s
  have huv := @rU_v s
  have hbn : b < w.heap.size := by obtain ⟨a, l, c, hh, -⟩ := hr.left; exact heap_lt hh
  unfold rRaw rL
  obtain ⟨z, hz⟩ : ∃ z, (rU s).1 = z := ⟨_, rfl⟩
  obtain ⟨t, ht⟩ : ∃ t, (rU s).2 = t := ⟨_, rfl⟩
  have hpair : rU s = (z, t) := by rw [← hz, ← ht]
  rw [hpair] at hu hul hlt huv ⊢
  simp only at hu hul hlt huv ⊢
  clear hz ht hpair
  obtain ⟨bs, e⟩ := t
  simp only at hul huv ⊢
  by_cases he : e = 0
  · subst he
    clear huv
    by_cases hsz : bs.length < z
    · simp only [if_true, if_pos hsz]
      go_enter Tryd.func28, Tryd.ntmps28
      go_wp2_with fail
      refine hu.mono ?_
      rintro e w1 ⟨rfl, hr1, hk1⟩
      obtain ⟨a, l, c, hh, hl⟩ := hr1.left
      obtain rfl := hl rfl
      have hc0 := cell_0 hh
      have hbl : bs.length ≤ 1000000 := by omega
      have hgt : (bs.length : Int) < (z : Int) := by omega
      clear hh hl
      go_wp2_with fail
      refine (rfail_any b 3 _ w1 (by omega) hr1).mono ?_
      rintro e w2 ⟨rfl, hr3, hk2⟩
      go_wp2
      go_ret
      exact ⟨_, rfl, World.ownsRow_nil _ _ _ _, hr3, hk1.trans hk2⟩
    · simp only [if_true, if_neg hsz]
      go_enter Tryd.func28, Tryd.ntmps28
      go_wp2_with fail
      refine hu.mono ?_
      rintro e w1 ⟨rfl, hr1, hk1⟩
      obtain ⟨a, l, c, hh, hl⟩ := hr1.left
      obtain rfl := hl rfl
      have hc0 := cell_0 hh
      have hbl : bs.length ≤ 1000000 := by omega
      have hgt : (z : Int) ≤ (bs.length : Int) := by omega
      clear hh hl
      go_wp2_with (at_make; refine wpList_make_own _ rfl _ _ 26 rfl w.heap.size 5 i0 (.int .u8 0) 1 Tryd.underlying26 hi hz0 hz1 .i64 .u64 _ z rfl rfl (by omega) (by rw [hz2]; omega) (by unfold maxLen; omega) hk1.size ?_; intro w2 hown hgrow)
      have hk2 : Kp (· ≠ b) w w2 := hk1.trans (.of_below ((Below.refl _ w1).grown hgrow (Nat.le_refl _) (fun j hj => by cases hj)))
      have hr2 : Rd lo w2 b ⟨bs, 0⟩ := hr1.below ((Below.refl _ w1).grown hgrow (Nat.le_refl _) (fun j hj => by cases hj))
      clear hr1 hgrow hu hc0
      go_loopw [6, 23] (fun v t wr => ∃ k : Nat, k ≤ z ∧ t = .int .u64 k ∧ wr.ownsRow w.heap.size 5 1 v k (u8s (bs.take k)) ∧ Rd lo wr b ⟨bs.drop k, 0⟩ ∧ Kp (· ≠ b) w wr) (fun _ t _ => z - (intOf t).toNat)
      case atStart => exact ⟨0, Nat.zero_le _, rfl, by simpa [u8s] using hown, by simpa using hr2, hk2⟩
      case round =>
        obtain ⟨k, hk, rfl, hown1, hrk, hK⟩ := hrel
        clear hown hr2 hk2
        by_cases hlt : k < z
        · have hkl : k < bs.length := by omega
          have ho := roctet_any b ⟨bs.drop k, 0⟩ wr (by simp only [List.length_drop]; omega) hrk
          rw [List.drop_eq_getElem_cons hkl, rO_cons] at ho
          have htk := take_u8s bs k hkl
          obtain ⟨x, hx⟩ : ∃ x, ofByte bs[k] = x := ⟨_, rfl⟩
          simp only [hx] at ho
          rw [hx] at htk
          have Htk := Lib.hid htk
          clear htk hx
          go_wp2_with fail
          refine ho.mono ?_
          rintro e w3 ⟨rfl, hr3, hk3⟩
          obtain ⟨a', l', c', hh, -⟩ := hr3.left
          have hc1 := cell_1 hh
          have hown3 := owns_kp hown1 hk3 (fun j hj _ => by omega)
          have hK3 := hK.trans hk3
          have hs3 := hK3.size
          clear hh hown1 hK ho hrk hk3
          go_wp2_with (at_builtin; refine wpList_append_own _ rfl _ _ 26 rfl w.heap.size 5 i0 (.int .u8 0) 1 1 Tryd.underlying26 hi hz0 hz1 hz2 rfl (by decide) _ _ _ rfl (hown3.alloc _) ⟨w3.heap.size, 0, none⟩ 1 1 [.int .u8 x] rfl rfl (cell_one_new _ _ _) (by simp [Value.oneCell']) (by unfold maxLen; omega) (by omega) (by simp; omega) ?_; intro v' w4 hown' hgrow hnn; clear hnn)
          have hB4 : Below w.heap.size w3 w4 := ((Below.refl _ w3).alloc hs3 _).grown hgrow (by simp; omega) (fun j hj => (hown3.lt j hj).1)
          go_roundw
          case rel => exact ⟨k + 1, by omega, by go_num, by rw [Htk.out]; exact hown', hr3.kp (P := (· < w.heap.size)) (.of_base hB4) (fun j hj => by omega), hK3.then hB4⟩
          case measure => simp [intOf]; omega
        · obtain rfl : k = z := by omega
          go_wp2
          go_ret
          have hl : (bs.take k).length = k := by rw [List.length_take]; omega
          exact ⟨_, rfl, by unfold Bs; rw [hl]; exact hown1, hrk, hK⟩
  · have hz0' := huv he
    subst hz0'
    simp only [if_neg he]
    clear huv
    go_enter Tryd.func28, Tryd.ntmps28
    go_wp2_with fail
    refine hu.mono ?_
    rintro e' w1 ⟨rfl, hr1, hk1⟩
    obtain ⟨a, l, c, hh, hl⟩ := hr1.left
    have hc0 := cell_0 hh
    clear hh hl hu
    go_wp2_with (at_make; refine wpList_make_own _ rfl _ _ 26 rfl w.heap.size 5 i0 (.int .u8 0) 1 Tryd.underlying26 hi hz0 hz1 .i64 .u64 _ 0 rfl rfl rfl (by rw [hz2]; omega) (by unfold maxLen; omega) hk1.size ?_; intro w2 hown hgrow)
    have hk2 : Kp (· ≠ b) w w2 := hk1.trans (.of_below ((Below.refl _ w1).grown hgrow (Nat.le_refl _) (fun j hj => by cases hj)))
    have hr2 : Rd lo w2 b ⟨bs, e⟩ := hr1.below ((Below.refl _ w1).grown hgrow (Nat.le_refl _) (fun j hj => by cases hj))
    clear hr1 hgrow hc0
    obtain ⟨v0, hv0⟩ : ∃ v0, Value.slice (some ⟨w1.heap.size, 0, none⟩) 0 0 = v0 := ⟨_, rfl⟩
    rw [hv0] at hown
    have Hv0 := Lib.hid hv0
    clear hv0
    go_loopw [6, 23] (fun v t wr => t = .int .u64 0 ∧ wr = w2 ∧ v = v0) (fun _ _ _ => 0)
    case atStart => exact ⟨rfl, rfl, Hv0.out⟩
    case round =>
      obtain ⟨rfl, rfl, rfl⟩ := hrel
      go_wp2
      go_ret
      exact ⟨_, rfl, hown, hr2, hk2⟩

end Go.Proofs.YtkdbffhmnkkbcaaDoor.W
