/- Contracts of Valid and of its reference. Conditions: lists and strings of bounded length. -/
import Derived.Test.YtmgjbbkccgncgaaDoorLRefNew
import Derived.Test.YtmgjbbkccgncgaaDoorLGet
namespace Go.Proofs.YtmgjbbkccgncgaaDoor
open Go.RowKit

set_option maxRecDepth 100000 in
set_option maxHeartbeats 4000000 in
theorem equal_any (a b : Option Addr) (c d : Nat) (it jt : List L2) (w : World) (hI : LsAt w (.slice a it.length c) it) (hJ : LsAt w (.slice b jt.length d) jt) (hlen : it.length ≤ 140737488351232) (_hlen2 : jt.length ≤ 140737488351232) :
    Calls Tryd.prog 48 #[.slice a it.length c, .slice b jt.length d] w fun e w' => e = .returned (.bool (sameL it jt)) ∧ Below w.heap.size w w' := by
  by_cases hl : it.length = jt.length
  · have hne : ((it.length : Int) != (jt.length : Int)) = false := by rw [hl]; simp
    have Hl := Lib.hid hl
    clear hl
    go_enter Tryd.func48, Tryd.ntmps48
    go_wp2
    go_loopw [13] (fun i wr => ∃ k : Nat, k ≤ it.length ∧ i = .int .i64 k ∧ it.take k = jt.take k ∧ Below w.heap.size w wr) (fun i _ => it.length - (intOf i).toNat)
    case atStart => exact ⟨0, Nat.zero_le _, rfl, rfl, Below.refl _ _⟩
    case round =>
      obtain ⟨k, hk, rfl, ht, hB⟩ := hrel
      have Ht := Lib.hid ht
      clear ht
      by_cases hlt : k < it.length
      · have hly : k < jt.length := by rw [← Hl.out]; exact hlt
        obtain ⟨n, v, hi⟩ := label_at hlt
        obtain ⟨n', v', hj⟩ := label_at hly
        have hIr := hI.below hB
        have hJr := hJ.below hB
        obtain ⟨g, off, rfl, hgs, c0, c1⟩ := hIr.get hi
        obtain ⟨g', off', rfl, hgs', d0, d1⟩ := hJr.get hj
        have HI := Lib.hid hi
        have HJ := Lib.hid hj
        clear hi hj hIr hJr
        by_cases he : n = n'
        · by_cases hf : v = v'
          · obtain rfl := he
            obtain rfl := hf
            go_wp2
            all_goals try (go_quiet (fail); go_wp2)
            go_roundw
            case rel => exact ⟨k + 1, by omega, by go_num, take_same Ht.out HI.out HJ.out, by first | exact hB | exact below_draw hB _ | exact hB.alloc hB.size _ | exact below_draw (hB.alloc hB.size _) _⟩
            case measure => simp [intOf]; omega
          · have e1 := str_yes he
            have e2 := str_no hf
            have HR := Lib.hid (sameL_not (neq_at HI.out HJ.out (fun h => hf (Prod.mk.inj h).2)))
            clear he hf
            go_wp2
            all_goals try (go_quiet (fail); go_wp2)
            go_ret
            exact ⟨ret_bool HR.out.symm, by first | exact hB | exact below_draw hB _ | exact hB.alloc hB.size _ | exact below_draw (hB.alloc hB.size _) _⟩
        · have e1 := str_no he
          have HR := Lib.hid (sameL_not (neq_at HI.out HJ.out (fun h => he (Prod.mk.inj h).1)))
          clear he
          go_wp2
          all_goals try (go_quiet (fail); go_wp2)
          go_ret
          exact ⟨ret_bool HR.out.symm, by first | exact hB | exact below_draw hB _ | exact hB.alloc hB.size _ | exact below_draw (hB.alloc hB.size _) _⟩
      · obtain rfl : k = it.length := by omega
        have HR := Lib.hid (sameL_of (show it = jt by have h := Ht.out; rw [List.take_length, Hl.out, List.take_length] at h; exact h))
        go_wp2
        go_ret
        exact ⟨ret_bool HR.out.symm, hB⟩
  · have hne : ((it.length : Int) != (jt.length : Int)) = true := by rw [bne_iff_ne]; omega
    have HR := Lib.hid (sameL_not (show it ≠ jt from fun h => hl (by rw [h])))
    clear hl
    go_enter Tryd.func48, Tryd.ntmps48
    go_wp2
    go_ret
    exact ⟨ret_bool HR.out.symm, Below.refl _ _⟩

/-- What Valid answers. -/
def validB (it : List L2) : Bool := (newE it == 0) && sameL (newL it) it

set_option maxRecDepth 100000 in
set_option maxHeartbeats 4000000 in
theorem valid_any (sv : Value) (it : List L2) (w : World) (hI : LsAt w sv it) (hlen : it.length ≤ 1000) (hz : Sz it) :
    Calls Tryd.prog 27 #[sv] w fun e w' => e = .returned (.bool (validB it)) ∧ Below w.heap.size w w' := by
  have HN := Lib.hid (new_any sv it w hI hlen hz)
  obtain ⟨a, c, rfl, -⟩ := hI.slice
  have HI := Lib.hid hI
  clear hI
  go_enter Tryd.func27, Tryd.ntmps27
  go_wp2_with fail
  refine HN.out.mono ?_
  rintro e w1 ⟨v, rfl, hL, hB⟩
  obtain ⟨a', c', rfl, -⟩ := hL.slice
  have HL := Lib.hid hL
  have hIr := HI.out.below hB
  by_cases h0 : newE it = 0
  · have h8 := (newE_dist h0).1
    have hl : (newL it).length ≤ 8 := by unfold newL; rw [if_pos h0, (sortL_perm it).length_eq]; exact h8
    have HQ := Lib.hid (equal_any a' a c' c (newL it) it w1 HL.out hIr (by omega) (by omega))
    have HR := Lib.hid (show sameL (newL it) it = validB it by unfold validB; rw [h0]; rfl)
    rw [h0]
    clear h0 hl h8 hL hIr
    go_wp2_with fail
    (with_reducible refine HQ.out.mono ?_)
    rintro e w2 ⟨rfl, hb⟩
    go_wp2
    go_ret
    exact ⟨ret_bool HR.out, below_st hB hb⟩
  · have HR := Lib.hid (show validB it = false by unfold validB; rw [beq_eq_false_iff_ne.2 h0]; rfl)
    obtain ⟨x, hx⟩ : ∃ x, newE it = x := ⟨_, rfl⟩
    rw [hx] at h0 ⊢
    have e0 : (x == 0) = false := beq_eq_false_iff_ne.2 h0
    clear hx h0 hL hIr
    go_wp2
    go_ret
    exact ⟨ret_bool HR.out.symm, hB⟩

end Go.Proofs.YtmgjbbkccgncgaaDoor
