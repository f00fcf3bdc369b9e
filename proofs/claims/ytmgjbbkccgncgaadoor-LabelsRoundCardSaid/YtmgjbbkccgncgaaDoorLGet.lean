/- Contracts of Get and of its reference. Conditions: none. -/
import Derived.Test.YtmgjbbkccgncgaaDoorLMem
namespace Go.Proofs.YtmgjbbkccgncgaaDoor
open Go.RowKit

/-- Two lists are the same. -/
def sameL (a b : List L2) : Bool := decide (a = b)
theorem sameL_of {a b : List L2} (h : a = b) : sameL a b = true := decide_eq_true h
theorem sameL_not {a b : List L2} (h : a ≠ b) : sameL a b = false := decide_eq_false h
theorem take_same {a b : List L2} {k : Nat} {n v : ByteArray} (h : a.take k = b.take k) (ha : a[k]? = some (n, v)) (hb : b[k]? = some (n, v)) : a.take (k + 1) = b.take (k + 1) := by
  rw [List.take_add_one, List.take_add_one, h, ha, hb]
theorem neq_at {a b : List L2} {k : Nat} {s t : L2} (ha : a[k]? = some s) (hb : b[k]? = some t) (h : s ≠ t) : a ≠ b := by
  rintro rfl
  rw [ha] at hb
  exact h (Option.some.inj hb)

set_option maxRecDepth 100000 in
set_option maxHeartbeats 4000000 in
theorem same_any (a b : Option Addr) (c d : Nat) (it jt : List L2) (w : World) (hI : LsAt w (.slice a it.length c) it) (hJ : LsAt w (.slice b jt.length d) jt) (hlen : it.length ≤ 140737488351232) (_hlen2 : jt.length ≤ 140737488351232) :
    Calls Tryd.prog 9 #[.slice a it.length c, .slice b jt.length d] w fun e w' => e = .returned (.bool (sameL it jt)) ∧ Below w.heap.size w w' := by
  by_cases hl : it.length = jt.length
  · have hne : ((it.length : Int) != (jt.length : Int)) = false := by rw [hl]; simp
    have Hl := Lib.hid hl
    clear hl
    go_enter Tryd.func9, Tryd.ntmps9
    go_wp2
    go_loopw [5] (fun i wr => ∃ k : Nat, k ≤ it.length ∧ i = .int .i64 k ∧ it.take k = jt.take k ∧ Below w.heap.size w wr) (fun i _ => it.length - (intOf i).toNat)
    case atStart => exact ⟨0, Nat.zero_le _, rfl, rfl, Below.refl _ _⟩
    case round =>
      obtain ⟨k, hk, rfl, ht, hB⟩ := hrel
      have Ht := Lib.hid ht
      clear ht
      by_cases hlt : k < it.length
      · have hly : k < jt.length := by rw [← Hl.out]; exact hlt
        obtain ⟨n, v, hi⟩ := label_at hlt
        obtain ⟨n', v', hj⟩ := label_at hly
        have hIr := hI.below hB
        have hJr := hJ.below hB
        obtain ⟨g, off, rfl, hgs, c0, c1⟩ := hIr.get hi
        obtain ⟨g', off', rfl, hgs', d0, d1⟩ := hJr.get hj
        have HI := Lib.hid hi
        have HJ := Lib.hid hj
        clear hi hj hIr hJr
        by_cases he : n = n'
        · by_cases hf : v = v'
          · obtain rfl := he
            obtain rfl := hf
            go_wp2
            all_goals try (go_quiet (fail); go_wp2)
            go_roundw
            case rel => exact ⟨k + 1, by omega, by go_num, take_same Ht.out HI.out HJ.out, by first | exact hB | exact below_draw hB _ | exact hB.alloc hB.size _ | exact below_draw (hB.alloc hB.size _) _⟩
            case measure => simp [intOf]; omega
          · have e1 := str_yes he
            have e2 := str_no hf
            have HR := Lib.hid (sameL_not (neq_at HI.out HJ.out (fun h => hf (Prod.mk.inj h).2)))
            clear he hf
            go_wp2
            all_goals try (go_quiet (fail); go_wp2)
            go_ret
            exact ⟨ret_bool HR.out.symm, by first | exact hB | exact below_draw hB _ | exact hB.alloc hB.size _ | exact below_draw (hB.alloc hB.size _) _⟩
        · have e1 := str_no he
          have HR := Lib.hid (sameL_not (neq_at HI.out HJ.out (fun h => he (Prod.mk.inj h).1)))
          clear he
          go_wp2
          all_goals try (go_quiet (fail); go_wp2)
          go_ret
          exact ⟨ret_bool HR.out.symm, by first | exact hB | exact below_draw hB _ | exact hB.alloc hB.size _ | exact below_draw (hB.alloc hB.size _) _⟩
      · obtain rfl : k = it.length := by omega
        have HR := Lib.hid (sameL_of (show it = jt by have h := Ht.out; rw [List.take_length, Hl.out, List.take_length] at h; exact h))
        go_wp2
        go_ret
        exact ⟨ret_bool HR.out.symm, hB⟩
  · have hne : ((it.length : Int) != (jt.length : Int)) = true := by rw [bne_iff_ne]; omega
    have HR := Lib.hid (sameL_not (show it ≠ jt from fun h => hl (by rw [h])))
    clear hl
    go_enter Tryd.func9, Tryd.ntmps9
    go_wp2
    go_ret
    exact ⟨ret_bool HR.out.symm, Below.refl _ _⟩
end Go.Proofs.YtmgjbbkccgncgaaDoor
