/- Contract of the reference's quoted. Conditions: a quotation mark at the place. -/
import Derived.Test.YtpmndopcemdniaaDoorTRLeaf
import Derived.Test.YtpmndopcemdniaaDoorLValue
namespace Go.Proofs.YtpmndopcemdniaaDoor
open Go.RowKit

theorem valB_one (c : UInt8) : valB (ba [c]) = vaB c := by
  have hb : ∀ j, (h : j < (ba [c]).size) → (ba [c])[j]'h = c := fun j h => by
    have h1 : j < 1 := by rw [ba_len] at h; exact h
    obtain rfl : j = 0 := by omega
    rfl
  by_cases hv : vchP (c.toNat : Int)
  · rw [valB_true (by rw [ba_len]; simp) (fun j h => by rw [hb j h]; exact hv)]
    exact (decide_eq_true hv).symm
  · rw [valB_at 0 (by rw [ba_len]; simp) (by rw [hb]; exact hv)]
    exact (decide_eq_false hv).symm
theorem one_of (t : List UInt8) (k : Nat) (h : k < t.length) : (ba t).extract k (k + 1) = ba [t[k]] := by
  rw [ba_ext, ba_list, List.drop_take, show k + 1 - k = 1 by omega, List.drop_eq_getElem_cons h, List.take_succ_cons, List.take_zero]
/-- The contents of a string behind its quotation mark, and the error. -/
def quoL (r : List UInt8) : List UInt8 × Nat :=
  if (r.takeWhile nqB).length < r.length ∧ (r.takeWhile nqB).all vaB then
    if (r.takeWhile nqB).length ≤ 16 then (r.takeWhile nqB, 0) else ([], 4)
  else ([], 2)

set_option maxRecDepth 100000 in
set_option maxHeartbeats 4000000 in
theorem rquoted_any (s : ByteArray) (i : Nat) (w : World) (hs : s.size ≤ 140737488351232) (hi : i < s.size) :
    Calls Tryd.prog 48 #[.string s, .int .i64 (i : Int)] w fun e w' => e = .returned (.tuple #[.string (ba (quoL (s.data.toList.drop (i + 1))).1), .int .i64 ((quoL (s.data.toList.drop (i + 1))).2 : Int)]) ∧ Below w.heap.size w w' := by
  obtain ⟨t, ht⟩ : ∃ t, (s.data.toList.drop (i + 1)).takeWhile nqB = t := ⟨_, rfl⟩
  have hrl : (s.data.toList.drop (i + 1)).length = s.size - (i + 1) := by rw [List.length_drop, list_len]
  have htl : t.length ≤ s.size - (i + 1) := by rw [← hrl, ← ht]; exact (List.takeWhile_prefix _).length_le
  have hq : quoL (s.data.toList.drop (i + 1)) = if t.length < s.size - (i + 1) ∧ t.all vaB then if t.length ≤ 16 then (t, 0) else ([], 4) else ([], 2) := by unfold quoL; rw [ht, hrl]
  rw [hq]
  obtain ⟨⟨q1, q2⟩, hQ⟩ : ∃ q, (if t.length < s.size - (i + 1) ∧ t.all vaB then if t.length ≤ 16 then (t, 0) else ([], 4) else (([], 2) : List UInt8 × Nat)) = q := ⟨_, rfl⟩
  rw [hQ]
  have hx : s.extract (i + 1) (i + 1 + t.length) = ba t := by
    rw [ba_ext, List.drop_take, show i + 1 + t.length - (i + 1) = t.length by omega, ← ht]
    congr 1
    exact takeWhile_take _
  obtain ⟨i1, hi1⟩ : ∃ i1, i + 1 = i1 := ⟨_, rfl⟩
  rw [hi1] at ht htl hx hQ
  have HQ := Lib.hid hQ
  clear hQ
  obtain ⟨E, hE⟩ : ∃ E, i1 + t.length = E := ⟨_, rfl⟩
  rw [hE] at hx
  have bi : IntKind.i64.wrap ((i : Int) + 1) = (i1 : Int) := by rw [IntKind.wrap_i64]; omega
  have HE0 := Lib.hid (show i1 + ((s.data.toList.drop i1).takeWhile nqB).length = E by rw [ht]; exact hE)
  have HX := Lib.hid hx
  have HE := Lib.hid hE
  have hi2 : i1 ≤ s.size := by omega
  have HL := Lib.hid htl
  clear hq hrl ht hx hE hi1 hi htl
  go_enter Tryd.func48, Tryd.ntmps48
  go_wp2
  go_loop [6] (fun v => ∃ k : Nat, k ≤ s.size ∧ v = .int .i64 (k : Int) ∧ k + ((s.data.toList.drop k).takeWhile nqB).length = E) (fun v => s.size - (intOf v).toNat)
  case atStart => exact ⟨i1, hi2, rfl, HE0.out⟩
  case round =>
    obtain ⟨k, hk, rfl, he⟩ := hrel
    by_cases hlt : k < s.size
    · have b1 : (k : Int) < (s.size : Int) := by omega
      rw [takeWhile_drop nqB s k hlt] at he
      by_cases hc : (s[k]'hlt).toNat = 34
      · have e1 : (((s[k]'hlt).toNat : Int) != 34) = false := by simp; omega
        rw [if_neg (by unfold nqB; simp [hc])] at he
        obtain rfl : k = E := he
        have e2 : ((k : Int) == (s.size : Int)) = false := by simp; omega
        have b2 : (i1 : Int) ≤ (k : Int) := by have := HE.out; omega
        clear hc
        go_wp2
        have HS := Lib.hid (show k < s.size ∧ i1 + t.length = k from ⟨hlt, HE.out⟩)
        have hx2 := HX.out
        rw [hx2]
        have hz := ba_len t
        clear hx2
        go_loopw [8] (fun v wr => ∃ j : Nat, j ≤ t.length ∧ v = .int .i64 (j : Int) ∧ Below w.heap.size w wr ∧ ∀ q, q < j → (t[q]?.map vaB) = some true) (fun v _ => t.length - (intOf v).toNat)
        case atStart => exact ⟨0, Nat.zero_le _, rfl, Below.refl _ _, fun q h => by omega⟩
        case round =>
          obtain ⟨j, hj, rfl, hB, ha⟩ := hrel
          have HA := Lib.hid ha
          clear ha
          have hz2 : ((ba t).size : Int) = (t.length : Int) := by rw [hz]
          by_cases hjt : j < t.length
          · have b3 : (j : Int) < ((ba t).size : Int) := by omega
            have b4 : IntKind.i64.wrap ((j : Int) + 1) = (j : Int) + 1 := by rw [IntKind.wrap_i64]; have := HS.out; omega
            have b5 : (j : Int) + 1 ≤ ((ba t).size : Int) := by omega
            have hxo := one_of t j hjt
            obtain ⟨c, hc⟩ : ∃ c, t[j] = c := ⟨_, rfl⟩
            rw [hc] at hxo
            have HO := Lib.hid hxo
            have hgc : t[j]? = some c := by rw [List.getElem?_eq_getElem hjt, hc]
            have HV0 := Lib.hid (fun W => show Calls Tryd.prog 61 #[.string (ba [c])] W fun e w' => e = .returned (.bool (vaB c)) ∧ Below W.heap.size W w' from by
              rw [← valB_one c]
              exact refvalue_any (ba [c]) W (by rw [ba_len]; simp))
            have hsl : ∀ W : World, (Instr.slice 9 (.string (ba t)) (some (.int .i64 (j : Int))) (some (.int .i64 ((j : Int) + 1))) none).run Tryd.prog W = .ok (.string (ba [c])) W := fun W => by
              have h := run_slice_string (P := Tryd.prog) W 9 (ba t) .i64 .i64 j (j + 1) Tryd.underlying9 (by omega) (by omega) (by omega)
              rw [show ((j : Int)).toNat = j by omega, show ((j : Int) + 1).toNat = j + 1 by omega, HO.out] at h
              exact h
            clear hxo hc
            cases hv : vaB c with
            | true =>
              rw [hv] at HV0
              have HA2 := Lib.hid (show ∀ q, q < j + 1 → (t[q]?.map vaB) = some true from fun q hq => by
                by_cases e : q = j
                · rw [e, hgc]; simp [hv]
                · exact HA.out q (by omega))
              clear hgc hv hz hz2
              go_wp2_with (go_at_call 61; refine (HV0.out _).mono ?_; rintro e w1 ⟨rfl, hB1⟩)
              go_roundw
              case measure => simp [intOf]; omega
              case rel => exact ⟨j + 1, by omega, by go_num, step_below hB hB1, HA2.out⟩
            | false =>
              rw [hv] at HV0
              have HR := Lib.hid (show (q1, q2) = (([], 2) : List UInt8 × Nat) from by
                rw [← HQ.out, if_neg]
                rintro ⟨_, h⟩
                have h2 := List.all_eq_true.1 h c (List.mem_of_getElem? hgc)
                rw [hv] at h2
                cases h2)
              clear hgc hv hz hz2
              go_wp2_with (go_at_call 61; refine (HV0.out _).mono ?_; rintro e w1 ⟨rfl, hB1⟩)
              go_ret2
              exact ⟨by obtain ⟨rfl, rfl⟩ := Prod.mk.inj HR.out; rfl, step_below hB hB1⟩
          · obtain rfl : j = t.length := by omega
            have hall : t.all vaB = true := List.all_eq_true.2 fun c hc => by
              obtain ⟨q, hq, e⟩ := List.getElem_of_mem hc
              have := HA.out q hq
              rw [List.getElem?_eq_getElem hq, e] at this
              simpa using this
            have b3 : ¬ (t.length : Int) < ((ba t).size : Int) := by omega
            by_cases h16 : (ba t).size ≤ 16
            · have HR := Lib.hid (show (q1, q2) = ((t, 0) : List UInt8 × Nat) from by
                rw [← HQ.out, if_pos ⟨by have := HS.out; omega, hall⟩, if_pos (by omega)])
              have b4 : ¬ (16 : Int) < ((ba t).size : Int) := by omega
              clear hall hz hz2
              go_wp2
              go_ret2
              exact ⟨by obtain ⟨rfl, rfl⟩ := Prod.mk.inj HR.out; rfl, hB⟩
            · have HR := Lib.hid (show (q1, q2) = (([], 4) : List UInt8 × Nat) from by
                rw [← HQ.out, if_pos ⟨by have := HS.out; omega, hall⟩, if_neg (by omega)])
              have b4 : (16 : Int) < ((ba t).size : Int) := by omega
              clear hall hz hz2
              go_wp2
              go_ret2
              exact ⟨by obtain ⟨rfl, rfl⟩ := Prod.mk.inj HR.out; rfl, hB⟩
      · have e1 : (((s[k]'hlt).toNat : Int) != 34) = true := by simp; omega
        rw [if_pos (by unfold nqB; simp [hc]), List.length_cons] at he
        have HE1 := Lib.hid (show k + 1 + ((s.data.toList.drop (k + 1)).takeWhile nqB).length = E by omega)
        clear he hc
        go_wp2
        go_round
        case measure => simp [intOf]; omega
        case rel => exact ⟨k + 1, by omega, by go_num, HE1.out⟩
    · have hks : k = s.size := by omega
      rw [hks, drop_end] at he
      have HR := Lib.hid (show (q1, q2) = (([], 2) : List UInt8 × Nat) from by
        have he2 : E = s.size := he.symm
        rw [← HQ.out, if_neg (fun h => by have := HE.out; omega)])
      have b1 : decide ((k : Int) < (s.size : Int)) = false := decide_eq_false (by omega)
      have e2 : ((k : Int) == (s.size : Int)) = true := by simp; omega
      clear he hks hlt
      go_wp2
      go_ret2
      exact ⟨by obtain ⟨rfl, rfl⟩ := Prod.mk.inj HR.out; rfl, Below.refl _ _⟩
end Go.Proofs.YtpmndopcemdniaaDoor
