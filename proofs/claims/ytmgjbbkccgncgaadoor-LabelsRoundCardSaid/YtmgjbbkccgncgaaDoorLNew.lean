/- The contract of New. Conditions: lists and strings of bounded length. -/
import Derived.Test.YtmgjbbkccgncgaaDoorLLib
namespace Go.Proofs.YtmgjbbkccgncgaaDoor
open Go.RowKit

/-- Strings of at most 1000 bytes. -/
def Sz (it : List L2) : Prop := ∀ t ∈ it, t.1.size ≤ 1000 ∧ t.2.size ≤ 1000
theorem Sz.at {it : List L2} (h : Sz it) {k : Nat} {n v : ByteArray} (hj : it[k]? = some (n, v)) : n.size ≤ 1000 ∧ v.size ≤ 1000 := h (n, v) (List.mem_of_getElem? hj)
/-- What New answers. -/
def NewR (it : List L2) (w : World) (e : Ending) (w' : World) : Prop := ∃ v, e = .returned (.tuple #[v, .int .i64 (newE it)]) ∧ LsAt w' v (newL it) ∧ Below w.heap.size w w'
theorem newR_bad {it : List L2} {w w' : World} {x : Int} {e : Ending} (he : e = .returned (.tuple #[.slice none 0 0, .int .i64 x])) (hx : newE it = x) (h0 : x ≠ 0) (hB : Below w.heap.size w w') : NewR it w e w' := by
  refine ⟨.slice none 0 0, by rw [he, hx], ?_, hB⟩
  unfold newL
  rw [if_neg (by omega)]
  exact .nil
theorem newE_at {it : List L2} {k : Nat} {n v : ByteArray} {x : Int} (hl : it.length ≤ 8) (hf : firstBad (it.take k) (it.drop k) = firstBad [] it) (hj : it[k]? = some (n, v)) (hx : badE (it.take k) (n, v) = x) (h0 : x ≠ 0) : newE it = x := by
  unfold newE
  rw [if_neg (by omega), ← hf, firstBad_hit hj (by omega), hx]
theorem badE_name {pre : List L2} {n v : ByteArray} (h : nameB n = false) : badE pre (n, v) = 8 := by unfold badE; rw [if_pos h]
theorem badE_empty {pre : List L2} {n v : ByteArray} (h : nameB n = true) (hv : ¬ 1 ≤ v.size) : badE pre (n, v) = 1 := by
  unfold badE; rw [if_neg (by simp [h]), if_pos (.inl (by show v.size = 0; omega))]
theorem badE_val {pre : List L2} {n v : ByteArray} (h : nameB n = true) (hv : valB v = false) : badE pre (n, v) = 1 := by
  unfold badE; rw [if_neg (by simp [h]), if_pos (.inr hv)]
theorem badE_twice {pre : List L2} {n v : ByteArray} (h : nameB n = true) (h1 : 1 ≤ v.size) (hv : valB v = true) (ha : (pre.any fun s => decide (s.1 = n)) = true) : badE pre (n, v) = 10 := by
  unfold badE; rw [if_neg (by simp [h]), if_neg (show ¬ (v.size = 0 ∨ valB v = false) by rintro (h0 | h0); (· omega); (· rw [hv] at h0; cases h0)), if_pos ha]
theorem badE_ok {pre : List L2} {n v : ByteArray} (h : nameB n = true) (h1 : 1 ≤ v.size) (hv : valB v = true) (ha : (pre.any fun s => decide (s.1 = n)) = false) : badE pre (n, v) = 0 := by
  unfold badE; rw [if_neg (by simp [h]), if_neg (show ¬ (v.size = 0 ∨ valB v = false) by rintro (h0 | h0); (· omega); (· rw [hv] at h0; cases h0)), if_neg (by simp [ha])]

set_option maxRecDepth 100000 in
set_option maxHeartbeats 8000000 in
theorem new_any (sv : Value) (it : List L2) (w : World) (hI : LsAt w sv it) (hlen : it.length ≤ 1000) (hz : Sz it) :
    Calls Tryd.prog 6 #[sv] w (NewR it w) := by
  obtain ⟨a, c, rfl, hlc⟩ := hI.slice
  by_cases h8 : it.length ≤ 8
  · have HI := Lib.hid hI
    have HZ := Lib.hid hz
    clear hI hz
    go_enter Tryd.func6, Tryd.ntmps6
    go_wp2
    go_loopw [12] (fun i wr => ∃ k : Nat, k ≤ it.length ∧ i = .int .i64 k ∧ firstBad (it.take k) (it.drop k) = firstBad [] it ∧ Below w.heap.size w wr) (fun i _ => it.length - (intOf i).toNat)
    case atStart => exact ⟨0, Nat.zero_le _, rfl, rfl, Below.refl _ _⟩
    case round =>
      obtain ⟨k, hk, rfl, hf, hB⟩ := hrel
      have HF := Lib.hid hf
      clear hf
      by_cases hlt : k < it.length
      · obtain ⟨n, v, hj⟩ := label_at hlt
        obtain ⟨zn, zv⟩ := HZ.out.at hj
        obtain ⟨g, off, rfl, -, hgs, hL⟩ := (HI.out.below hB).all (by intro e; rw [e] at hlt; simp at hlt)
        obtain ⟨c0, c1⟩ := hL k n v hj
        have HL := Lib.hid hL
        have HJ := Lib.hid hj
        have hA := Blk.new wr 41 #[.string n, .string v]
        have hW : Below wr.heap.size wr (wr.alloc (.cells #[.string n, .string v] 41)) := (Below.refl _ wr).alloc (Nat.le_refl _) _
        have d0 := hA.cell 0
        have d1 := hA.cell 1
        clear hL hj
        go_wp2_with fail
        refine (name_any n _ (by omega)).mono ?_
        rintro e w1 ⟨rfl, hb⟩
        have hA1 := hA.below hb hA.lt
        have hW1 := below_st hW hb
        clear hA hW d0 d1 c0 c1 hb
        have d0 := hA1.cell 0
        have d1 := hA1.cell 1
        cases en : nameB n
        · have HE := Lib.hid (newE_at h8 HF.out HJ.out (badE_name en) (by omega))
          go_wp2
          go_ret2
          exact newR_bad rfl HE.out (by omega) (below_st hB hW1)
        · have HN := Lib.hid en
          by_cases hv1 : 1 ≤ v.size
          · have e1 := empty_no hv1
            have e2 := isEmpty_no hv1
            go_wp2_with fail
            refine (value_any v _ (by omega)).mono ?_
            rintro e w2 ⟨rfl, hb⟩
            have hA2 := hA1.below hb hA1.lt
            have hW2 := below_st hW1 hb
            clear hA1 hW1 d0 d1 hb
            have d0 := hA2.cell 0
            have hgl : g < w2.heap.size := Nat.lt_of_lt_of_le hgs hW2.size
            have hCL := contains_any g off c k it n wr.heap.size w2 hk hlen hgl (HL.out.below hgs hW2) hA2.lt d0
            have HCL := Lib.hid hCL
            clear hCL
            cases ev : valB v
            · have HE := Lib.hid (newE_at h8 HF.out HJ.out (badE_val HN.out ev) (by omega))
              go_wp2
              go_ret2
              exact newR_bad rfl HE.out (by omega) (below_st hB hW2)
            · have HV := Lib.hid ev
              go_wp2_with fail
              (with_reducible refine HCL.out.mono ?_)
              rintro e w3 ⟨rfl, hb⟩
              have hW3 := below_st hW2 hb
              clear hW2 hb
              cases ea : ((it.take k).any fun s => decide (s.1 = n))
              · have HS := Lib.hid (firstBad_miss HJ.out (badE_ok HN.out hv1 HV.out ea))
                clear ea
                go_wp2
                go_roundw
                case rel => exact ⟨k + 1, by omega, by go_num, by rw [← HS.out]; exact HF.out, below_st hB hW3⟩
                case measure => simp [intOf]; omega
              · have HE := Lib.hid (newE_at h8 HF.out HJ.out (badE_twice HN.out hv1 HV.out ea) (by omega))
                clear ea
                go_wp2
                go_ret2
                exact newR_bad rfl HE.out (by omega) (below_st hB hW3)
          · have e1 := empty_is hv1
            have e2 := isEmpty_is hv1
            have HE := Lib.hid (newE_at h8 HF.out HJ.out (badE_empty HN.out hv1) (by omega))
            go_wp2
            go_ret2
            exact newR_bad rfl HE.out (by omega) (below_st hB hW1)
      · obtain rfl : k = it.length := by omega
        have HE := Lib.hid (show newE it = 0 by
          unfold newE
          rw [if_neg (by omega), ← HF.out, List.drop_length]; rfl)
        have HC := Lib.hid (clone_any _ it wr (HI.out.below hB) hlen)
        go_wp2_with fail
        (with_reducible refine HC.out.mono ?_)
        rintro e w1 ⟨vv, rfl, hO, hb⟩
        have HS := Lib.hid (sort_any vv it w1 wr.heap.size hb.size hO (by omega) (newE_dist HE.out).2)
        have hB1 := below_st hB hb
        clear hO hb
        go_wp2_with fail
        (with_reducible refine HS.out.mono ?_)
        rintro e w2 ⟨rfl, hL, hb⟩
        have hB2 := hB1.trans (hb.mono hB.size)
        have HL := Lib.hid hL
        clear hL hb
        go_wp2
        go_ret2
        refine ⟨vv, by rw [HE.out]; rfl, ?_, hB2⟩
        unfold newL
        rw [if_pos HE.out]
        exact HL.out
  · have HE := Lib.hid (show newE it = 4 by unfold newE; rw [if_pos (by omega)])
    go_enter Tryd.func6, Tryd.ntmps6
    go_wp2
    go_ret2
    exact newR_bad rfl HE.out (by omega) (Below.refl _ _)
end Go.Proofs.YtmgjbbkccgncgaaDoor
