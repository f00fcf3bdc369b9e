/- The contract of New. Conditions: lists and strings of bounded length. -/
import Derived.Test.YtpmndopcemdniaaDoorLLib
namespace Go.Proofs.YtpmndopcemdniaaDoor
open Go.RowKit

/-- Strings of at most 1000 bytes. -/
def Sz (it : List L2) : Prop := ∀ t ∈ it, t.1.size ≤ 1000 ∧ t.2.size ≤ 1000
theorem Sz.at {it : List L2} (h : Sz it) {k : Nat} {n v : ByteArray} (hj : it[k]? = some (n, v)) : n.size ≤ 1000 ∧ v.size ≤ 1000 := h (n, v) (List.mem_of_getElem? hj)
/-- What New answers. -/
def NewR (it : List L2) (w : World) (e : Ending) (w' : World) : Prop := ∃ v, e = .returned (.tuple #[v, .int .i64 (newE it)]) ∧ LsAt w' v (newL it) ∧ Below w.heap.size w w'
theorem newR_bad {it : List L2} {w w' : World} {x : Int} {e : Ending} (he : e = .returned (.tuple #[.slice none 0 0, .int .i64 x])) (hx : newE it = x) (h0 : x ≠ 0) (hB : Below w.heap.size w w') : NewR it w e w' := by
  refine ⟨.slice none 0 0, by rw [he, hx], ?_, hB⟩
  unfold newL
  rw [if_neg (by omega)]
  exact .nil
theorem newE_at {it : List L2} {k : Nat} {n v : ByteArray} {x : Int} (hl : it.length ≤ 8) (hf : firstBad (it.take k) (it.drop k) = firstBad [] it) (hj : it[k]? = some (n, v)) (hx : badE (it.take k) (n, v) = x) (h0 : x ≠ 0) : newE it = x := by
  unfold newE
  rw [if_neg (by omega), ← hf, firstBad_hit hj (by omega), hx]
theorem badE_name {pre : List L2} {n v : ByteArray} (h : nameB n = false) : badE pre (n, v) = 8 := by unfold badE; rw [if_pos h]
theorem badE_empty {pre : List L2} {n v : ByteArray} (h : nameB n = true) (hv : ¬ 1 ≤ v.size) : badE pre (n, v) = 1 := by
  unfold badE; rw [if_neg (by simp [h]), if_pos (.inl (by show v.size = 0; omega))]
theorem badE_val {pre : List L2} {n v : ByteArray} (h : nameB n = true) (hv : valB v = false) : badE pre (n, v) = 1 := by
  unfold badE; rw [if_neg (by simp [h]), if_pos (.inr hv)]
theorem badE_twice {pre : List L2} {n v : ByteArray} (h : nameB n = true) (h1 : 1 ≤ v.size) (hv : valB v = true) (ha : (pre.any fun s => decide (s.1 = n)) = true) : badE pre (n, v) = 10 := by
  unfold badE; rw [if_neg (by simp [h]), if_neg (show ¬ (v.size = 0 ∨ valB v = false) by rintro (h0 | h0); (· omega); (· rw [hv] at h0; cases h0)), if_pos ha]
theorem badE_ok {pre : List L2} {n v : ByteArray} (h : nameB n = true) (h1 : 1 ≤ v.size) (hv : valB v = true) (ha : (pre.any fun s => decide (s.1 = n)) = false) : badE pre (n, v) = 0 := by
  unfold badE; rw [if_neg (by simp [h]), if_neg (show ¬ (v.size = 0 ∨ valB v = false) by rintro (h0 | h0); (· omega); (· rw [hv] at h0; cases h0)), if_neg (by simp [ha])]

end Go.Proofs.YtpmndopcemdniaaDoor
