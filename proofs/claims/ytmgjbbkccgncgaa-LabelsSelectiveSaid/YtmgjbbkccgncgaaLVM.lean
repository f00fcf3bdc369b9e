/- Contracts of ValidMatcher and its reference. Conditions: none. -/
import Derived.Test.YtmgjbbkccgncgaaLValue
namespace Go.Proofs.Ytmgjbbkccgncgaa
open Go.RowKit

/-- What lay below lies on behind a further call. -/
theorem below_st {w w1 w2 : World} (h : Below w.heap.size w w1) (k : Below w1.heap.size w1 w2) : Below w.heap.size w w2 := h.trans (k.mono h.size)

set_option maxRecDepth 100000 in
set_option maxHeartbeats 4000000 in
theorem vm_any (n v : ByteArray) (k : Int) (w : World) (hn : n.size ≤ 140737488351232) (hv : v.size ≤ 140737488351232) : Calls Try.prog 16 #[.agg #[.string n, .int .i64 k, .string v]] w fun e w' => e = .returned (.bool (vmB n k v)) ∧ Below w.heap.size w w' := by
  have hW : Below w.heap.size w (w.alloc (.cells #[.string n, .int .i64 k, .string v] 24)) := (Below.refl _ w).alloc (Nat.le_refl _) _
  have hA := Blk.new w 24 #[.string n, .int .i64 k, .string v]
  have c0 := hA.cell 0
  have c1 := hA.cell 1
  have c2 := hA.cell 2
  cases e1 : nameB n
  · have HR := Lib.hid (show vmB n k v = false by unfold vmB; rw [e1]; rfl)
    go_enter Try.func16, Try.ntmps16
    go_wp2_with fail
    refine (name_any n _ hn).mono ?_
    rintro e w1 ⟨rfl, hB⟩
    have hW1 := below_st hW hB
    clear hA c0 c1 c2 hW hB
    rw [e1]
    go_wp2
    go_ret
    exact ⟨ret_bool HR.out.symm, hW1⟩
  · by_cases hk : 0 ≤ k ∧ k ≤ 2
    · have HR := Lib.hid (show vmB n k v = valB v by unfold vmB; rw [e1, decide_eq_true hk]; rfl)
      have k0 := hk.1
      have k2 := hk.2
      clear hk
      go_enter Try.func16, Try.ntmps16
      go_wp2_with fail
      refine (name_any n _ hn).mono ?_
      rintro e w1 ⟨rfl, hB⟩
      have hW1 := below_st hW hB
      have hA1 := hA.below hB hA.lt
      clear hA c0 c1 c2 hW hB
      have c0 := hA1.cell 0
      have c1 := hA1.cell 1
      have c2 := hA1.cell 2
      rw [e1]
      go_wp2_with fail
      refine (value_any v _ hv).mono ?_
      rintro e w2 ⟨rfl, hB⟩
      have hW2 := below_st hW1 hB
      clear hA1 c0 c1 c2 hW1 hB
      go_wp2
      go_ret
      exact ⟨ret_bool HR.out.symm, hW2⟩
    · have HR := Lib.hid (show vmB n k v = false by unfold vmB; rw [e1, decide_eq_false hk]; rfl)
      go_enter Try.func16, Try.ntmps16
      go_wp2_with fail
      refine (name_any n _ hn).mono ?_
      rintro e w1 ⟨rfl, hB⟩
      have hW1 := below_st hW hB
      have hA1 := hA.below hB hA.lt
      clear hA c0 c1 c2 hW hB
      have c0 := hA1.cell 0
      have c1 := hA1.cell 1
      have c2 := hA1.cell 2
      rw [e1]
      by_cases k0 : 0 ≤ k
      · have k2 : ¬ k ≤ 2 := fun h => hk ⟨k0, h⟩
        clear hk
        go_wp2
        go_ret
        exact ⟨ret_bool HR.out.symm, hW1⟩
      · clear hk
        go_wp2
        go_ret
        exact ⟨ret_bool HR.out.symm, hW1⟩

set_option maxRecDepth 100000 in
set_option maxHeartbeats 4000000 in
theorem refvm_any (n v : ByteArray) (k : Int) (w : World) (hn : n.size ≤ 140737488351232) (hv : v.size ≤ 140737488351232) : Calls Try.prog 17 #[.agg #[.string n, .int .i64 k, .string v]] w fun e w' => e = .returned (.bool (vmB n k v)) ∧ Below w.heap.size w w' := by
  have hW : Below w.heap.size w (w.alloc (.cells #[.string n, .int .i64 k, .string v] 24)) := (Below.refl _ w).alloc (Nat.le_refl _) _
  have hA := Blk.new w 24 #[.string n, .int .i64 k, .string v]
  have c0 := hA.cell 0
  have c1 := hA.cell 1
  have c2 := hA.cell 2
  cases e1 : nameB n
  · have HR := Lib.hid (show vmB n k v = false by unfold vmB; rw [e1]; rfl)
    go_enter Try.func17, Try.ntmps17
    go_wp2_with fail
    refine (refname_any n _ hn).mono ?_
    rintro e w1 ⟨rfl, hB⟩
    have hW1 := below_st hW hB
    clear hA c0 c1 c2 hW hB
    rw [e1]
    go_wp2
    go_ret
    exact ⟨ret_bool HR.out.symm, hW1⟩
  · by_cases hk : 0 ≤ k ∧ k ≤ 2
    · have HR := Lib.hid (show vmB n k v = valB v by unfold vmB; rw [e1, decide_eq_true hk]; rfl)
      have k0 := hk.1
      have k2 := hk.2
      clear hk
      go_enter Try.func17, Try.ntmps17
      go_wp2_with fail
      refine (refname_any n _ hn).mono ?_
      rintro e w1 ⟨rfl, hB⟩
      have hW1 := below_st hW hB
      have hA1 := hA.below hB hA.lt
      clear hA c0 c1 c2 hW hB
      have c0 := hA1.cell 0
      have c1 := hA1.cell 1
      have c2 := hA1.cell 2
      rw [e1]
      go_wp2_with fail
      refine (refvalue_any v _ hv).mono ?_
      rintro e w2 ⟨rfl, hB⟩
      have hW2 := below_st hW1 hB
      clear hA1 c0 c1 c2 hW1 hB
      go_wp2
      go_ret
      exact ⟨ret_bool HR.out.symm, hW2⟩
    · have HR := Lib.hid (show vmB n k v = false by unfold vmB; rw [e1, decide_eq_false hk]; rfl)
      go_enter Try.func17, Try.ntmps17
      go_wp2_with fail
      refine (refname_any n _ hn).mono ?_
      rintro e w1 ⟨rfl, hB⟩
      have hW1 := below_st hW hB
      have hA1 := hA.below hB hA.lt
      clear hA c0 c1 c2 hW hB
      have c0 := hA1.cell 0
      have c1 := hA1.cell 1
      have c2 := hA1.cell 2
      rw [e1]
      by_cases k0 : 0 ≤ k
      · have k2 : ¬ k ≤ 2 := fun h => hk ⟨k0, h⟩
        clear hk
        go_wp2
        go_ret
        exact ⟨ret_bool HR.out.symm, hW1⟩
      · clear hk
        go_wp2
        go_ret
        exact ⟨ret_bool HR.out.symm, hW1⟩
end Go.Proofs.Ytmgjbbkccgncgaa
