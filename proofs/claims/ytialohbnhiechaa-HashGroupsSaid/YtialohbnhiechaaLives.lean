/- The documented examples that every statement of package hash asks of it. Conditions: none. -/
import Derived.Test.YtialohbnhiechaaRefBytes
namespace Go.Proofs.Ytialohbnhiechaa
open Go.RowKit

theorem ex1 : (sumI [97] [5] != sumI [97] [6]) = true := by decide +kernel
theorem ex2 : (bytesI [97] [1, 2] == sumI [97] [513, 2]) = true := by decide +kernel
theorem ex3 : (pairI 1 2 != pairI 1 3) = true := by decide +kernel

/-- What lay below lies on behind a further call. -/
theorem below_then {w w1 w2 : World} (h : Below w.heap.size w w1) (k : Below w1.heap.size w1 w2) : Below w.heap.size w w2 := h.trans (k.mono h.size)
/-- .. and behind a new block and a further call. -/
theorem below_new {w w1 w2 : World} (h : Below w.heap.size w w1) (o : Obj) (k : Below (w1.alloc o).heap.size (w1.alloc o) w2) : Below w.heap.size w w2 := (h.alloc h.size o).trans (k.mono (by have := h.size; simp; omega))

theorem bytesAt_new (w : World) (e : TypeId) (bs : List UInt8) : BytesAt (w.heap.size + 1) (w.alloc (.cells (bs.map fun b => Value.int .u8 (b.toNat : Int)).toArray e)) (.slice (some ⟨w.heap.size, 0, none⟩) bs.length bs.length) bs :=
  .inr ⟨_, _, _, rfl, Nat.le_refl _, by omega, fun j hj => by
    rw [Nat.zero_add]
    exact (World.cell?_alloc_mark w _ _ _ j).trans (by simp [hj])⟩

set_option maxRecDepth 100000 in
set_option maxHeartbeats 2000000 in
theorem lives_any (w : World) : Calls Try.prog 15 #[] w fun e w' => e = .returned (.bool true) ∧ Below w.heap.size w w' := by
  have H1 := Lib.hid ex1
  have H2 := Lib.hid ex2
  have H3 := Lib.hid ex3
  go_enter Try.func15, Try.ntmps15
  go_wp2_with fail
  refine (sum_any ⟨#[97]⟩ [5] _ _ _ (by decide) (by simp) (by rw [World.size_alloc]; exact rowAt_new w .i64 _ [5])).mono ?_
  rintro e w1 ⟨rfl, hB1⟩
  have hB := below_new (Below.refl _ w) _ hB1
  clear hB1
  go_wp2_with fail
  refine (sum_any ⟨#[97]⟩ [6] _ _ _ (by decide) (by simp) (by rw [World.size_alloc]; exact rowAt_new w1 .i64 _ [6])).mono ?_
  rintro e w2 ⟨rfl, hB1⟩
  have hB2 := below_new hB _ hB1
  clear hB1 hB
  have h1 := H1.out
  go_wp2_with fail
  clear h1
  refine (bytes_any ⟨#[97]⟩ [1, 2] _ _ _ (by decide) (by simp) (by rw [World.size_alloc]; exact bytesAt_new w2 _ [1, 2])).mono ?_
  rintro e w3 ⟨rfl, hB1⟩
  have hB3 := below_new hB2 _ hB1
  clear hB1 hB2
  go_wp2_with fail
  refine (sum_any ⟨#[97]⟩ [513, 2] _ _ _ (by decide) (by simp) (by rw [World.size_alloc]; exact rowAt_new w3 .i64 _ [513, 2])).mono ?_
  rintro e w4 ⟨rfl, hB1⟩
  have hB4 := below_new hB3 _ hB1
  clear hB1 hB3
  have h2 := H2.out
  go_wp2_with fail
  clear h2
  refine (pair_any 1 2 _).mono ?_
  rintro e w5 ⟨rfl, hB1⟩
  have hB5 := below_then hB4 hB1
  clear hB1 hB4
  go_wp2_with fail
  refine (pair_any 1 3 _).mono ?_
  rintro e w6 ⟨rfl, hB1⟩
  have hB6 := below_then hB5 hB1
  clear hB1 hB5
  have h3 := H3.out
  go_wp2
  go_ret
  exact ⟨rfl, hB6⟩
end Go.Proofs.Ytialohbnhiechaa
