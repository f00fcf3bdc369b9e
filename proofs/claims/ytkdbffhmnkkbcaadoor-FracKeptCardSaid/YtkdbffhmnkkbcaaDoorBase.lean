/- Facts of the program's types, and small lemmas on worlds and rows. Conditions: none. -/
import Derived.Maps.AppendAt
import Derived.Test.YtkdbffhmnkkbcaaDoorSum
namespace Go.Proofs.YtkdbffhmnkkbcaaDoor.W
open Go.RowKit

theorem Tryd.infoU64 : (Tryd.prog.info? 41).map (fun i => (i.zero, i.size, i.bytes)) = some (some (.int .u64 0), 1, 8) := by kernel_rfl
theorem Tryd.infoInt : (Tryd.prog.info? 3).map (fun i => (i.zero, i.size, i.bytes)) = some (some (.int .i64 0), 1, 8) := by kernel_rfl
theorem Tryd.infoU8 : (Tryd.prog.info? 5).map (fun i => (i.zero, i.size, i.bytes)) = some (some (.int .u8 0), 1, 1) := by kernel_rfl

/-- What lay below lies on behind a further call. -/
theorem below_then {w w1 w2 : World} (h : Below w.heap.size w w1) (k : Below w1.heap.size w1 w2) : Below w.heap.size w w2 := h.trans (k.mono h.size)
/-- .. and behind a new block and a further call. -/
theorem below_new {w w1 w2 : World} (h : Below w.heap.size w w1) (o : Obj) (k : Below (w1.alloc o).heap.size (w1.alloc o) w2) : Below w.heap.size w w2 := (h.alloc h.size o).trans (k.mono (by have := h.size; simp; omega))
theorem bytesAt_new (w : World) (e : TypeId) (bs : List UInt8) : BytesAt (w.heap.size + 1) (w.alloc (.cells (bs.map fun b => Value.int .u8 (b.toNat : Int)).toArray e)) (.slice (some ⟨w.heap.size, 0, none⟩) bs.length bs.length) bs :=
  .inr ⟨_, _, _, rfl, Nat.le_refl _, by omega, fun j hj => by
    rw [Nat.zero_add]
    exact (World.cell?_alloc_mark w _ _ _ j).trans (by simp [hj])⟩
/-- A new row of integers reads as them. -/
theorem rowAt_new (w : World) (k : IntKind) (e : TypeId) (zs : List Int) : RowAt k (w.heap.size + 1) (w.alloc (.cells (zs.map (Value.int k)).toArray e)) (.slice (some ⟨w.heap.size, 0, none⟩) zs.length zs.length) zs :=
  .inr ⟨_, _, _, rfl, Nat.le_refl _, by omega, fun j hj => by
    rw [Nat.zero_add]
    exact (World.cell?_alloc_mark w _ _ _ j).trans (by simp [hj])⟩
theorem sum_any (lab : ByteArray) (zs : List Int) (a : Option Addr) (cap : Nat) (w : World) (hlab : lab.size ≤ 140737488351232) (hzs : zs.length ≤ 140737488351232) (hI : RowAt .i64 w.heap.size w (.slice a zs.length cap) zs) :
    Calls Tryd.prog 14 #[.string lab, .slice a zs.length cap] w fun e w' => e = .returned (.int .u64 (sumI lab.data.toList zs)) ∧ Below w.heap.size w w' :=
  (callsIn_wide (n := 3)).1 (sum_in 3 (by omega) lab zs a cap w hlab hzs hI)
/-- What the append of an own row has made, by its length. -/
theorem slice_succ {W : World} {base : Nat} {e : TypeId} {size : Nat} {v : Value} {k : Nat} {xs : List Value} (h : W.ownsRow base e size v (k + 1) xs) : ∃ g cap, v = .slice (some ⟨g, 0, none⟩) (k + 1) cap := by
  rcases h.2 with ⟨_, h0⟩ | ⟨g, cap, _, rfl, _⟩
  · omega
  · exact ⟨g, cap, rfl⟩
end Go.Proofs.YtkdbffhmnkkbcaaDoor.W
