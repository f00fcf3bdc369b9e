/- Natural numbers below 2^256 in memory, as the reference keeps them; its sum and difference. Conditions: the sum is below 2^256, the difference is not below 0. -/
import Derived.Test.YtpmndopcemdniaaDoorMem
import Derived.Test.YtpmndopcemdniaaDoorNMath
namespace Go.Proofs.YtpmndopcemdniaaDoor
open Go.RowKit

/-- A number as a value of the reference's type Nat. -/
def NV (n : Nat) : Value := .agg #[.int .u64 (lim n 0 : Nat), .int .u64 (lim n 1 : Nat), .int .u64 (lim n 2 : Nat), .int .u64 (lim n 3 : Nat), .int .u64 (lim n 4 : Nat), .int .u64 (lim n 5 : Nat), .int .u64 (lim n 6 : Nat), .int .u64 (lim n 7 : Nat)]
def nats (l : List Nat) : List Value := l.map fun n : Nat => Value.int .u64 (n : Int)
theorem nv_limbs (n : Nat) : NV n = .agg (nats (limbs n)).toArray := rfl

section
variable {w w' : World} {g : Nat} {l : List Nat}
end

/-- The world behind a store of a whole number. -/
def set8 (w : World) (g n : Nat) : World :=
  (((((((w.setCell ⟨g, 0, none⟩ (.int .u64 (lim n 0 : Nat))).setCell ⟨g, 1, none⟩ (.int .u64 (lim n 1 : Nat))).setCell ⟨g, 2, none⟩ (.int .u64 (lim n 2 : Nat))).setCell ⟨g, 3, none⟩ (.int .u64 (lim n 3 : Nat))).setCell ⟨g, 4, none⟩ (.int .u64 (lim n 4 : Nat))).setCell
    ⟨g, 5, none⟩ (.int .u64 (lim n 5 : Nat))).setCell ⟨g, 6, none⟩ (.int .u64 (lim n 6 : Nat))).setCell ⟨g, 7, none⟩ (.int .u64 (lim n 7 : Nat))
section
variable {w w' : World} {g : Nat} {l : List Nat}
theorem Blk.far8 {t : TypeId} {cs : Array Value} {k : Nat} (h : Blk w k t cs) (hk : k ≠ g) (n : Nat) : Blk (set8 w g n) k t cs :=
  (((((((h.far (p := ⟨g, 0, none⟩) hk _).far (p := ⟨g, 1, none⟩) hk _).far (p := ⟨g, 2, none⟩) hk _).far (p := ⟨g, 3, none⟩) hk _).far (p := ⟨g, 4, none⟩) hk _).far (p := ⟨g, 5, none⟩) hk _).far (p := ⟨g, 6, none⟩) hk _).far (p := ⟨g, 7, none⟩) hk _
theorem below_set8 {B : Nat} (h : Below B w w') (hB : B ≤ g) (n : Nat) : Below B w (set8 w' g n) :=
  (((((((h.setCell (p := ⟨g, 0, none⟩) hB _).setCell (p := ⟨g, 1, none⟩) hB _).setCell (p := ⟨g, 2, none⟩) hB _).setCell (p := ⟨g, 3, none⟩) hB _).setCell (p := ⟨g, 4, none⟩) hB _).setCell (p := ⟨g, 5, none⟩) hB _).setCell (p := ⟨g, 6, none⟩) hB _).setCell (p := ⟨g, 7, none⟩) hB _
end

/-- What a loop's round keeps: the blocks below, and that no block goes. -/
theorem below_put {B : Nat} {w w' : World} (h : Below B w w') {p : Addr} (hp : B ≤ p.block) (u : Value) : Below B w (w'.setCell p u) := h.setCell hp u

end Go.Proofs.YtpmndopcemdniaaDoor
