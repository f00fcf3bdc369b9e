/- Natural numbers below 2^256 in memory, as the reference keeps them; its sum and difference. Conditions: the sum is below 2^256, the difference is not below 0. -/
import Derived.Test.YteppamchbgnlfaaMem
import Derived.Test.YteppamchbgnlfaaNMath
namespace Go.Proofs.Yteppamchbgnlfaa
open Go.RowKit

/-- A number as a value of the reference's type Nat. -/
def NV (n : Nat) : Value := .agg #[.int .u64 (lim n 0 : Nat), .int .u64 (lim n 1 : Nat), .int .u64 (lim n 2 : Nat), .int .u64 (lim n 3 : Nat), .int .u64 (lim n 4 : Nat), .int .u64 (lim n 5 : Nat), .int .u64 (lim n 6 : Nat), .int .u64 (lim n 7 : Nat)]
def nats (l : List Nat) : List Value := l.map fun n : Nat => Value.int .u64 (n : Int)
/-- Block g holds the digits l. -/
def NB (w : World) (g : Nat) (l : List Nat) : Prop := Blk w g 66 (nats l).toArray
section
variable {w w' : World} {g : Nat} {l : List Nat}
theorem NB.cell (h : NB w g l) (k : Nat) {x : Nat} (hx : l[k]? = some x) : w.cell? ⟨g, k, none⟩ = some (.int .u64 ((x : Nat) : Int)) := by
  rw [Blk.cell h]
  simp [nats, hx]
theorem NB.frozen (h : NB w g l) (k : Nat) : w.frozen? ⟨g, k, none⟩ = false := Blk.frozen h k
theorem NB.new (w : World) (n : Nat) : NB (w.alloc (.cells #[.int .u64 (lim n 0 : Nat), .int .u64 (lim n 1 : Nat), .int .u64 (lim n 2 : Nat), .int .u64 (lim n 3 : Nat), .int .u64 (lim n 4 : Nat), .int .u64 (lim n 5 : Nat), .int .u64 (lim n 6 : Nat), .int .u64 (lim n 7 : Nat)] 66)) w.heap.size (limbs n) := Blk.new w _ _
theorem NB.drewN (h : NB w g l) (n : Nat) : NB (w.drewN n) g l := h
theorem NB.alloc (h : NB w g l) (o : Obj) : NB (w.alloc o) g l := Blk.alloc h o
theorem NB.far (h : NB w g l) {p : Addr} (hp : g ≠ p.block) (u : Value) : NB (w.setCell p u) g l := Blk.far h hp u
theorem NB.below {B : Nat} (h : NB w g l) (hb : Below B w w') (hg : g < B) : NB w' g l := Blk.below h hb hg
theorem NB.put (h : NB w g l) (i x : Nat) : NB (w.setCell ⟨g, i, none⟩ (.int .u64 ((x : Nat) : Int))) g (l.set i x) := by
  have := Blk.put h i (.int .u64 ((x : Nat) : Int))
  unfold NB
  rw [nats, List.map_set]
  simpa [nats] using this
theorem NB.cells {n : Nat} (h : NB w g (limbs n)) : w.cell? ⟨g, 0, none⟩ = some (.int .u64 (lim n 0 : Nat)) ∧ w.cell? ⟨g, 1, none⟩ = some (.int .u64 (lim n 1 : Nat)) ∧ w.cell? ⟨g, 2, none⟩ = some (.int .u64 (lim n 2 : Nat)) ∧ w.cell? ⟨g, 3, none⟩ = some (.int .u64 (lim n 3 : Nat)) ∧
    w.cell? ⟨g, 4, none⟩ = some (.int .u64 (lim n 4 : Nat)) ∧ w.cell? ⟨g, 5, none⟩ = some (.int .u64 (lim n 5 : Nat)) ∧ w.cell? ⟨g, 6, none⟩ = some (.int .u64 (lim n 6 : Nat)) ∧ w.cell? ⟨g, 7, none⟩ = some (.int .u64 (lim n 7 : Nat)) :=
  ⟨h.cell 0 rfl, h.cell 1 rfl, h.cell 2 rfl, h.cell 3 rfl, h.cell 4 rfl, h.cell 5 rfl, h.cell 6 rfl, h.cell 7 rfl⟩
end

/-- The world behind a store of a whole number. -/
def set8 (w : World) (g n : Nat) : World :=
  (((((((w.setCell ⟨g, 0, none⟩ (.int .u64 (lim n 0 : Nat))).setCell ⟨g, 1, none⟩ (.int .u64 (lim n 1 : Nat))).setCell ⟨g, 2, none⟩ (.int .u64 (lim n 2 : Nat))).setCell ⟨g, 3, none⟩ (.int .u64 (lim n 3 : Nat))).setCell ⟨g, 4, none⟩ (.int .u64 (lim n 4 : Nat))).setCell
    ⟨g, 5, none⟩ (.int .u64 (lim n 5 : Nat))).setCell ⟨g, 6, none⟩ (.int .u64 (lim n 6 : Nat))).setCell ⟨g, 7, none⟩ (.int .u64 (lim n 7 : Nat))
section
variable {w w' : World} {g : Nat} {l : List Nat}
theorem NB.store8 {m : Nat} (h : NB w g (limbs m)) (n : Nat) : NB (set8 w g n) g (limbs n) := (((((((h.put 0 _).put 1 _).put 2 _).put 3 _).put 4 _).put 5 _).put 6 _).put 7 _
theorem below_set8 {B : Nat} (h : Below B w w') (hB : B ≤ g) (n : Nat) : Below B w (set8 w' g n) :=
  (((((((h.setCell (p := ⟨g, 0, none⟩) hB _).setCell (p := ⟨g, 1, none⟩) hB _).setCell (p := ⟨g, 2, none⟩) hB _).setCell (p := ⟨g, 3, none⟩) hB _).setCell (p := ⟨g, 4, none⟩) hB _).setCell (p := ⟨g, 5, none⟩) hB _).setCell (p := ⟨g, 6, none⟩) hB _).setCell (p := ⟨g, 7, none⟩) hB _
/-- A call that hands back a number out of its result's block. -/
theorem ret_nat {fn : Func} {p : Tmp} (hr : fn.results = #[.cell p 66]) {tmps : Array Value} {n : Nat} {R : Ending → World → Prop}
    (hp : tmps.getD p undef = .pointer (some ⟨g, 0, none⟩)) (h : NB w g (limbs n)) (hR : R (.returned (NV n)) w) : bodyPost Try.prog fn R .ret { tmps := tmps, defers := [] } w :=
  bodyPost_ret (v := NV n) (results_cell_row hr tmps w g 66 _ (0, 0) _ hp h Try.underlying66 rfl (by kernel_rfl)) rfl hR
end

end Go.Proofs.Yteppamchbgnlfaa
