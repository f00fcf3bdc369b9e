/- Package frac: Div and Compare are what the document asks. Conditions: numbers of 64 bits. -/
import Derived.Test.YtpmndopcemdniaaDoorFrac3
namespace Go.Proofs.YtpmndopcemdniaaDoor
open Go.RowKit

theorem weq_walk (h l : Nat) (s : Bool) (w : World) : (Op.equalIn 10000 67 (.agg #[.int .u64 (h : Nat), .int .u64 (l : Nat), .bool s]) (.agg #[.int .u64 0, .int .u64 0, .bool false])).run Tryd.prog w = .ok (decide (h = 0) && (decide (l = 0) && !s)) w := by
  have tu := Tryd.underlying62
  have ta := Tryd.isAgg62
  have tz := Tryd.sizeOf62
  have tu2 := Tryd.underlying4
  have ta2 := Tryd.isAgg4
  have tz2 := Tryd.sizeOf4
  have hS : Tryd.prog.underlying 67 = some (.struct (Tryd.prog.fieldsOf 67)) := by kernel_rfl
  rw [show (10000 : Nat) = 9999 + 1 from rfl, run_equalIn_agg w 9999 67 _ _ hS (by kernel_rfl)]
  simp only [Program.fieldsOf, Tryd.underlying67]
  go_simp
  by_cases h1 : h = 0 <;> by_cases h2 : l = 0 <;> cases s <;> simp [h1, h2]


theorem RV_def (r : R3) : RV r = .tuple #[.agg #[.int .i64 r.1, .int .i64 r.2.1], .int .i64 r.2.2] := rfl

/-- The two boxed arguments in a later world. -/
def C2 (w W : World) (an ad bn bd : Int) : Prop := Blk W w.heap.size 45 #[.int .i64 an, .int .i64 ad] ∧ Blk W (w.heap.size + 1) 45 #[.int .i64 bn, .int .i64 bd] ∧ Below w.heap.size w W ∧ w.heap.size + 1 < W.heap.size
theorem C2.start (w : World) (an ad bn bd : Int) : C2 w ((w.alloc (.cells #[.int .i64 an, .int .i64 ad] 45)).alloc (.cells #[.int .i64 bn, .int .i64 bd] 45)) an ad bn bd := by
  refine ⟨(Blk.new w _ _).below ((Below.refl _ _).alloc (Nat.le_refl _) _) (by simp), ?_, ((Below.refl _ w).alloc (Nat.le_refl _) _).alloc (by simp) _, by simp⟩
  have := Blk.new (w.alloc (.cells #[.int .i64 an, .int .i64 ad] 45)) 45 #[.int .i64 bn, .int .i64 bd]
  simpa using this
theorem C2.call {w W W' : World} {an ad bn bd : Int} (h : C2 w W an ad bn bd) (hb : Below W.heap.size W W') : C2 w W' an ad bn bd :=
  ⟨h.1.below hb h.1.lt, h.2.1.below hb h.2.1.lt, below_st h.2.2.1 hb, by have := hb.size; have := h.2.2.2; omega⟩
theorem C2.cells {w W : World} {an ad bn bd : Int} (h : C2 w W an ad bn bd) : W.cell? ⟨w.heap.size, 0, none⟩ = some (.int .i64 an) ∧ W.cell? ⟨w.heap.size, 1, none⟩ = some (.int .i64 ad) ∧ W.cell? ⟨w.heap.size + 1, 0, none⟩ = some (.int .i64 bn) ∧ W.cell? ⟨w.heap.size + 1, 1, none⟩ = some (.int .i64 bd) :=
  ⟨h.1.cell 0, h.1.cell 1, h.2.1.cell 0, h.2.1.cell 1⟩

end Go.Proofs.YtpmndopcemdniaaDoor
