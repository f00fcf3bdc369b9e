/- Package frac: Parse is what the document asks. Conditions: strings that fit in memory; the variables as laid. -/
import Derived.Test.YtpmndopcemdniaaDoorText
namespace Go.Proofs.YtpmndopcemdniaaDoor
open Go.RowKit

/-- The fraction whose text is l, or ErrForm. -/
def parseO (l : List UInt8) : Option Int × Option Int := (atoiO (cutL l).1, atoiO (if (cutL l).2.2 then (cutL l).2.1 else [49]))
def parseQ (l : List UInt8) : Option Int × Option Int → R3
  | (some n, some d) => if textL n d = l then (n, d, 0) else (0, 0, 2)
  | _ => (0, 0, 2)
def parseR (l : List UInt8) : R3 := parseQ l (parseO l)

theorem cutL_le (l : List UInt8) : (cutL l).1.length ≤ l.length ∧ (cutL l).2.1.length ≤ l.length := by
  unfold cutL
  split
  · refine ⟨?_, ?_⟩
    · simp only [List.length_take]; omega
    · simp only [List.length_drop]; omega
  · simp

theorem atoiO_bounds {l : List UInt8} {v : Int} (h : atoiO l = some v) : -9223372036854775808 ≤ v ∧ v ≤ 9223372036854775807 := by
  unfold atoiO at h
  cases k : Lib.atoiAll l
  · rw [k] at h; simp only [Option.some.injEq] at h; subst h; exact Lib.atoiAll_bounds k
  · rw [k] at h; simp at h
  · rw [k] at h; simp at h

/-- The result's block in a later world. -/
def C1 (w W : World) : Prop := Blk W w.heap.size 45 #[.int .i64 0, .int .i64 0] ∧ Below w.heap.size w W ∧ w.heap.size < W.heap.size
theorem C1.start (w : World) : C1 w (w.alloc (.cells #[.int .i64 0, .int .i64 0] 45)) := ⟨Blk.new w _ _, (Below.refl _ w).alloc (Nat.le_refl _) _, by simp⟩
theorem C1.call {w W W' : World} (h : C1 w W) (hb : Below W.heap.size W W') : C1 w W' := ⟨h.1.below hb h.1.lt, below_st h.2.1 hb, by have := hb.size; have := h.2.2; omega⟩
theorem C1.cells {w W : World} (h : C1 w W) : W.cell? ⟨w.heap.size, 0, none⟩ = some (.int .i64 0) ∧ W.cell? ⟨w.heap.size, 1, none⟩ = some (.int .i64 0) ∧ W.frozen? ⟨w.heap.size, 0, none⟩ = false ∧ W.frozen? ⟨w.heap.size, 1, none⟩ = false := ⟨h.1.cell 0, h.1.cell 1, h.1.frozen 0, h.1.frozen 1⟩

theorem C1.put {w W : World} (h : C1 w W) (n d : Int) : Blk ((W.setCell ⟨w.heap.size, 0, none⟩ (.int .i64 n)).setCell ⟨w.heap.size, 1, none⟩ (.int .i64 d)) w.heap.size 45 #[.int .i64 n, .int .i64 d] ∧
    Below w.heap.size w ((W.setCell ⟨w.heap.size, 0, none⟩ (.int .i64 n)).setCell ⟨w.heap.size, 1, none⟩ (.int .i64 d)) :=
  ⟨(h.1.put 0 _).put 1 _, (h.2.1.setCell (by simp) _).setCell (by simp) _⟩

theorem C1.putal {w W : World} (h : C1 w W) (n d : Int) (o : Obj) : Blk (((W.setCell ⟨w.heap.size, 0, none⟩ (.int .i64 n)).setCell ⟨w.heap.size, 1, none⟩ (.int .i64 d)).alloc o) w.heap.size 45 #[.int .i64 n, .int .i64 d] ∧
    Below w.heap.size w (((W.setCell ⟨w.heap.size, 0, none⟩ (.int .i64 n)).setCell ⟨w.heap.size, 1, none⟩ (.int .i64 d)).alloc o) :=
  ⟨(h.put n d).1.alloc o, (h.put n d).2.alloc (h.put n d).2.size o⟩

end Go.Proofs.YtpmndopcemdniaaDoor
