/- A fraction that comes in as an argument is opened. Conditions: none. -/
import Derived.Test.YtkdbffhmnkkbcaaDoorLaid
namespace Go.Proofs.YtkdbffhmnkkbcaaDoor
open Go.ChangeShapes Go.WideShapes Go.ChangeAt Go.RowKit

theorem cellsInt : Tryd.prog.cellsOf 3 = 1 := by kernel_rfl
theorem cellsFrac : Tryd.prog.cellsOf 24 = 2 := by kernel_rfl
section
variable {H : Type} {enc : TypeId × Value → H}
set_option maxRecDepth 100000 in
theorem open_frac {W : World} {base : Nat} {held : Bool} {spare : Nat → Bool} {v : Value} {d : DataW H} {ps : List MemPlace} (hval : Value.okWide Tryd.prog W .any base 24 v) (h : DataW.Trod enc Tryd.prog W 0 spare held 24 v d ps) :
    ∃ n m : Int, v = .agg #[.int .i64 n, .int .i64 m] ∧ (-9223372036854775808 ≤ n ∧ n ≤ 9223372036854775807) ∧ (-9223372036854775808 ≤ m ∧ m ≤ 9223372036854775807) := by
  obtain ⟨cs, rfl, hsz⟩ := okWide_struct Tryd.underlying24 hval
  obtain ⟨fuel, hf⟩ := h
  obtain ⟨y0, y1, m, -, hl, h0, h1⟩ := trod_struct2 Tryd.underlying24 hf
  obtain ⟨n0, e0, -, w0⟩ := DataW.trod_int Tryd.underlying3 h0
  obtain ⟨n1, e1, -, w1⟩ := DataW.trod_int Tryd.underlying3 h1
  rw [cellsFrac] at hsz
  obtain ⟨l⟩ := cs
  match l, hsz with
  | [a, b], _ =>
    simp only [cellsInt, Value.cells] at e0 e1
    simp at e0 e1
    subst e0
    subst e1
    exact ⟨n0, n1, rfl, wf64 w0, wf64 w1⟩
end
end Go.Proofs.YtkdbffhmnkkbcaaDoor
