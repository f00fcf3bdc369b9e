/- An array of 8 integers as an argument. Conditions: none. -/
import Derived.Test.YtkdbffhmnkkbcaaOpenI
namespace Go.Proofs.Ytkdbffhmnkkbcaa
open Go.ChangeShapes Go.WideShapes Go.ChangeAt Go.RowKit

theorem cellsArr8 : Try.prog.cellsOf 56 = 8 := by kernel_rfl
section
variable {H : Type} {enc : TypeId × Value → H}
set_option maxRecDepth 100000 in
theorem okWide_arr8 {t e : TypeId} {n : Nat} {w : World} {r : Reach} {base : Nat} {v : Value} (ht : Try.prog.underlying t = some (.array n e)) (h : Value.okWide Try.prog w r base t v) : ∃ cs, v = .agg cs ∧ cs.size = Try.prog.cellsOf t := by
  simp only [Value.okWide, ht] at h
  obtain ⟨cs, h1, h2, _⟩ := h
  exact ⟨cs, h1, h2⟩
set_option maxRecDepth 100000 in
theorem open_eight {W : World} {base : Nat} {spare : Nat → Bool} {held : Bool} {v : Value} {d : DataW H} {ps : List MemPlace} (hval : Value.okWide Try.prog W .any base 56 v) (h : DataW.Trod enc Try.prog W 0 spare held 56 v d ps) :
    ∃ a0 a1 a2 a3 a4 a5 a6 a7 : Int, v = .agg #[.int .i64 a0, .int .i64 a1, .int .i64 a2, .int .i64 a3, .int .i64 a4, .int .i64 a5, .int .i64 a6, .int .i64 a7] ∧ (-9223372036854775808 ≤ a0 ∧ a0 ≤ 9223372036854775807) ∧ (-9223372036854775808 ≤ a1 ∧ a1 ≤ 9223372036854775807) ∧ (-9223372036854775808 ≤ a2 ∧ a2 ≤ 9223372036854775807) ∧ (-9223372036854775808 ≤ a3 ∧ a3 ≤ 9223372036854775807) ∧ (-9223372036854775808 ≤ a4 ∧ a4 ≤ 9223372036854775807) ∧ (-9223372036854775808 ≤ a5 ∧ a5 ≤ 9223372036854775807) ∧ (-9223372036854775808 ≤ a6 ∧ a6 ≤ 9223372036854775807) ∧ (-9223372036854775808 ≤ a7 ∧ a7 ≤ 9223372036854775807) := by
  obtain ⟨cs, rfl, hsz⟩ := okWide_arr8 Try.underlying56 hval
  obtain ⟨fuel, hf⟩ := h
  obtain ⟨xs, m, -, -, -, hl, hx⟩ := DataW.trod_array Try.underlying56 hf
  rw [cellsArr8] at hsz
  rw [Try.cellsInt] at hx
  obtain ⟨l⟩ := cs
  match l, hsz with
  | [c0, c1, c2, c3, c4, c5, c6, c7], _ =>
    have one : ∀ (i : Nat) (c : Value), i < 8 → ([c0, c1, c2, c3, c4, c5, c6, c7].drop (i * 1)).take 1 = [c] → ∃ n : Int, c = .int .i64 n ∧ (-9223372036854775808 ≤ n ∧ n ≤ 9223372036854775807) := by
      intro i c hi hc
      have k := hx i hi
      obtain ⟨y, hy⟩ : ∃ y, xs[i]? = some y := ⟨xs[i]'(by omega), List.getElem?_eq_getElem (by omega)⟩
      rw [hy] at k
      obtain ⟨n, e0, -, w0⟩ := DataW.trod_int Try.underlying3 k
      refine ⟨n, ?_, wf64 w0⟩
      have e1 := e0
      simp only [Value.cells] at e1
      rw [hc] at e1
      simpa using e1
    obtain ⟨a0, rfl, b0⟩ := one 0 c0 (by decide) rfl
    obtain ⟨a1, rfl, b1⟩ := one 1 c1 (by decide) rfl
    obtain ⟨a2, rfl, b2⟩ := one 2 c2 (by decide) rfl
    obtain ⟨a3, rfl, b3⟩ := one 3 c3 (by decide) rfl
    obtain ⟨a4, rfl, b4⟩ := one 4 c4 (by decide) rfl
    obtain ⟨a5, rfl, b5⟩ := one 5 c5 (by decide) rfl
    obtain ⟨a6, rfl, b6⟩ := one 6 c6 (by decide) rfl
    obtain ⟨a7, rfl, b7⟩ := one 7 c7 (by decide) rfl
    exact ⟨a0, a1, a2, a3, a4, a5, a6, a7, rfl, b0, b1, b2, b3, b4, b5, b6, b7⟩
end
end Go.Proofs.Ytkdbffhmnkkbcaa
