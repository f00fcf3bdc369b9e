/- Wide numbers of package frac: two words and a sign. Conditions: the numbers fit in two words. -/
import Derived.Test.YtpmndopcemdniaaDoorWide
import Derived.Test.YtpmndopcemdniaaDoorDiv
import Derived.Laws.Externs
import Derived.Shelf.Spec.BitsCarry
import Derived.Deep.RegionHeld3
namespace Go.Proofs.YtpmndopcemdniaaDoor
open Go.RowKit

/-- A wide number as a value. -/
def wideV (z : Int) : Value := .agg #[.int .u64 (z.natAbs / 18446744073709551616 : Nat), .int .u64 (z.natAbs % 18446744073709551616 : Nat), .bool (decide (z < 0))]
theorem wide_of {z : Int} {h l : Nat} {s : Bool} (hz : z.natAbs = h * 18446744073709551616 + l) (hl : l < 18446744073709551616) (hs : decide (z < 0) = s) : wideV z = .agg #[.int .u64 (h : Nat), .int .u64 (l : Nat), .bool s] := by
  unfold wideV
  rw [hs, hz]
  have e1 : (h * 18446744073709551616 + l) / 18446744073709551616 = h := by omega
  have e2 : (h * 18446744073709551616 + l) % 18446744073709551616 = l := by omega
  rw [e1, e2]

/-- A call that hands back a wide number out of its result's block. -/
theorem ret_wide {fn : Func} {p : Tmp} (hr : fn.results = #[.cell p 67]) {tmps : Array Value} {w : World} {g : Nat} {h l : Nat} {s : Bool} {R : Ending → World → Prop}
    (hp : tmps.getD p undef = .pointer (some ⟨g, 0, none⟩)) (hb : Blk w g 67 #[.int .u64 h, .int .u64 l, .bool s]) (hR : R (.returned (.agg #[.int .u64 h, .int .u64 l, .bool s])) w) : bodyPost Tryd.prog fn R .ret { tmps := tmps, defers := [] } w :=
  bodyPost_ret (v := .agg #[.int .u64 h, .int .u64 l, .bool s]) (results_cell_row hr tmps w g 67 _ (0, 0) _ hp hb Tryd.underlying67 rfl (by kernel_rfl)) rfl hR

theorem ret_w {a b : Value} {s t : Bool} (h : s = t) : Ending.returned (.agg #[a, b, .bool s]) = Ending.returned (.agg #[a, b, .bool t]) := by rw [h]
theorem normal_any (h l : Nat) (s : Bool) (w : World) :
    Calls Tryd.prog 40 #[.agg #[.int .u64 h, .int .u64 l, .bool s]] w fun e w' => e = .returned (.agg #[.int .u64 h, .int .u64 l, .bool (s && !(decide (h = 0) && decide (l = 0)))]) ∧ Below w.heap.size w w' := by
  cases s
  · go_enter Tryd.func40, Tryd.ntmps40
    go_wp2
    refine ret_wide (p := 2) (g := w.heap.size + 1) (h := h) (l := l) (s := false) (by kernel_rfl) rfl ?_ ⟨rfl, ((Below.refl _ w).alloc (Nat.le_refl _) _).alloc (by simp) _⟩
    have := Blk.new (w.alloc (.cells #[.int .u64 h, .int .u64 l, .bool false] 67)) 67 #[.int .u64 h, .int .u64 l, .bool false]
    rw [World.size_alloc] at this
    exact this
  · have hway : (((h : Int) == 0) = false ∧ ((h : Int) != 0) = true ∧ (true && !(decide (h = 0) && decide (l = 0))) = true) ∨ (((h : Int) == 0) = true ∧ ((h : Int) != 0) = false ∧ ((l : Int) == 0) = false ∧ ((l : Int) != 0) = true ∧ (true && !(decide (h = 0) && decide (l = 0))) = true) ∨
        (((h : Int) == 0) = true ∧ ((h : Int) != 0) = false ∧ ((l : Int) == 0) = true ∧ ((l : Int) != 0) = false ∧ (true && !(decide (h = 0) && decide (l = 0))) = false) := by
      rcases Nat.eq_zero_or_pos h with e | e
      · subst e
        rcases Nat.eq_zero_or_pos l with f | f
        · subst f; exact .inr (.inr ⟨rfl, rfl, rfl, rfl, rfl⟩)
        · exact .inr (.inl ⟨rfl, rfl, by simp; omega, by simp; omega, by simp; omega⟩)
      · exact .inl ⟨by simp; omega, by simp; omega, by simp; omega⟩
    obtain ⟨B, hBd⟩ : ∃ B, (true && !(decide (h = 0) && decide (l = 0))) = B := ⟨_, rfl⟩
    have HBd := Lib.hid hBd
    rw [hBd] at hway
    clear hBd
    rcases hway with ⟨e1, e2, e3⟩ | ⟨e1, e2, e3, e4, e5⟩ | ⟨e1, e2, e3, e4, e5⟩
    · have E3 := Lib.hid e3
      clear e3
      go_enter Tryd.func40, Tryd.ntmps40
      go_wp2
      refine ret_wide (p := 2) (g := w.heap.size + 1) (h := h) (l := l) (s := true) (by kernel_rfl) rfl ?_ ⟨ret_w (HBd.out.trans E3.out).symm, ((Below.refl _ w).alloc (Nat.le_refl _) _).alloc (by simp) _⟩
      have := Blk.new (w.alloc (.cells #[.int .u64 h, .int .u64 l, .bool true] 67)) 67 #[.int .u64 h, .int .u64 l, .bool true]
      rw [World.size_alloc] at this
      exact this
    · have E3 := Lib.hid e5
      clear e5
      go_enter Tryd.func40, Tryd.ntmps40
      go_wp2
      refine ret_wide (p := 2) (g := w.heap.size + 1) (h := h) (l := l) (s := true) (by kernel_rfl) rfl ?_ ⟨ret_w (HBd.out.trans E3.out).symm, ((Below.refl _ w).alloc (Nat.le_refl _) _).alloc (by simp) _⟩
      have := Blk.new (w.alloc (.cells #[.int .u64 h, .int .u64 l, .bool true] 67)) 67 #[.int .u64 h, .int .u64 l, .bool true]
      rw [World.size_alloc] at this
      exact this
    · have E3 := Lib.hid e5
      clear e5
      go_enter Tryd.func40, Tryd.ntmps40
      go_wp2
      refine ret_wide (p := 2) (g := w.heap.size + 1) (h := h) (l := l) (s := false) (by kernel_rfl) rfl ?_ ⟨ret_w (HBd.out.trans E3.out).symm, ((Below.refl _ w).alloc (Nat.le_refl _) _).alloc (by simp) _⟩
      have := Blk.new (w.alloc (.cells #[.int .u64 h, .int .u64 l, .bool false] 67)) 67 #[.int .u64 h, .int .u64 l, .bool false]
      rw [World.size_alloc] at this
      exact this
/-- normal makes a wide number of words and a sign that may be the sign of 0. -/
theorem normal_wide (z : Int) (h l : Nat) (s : Bool) (w : World) (hz : z.natAbs = h * 18446744073709551616 + l) (hl : l < 18446744073709551616) (hs : z ≠ 0 → s = decide (z < 0)) :
    Calls Tryd.prog 40 #[.agg #[.int .u64 h, .int .u64 l, .bool s]] w fun e w' => e = .returned (wideV z) ∧ Below w.heap.size w w' := by
  refine (normal_any h l s w).mono fun e w' ⟨he, hB⟩ => ⟨?_, hB⟩
  rw [he, wide_of hz hl rfl]
  by_cases h0 : z = 0
  · subst h0
    obtain rfl : h = 0 := by simp at hz; omega
    obtain rfl : l = 0 := by simp at hz; omega
    cases s <;> rfl
  · rw [← hs h0]
    have : (decide (h = 0) && decide (l = 0)) = false := by simp; omega
    rw [this]
    simp

end Go.Proofs.YtpmndopcemdniaaDoor
