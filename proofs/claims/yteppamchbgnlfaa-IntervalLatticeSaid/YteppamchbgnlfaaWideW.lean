/- Wide numbers of package frac: two words and a sign. Conditions: the numbers fit in two words. -/
import Derived.Test.YteppamchbgnlfaaWide
import Derived.Lib.ItoaNum
import Derived.Test.YteppamchbgnlfaaMem
import Derived.WalkKit
import Derived.Test.YteppamchbgnlfaaShelf
import Derived.Deep.LoopGhost
import Derived.Laws.Externs
import Derived.Shelf.Spec.BitsCarry
import Derived.Deep.RegionHeld3
namespace Go.Proofs.Yteppamchbgnlfaa
open Go.RowKit

/-- A wide number as a value. -/
def wideV (z : Int) : Value := .agg #[.int .u64 (z.natAbs / 18446744073709551616 : Nat), .int .u64 (z.natAbs % 18446744073709551616 : Nat), .bool (decide (z < 0))]
theorem wide_of {z : Int} {h l : Nat} {s : Bool} (hz : z.natAbs = h * 18446744073709551616 + l) (hl : l < 18446744073709551616) (hs : decide (z < 0) = s) : wideV z = .agg #[.int .u64 (h : Nat), .int .u64 (l : Nat), .bool s] := by
  unfold wideV
  rw [hs, hz]
  have e1 : (h * 18446744073709551616 + l) / 18446744073709551616 = h := by omega
  have e2 : (h * 18446744073709551616 + l) % 18446744073709551616 = l := by omega
  rw [e1, e2]

theorem add64_run (x y c s k : Nat) (hc : c ≤ 1) (e : x + y + c = k * 18446744073709551616 + s) (hs : s < 18446744073709551616) (w : World) :
    (callFunc 91 #[.int .u64 x, .int .u64 y, .int .u64 c]).run Try.prog w = .ok (.value (.tuple #[.int .u64 s, .int .u64 k])) w := by
  rw [run_callFunc_extern Try.func91 (by kernel_rfl) (by kernel_rfl) (by kernel_rfl) (e := add64Entry) (by kernel_rfl), run_add64 x y c (by omega) (by omega) (by omega) (by omega)]
  have e1 : ((x : Int) + y + c) % 18446744073709551616 = (s : Int) := by omega
  have e2 : ((x : Int) + y + c) / 18446744073709551616 = (k : Int) := by omega
  rw [e1, e2]
  rfl
theorem sub64_run (x y c s k : Nat) (hc : c ≤ 1) (e : x + k * 18446744073709551616 = y + c + s) (hs : s < 18446744073709551616) (hk : k = if x < y + c then 1 else 0) (w : World) :
    (callFunc 93 #[.int .u64 x, .int .u64 y, .int .u64 c]).run Try.prog w = .ok (.value (.tuple #[.int .u64 s, .int .u64 k])) w := by
  rw [run_callFunc_extern Try.func93 (by kernel_rfl) (by kernel_rfl) (by kernel_rfl) (e := sub64Entry) (by kernel_rfl), run_sub64 x y c hc]
  have e1 : (x + 18446744073709551616 - y - c) % 18446744073709551616 = s := by
    subst hk
    split at e <;> omega
  rw [e1, ← hk]
  rfl

theorem add64_run0 (x y s k : Nat) (e : x + y = k * 18446744073709551616 + s) (hs : s < 18446744073709551616) (w : World) :
    (callFunc 91 #[.int .u64 x, .int .u64 y, .int .u64 0]).run Try.prog w = .ok (.value (.tuple #[.int .u64 s, .int .u64 k])) w := add64_run x y 0 s k (by omega) (by omega) hs w
theorem sub64_run0 (x y s k : Nat) (e : x + k * 18446744073709551616 = y + s) (hs : s < 18446744073709551616) (hk : k = if x < y then 1 else 0) (w : World) :
    (callFunc 93 #[.int .u64 x, .int .u64 y, .int .u64 0]).run Try.prog w = .ok (.value (.tuple #[.int .u64 s, .int .u64 k])) w := sub64_run x y 0 s k (by omega) (by omega) hs hk w

/-- A call that hands back a wide number out of its result's block. -/
theorem ret_wide {fn : Func} {p : Tmp} (hr : fn.results = #[.cell p 71]) {tmps : Array Value} {w : World} {g : Nat} {h l : Nat} {s : Bool} {R : Ending → World → Prop}
    (hp : tmps.getD p undef = .pointer (some ⟨g, 0, none⟩)) (hb : Blk w g 71 #[.int .u64 h, .int .u64 l, .bool s]) (hR : R (.returned (.agg #[.int .u64 h, .int .u64 l, .bool s])) w) : bodyPost Try.prog fn R .ret { tmps := tmps, defers := [] } w :=
  bodyPost_ret (v := .agg #[.int .u64 h, .int .u64 l, .bool s]) (results_cell_row hr tmps w g 71 _ (0, 0) _ hp hb Try.underlying71 rfl (by kernel_rfl)) rfl hR

theorem ret_w {a b : Value} {s t : Bool} (h : s = t) : Ending.returned (.agg #[a, b, .bool s]) = Ending.returned (.agg #[a, b, .bool t]) := by rw [h]
theorem normal_any (h l : Nat) (s : Bool) (w : World) :
    Calls Try.prog 90 #[.agg #[.int .u64 h, .int .u64 l, .bool s]] w fun e w' => e = .returned (.agg #[.int .u64 h, .int .u64 l, .bool (s && !(decide (h = 0) && decide (l = 0)))]) ∧ Below w.heap.size w w' := by
  cases s
  · go_enter Try.func90, Try.ntmps90
    go_wp2
    refine ret_wide (p := 2) (g := w.heap.size + 1) (h := h) (l := l) (s := false) (by kernel_rfl) rfl ?_ ⟨rfl, ((Below.refl _ w).alloc (Nat.le_refl _) _).alloc (by simp) _⟩
    have := Blk.new (w.alloc (.cells #[.int .u64 h, .int .u64 l, .bool false] 71)) 71 #[.int .u64 h, .int .u64 l, .bool false]
    rw [World.size_alloc] at this
    exact this
  · have hway : (((h : Int) == 0) = false ∧ ((h : Int) != 0) = true ∧ (true && !(decide (h = 0) && decide (l = 0))) = true) ∨ (((h : Int) == 0) = true ∧ ((h : Int) != 0) = false ∧ ((l : Int) == 0) = false ∧ ((l : Int) != 0) = true ∧ (true && !(decide (h = 0) && decide (l = 0))) = true) ∨
        (((h : Int) == 0) = true ∧ ((h : Int) != 0) = false ∧ ((l : Int) == 0) = true ∧ ((l : Int) != 0) = false ∧ (true && !(decide (h = 0) && decide (l = 0))) = false) := by
      rcases Nat.eq_zero_or_pos h with e | e
      · subst e
        rcases Nat.eq_zero_or_pos l with f | f
        · subst f; exact .inr (.inr ⟨rfl, rfl, rfl, rfl, rfl⟩)
        · exact .inr (.inl ⟨rfl, rfl, by simp; omega, by simp; omega, by simp; omega⟩)
      · exact .inl ⟨by simp; omega, by simp; omega, by simp; omega⟩
    obtain ⟨B, hBd⟩ : ∃ B, (true && !(decide (h = 0) && decide (l = 0))) = B := ⟨_, rfl⟩
    have HBd := Lib.hid hBd
    rw [hBd] at hway
    clear hBd
    rcases hway with ⟨e1, e2, e3⟩ | ⟨e1, e2, e3, e4, e5⟩ | ⟨e1, e2, e3, e4, e5⟩
    · have E3 := Lib.hid e3
      clear e3
      go_enter Try.func90, Try.ntmps90
      go_wp2
      refine ret_wide (p := 2) (g := w.heap.size + 1) (h := h) (l := l) (s := true) (by kernel_rfl) rfl ?_ ⟨ret_w (HBd.out.trans E3.out).symm, ((Below.refl _ w).alloc (Nat.le_refl _) _).alloc (by simp) _⟩
      have := Blk.new (w.alloc (.cells #[.int .u64 h, .int .u64 l, .bool true] 71)) 71 #[.int .u64 h, .int .u64 l, .bool true]
      rw [World.size_alloc] at this
      exact this
    · have E3 := Lib.hid e5
      clear e5
      go_enter Try.func90, Try.ntmps90
      go_wp2
      refine ret_wide (p := 2) (g := w.heap.size + 1) (h := h) (l := l) (s := true) (by kernel_rfl) rfl ?_ ⟨ret_w (HBd.out.trans E3.out).symm, ((Below.refl _ w).alloc (Nat.le_refl _) _).alloc (by simp) _⟩
      have := Blk.new (w.alloc (.cells #[.int .u64 h, .int .u64 l, .bool true] 71)) 71 #[.int .u64 h, .int .u64 l, .bool true]
      rw [World.size_alloc] at this
      exact this
    · have E3 := Lib.hid e5
      clear e5
      go_enter Try.func90, Try.ntmps90
      go_wp2
      refine ret_wide (p := 2) (g := w.heap.size + 1) (h := h) (l := l) (s := false) (by kernel_rfl) rfl ?_ ⟨ret_w (HBd.out.trans E3.out).symm, ((Below.refl _ w).alloc (Nat.le_refl _) _).alloc (by simp) _⟩
      have := Blk.new (w.alloc (.cells #[.int .u64 h, .int .u64 l, .bool false] 71)) 71 #[.int .u64 h, .int .u64 l, .bool false]
      rw [World.size_alloc] at this
      exact this
/-- normal makes a wide number of words and a sign that may be the sign of 0. -/
theorem normal_wide (z : Int) (h l : Nat) (s : Bool) (w : World) (hz : z.natAbs = h * 18446744073709551616 + l) (hl : l < 18446744073709551616) (hs : z ≠ 0 → s = decide (z < 0)) :
    Calls Try.prog 90 #[.agg #[.int .u64 h, .int .u64 l, .bool s]] w fun e w' => e = .returned (wideV z) ∧ Below w.heap.size w w' := by
  refine (normal_any h l s w).mono fun e w' ⟨he, hB⟩ => ⟨?_, hB⟩
  rw [he, wide_of hz hl rfl]
  by_cases h0 : z = 0
  · subst h0
    obtain rfl : h = 0 := by simp at hz; omega
    obtain rfl : l = 0 := by simp at hz; omega
    cases s <;> rfl
  · rw [← hs h0]
    have : (decide (h = 0) && decide (l = 0)) = false := by simp; omega
    rw [this]
    simp

set_option maxRecDepth 100000 in
theorem product_any (a b : Int) (w : World) (a0 : -9223372036854775808 < a) (a1 : a ≤ 9223372036854775807) (b0 : -9223372036854775808 < b) (b1 : b ≤ 9223372036854775807) :
    Calls Try.prog 71 #[.int .i64 a, .int .i64 b] w fun e w' => e = .returned (wideV (a * b)) ∧ Below w.heap.size w w' := by
  have hneg : a * b ≠ 0 → (decide (a < 0) != decide (b < 0)) = decide (a * b < 0) := by
    intro h0
    have ha : a ≠ 0 := fun h => h0 (by rw [h, Int.zero_mul])
    have hb : b ≠ 0 := fun h => h0 (by rw [h, Int.mul_zero])
    rcases Int.lt_or_le a 0 with s1 | s1 <;> rcases Int.lt_or_le b 0 with s2 | s2
    · have := Int.mul_pos_of_neg_of_neg s1 s2
      rw [decide_eq_true s1, decide_eq_true s2, decide_eq_false (by omega)]; rfl
    · have := Int.mul_neg_of_neg_of_pos s1 (by omega : 0 < b)
      rw [decide_eq_true s1, decide_eq_false (by omega : ¬ b < 0), decide_eq_true this]; rfl
    · have := Int.mul_neg_of_pos_of_neg (by omega : 0 < a) s2
      rw [decide_eq_false (by omega : ¬ a < 0), decide_eq_true s2, decide_eq_true this]; rfl
    · have := Int.mul_nonneg s1 s2
      rw [decide_eq_false (by omega : ¬ a < 0), decide_eq_false (by omega : ¬ b < 0), decide_eq_false (by omega : ¬ a * b < 0)]; rfl
  have hz : (a * b).natAbs = a.natAbs * b.natAbs := Int.natAbs_mul a b
  obtain ⟨z, hzz⟩ : ∃ z, a * b = z := ⟨_, rfl⟩
  rw [hzz] at hneg hz
  obtain ⟨A, hA⟩ : ∃ A, a.natAbs = A := ⟨_, rfl⟩
  obtain ⟨B, hB⟩ : ∃ B, b.natAbs = B := ⟨_, rfl⟩
  rw [hA, hB] at hz
  have HZ := Lib.hid hz
  have HN := Lib.hid hneg
  have HZZ := Lib.hid hzz
  have HAA := Lib.hid hA
  have HBB := Lib.hid hB
  have hAb : A ≤ 9223372036854775807 := by omega
  have hBb : B ≤ 9223372036854775807 := by omega
  clear hz hneg hzz hA hB
  go_enter Try.func71, Try.ntmps71
  go_wp2_with fail
  refine (size_any a _ a0 a1).mono ?_
  rintro e w' ⟨rfl, rfl⟩
  rw [HAA.out]
  go_wp2_with fail
  refine (size_any b _ b0 b1).mono ?_
  rintro e w' ⟨rfl, rfl⟩
  rw [HBB.out]
  go_wp2_with fail
  refine (Try.bits_Mul64 A B (by omega) (by omega) _).mono ?_
  rintro e w' ⟨rfl, rfl⟩
  obtain ⟨h, hh⟩ : ∃ h, A * B / 18446744073709551616 = h := ⟨_, rfl⟩
  obtain ⟨l, hl⟩ : ∃ l, A * B % 18446744073709551616 = l := ⟨_, rfl⟩
  rw [hh, hl]
  have hzl : l < 18446744073709551616 := by rw [← hl]; exact Nat.mod_lt _ (by omega)
  have hzh : z.natAbs = h * 18446744073709551616 + l := by rw [HZ.out]; omega
  have HZH := Lib.hid hzh
  have HZl := Lib.hid hzl
  clear hzh hzl hh hl
  go_wp2_with fail
  refine (normal_wide z h l _ _ HZH.out HZl.out HN.out).mono ?_
  rintro e w1 ⟨rfl, hB⟩
  unfold wideV
  have hz0 : w.heap.size < w1.heap.size := by have := hB.size; simp at this; omega
  have hR := (Blk.new w 71 #[.int .u64 0, .int .u64 0, .bool false]).below hB (by simp)
  have c0 := hR.cell 0
  have c1 := hR.cell 1
  have c2 := hR.cell 2
  have cf := hR.frozen
  simp at c0 c1 c2
  have HR := Lib.hid hR
  have hB2 := ((Below.refl _ w).alloc (Nat.le_refl _) _).trans (hB.mono (by simp))
  clear hR hB
  go_wp2
  exact ret_wide (p := 4) (by kernel_rfl) rfl (((HR.out.put 0 _).put 1 _).put 2 _) ⟨by rw [HZZ.out]; rfl, ((hB2.setCell (by simp) _).setCell (by simp) _).setCell (by simp) _⟩
end Go.Proofs.Yteppamchbgnlfaa
