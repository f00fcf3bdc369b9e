/- Wide numbers of package frac: sums, comparisons, quotients. Conditions: the numbers fit in two words. -/
import Derived.Test.YtpmndopcemdniaaDoorWideW
namespace Go.Proofs.YtpmndopcemdniaaDoor
open Go.RowKit

def smB (ah al bh bl : Nat) : Bool := decide (ah < bh) || (decide (ah = bh) && decide (al < bl))
theorem wide_parts (z : Int) (hz : z.natAbs < 340282366920938463463374607431768211456) : ∃ h l : Nat, ∃ s : Bool, wideV z = .agg #[.int .u64 h, .int .u64 l, .bool s] ∧ z.natAbs = h * 18446744073709551616 + l ∧ l < 18446744073709551616 ∧ h < 18446744073709551616 ∧ decide (z < 0) = s :=
  ⟨_, _, _, rfl, by omega, by omega, by omega, rfl⟩

/-- Three blocks of wide numbers: the receiver, the argument, the result. -/
def PS (w W : World) (ah al bh bl : Nat) (s t : Bool) : Prop :=
  Blk W w.heap.size 67 #[.int .u64 ah, .int .u64 al, .bool s] ∧ Blk W (w.heap.size + 1) 67 #[.int .u64 bh, .int .u64 bl, .bool t] ∧ Blk W (w.heap.size + 1 + 1) 67 #[.int .u64 (0 : Nat), .int .u64 (0 : Nat), .bool false] ∧ w.heap.size + 1 + 1 < W.heap.size ∧ Below w.heap.size w W
theorem PS.start (w : World) (ah al bh bl : Nat) (s t : Bool) : PS w (((w.alloc (.cells #[.int .u64 ah, .int .u64 al, .bool s] 67)).alloc (.cells #[.int .u64 bh, .int .u64 bl, .bool t] 67)).alloc (.cells #[.int .u64 (0 : Nat), .int .u64 (0 : Nat), .bool false] 67)) ah al bh bl s t := by
  refine ⟨((Blk.new w _ _).alloc _).alloc _, ?_, ?_, by simp, (((Below.refl _ w).alloc (Nat.le_refl _) _).alloc (by simp) _).alloc (by simp; omega) _⟩
  · have := (Blk.new (w.alloc (.cells #[.int .u64 ah, .int .u64 al, .bool s] 67)) 67 #[.int .u64 bh, .int .u64 bl, .bool t]).alloc (.cells #[.int .u64 (0 : Nat), .int .u64 (0 : Nat), .bool false] 67)
    rw [World.size_alloc] at this
    exact this
  · have := Blk.new ((w.alloc (.cells #[.int .u64 ah, .int .u64 al, .bool s] 67)).alloc (.cells #[.int .u64 bh, .int .u64 bl, .bool t] 67)) 67 #[.int .u64 (0 : Nat), .int .u64 (0 : Nat), .bool false]
    rw [World.size_alloc, World.size_alloc] at this
    exact this
theorem PS.swap {w W : World} {ah al bh bl : Nat} {s t : Bool} (h : PS w W ah al bh bl s t) : PS w ((((((W.setCell ⟨w.heap.size, 0, none⟩ (.int .u64 bh)).setCell ⟨w.heap.size, 1, none⟩ (.int .u64 bl)).setCell ⟨w.heap.size, 2, none⟩ (.bool t)).setCell ⟨w.heap.size + 1, 0, none⟩ (.int .u64 ah)).setCell
    ⟨w.heap.size + 1, 1, none⟩ (.int .u64 al)).setCell ⟨w.heap.size + 1, 2, none⟩ (.bool s)) bh bl ah al t s := by
  obtain ⟨h1, h2, h3, h4, h7⟩ := h
  have n1 : ∀ i, w.heap.size ≠ (⟨w.heap.size + 1, i, none⟩ : Addr).block := fun i => by show w.heap.size ≠ w.heap.size + 1; omega
  have n2 : ∀ i, w.heap.size + 1 ≠ (⟨w.heap.size, i, none⟩ : Addr).block := fun i => by show w.heap.size + 1 ≠ w.heap.size; omega
  have n3 : ∀ i, w.heap.size + 1 + 1 ≠ (⟨w.heap.size, i, none⟩ : Addr).block := fun i => by show w.heap.size + 1 + 1 ≠ w.heap.size; omega
  have n4 : ∀ i, w.heap.size + 1 + 1 ≠ (⟨w.heap.size + 1, i, none⟩ : Addr).block := fun i => by show w.heap.size + 1 + 1 ≠ w.heap.size + 1; omega
  exact ⟨((((((h1.put 0 _).put 1 _).put 2 _).far (n1 0) _).far (n1 1) _).far (n1 2) _), ((((((h2.far (n2 0) _).far (n2 1) _).far (n2 2) _).put 0 _).put 1 _).put 2 _), ((((((h3.far (n3 0) _).far (n3 1) _).far (n3 2) _).far (n4 0) _).far (n4 1) _).far (n4 2) _), by simpa using h4,
    (((((h7.setCell (by simp) _).setCell (by simp) _).setCell (by simp) _).setCell (by simp) _).setCell (by simp) _).setCell (by simp) _⟩
theorem PS.call {w W W' : World} {ah al bh bl : Nat} {s t : Bool} (h : PS w W ah al bh bl s t) (hb : Below W.heap.size W W') : PS w W' ah al bh bl s t := by
  obtain ⟨h1, h2, h3, h4, h7⟩ := h
  exact ⟨h1.below hb (by omega), h2.below hb (by omega), h3.below hb (by omega), Nat.lt_of_lt_of_le h4 hb.size, h7.trans (hb.mono h7.size)⟩

theorem three_done (w : World) (A B C : Array Value) : Blk (((w.alloc (.cells A 67)).alloc (.cells B 67)).alloc (.cells C 67)) (w.heap.size + 1 + 1) 67 C ∧
    Below w.heap.size w (((w.alloc (.cells A 67)).alloc (.cells B 67)).alloc (.cells C 67)) := by
  refine ⟨?_, (((Below.refl _ w).alloc (Nat.le_refl _) _).alloc (by simp) _).alloc (by simp; omega) _⟩
  have := Blk.new ((w.alloc (.cells A 67)).alloc (.cells B 67)) 67 C
  rw [World.size_alloc, World.size_alloc] at this
  exact this

theorem smB_iff {ah al bh bl : Nat} {x y : Nat} (e2 : x = ah * 18446744073709551616 + al) (f2 : y = bh * 18446744073709551616 + bl) (e3 : al < 18446744073709551616) (f3 : bl < 18446744073709551616) : smB ah al bh bl = decide (x < y) := by
  unfold smB
  rw [Bool.eq_iff_iff]
  simp only [Bool.or_eq_true, Bool.and_eq_true, decide_eq_true_eq]
  omega

theorem fits_any (z : Int) (w : World) (hz : z.natAbs < 340282366920938463463374607431768211456) :
    Calls Tryd.prog 58 #[wideV z] w fun e w' => e = .returned (.bool (decide (z.natAbs ≤ 4611686018427387904))) ∧ Below w.heap.size w w' := by
  obtain ⟨h, l, s, e1, e2, e3, e4, e5⟩ := wide_parts z hz
  rw [e1]
  have hway : (((h : Int) == 0) = false ∧ decide (z.natAbs ≤ 4611686018427387904) = false) ∨ (((h : Int) == 0) = true ∧ decide (z.natAbs ≤ 4611686018427387904) = decide ((l : Int) ≤ 4611686018427387904)) := by
    rcases Nat.eq_zero_or_pos h with k | k
    · right
      subst k
      refine ⟨rfl, ?_⟩
      rw [e2]
      apply decide_eq_decide.2
      omega
    · left
      exact ⟨by simp; omega, decide_eq_false (by omega)⟩
  clear e1 e2 e5 hz
  rcases hway with ⟨k1, k2⟩ | ⟨k1, k2⟩
  all_goals
    have K2 := Lib.hid k2
    clear k2
    go_enter Tryd.func58, Tryd.ntmps58
    go_wp2
    go_ret
    exact ⟨ret_bool K2.out.symm, (Below.refl _ w).alloc (Nat.le_refl _) _⟩

theorem number_any (z : Int) (w : World) (hz : z.natAbs ≤ 4611686018427387904) :
    Calls Tryd.prog 59 #[wideV z] w fun e w' => e = .returned (.int .i64 z) ∧ Below w.heap.size w w' := by
  obtain ⟨h, l, s, e1, e2, e3, e4, e5⟩ := wide_parts z (by omega)
  rw [e1]
  have hl : l ≤ 4611686018427387904 := by omega
  have hzl : z = if s then -(l : Int) else (l : Int) := by
    rw [← e5]
    rcases Int.lt_or_le z 0 with k | k
    · rw [decide_eq_true k]; simp; omega
    · rw [decide_eq_false (by omega : ¬ z < 0)]; simp; omega
  have HZ := Lib.hid hzl
  clear e1 e2 e5 hz hzl
  cases s
  all_goals
    go_enter Tryd.func59, Tryd.ntmps59
    go_wp2
    go_ret
    exact ⟨ret_int (by first | (rw [HZ.out]; rfl) | rw [HZ.out]), (Below.refl _ w).alloc (Nat.le_refl _) _⟩
end Go.Proofs.YtpmndopcemdniaaDoor
