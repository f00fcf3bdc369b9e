/- Wide numbers of package frac: sums, comparisons, quotients. Conditions: the numbers fit in two words. -/
import Derived.Test.YteppamchbgnlfaaWideW
namespace Go.Proofs.Yteppamchbgnlfaa
open Go.RowKit

def smB (ah al bh bl : Nat) : Bool := decide (ah < bh) || (decide (ah = bh) && decide (al < bl))
theorem smaller_any (ah al bh bl : Nat) (s t : Bool) (w : World) :
    Calls Try.prog 92 #[.agg #[.int .u64 ah, .int .u64 al, .bool s], .agg #[.int .u64 bh, .int .u64 bl, .bool t]] w fun e w' => e = .returned (.bool (smB ah al bh bl)) ∧ Below w.heap.size w w' := by
  have hway : (decide (ah < bh) = true ∧ smB ah al bh bl = true) ∨ (decide (ah < bh) = false ∧ ((ah : Int) == (bh : Int)) = false ∧ smB ah al bh bl = false) ∨
      (decide (ah < bh) = false ∧ ((ah : Int) == (bh : Int)) = true ∧ decide (al < bl) = true ∧ smB ah al bh bl = true) ∨
      (decide (ah < bh) = false ∧ ((ah : Int) == (bh : Int)) = true ∧ decide (al < bl) = false ∧ smB ah al bh bl = false) := by
    unfold smB
    rcases Nat.lt_trichotomy ah bh with h | h | h
    · exact .inl ⟨decide_eq_true (by omega), by simp [h]⟩
    · subst h
      rcases Nat.lt_or_ge al bl with k | k
      · exact .inr (.inr (.inl ⟨decide_eq_false (by omega), by simp, decide_eq_true (by omega), by simp [k]⟩))
      · exact .inr (.inr (.inr ⟨decide_eq_false (by omega), by simp, decide_eq_false (by omega), by simp; omega⟩))
    · exact .inr (.inl ⟨decide_eq_false (by omega), by simp; omega, by simp; omega⟩)
  rcases hway with ⟨e1, e⟩ | ⟨e1, e2, e⟩ | ⟨e1, e2, e3, e⟩ | ⟨e1, e2, e3, e⟩
  all_goals
    have E := Lib.hid e
    clear e
    go_enter Try.func92, Try.ntmps92
    go_wp2
    go_ret
    exact ⟨ret_bool E.out.symm, ((Below.refl _ w).alloc (Nat.le_refl _) _).alloc (by simp) _⟩

theorem wide_parts (z : Int) (hz : z.natAbs < 340282366920938463463374607431768211456) : ∃ h l : Nat, ∃ s : Bool, wideV z = .agg #[.int .u64 h, .int .u64 l, .bool s] ∧ z.natAbs = h * 18446744073709551616 + l ∧ l < 18446744073709551616 ∧ h < 18446744073709551616 ∧ decide (z < 0) = s :=
  ⟨_, _, _, rfl, by omega, by omega, by omega, rfl⟩

/-- Three blocks of wide numbers: the receiver, the argument, the result. -/
def PS (w W : World) (ah al bh bl : Nat) (s t : Bool) : Prop :=
  Blk W w.heap.size 71 #[.int .u64 ah, .int .u64 al, .bool s] ∧ Blk W (w.heap.size + 1) 71 #[.int .u64 bh, .int .u64 bl, .bool t] ∧ Blk W (w.heap.size + 1 + 1) 71 #[.int .u64 (0 : Nat), .int .u64 (0 : Nat), .bool false] ∧ w.heap.size + 1 + 1 < W.heap.size ∧ Below w.heap.size w W
theorem PS.start (w : World) (ah al bh bl : Nat) (s t : Bool) : PS w (((w.alloc (.cells #[.int .u64 ah, .int .u64 al, .bool s] 71)).alloc (.cells #[.int .u64 bh, .int .u64 bl, .bool t] 71)).alloc (.cells #[.int .u64 (0 : Nat), .int .u64 (0 : Nat), .bool false] 71)) ah al bh bl s t := by
  refine ⟨((Blk.new w _ _).alloc _).alloc _, ?_, ?_, by simp, (((Below.refl _ w).alloc (Nat.le_refl _) _).alloc (by simp) _).alloc (by simp; omega) _⟩
  · have := (Blk.new (w.alloc (.cells #[.int .u64 ah, .int .u64 al, .bool s] 71)) 71 #[.int .u64 bh, .int .u64 bl, .bool t]).alloc (.cells #[.int .u64 (0 : Nat), .int .u64 (0 : Nat), .bool false] 71)
    rw [World.size_alloc] at this
    exact this
  · have := Blk.new ((w.alloc (.cells #[.int .u64 ah, .int .u64 al, .bool s] 71)).alloc (.cells #[.int .u64 bh, .int .u64 bl, .bool t] 71)) 71 #[.int .u64 (0 : Nat), .int .u64 (0 : Nat), .bool false]
    rw [World.size_alloc, World.size_alloc] at this
    exact this
theorem PS.swap {w W : World} {ah al bh bl : Nat} {s t : Bool} (h : PS w W ah al bh bl s t) : PS w ((((((W.setCell ⟨w.heap.size, 0, none⟩ (.int .u64 bh)).setCell ⟨w.heap.size, 1, none⟩ (.int .u64 bl)).setCell ⟨w.heap.size, 2, none⟩ (.bool t)).setCell ⟨w.heap.size + 1, 0, none⟩ (.int .u64 ah)).setCell
    ⟨w.heap.size + 1, 1, none⟩ (.int .u64 al)).setCell ⟨w.heap.size + 1, 2, none⟩ (.bool s)) bh bl ah al t s := by
  obtain ⟨h1, h2, h3, h4, h7⟩ := h
  have n1 : ∀ i, w.heap.size ≠ (⟨w.heap.size + 1, i, none⟩ : Addr).block := fun i => by show w.heap.size ≠ w.heap.size + 1; omega
  have n2 : ∀ i, w.heap.size + 1 ≠ (⟨w.heap.size, i, none⟩ : Addr).block := fun i => by show w.heap.size + 1 ≠ w.heap.size; omega
  have n3 : ∀ i, w.heap.size + 1 + 1 ≠ (⟨w.heap.size, i, none⟩ : Addr).block := fun i => by show w.heap.size + 1 + 1 ≠ w.heap.size; omega
  have n4 : ∀ i, w.heap.size + 1 + 1 ≠ (⟨w.heap.size + 1, i, none⟩ : Addr).block := fun i => by show w.heap.size + 1 + 1 ≠ w.heap.size + 1; omega
  exact ⟨((((((h1.put 0 _).put 1 _).put 2 _).far (n1 0) _).far (n1 1) _).far (n1 2) _), ((((((h2.far (n2 0) _).far (n2 1) _).far (n2 2) _).put 0 _).put 1 _).put 2 _), ((((((h3.far (n3 0) _).far (n3 1) _).far (n3 2) _).far (n4 0) _).far (n4 1) _).far (n4 2) _), by simpa using h4,
    (((((h7.setCell (by simp) _).setCell (by simp) _).setCell (by simp) _).setCell (by simp) _).setCell (by simp) _).setCell (by simp) _⟩
theorem PS.call {w W W' : World} {ah al bh bl : Nat} {s t : Bool} (h : PS w W ah al bh bl s t) (hb : Below W.heap.size W W') : PS w W' ah al bh bl s t := by
  obtain ⟨h1, h2, h3, h4, h7⟩ := h
  exact ⟨h1.below hb (by omega), h2.below hb (by omega), h3.below hb (by omega), Nat.lt_of_lt_of_le h4 hb.size, h7.trans (hb.mono h7.size)⟩

theorem three_done (w : World) (A B C : Array Value) : Blk (((w.alloc (.cells A 71)).alloc (.cells B 71)).alloc (.cells C 71)) (w.heap.size + 1 + 1) 71 C ∧
    Below w.heap.size w (((w.alloc (.cells A 71)).alloc (.cells B 71)).alloc (.cells C 71)) := by
  refine ⟨?_, (((Below.refl _ w).alloc (Nat.le_refl _) _).alloc (by simp) _).alloc (by simp; omega) _⟩
  have := Blk.new ((w.alloc (.cells A 71)).alloc (.cells B 71)) 71 C
  rw [World.size_alloc, World.size_alloc] at this
  exact this

set_option maxRecDepth 100000 in
set_option maxHeartbeats 2000000 in
/-- The sum where the signs are equal. -/
theorem plus_same (x y : Int) (w : World) (hb : x.natAbs + y.natAbs < 340282366920938463463374607431768211456) (hs : decide (x < 0) = decide (y < 0)) :
    Calls Try.prog 72 #[wideV x, wideV y] w fun e w' => e = .returned (wideV (x + y)) ∧ Below w.heap.size w w' := by
  obtain ⟨ah, al, s, e1, e2, e3, e4, e5⟩ := wide_parts x (by omega)
  obtain ⟨bh, bl, t, f1, f2, f3, f4, f5⟩ := wide_parts y (by omega)
  have hst : s = t := by rw [← e5, ← f5, hs]
  subst hst
  have hsum : (x + y).natAbs = x.natAbs + y.natAbs := by
    rcases Int.lt_or_le x 0 with h | h
    · have : y < 0 := by
        rw [decide_eq_true h] at hs; exact of_decide_eq_true hs.symm
      omega
    · have : 0 ≤ y := by
        rw [decide_eq_false (by omega : ¬ x < 0)] at hs
        have := of_decide_eq_false hs.symm
        omega
      omega
  obtain ⟨k, hk⟩ : ∃ k, (al + bl) / 18446744073709551616 = k := ⟨_, rfl⟩
  obtain ⟨lo, hlo⟩ : ∃ lo, (al + bl) % 18446744073709551616 = lo := ⟨_, rfl⟩
  have g1 := fun W => add64_run0 al bl lo k (by omega) (by omega) W
  have g2 := fun W => add64_run ah bh k (ah + bh + k) 0 (by omega) (by omega) (by omega) W
  have hzs : s = decide (x + y < 0) ∨ x + y = 0 := by
    rw [← e5]
    rcases Int.lt_or_le x 0 with h | h
    · left
      have : x + y < 0 := by rw [e5] at hs; rw [← e5] at hs; rw [decide_eq_true h] at hs; have := of_decide_eq_true hs.symm; omega
      rw [decide_eq_true h, decide_eq_true this]
    · left
      have : ¬ x + y < 0 := by rw [decide_eq_false (by omega : ¬ x < 0)] at hs; have := of_decide_eq_false hs.symm; omega
      rw [decide_eq_false (by omega : ¬ x < 0), decide_eq_false this]
  have hres : wideV (x + y) = .agg #[.int .u64 (ah + bh + k : Nat), .int .u64 (lo : Nat), .bool s] := by
    refine wide_of (by rw [hsum]; omega) (by omega) ?_
    rcases hzs with h | h
    · exact h.symm
    · have h1 : x = 0 := by omega
      rw [← e5, h, h1]
  rw [e1, f1, hres]
  obtain ⟨hi, hhi⟩ : ∃ hi, ah + bh + k = hi := ⟨_, rfl⟩
  rw [hhi] at g2 ⊢
  have hst := PS.start w ah al bh bl s s
  have HS := Lib.hid hst
  clear hst hres hhi hk hlo e1 f1 e2 e3 e4 e5 f2 f3 f4 f5 hsum hzs hs hb
  go_enter Try.func72, Try.ntmps72
  obtain ⟨h1, h2, h3, h4, h5⟩ := HS.out
  have hf := h3.frozen
  go_wp2_with (first | simp only [g1] | simp only [g2])
  obtain ⟨k1, k2⟩ := three_done w #[.int .u64 ah, .int .u64 al, .bool s] #[.int .u64 bh, .int .u64 bl, .bool s] #[.int .u64 hi, .int .u64 lo, .bool s]
  exact ret_wide (p := 4) (by kernel_rfl) rfl k1 ⟨rfl, k2⟩

/-- How the difference of two words pairs is found: the greater first. -/
theorem diff_parts {x y : Int} {ah al bh bl : Nat} (e2 : x.natAbs = ah * 18446744073709551616 + al) (f2 : y.natAbs = bh * 18446744073709551616 + bl) (e3 : al < 18446744073709551616) (f3 : bl < 18446744073709551616) (e4 : ah < 18446744073709551616)
    (hxy : y.natAbs ≤ x.natAbs) (hs : decide (x < 0) ≠ decide (y < 0)) :
    ∃ lo k hi : Nat, (∀ W, (callFunc 93 #[.int .u64 al, .int .u64 bl, .int .u64 0]).run Try.prog W = .ok (.value (.tuple #[.int .u64 lo, .int .u64 k])) W) ∧
      (∀ W, (callFunc 93 #[.int .u64 ah, .int .u64 bh, .int .u64 k]).run Try.prog W = .ok (.value (.tuple #[.int .u64 hi, .int .u64 (0 : Nat)])) W) ∧
      (x + y).natAbs = hi * 18446744073709551616 + lo ∧ lo < 18446744073709551616 ∧ (x + y ≠ 0 → decide (x < 0) = decide (x + y < 0)) := by
  have hsum : (x + y).natAbs + y.natAbs = x.natAbs ∧ (x + y ≠ 0 → decide (x < 0) = decide (x + y < 0)) := by
    rcases Int.lt_or_le x 0 with h | h <;> rcases Int.lt_or_le y 0 with k | k
    · exact absurd (by rw [decide_eq_true h, decide_eq_true k]) hs
    · refine ⟨by omega, fun h0 => ?_⟩
      rw [decide_eq_true h, decide_eq_true (by omega : x + y < 0)]
    · refine ⟨by omega, fun h0 => ?_⟩
      rw [decide_eq_false (by omega : ¬ x < 0), decide_eq_false (by omega : ¬ x + y < 0)]
    · exact absurd (by rw [decide_eq_false (by omega : ¬ x < 0), decide_eq_false (by omega : ¬ y < 0)]) hs
  rcases Nat.lt_or_ge al bl with hc | hc
  · exact ⟨al + 18446744073709551616 - bl, 1, ah - bh - 1, fun W => sub64_run0 al bl _ 1 (by omega) (by omega) (by rw [if_pos hc]) W, fun W => sub64_run ah bh 1 _ 0 (by omega) (by omega) (by omega) (by rw [if_neg (by omega)]) W, by omega, by omega, hsum.2⟩
  · exact ⟨al - bl, 0, ah - bh, fun W => sub64_run0 al bl _ 0 (by omega) (by omega) (by rw [if_neg (by omega)]) W, fun W => sub64_run ah bh 0 _ 0 (by omega) (by omega) (by omega) (by rw [if_neg (by omega)]) W, by omega, by omega, hsum.2⟩
theorem smB_iff {ah al bh bl : Nat} {x y : Nat} (e2 : x = ah * 18446744073709551616 + al) (f2 : y = bh * 18446744073709551616 + bl) (e3 : al < 18446744073709551616) (f3 : bl < 18446744073709551616) : smB ah al bh bl = decide (x < y) := by
  unfold smB
  rw [Bool.eq_iff_iff]
  simp only [Bool.or_eq_true, Bool.and_eq_true, decide_eq_true_eq]
  omega

set_option maxRecDepth 100000 in
set_option maxHeartbeats 2000000 in
/-- The sum where the signs differ. -/
theorem plus_diff (x y : Int) (w : World) (hb : x.natAbs + y.natAbs < 340282366920938463463374607431768211456) (hs : decide (x < 0) ≠ decide (y < 0)) :
    Calls Try.prog 72 #[wideV x, wideV y] w fun e w' => e = .returned (wideV (x + y)) ∧ Below w.heap.size w w' := by
  obtain ⟨ah, al, s, e1, e2, e3, e4, e5⟩ := wide_parts x (by omega)
  obtain ⟨bh, bl, t, f1, f2, f3, f4, f5⟩ := wide_parts y (by omega)
  have hst : (s == t) = false := by rw [← e5, ← f5]; simpa using hs
  have hsm := smB_iff e2 f2 e3 f3
  rw [e1, f1]
  obtain ⟨z, hz⟩ : ∃ z, x + y = z := ⟨_, rfl⟩
  have HST := PS.start w ah al bh bl s t
  rcases Nat.lt_or_ge x.natAbs y.natAbs with hlt | hge
  · obtain ⟨lo, k, hi, g1, g2, d1, d2, d3⟩ := diff_parts f2 e2 f3 e3 f4 (by omega) (fun h => hs h.symm)
    rw [Int.add_comm, hz] at d1 d3
    rw [hz]
    rw [decide_eq_true hlt] at hsm
    rw [f5] at d3
    have D1 := Lib.hid d1
    have D2 := Lib.hid d2
    have D3 := Lib.hid d3
    have HS := Lib.hid HST
    clear HST hlt d1 d2 d3 hz e1 f1 e2 e3 e4 e5 f2 f3 f4 f5 hs hb
    have HSM := Lib.hid hsm
    clear hsm
    go_enter Try.func72, Try.ntmps72
    go_wp2_with fail
    refine (smaller_any ah al bh bl s t _).mono ?_
    rintro e w1 ⟨rfl, hB⟩
    rw [HSM.out]
    have h1 := HS.out.call hB
    have HS1 := Lib.hid h1
    obtain ⟨p1, p2, p3, p4, p5⟩ := h1
    have a0 := p1.cell 0
    have a1 := p1.cell 1
    have a2 := p1.cell 2
    have af := p1.frozen
    have b0 := p2.cell 0
    have b1 := p2.cell 1
    have b2 := p2.cell 2
    have bf := p2.frozen
    simp at a0 a1 a2 b0 b1 b2
    clear p1 p2 p3 p5 hB
    go_wp2_with (first | simp only | simp only [g2])
    refine (normal_wide z hi lo t _ D1.out D2.out D3.out).mono ?_
    rintro e w2 ⟨rfl, hB⟩
    unfold wideV
    have h2 := HS1.out.swap.call hB
    have hB2 := h2.2.2.2.2
    have hR := Lib.hid h2.2.2.1
    have r0 := h2.2.2.1.cell 0
    have r1 := h2.2.2.1.cell 1
    have r2 := h2.2.2.1.cell 2
    have rf := h2.2.2.1.frozen
    simp at r0 r1 r2
    clear h2 hB
    go_wp2
    exact ret_wide (p := 4) (by kernel_rfl) rfl (((hR.out.put 0 _).put 1 _).put 2 _) ⟨rfl, ((hB2.setCell (by simp; omega) _).setCell (by simp; omega) _).setCell (by simp; omega) _⟩
  · obtain ⟨lo, k, hi, g1, g2, d1, d2, d3⟩ := diff_parts e2 f2 e3 f3 e4 hge hs
    rw [hz] at d1 d3
    rw [hz]
    rw [decide_eq_false (by omega)] at hsm
    rw [e5] at d3
    have D1 := Lib.hid d1
    have D2 := Lib.hid d2
    have D3 := Lib.hid d3
    have HS := Lib.hid HST
    clear HST hge d1 d2 d3 hz e1 f1 e2 e3 e4 e5 f2 f3 f4 f5 hs hb
    have HSM := Lib.hid hsm
    clear hsm
    go_enter Try.func72, Try.ntmps72
    go_wp2_with fail
    refine (smaller_any ah al bh bl s t _).mono ?_
    rintro e w1 ⟨rfl, hB⟩
    rw [HSM.out]
    have h1 := HS.out.call hB
    have HS1 := Lib.hid h1
    obtain ⟨p1, p2, p3, p4, p5⟩ := h1
    have a0 := p1.cell 0
    have a1 := p1.cell 1
    have a2 := p1.cell 2
    have b0 := p2.cell 0
    have b1 := p2.cell 1
    have b2 := p2.cell 2
    simp at a0 a1 a2 b0 b1 b2
    clear p1 p2 p3 p5 hB
    go_wp2_with (first | simp only | simp only [g2])
    refine (normal_wide z hi lo s _ D1.out D2.out D3.out).mono ?_
    rintro e w2 ⟨rfl, hB⟩
    unfold wideV
    have h2 := HS1.out.call hB
    have hB2 := h2.2.2.2.2
    have hR := Lib.hid h2.2.2.1
    have r0 := h2.2.2.1.cell 0
    have r1 := h2.2.2.1.cell 1
    have r2 := h2.2.2.1.cell 2
    have rf := h2.2.2.1.frozen
    simp at r0 r1 r2
    clear h2 hB
    go_wp2
    exact ret_wide (p := 4) (by kernel_rfl) rfl (((hR.out.put 0 _).put 1 _).put 2 _) ⟨rfl, ((hB2.setCell (by simp; omega) _).setCell (by simp; omega) _).setCell (by simp; omega) _⟩

theorem plus_any (x y : Int) (w : World) (hb : x.natAbs + y.natAbs < 340282366920938463463374607431768211456) :
    Calls Try.prog 72 #[wideV x, wideV y] w fun e w' => e = .returned (wideV (x + y)) ∧ Below w.heap.size w w' := by
  by_cases hs : decide (x < 0) = decide (y < 0)
  · exact plus_same x y w hb hs
  · exact plus_diff x y w hb hs

set_option maxRecDepth 100000 in
theorem sop_any (a b c d : Int) (w : World) (a0 : -4611686018427387904 ≤ a) (a1 : a ≤ 4611686018427387904) (b0 : -4611686018427387904 ≤ b) (b1 : b ≤ 4611686018427387904) (c0 : -4611686018427387904 ≤ c) (c1 : c ≤ 4611686018427387904) (d0 : -4611686018427387904 ≤ d) (d1 : d ≤ 4611686018427387904) :
    Calls Try.prog 55 #[.int .i64 a, .int .i64 b, .int .i64 c, .int .i64 d] w fun e w' => e = .returned (wideV (a * b + c * d)) ∧ Below w.heap.size w w' := by
  have hb : (a * b).natAbs + (c * d).natAbs < 340282366920938463463374607431768211456 := by
    rw [Int.natAbs_mul, Int.natAbs_mul]
    have h1 : a.natAbs * b.natAbs ≤ 4611686018427387904 * 4611686018427387904 := Nat.mul_le_mul (by omega) (by omega)
    have h2 : c.natAbs * d.natAbs ≤ 4611686018427387904 * 4611686018427387904 := Nat.mul_le_mul (by omega) (by omega)
    omega
  have HB := Lib.hid hb
  clear hb
  go_enter Try.func55, Try.ntmps55
  go_wp2_with fail
  refine (product_any a b _ (by omega) (by omega) (by omega) (by omega)).mono ?_
  rintro e w1 ⟨rfl, hB1⟩
  go_wp2_with fail
  refine (product_any c d _ (by omega) (by omega) (by omega) (by omega)).mono ?_
  rintro e w2 ⟨rfl, hB2⟩
  go_wp2_with fail
  refine (plus_any (a * b) (c * d) _ HB.out).mono ?_
  rintro e w3 ⟨rfl, hB3⟩
  unfold wideV
  have hB := hB1.trans ((hB2.trans (hB3.mono hB2.size)).mono hB1.size)
  have hz0 : w.heap.size < w3.heap.size := by have := hB.size; simp at this; omega
  have hR := (Blk.new w 71 #[.int .u64 0, .int .u64 0, .bool false]).below hB (by simp)
  have q0 := hR.cell 0
  have q1 := hR.cell 1
  have q2 := hR.cell 2
  have qf := hR.frozen
  simp at q0 q1 q2
  have HR := Lib.hid hR
  have hB4 := ((Below.refl _ w).alloc (Nat.le_refl _) _).trans (hB.mono (by simp))
  clear hR hB hB1 hB2 hB3
  go_wp2
  exact ret_wide (p := 8) (by kernel_rfl) rfl (((HR.out.put 0 _).put 1 _).put 2 _) ⟨rfl, ((hB4.setCell (by simp) _).setCell (by simp) _).setCell (by simp) _⟩

theorem fits_any (z : Int) (w : World) (hz : z.natAbs < 340282366920938463463374607431768211456) :
    Calls Try.prog 94 #[wideV z] w fun e w' => e = .returned (.bool (decide (z.natAbs ≤ 4611686018427387904))) ∧ Below w.heap.size w w' := by
  obtain ⟨h, l, s, e1, e2, e3, e4, e5⟩ := wide_parts z hz
  rw [e1]
  have hway : (((h : Int) == 0) = false ∧ decide (z.natAbs ≤ 4611686018427387904) = false) ∨ (((h : Int) == 0) = true ∧ decide (z.natAbs ≤ 4611686018427387904) = decide ((l : Int) ≤ 4611686018427387904)) := by
    rcases Nat.eq_zero_or_pos h with k | k
    · right
      subst k
      refine ⟨rfl, ?_⟩
      rw [e2]
      apply decide_eq_decide.2
      omega
    · left
      exact ⟨by simp; omega, decide_eq_false (by omega)⟩
  clear e1 e2 e5 hz
  rcases hway with ⟨k1, k2⟩ | ⟨k1, k2⟩
  all_goals
    have K2 := Lib.hid k2
    clear k2
    go_enter Try.func94, Try.ntmps94
    go_wp2
    go_ret
    exact ⟨ret_bool K2.out.symm, (Below.refl _ w).alloc (Nat.le_refl _) _⟩

theorem number_any (z : Int) (w : World) (hz : z.natAbs ≤ 4611686018427387904) :
    Calls Try.prog 95 #[wideV z] w fun e w' => e = .returned (.int .i64 z) ∧ Below w.heap.size w w' := by
  obtain ⟨h, l, s, e1, e2, e3, e4, e5⟩ := wide_parts z (by omega)
  rw [e1]
  have hl : l ≤ 4611686018427387904 := by omega
  have hzl : z = if s then -(l : Int) else (l : Int) := by
    rw [← e5]
    rcases Int.lt_or_le z 0 with k | k
    · rw [decide_eq_true k]; simp; omega
    · rw [decide_eq_false (by omega : ¬ z < 0)]; simp; omega
  have HZ := Lib.hid hzl
  clear e1 e2 e5 hz hzl
  cases s
  all_goals
    go_enter Try.func95, Try.ntmps95
    go_wp2
    go_ret
    exact ⟨ret_int (by first | (rw [HZ.out]; rfl) | rw [HZ.out]), (Below.refl _ w).alloc (Nat.le_refl _) _⟩
end Go.Proofs.Yteppamchbgnlfaa
