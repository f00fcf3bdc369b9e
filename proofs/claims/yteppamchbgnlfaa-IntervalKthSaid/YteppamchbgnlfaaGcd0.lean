/- The reference's greatest common divisor of two numbers below 2^256, the second not 0. Conditions: as said. -/
import Derived.Test.YteppamchbgnlfaaGcd
namespace Go.Proofs.Yteppamchbgnlfaa
open Go.RowKit

set_option maxRecDepth 100000 in
set_option maxHeartbeats 1000000 in
theorem ngcd_zero (a b : Nat) (w : World) (h0 : a = 0) (ha : a < W8) (hb : b < W8) :
    Calls Try.prog 87 #[NV a, NV b] w fun e w' => e = .returned (NV b) ∧ Below w.heap.size w w' := by
  have Hb := Lib.hid hb
  have e1 := fun W => neq_nv a 0 ha (by decide) W
  rw [decide_eq_true h0] at e1
  clear hb ha h0
  unfold NV at e1 ⊢
  go_enter Try.func87, Try.ntmps87
  go_wp2_with fail
  refine (nfrom_any 0 _ (by omega)).mono ?_
  rintro e w1 ⟨rfl, hB1⟩
  unfold NV
  have hs1 : w.heap.size + 1 + 1 + 1 ≤ w1.heap.size := by have := hB1.size; simpa using this
  have hz0 : w.heap.size < w1.heap.size := by omega
  have hz1 : w.heap.size + 1 < w1.heap.size := by omega
  have hz2 : w.heap.size + 1 + 1 < w1.heap.size := by omega
  have hca : NB w1 w.heap.size (limbs a) := ((((NB.new w a).alloc _).alloc _)).below hB1 (by simp; omega)
  have hcb : NB w1 (w.heap.size + 1) (limbs b) := by
    have := ((NB.new (w.alloc (.cells (nats (limbs a)).toArray 66)) b).alloc (.cells (nats (limbs 0)).toArray 66))
    rw [World.size_alloc] at this
    exact this.below hB1 (by simp)
  have hcr : NB w1 (w.heap.size + 1 + 1) (limbs 0) := by
    have := (NB.new ((w.alloc (.cells (nats (limbs a)).toArray 66)).alloc (.cells (nats (limbs b)).toArray 66)) 0)
    rw [World.size_alloc, World.size_alloc] at this
    exact this.below hB1 (by simp)
  have hB2 : Below w.heap.size w w1 := ((((Below.refl _ w).alloc (Nat.le_refl _) _).alloc (by simp) _).alloc (by simp; omega) _).trans (hB1.mono (by simp; omega))
  obtain ⟨c0, c1, c2, c3, c4, c5, c6, c7⟩ := hca.cells
  obtain ⟨d0, d1, d2, d3, d4, d5, d6, d7⟩ := hcb.cells
  obtain ⟨r0, r1, r2, r3, r4, r5, r6, r7⟩ := hcr.cells
  have hfr := hcr.frozen
  have HR := Lib.hid hcr
  clear hca hcb hcr
  go_wp2
  have hb8 := below_set8 hB2 (show w.heap.size ≤ w.heap.size + 1 + 1 by omega) b
  exact ret_nat (p := 4) (by kernel_rfl) rfl ((HR.out.store8 b).alloc _) ⟨rfl, hb8.alloc hb8.size _⟩

/-- The greatest common divisor, where the second number is not 0. -/
theorem ngcd_any (a b : Nat) (w : World) (ha : a < W8) (hb : b < W8) (hb0 : 0 < b) :
    Calls Try.prog 87 #[NV a, NV b] w fun e w' => e = .returned (NV (Nat.gcd a b)) ∧ Below w.heap.size w w' := by
  rcases Nat.eq_zero_or_pos a with h | h
  · rw [show Nat.gcd a b = b by rw [h, Nat.gcd_zero_left]]
    exact ngcd_zero a b w h ha hb
  · exact ngcd_pos a b w ha hb h hb0
end Go.Proofs.Yteppamchbgnlfaa
