/- The law FracBetween holds. Conditions: the variables as laid; numbers of 64 bits. -/
import Derived.Test.YtkdbffhmnkkbcaaDoorMid
namespace Go.Proofs.YtkdbffhmnkkbcaaDoor
open Go.RowKit

theorem sgn_mul {z k : Int} (hk : 0 < k) : sgn (z * k) = sgn z := by
  unfold sgn
  rcases Int.lt_trichotomy z 0 with h | h | h
  · rw [if_pos (Int.mul_neg_of_neg_of_pos h hk), if_pos h]
  · subst h; simp
  · have := Int.mul_pos h hk
    rw [if_neg (by omega), if_pos this, if_neg (by omega), if_pos h]

/-- The mediant lies between. -/
theorem between_cmp {an ad bn bd mn md k : Int} (ha : vP an ad) (hb : vP bn bd) (hm : vP mn md) (hk : 0 < k) (e1 : an + bn = mn * k) (e2 : ad + bd = md * k) :
    cmpR an ad mn md = cmpR an ad bn bd ∧ cmpR mn md bn bd = cmpR an ad bn bd := by
  unfold cmpR
  rw [if_pos ⟨ha, hm⟩, if_pos ⟨ha, hb⟩, if_pos ⟨hm, hb⟩]
  constructor
  · rw [← sgn_mul (z := an * md - mn * ad) hk, Int.sub_mul, Int.mul_assoc, ← e2, Int.mul_right_comm, ← e1, Int.mul_add, Int.add_mul]
    congr 1; omega
  · rw [← sgn_mul (z := mn * bd - bn * md) hk, Int.sub_mul, Int.mul_right_comm, ← e1, Int.mul_assoc, ← e2, Int.mul_add, Int.add_mul]
    congr 1
    have : bn * ad = ad * bn := Int.mul_comm _ _
    omega

theorem cmp_from (w0 W : World) (hW : Below w0.heap.size w0 W) (an ad bn bd : Int) (ha : vP an ad) (hb : vP bn bd) :
    Calls Tryd.prog 35 #[.agg #[.int .i64 an, .int .i64 ad], .agg #[.int .i64 bn, .int .i64 bd]] W fun e w' => e = .returned (.int .i64 (cmpR an ad bn bd)) ∧ Below w0.heap.size w0 w' :=
  (cmp_any an ad bn bd W (by have := ha.2.2.1; omega) (by have := ha.2.2.2.1; omega) (by have := ha.1; omega) (by have := ha.2.1; omega) (by have := hb.2.2.1; omega) (by have := hb.2.2.2.1; omega) (by have := hb.1; omega) (by have := hb.2.1; omega)).mono fun e w' ⟨he, hB⟩ => ⟨he, below_step hW hB⟩

end Go.Proofs.YtkdbffhmnkkbcaaDoor
