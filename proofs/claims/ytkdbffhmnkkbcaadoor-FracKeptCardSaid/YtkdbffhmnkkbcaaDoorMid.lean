/- The reference's small fractions: Around and Middle. Conditions: numbers of 64 bits. -/
import Derived.Test.YtkdbffhmnkkbcaaDoorLawNew
namespace Go.Proofs.YtkdbffhmnkkbcaaDoor
open Go.RowKit

def aroundI (n most : Int) : Int := (if n < 0 then -(n + 1) else n) % most
theorem aroundI_lo (n most : Int) (h : 1 ≤ most) : 0 ≤ aroundI n most := Int.emod_nonneg _ (by omega)
theorem aroundI_hi (n most : Int) (h : 1 ≤ most) : aroundI n most < most := Int.emod_lt_of_pos _ (by omega)

theorem around_any (n most : Int) (w : World) (h1 : -9223372036854775808 ≤ n) (h2 : n ≤ 9223372036854775807) (h3 : 1 ≤ most) (h4 : most ≤ 9223372036854775807) :
    Calls Tryd.prog 18 #[.int .i64 n, .int .i64 most] w fun e w' => e = .returned (.int .i64 (aroundI n most)) ∧ w = w' := by
  by_cases hn : n < 0
  · have ha : aroundI n most = (-(n + 1)) % most := by unfold aroundI; rw [if_pos hn]
    have Ha := Lib.hid ha
    clear ha
    go_enter Tryd.func18, Tryd.ntmps18
    go_wp2
    go_ret
    exact ⟨ret_int (by rw [Ha.out, ← Int.neg_tmod, Int.tmod_eq_emod_of_nonneg (by omega)]), rfl⟩
  · have ha : aroundI n most = n % most := by unfold aroundI; rw [if_neg hn]
    have Ha := Lib.hid ha
    clear ha
    go_enter Tryd.func18, Tryd.ntmps18
    go_wp2
    go_ret
    exact ⟨ret_int Ha.out.symm, rfl⟩

/-- A positive denominator within the bounds: New's result, and by what it was shortened. -/
theorem new_small {n d : Int} (hd : 0 < d) (hd1 : d ≤ 4611686018427387904) (hn : n.natAbs ≤ 4611686018427387904) :
    ∃ r1 r2 k : Int, newR n d = (r1, r2, 0) ∧ vP r1 r2 ∧ 0 < k ∧ n = r1 * k ∧ d = r2 * k ∧ r1.natAbs ≤ n.natAbs ∧ r2 ≤ d := by
  have hg : 0 < Nat.gcd n.natAbs d.natAbs := Nat.gcd_pos_of_pos_right _ (by omega)
  have e1 : n.natAbs / Nat.gcd n.natAbs d.natAbs * Nat.gcd n.natAbs d.natAbs = n.natAbs := Nat.div_mul_cancel (Nat.gcd_dvd_left _ _)
  have e2 : d.natAbs / Nat.gcd n.natAbs d.natAbs * Nat.gcd n.natAbs d.natAbs = d.natAbs := Nat.div_mul_cancel (Nat.gcd_dvd_right _ _)
  have l1 : n.natAbs / Nat.gcd n.natAbs d.natAbs ≤ n.natAbs := Nat.div_le_self _ _
  have l2 : d.natAbs / Nat.gcd n.natAbs d.natAbs ≤ d.natAbs := Nat.div_le_self _ _
  have hdf : decide (d < 0) = false := decide_eq_false (by omega)
  obtain ⟨x, hx⟩ : ∃ x, n.natAbs / Nat.gcd n.natAbs d.natAbs = x := ⟨_, rfl⟩
  obtain ⟨y, hy⟩ : ∃ y, d.natAbs / Nat.gcd n.natAbs d.natAbs = y := ⟨_, rfl⟩
  have hr : newR n d = ((if (decide (n < 0) != decide (d < 0)) then -(x : Int) else (x : Int)), (y : Int), 0) := by
    unfold newR lowR
    rw [if_neg (by omega), if_neg (by omega), hx, hy, if_pos (by omega)]
  have hv := newR_good hr
  refine ⟨_, _, ((Nat.gcd n.natAbs d.natAbs : Nat) : Int), hr, hv, by omega, ?_, ?_, ?_, by omega⟩
  · rw [hx] at e1
    have e3 : (x : Int) * ((Nat.gcd n.natAbs d.natAbs : Nat) : Int) = (n.natAbs : Int) := by rw [← Int.natCast_mul, e1]
    rw [hdf]
    rcases Int.lt_or_le n 0 with s | s
    · rw [decide_eq_true s]; simp only [Bool.true_bne, Bool.not_false, if_true]; rw [Int.neg_mul, e3]; omega
    · rw [decide_eq_false (by omega : ¬ n < 0)]; simp only [bne_self_eq_false, Bool.false_eq_true, if_false]; rw [e3]; omega
  · rw [hy] at e2
    have e3 : (y : Int) * ((Nat.gcd n.natAbs d.natAbs : Nat) : Int) = (d.natAbs : Int) := by rw [← Int.natCast_mul, e2]
    rw [e3]; omega
  · split <;> omega

theorem ret_one {fn : Func} {p : Tmp} (hr : fn.results = #[.cell p 24]) {tmps : Array Value} {w : World} {g : Nat} {n d : Int} {R : Ending → World → Prop}
    (hp : tmps.getD p undef = .pointer (some ⟨g, 0, none⟩)) (h : Blk w g 24 #[.int .i64 n, .int .i64 d]) (hR : R (.returned (.agg #[.int .i64 n, .int .i64 d])) w) :
    bodyPost Tryd.prog fn R .ret { tmps := tmps, defers := [] } w := by
  refine bodyPost_ret (v := .agg #[.int .i64 n, .int .i64 d]) ?_ rfl hR
  have hp' : tmps[p]?.getD undef = .pointer (some ⟨g, 0, none⟩) := by simpa using hp
  have hl := run_loadVar_row (P := Tryd.prog) w g 24 24 _ (0, 0) _ h Tryd.underlying24 rfl (by kernel_rfl)
  simp [results, hr, hp', asAddr, hl]

end Go.Proofs.YtkdbffhmnkkbcaaDoor
