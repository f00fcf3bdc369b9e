/- The reference's small functions over words and fractions: Size, common, New, Valid, short. Conditions: numbers of 64 bits. -/
import Derived.Test.YtpmndopcemdniaaDoorMem
import Derived.Test.YtpmndopcemdniaaDoorFMath
import Derived.Laws.StructEq
import Derived.KernelRfl
import Derived.IntWalk
namespace Go.Proofs.YtpmndopcemdniaaDoor
open Go.RowKit

/-- A result as a value: a fraction and an error. -/
def RV (r : R3) : Value := .tuple #[.agg #[.int .i64 r.1, .int .i64 r.2.1], .int .i64 r.2.2]

theorem feq_walk (a b c d : Int) (w : World) : (Op.equalIn 10000 45 (.agg #[.int .i64 a, .int .i64 b]) (.agg #[.int .i64 c, .int .i64 d])).run Tryd.prog w = .ok (a == c && b == d) w := by
  have tu := Tryd.underlying3
  have ta := Tryd.isAgg3
  have tz := Tryd.sizeOf3
  have hS : Tryd.prog.underlying 45 = some (.struct (Tryd.prog.fieldsOf 45)) := by kernel_rfl
  rw [show (10000 : Nat) = 9999 + 1 from rfl, run_equalIn_agg w 9999 45 _ _ hS (by kernel_rfl)]
  simp only [Program.fieldsOf, Tryd.underlying45]
  go_simp
  by_cases h1 : a = c <;> by_cases h2 : b = d <;> simp [h1, h2]

theorem gcd_round {x y g : Nat} (_hy : 0 < y) (h : Nat.gcd x y = g) : Nat.gcd y (x % y) = g := by
  rw [← h, Nat.gcd_comm x y, Nat.gcd_rec y x, Nat.gcd_comm]

/-- A call that hands back a fraction and an error. -/
theorem ret_frac {fn : Func} {p q : Tmp} (hr : fn.results = #[.cell p 45, .tmp q]) {tmps : Array Value} {w : World} {g : Nat} {n d e : Int} {R : Ending → World → Prop}
    (hp : tmps.getD p undef = .pointer (some ⟨g, 0, none⟩)) (hq : tmps.getD q undef = .int .i64 e) (h : Blk w g 45 #[.int .i64 n, .int .i64 d]) (hR : R (.returned (RV (n, d, e))) w) :
    bodyPost Tryd.prog fn R .ret { tmps := tmps, defers := [] } w := by
  refine bodyPost_ret (v := RV (n, d, e)) ?_ rfl hR
  have hp' : tmps[p]?.getD undef = .pointer (some ⟨g, 0, none⟩) := by simpa using hp
  have hq' : tmps[q]?.getD undef = .int .i64 e := by simpa using hq
  have hl := run_loadVar_row (P := Tryd.prog) w g 45 45 _ (0, 0) _ h Tryd.underlying45 rfl (by kernel_rfl)
  simp [results, hr, hp', hq', asAddr, hl, RV]

theorem gcd_one {n d : Nat} (h : Nat.gcd n d = 1) : n / Nat.gcd n d = n ∧ d / Nat.gcd n d = d := by rw [h, Nat.div_one, Nat.div_one]; exact ⟨rfl, rfl⟩
/-- Valid is exactly: New maps it to itself. -/
theorem vB_new (n d : Int) (hd : 1 ≤ d) : vB n d = (((newR n d).2.2 == 0) && ((n == (newR n d).1) && (d == (newR n d).2.1))) := by
  rw [Bool.eq_iff_iff]
  simp only [vB, decide_eq_true_eq, Bool.and_eq_true, beq_iff_eq]
  have hdf : decide (d < 0) = false := decide_eq_false (by omega)
  constructor
  · rintro ⟨h1, h2, h3, h4, h5⟩
    obtain ⟨g1, g2⟩ := gcd_one h5
    have hl : newR n d = (n, d, 0) := by
      unfold newR lowR
      rw [if_neg (by omega), if_neg (by omega), g1, g2, if_pos (by omega), hdf]
      rcases Int.lt_or_le n 0 with s | s
      · rw [decide_eq_true s]
        simp only [Bool.true_bne, Bool.not_false, if_true]
        refine Prod.ext ?_ (Prod.ext ?_ rfl) <;> simp only [] <;> omega
      · rw [decide_eq_false (by omega : ¬ n < 0)]
        simp only [bne_self_eq_false, Bool.false_eq_true, if_false]
        refine Prod.ext ?_ (Prod.ext ?_ rfl) <;> simp only [] <;> omega
    rw [hl]
    exact ⟨rfl, rfl, rfl⟩
  · rintro ⟨h1, h2, h3⟩
    unfold newR lowR at h1 h2 h3
    rw [if_neg (by omega : ¬ d = 0)] at h1 h2 h3
    by_cases hm : n = -9223372036854775808 ∨ d = -9223372036854775808
    · rw [if_pos hm] at h1; simp at h1
    · rw [if_neg hm] at h1 h2 h3
      by_cases hb : n.natAbs / Nat.gcd n.natAbs d.natAbs ≤ 4611686018427387904 ∧ d.natAbs / Nat.gcd n.natAbs d.natAbs ≤ 4611686018427387904
      · rw [if_pos hb] at h2 h3
        simp only [] at h2 h3
        have hg : 0 < Nat.gcd n.natAbs d.natAbs := Nat.gcd_pos_of_pos_right _ (by omega)
        have e1 : d.natAbs / Nat.gcd n.natAbs d.natAbs = d.natAbs := by omega
        have hg1 : Nat.gcd n.natAbs d.natAbs = 1 := by
          rcases Nat.lt_or_ge 1 (Nat.gcd n.natAbs d.natAbs) with h | h
          · have := Nat.div_lt_self (n := d.natAbs) (by omega) h
            omega
          · omega
        rw [hg1, Nat.div_one, Nat.div_one] at hb
        exact ⟨by omega, by omega, by omega, by omega, hg1⟩
      · rw [if_neg hb] at h1; simp at h1

def shortB (n d : Int) : Bool := decide (n.natAbs ≤ 1073741824) && decide (d ≤ 1073741824)
end Go.Proofs.YtpmndopcemdniaaDoor
