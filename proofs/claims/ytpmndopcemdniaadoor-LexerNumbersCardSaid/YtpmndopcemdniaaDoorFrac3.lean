/- Package frac: Mul, Div and Compare are what the document asks. Conditions: numbers of 64 bits. -/
import Derived.Test.YtpmndopcemdniaaDoorFrac2
namespace Go.Proofs.YtpmndopcemdniaaDoor
open Go.RowKit

theorem tdiv_nat {a : Int} {g : Nat} (hg : g ∣ a.natAbs) (hg0 : 0 < g) : a.tdiv g * g = a ∧ (a.tdiv g).natAbs = a.natAbs / g := by
  obtain ⟨k, hk⟩ := Int.ofNat_dvd_left.2 hg
  have e : a.tdiv g = k := by rw [hk, Int.mul_comm]; exact Int.mul_tdiv_cancel _ (by omega)
  rw [e]
  refine ⟨by rw [hk, Int.mul_comm], ?_⟩
  rw [hk, Int.natAbs_mul, Int.natAbs_natCast, Nat.mul_div_cancel_left _ hg0]

theorem fs_cells {w W : World} {an ad bn bd : Int} (h : FS w W an ad bn bd) : W.cell? ⟨w.heap.size, 0, none⟩ = some (.int .i64 an) ∧ W.cell? ⟨w.heap.size, 1, none⟩ = some (.int .i64 ad) ∧ W.cell? ⟨w.heap.size + 1, 0, none⟩ = some (.int .i64 bn) ∧ W.cell? ⟨w.heap.size + 1, 1, none⟩ = some (.int .i64 bd) :=
  ⟨h.1.cell 0, h.1.cell 1, h.2.1.cell 0, h.2.1.cell 1⟩
theorem fs_put {w W : World} {an ad bn bd : Int} (h : W.cell? ⟨w.heap.size, 0, none⟩ = some (.int .i64 an) ∧ W.cell? ⟨w.heap.size, 1, none⟩ = some (.int .i64 ad) ∧ W.cell? ⟨w.heap.size + 1, 0, none⟩ = some (.int .i64 bn) ∧ W.cell? ⟨w.heap.size + 1, 1, none⟩ = some (.int .i64 bd)) (x y : Value) :
    ((W.setCell ⟨w.heap.size + 1 + 1, 0, none⟩ x).setCell ⟨w.heap.size + 1 + 1, 1, none⟩ y).cell? ⟨w.heap.size, 0, none⟩ = some (.int .i64 an) ∧ ((W.setCell ⟨w.heap.size + 1 + 1, 0, none⟩ x).setCell ⟨w.heap.size + 1 + 1, 1, none⟩ y).cell? ⟨w.heap.size, 1, none⟩ = some (.int .i64 ad) ∧
      ((W.setCell ⟨w.heap.size + 1 + 1, 0, none⟩ x).setCell ⟨w.heap.size + 1 + 1, 1, none⟩ y).cell? ⟨w.heap.size + 1, 0, none⟩ = some (.int .i64 bn) ∧ ((W.setCell ⟨w.heap.size + 1 + 1, 0, none⟩ x).setCell ⟨w.heap.size + 1 + 1, 1, none⟩ y).cell? ⟨w.heap.size + 1, 1, none⟩ = some (.int .i64 bd) := by
  have f : ∀ (W : World) (b i j : Nat) (u : Value), b ≠ w.heap.size + 1 + 1 → (W.setCell ⟨w.heap.size + 1 + 1, i, none⟩ u).cell? ⟨b, j, none⟩ = W.cell? ⟨b, j, none⟩ := fun W b i j u hb => World.cell?_setCell_far _ _ _ _ (fun e => hb e.symm)
  refine ⟨?_, ?_, ?_, ?_⟩
  · rw [f _ _ _ _ _ (by omega), f _ _ _ _ _ (by omega)]; exact h.1
  · rw [f _ _ _ _ _ (by omega), f _ _ _ _ _ (by omega)]; exact h.2.1
  · rw [f _ _ _ _ _ (by omega), f _ _ _ _ _ (by omega)]; exact h.2.2.1
  · rw [f _ _ _ _ _ (by omega), f _ _ _ _ _ (by omega)]; exact h.2.2.2
theorem mul_parts {an bn : Int} {AD BD : Nat} (ha : vP an AD) (hb : vP bn BD) :
    ∃ g h y1 y2 : Nat, ∃ x1 x2 : Int, Nat.gcd an.natAbs BD = g ∧ Nat.gcd bn.natAbs AD = h ∧ 0 < g ∧ 0 < h ∧ g ≤ BD ∧ h ≤ AD ∧ an.tdiv g = x1 ∧ bn.tdiv h = x2 ∧ AD / h = y1 ∧ BD / g = y2 ∧ x1.natAbs ≤ an.natAbs ∧ x2.natAbs ≤ bn.natAbs ∧ y1 ≤ AD ∧ y2 ≤ BD ∧
      mulR an AD bn BD = if (x1 * x2).natAbs ≤ 4611686018427387904 ∧ ((y1 : Int) * (y2 : Int)).natAbs ≤ 4611686018427387904 then (x1 * x2, (y1 : Int) * (y2 : Int), 0) else (0, 0, 5) := by
  have hA := ha.1
  have hB := hb.1
  have hlow := prod_low ha hb (g := Nat.gcd an.natAbs BD) (h := Nat.gcd bn.natAbs AD) (by simp) (by simp)
  have hg0 : 0 < Nat.gcd an.natAbs BD := Nat.gcd_pos_of_pos_right _ (by omega)
  have hh0 : 0 < Nat.gcd bn.natAbs AD := Nat.gcd_pos_of_pos_right _ (by omega)
  obtain ⟨t1, t2⟩ := tdiv_nat (Nat.gcd_dvd_left an.natAbs BD) hg0
  obtain ⟨t3, t4⟩ := tdiv_nat (Nat.gcd_dvd_left bn.natAbs AD) hh0
  refine ⟨_, _, _, _, _, _, rfl, rfl, hg0, hh0, Nat.gcd_le_right _ (by omega), Nat.gcd_le_right _ (by omega), rfl, rfl, rfl, rfl, by rw [t2]; exact Nat.div_le_self _ _, by rw [t4]; exact Nat.div_le_self _ _, Nat.div_le_self _ _, Nat.div_le_self _ _, ?_⟩
  unfold mulR
  rw [if_pos ⟨ha, hb⟩, hlow, Int.natAbs_natCast, Int.natAbs_natCast]
  generalize Nat.gcd an.natAbs BD = g at *
  generalize Nat.gcd bn.natAbs AD = h at *
  generalize an.tdiv g = x1 at *
  generalize bn.tdiv h = x2 at *
  rw [← t2, ← t4, Int.natAbs_mul, Int.natAbs_mul, Int.natAbs_natCast, Int.natAbs_natCast]
  have hsg : decide (an * bn < 0) = decide (x1 * x2 < 0) := by
    apply decide_eq_decide.2
    have e : an * bn = x1 * x2 * ((g : Int) * (h : Int)) := by rw [← t1, ← t3]; simp only [Int.mul_assoc, Int.mul_left_comm]
    have hp : (0 : Int) < (g : Int) * (h : Int) := Int.mul_pos (by omega) (by omega)
    rw [e]
    constructor
    · intro k
      rcases Int.lt_or_le (x1 * x2) 0 with j | j
      · exact j
      · have := Int.mul_nonneg j (Int.le_of_lt hp); omega
    · intro k; exact Int.mul_neg_of_neg_of_pos k hp
  rw [hsg]
  by_cases hb2 : x1.natAbs * x2.natAbs ≤ 4611686018427387904 ∧ AD / h * (BD / g) ≤ 4611686018427387904
  · rw [if_pos hb2, if_pos hb2]
    have e : ((x1.natAbs * x2.natAbs : Nat) : Int) = ((x1 * x2).natAbs : Int) := by rw [Int.natAbs_mul]
    rcases Int.lt_or_le (x1 * x2) 0 with k | k
    · rw [decide_eq_true k]
      refine Prod.ext ?_ (Prod.ext ?_ rfl)
      · simp only [if_true]; rw [e]; omega
      · push_cast; rfl
    · rw [decide_eq_false (by omega : ¬ x1 * x2 < 0)]
      refine Prod.ext ?_ (Prod.ext ?_ rfl)
      · simp only [Bool.false_eq_true, if_false]; rw [e]; omega
      · push_cast; rfl
  · rw [if_neg hb2, if_neg hb2]

end Go.Proofs.YtpmndopcemdniaaDoor
