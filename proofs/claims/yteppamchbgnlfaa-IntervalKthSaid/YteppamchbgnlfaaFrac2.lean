/- Package frac: Add and Sub are what the document asks. Conditions: numbers of 64 bits. -/
import Derived.Test.YteppamchbgnlfaaFrac
import Derived.Test.YteppamchbgnlfaaFS
namespace Go.Proofs.Yteppamchbgnlfaa
open Go.RowKit

/-- The numbers that a sum goes through. -/
theorem add_parts {an bn : Int} {AD BD : Nat} (ha : vP an AD) (hb : vP bn BD) :
    ∃ c ar br m g y : Nat, ∃ S q : Int, Nat.gcd AD BD = c ∧ 0 < c ∧ AD / c = ar ∧ BD / c = br ∧ ar ≤ AD ∧ br ≤ BD ∧ an * br + bn * ar = S ∧ S.natAbs % c = m ∧ Nat.gcd m c = g ∧ 0 < g ∧ g ≤ c ∧ c ≤ AD ∧ m < c ∧ S = q * g ∧ BD / g = y ∧ y ≤ BD ∧
      S.natAbs < 340282366920938463463374607431768211456 ∧
      addR an AD bn BD = if q.natAbs ≤ 4611686018427387904 ∧ ((ar : Int) * (y : Int)).natAbs ≤ 4611686018427387904 then (q, (ar : Int) * (y : Int), 0) else (0, 0, 5) := by
  have hA := ha.1
  have hB := hb.1
  have hc0 : 0 < Nat.gcd AD BD := Nat.gcd_pos_of_pos_left _ (by omega)
  have hcA : Nat.gcd AD BD ∣ AD := Nat.gcd_dvd_left _ _
  have hcB : Nat.gcd AD BD ∣ BD := Nat.gcd_dvd_right _ _
  generalize hc : Nat.gcd AD BD = c at *
  obtain ⟨ar, har⟩ := hcA
  obtain ⟨br, hbr⟩ := hcB
  have e1 : AD / c = ar := by rw [har, Nat.mul_div_cancel_left _ hc0]
  have e2 : BD / c = br := by rw [hbr, Nat.mul_div_cancel_left _ hc0]
  have l1 : ar ≤ AD := by rw [← e1]; exact Nat.div_le_self _ _
  have l2 : br ≤ BD := by rw [← e2]; exact Nat.div_le_self _ _
  have lc : c ≤ AD := by rw [← hc]; exact Nat.gcd_le_left _ (by omega)
  obtain ⟨S, hS⟩ : ∃ S, an * (br : Int) + bn * (ar : Int) = S := ⟨_, rfl⟩
  have hgm : Nat.gcd (S.natAbs % c) c = Nat.gcd S.natAbs c := (Nat.gcd_rec c S.natAbs).symm.trans (Nat.gcd_comm _ _)
  have hgc : Nat.gcd S.natAbs c ∣ c := Nat.gcd_dvd_right _ _
  have hgS : Nat.gcd S.natAbs c ∣ S.natAbs := Nat.gcd_dvd_left _ _
  have hg0 : 0 < Nat.gcd S.natAbs c := Nat.gcd_pos_of_pos_right _ hc0
  have hlow := sum_low (an := an) (ad := AD) (bn := bn) (bd := BD) ha hb (c := c) (ar := ar) (br := br) (g := Nat.gcd S.natAbs c) (by simp [hc]) (by rw [har]; push_cast; rw [Int.mul_comm]) (by rw [hbr]; push_cast; rw [Int.mul_comm]) (by rw [hS])
  rw [hS] at hlow
  generalize hg : Nat.gcd S.natAbs c = g at *
  obtain ⟨q, hq⟩ : ∃ q, (g : Int) * q = S := by
    obtain ⟨q, hq⟩ := Int.ofNat_dvd_left.2 hgS
    exact ⟨q, hq.symm⟩
  have hqa : S.natAbs / g = q.natAbs := by rw [← hq, Int.natAbs_mul, Int.natAbs_natCast, Nat.mul_div_cancel_left _ hg0]
  have hsg : decide (S < 0) = decide (q < 0) := by
    apply decide_eq_decide.2
    rw [← hq]
    constructor
    · intro h
      rcases Int.lt_or_le q 0 with k | k
      · exact k
      · have := Int.mul_nonneg (by omega : (0 : Int) ≤ g) k; omega
    · intro h; exact Int.mul_neg_of_pos_of_neg (by omega) h
  refine ⟨c, ar, br, S.natAbs % c, g, BD / g, S, q, rfl, hc0, e1, e2, l1, l2, hS, rfl, hgm, hg0, Nat.le_of_dvd hc0 hgc, lc, Nat.mod_lt _ hc0, by rw [← hq, Int.mul_comm], rfl, Nat.div_le_self _ _, ?_, ?_⟩
  · have h1 : (an * (br : Int)).natAbs ≤ 4611686018427387904 * 4611686018427387904 := by
      rw [Int.natAbs_mul]
      have := ha.2.2.1; have := ha.2.2.2.1; have := hb.2.1
      exact Nat.mul_le_mul (by omega) (by omega)
    have h2 : (bn * (ar : Int)).natAbs ≤ 4611686018427387904 * 4611686018427387904 := by
      rw [Int.natAbs_mul]
      have := hb.2.2.1; have := hb.2.2.2.1; have := ha.2.1
      exact Nat.mul_le_mul (by omega) (by omega)
    rw [← hS]
    omega
  · unfold addR
    rw [if_pos ⟨ha, hb⟩, hlow, hqa, hsg, Int.natAbs_natCast]
    have hy : ((ar : Int) * ((BD / g : Nat) : Int)).natAbs = ar * (BD / g) := by rw [Int.natAbs_mul, Int.natAbs_natCast, Int.natAbs_natCast]
    rw [hy]
    by_cases hb2 : q.natAbs ≤ 4611686018427387904 ∧ ar * (BD / g) ≤ 4611686018427387904
    · rw [if_pos hb2, if_pos hb2]
      rcases Int.lt_or_le q 0 with k | k
      · rw [decide_eq_true k]
        refine Prod.ext ?_ (Prod.ext ?_ rfl)
        · simp only [if_true]; omega
        · push_cast; rfl
      · rw [decide_eq_false (by omega : ¬ q < 0)]
        refine Prod.ext ?_ (Prod.ext ?_ rfl)
        · simp only [Bool.false_eq_true, if_false]; omega
        · push_cast; rfl
    · rw [if_neg hb2, if_neg hb2]

theorem FS.draw {w W : World} {an ad bn bd : Int} (h : FS w W an ad bn bd) (n : Nat) : FS w (W.drewN n) an ad bn bd := ⟨h.1, h.2.1, h.2.2.1, h.2.2.2.1, below_draw h.2.2.2.2 n⟩
theorem valid_way (an ad bn bd : Int) (h : ¬ (vP an ad ∧ vP bn bd)) : vB an ad = false ∨ (vB an ad = true ∧ vB bn bd = false) := by
  by_cases k : vP an ad
  · exact .inr ⟨decide_eq_true k, decide_eq_false (fun h' => h ⟨k, h'⟩)⟩
  · exact .inl (decide_eq_false k)
theorem product_from (w0 W : World) (hW : Below w0.heap.size w0 W) (a b : Int) (a0 : -9223372036854775808 < a) (a1 : a ≤ 9223372036854775807) (b0 : -9223372036854775808 < b) (b1 : b ≤ 9223372036854775807) : Calls Try.prog 71 #[.int .i64 a, .int .i64 b] W fun e w' => e = .returned (wideV (a * b)) ∧ Below w0.heap.size w0 w' :=
  (product_any a b W a0 a1 b0 b1).mono fun _ _ ⟨he, hB⟩ => ⟨he, below_st hW hB⟩
theorem fraction_from (w0 W : World) (hW : Below w0.heap.size w0 W) (n d : Int) (hn : n.natAbs < 340282366920938463463374607431768211456) (hd : d.natAbs < 340282366920938463463374607431768211456) : Calls Try.prog 76 #[wideV n, wideV d] W fun e w' => e = .returned (RV (if n.natAbs ≤ 4611686018427387904 ∧ d.natAbs ≤ 4611686018427387904 then (n, d, 0) else (0, 0, 5))) ∧ Below w0.heap.size w0 w' :=
  (fraction_any n d W hn hd).mono fun _ _ ⟨he, hB⟩ => ⟨he, below_st hW hB⟩

end Go.Proofs.Yteppamchbgnlfaa
