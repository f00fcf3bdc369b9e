/- The reference's Contains and Within answer what the package's do. Conditions: none. -/
import Derived.Test.YteppamchbgnlfaaVal
import Derived.Test.YteppamchbgnlfaaIv9
namespace Go.Proofs.Yteppamchbgnlfaa
open Go.RowKit

theorem rcon_eq (a b c d n m : Int) : rconB a b c d n m = conB a b c d n m := by
  rw [Bool.eq_iff_iff]
  unfold rconB conB inB vIB vB
  rw [decide_eq_true_eq]
  simp only [Bool.and_eq_true, decide_eq_true_eq]
  by_cases hv : vP n m
  · have hp : ptI n m = (n, m, n, m) := if_pos hv
    rw [hp]
    simp only
    constructor
    · rintro ⟨⟨⟨h1, h2⟩, h3⟩, h4⟩
      exact ⟨⟨(vI_self n m).2 hv, h1⟩, h3, h4⟩
    · rintro ⟨⟨h1, h2⟩, h3, h4⟩
      exact ⟨⟨⟨h2, hv⟩, h3⟩, h4⟩
  · have hp : ptI n m = (0, 0, 0, 0) := if_neg hv
    rw [hp]
    simp only
    constructor
    · rintro ⟨⟨⟨h1, h2⟩, h3⟩, h4⟩
      exact absurd h2 hv
    · rintro ⟨⟨h1, h2⟩, h3, h4⟩
      exact absurd h1.1.1 (by decide)
theorem rin_eq (a b c d a' b' c' d' : Int) : rinB a b c d a' b' c' d' = inB a b c d a' b' c' d' := by
  rw [Bool.eq_iff_iff]
  unfold rinB
  rw [rcon_eq, rcon_eq, ← rcon_eq, ← rcon_eq]
  unfold rconB inB vIB vB
  rw [decide_eq_true_eq]
  simp only [Bool.and_eq_true, decide_eq_true_eq]
  constructor
  · rintro ⟨⟨h1, ⟨⟨h2, h3⟩, h4⟩, h5⟩, ⟨⟨h6, h7⟩, h8⟩, h9⟩
    exact ⟨⟨h1, h2⟩, h4, h9⟩
  · rintro ⟨⟨h1, h2⟩, h3, h4⟩
    have k1 := (cmp_le h2.1.1 h1.1.1).1 h3
    have k2 := (cmp_le h1.1.2 h2.1.2).1 h4
    have k3 := (cmp_le h1.1.1 h1.1.2).1 h1.2
    exact ⟨⟨h1, ⟨⟨h2, h1.1.1⟩, h3⟩, (cmp_le h1.1.1 h2.1.2).2 (by grind)⟩, ⟨⟨h2, h1.1.2⟩, (cmp_le h2.1.1 h1.1.2).2 (by grind)⟩, h4⟩
end Go.Proofs.Yteppamchbgnlfaa
