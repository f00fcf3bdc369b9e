/- math/bits.Div64 and Rem64. Conditions: the divisor is greater than the upper half (Div64), not 0 (Rem64). -/
import Derived.Lib.ItoaNum
import Derived.Test.YteppamchbgnlfaaMem
import Derived.Test.YteppamchbgnlfaaDMath
import Derived.Test.YteppamchbgnlfaaShelf
import Derived.Deep.LoopGhost
namespace Go.Proofs.Yteppamchbgnlfaa
open Go.RowKit

theorem wrap_div (a b : Nat) (ha : a < 18446744073709551616) : IntKind.u64.wrap ((a : Int) / (b : Int)) = ((a / b : Nat) : Int) := by
  have h := Nat.div_le_self a b
  have e : (a : Int) / (b : Int) = ((a / b : Nat) : Int) := rfl
  rw [e]
  generalize a / b = c at *
  rw [IntKind.wrap_u64]
  omega
theorem ret_pair {a b c d : Int} (h : a = b) (k : c = d) : Ending.returned (.tuple #[.int .u64 a, .int .u64 c]) = Ending.returned (.tuple #[.int .u64 b, .int .u64 d]) := by rw [h, k]
theorem shift_of (y : Nat) (hy0 : 0 < y) (hy : y < 18446744073709551616) :
    ∃ s : Nat, 64 - (Lib.bitLen (y : Int).toNat : Int) = (s : Int) ∧ s ≤ 63 ∧ 9223372036854775808 ≤ y * 2 ^ s ∧ y * 2 ^ s < 18446744073709551616 := by
  obtain ⟨h1, h2, h3⟩ := Lib.bitLenAux_bounds 64 y (by omega) (by omega)
  have h4 := Lib.bitLen_le y 64 (by omega) (by omega)
  rw [Int.toNat_natCast]
  unfold Lib.bitLen at h4 ⊢
  generalize Lib.bitLenAux 64 y = b at *
  refine ⟨64 - b, by omega, by omega, ?_, ?_⟩
  · have e : 2 ^ (b - 1) * 2 ^ (64 - b) = 9223372036854775808 := by rw [← Nat.pow_add, show b - 1 + (64 - b) = 63 by omega]
    rw [← e]
    exact Nat.mul_le_mul_right _ h2
  · have e : 2 ^ b * 2 ^ (64 - b) = 18446744073709551616 := by rw [← Nat.pow_add, show b + (64 - b) = 64 by omega]
    rw [← e]
    exact Nat.mul_lt_mul_of_pos_right h3 (Nat.pow_pos (by omega))
theorem wrap_shl (a s : Nat) (h : a * 2 ^ s < 18446744073709551616) : IntKind.u64.wrap ((a : Int) * 2 ^ s) = ((a * 2 ^ s : Nat) : Int) := by
  have e : (a : Int) * 2 ^ s = ((a * 2 ^ s : Nat) : Int) := by push_cast; rfl
  rw [e]
  generalize a * 2 ^ s = c at *
  rw [IntKind.wrap_u64]
  omega
theorem wrap_shl_mod (a s : Nat) : IntKind.u64.wrap ((a : Int) * 2 ^ s) = ((a * 2 ^ s % 18446744073709551616 : Nat) : Int) := by
  have e : (a : Int) * 2 ^ s = ((a * 2 ^ s : Nat) : Int) := by push_cast; rfl
  rw [e]
  generalize a * 2 ^ s = c at *
  rw [IntKind.wrap_u64]
  omega
/-- What the long division is begun with. -/
structure Prep (hi lo y s : Nat) (Y y1 y0 u v v1 v0 : Nat) : Prop where
  hY : Y = y * 2 ^ s
  e1 : IntKind.u64.wrap ((y : Int) * 2 ^ s) = (Y : Int)
  e2 : (Y : Int) / 4294967296 = (y1 : Int)
  e3 : bits .and .u64 (Y : Int) 4294967295 = (y0 : Int)
  e4 : bits .or .u64 (IntKind.u64.wrap ((hi : Int) * 2 ^ s)) ((lo : Int) / 2 ^ (64 - s)) = (u : Int)
  e5 : IntKind.u64.wrap ((lo : Int) * 2 ^ s) = (v : Int)
  e6 : (v : Int) / 4294967296 = (v1 : Int)
  e7 : bits .and .u64 (v : Int) 4294967295 = (v0 : Int)
  hy1 : 2147483648 ≤ y1
  hy1' : y1 < 4294967296
  hy0 : y0 < 4294967296
  hYy : Y = y1 * 4294967296 + y0
  hu : u < Y
  hv1 : v1 < 4294967296
  hv0 : v0 < 4294967296
  hN : (hi * 18446744073709551616 + lo) * 2 ^ s = (u * 4294967296 + v1) * 4294967296 + v0
theorem maskN (a : Nat) (ha : a < 18446744073709551616) : bits .and .u64 (a : Int) 4294967295 = ((a % 4294967296 : Nat) : Int) := by
  have h := bits_and_u64_nat a 4294967295 ha (by omega)
  have e : a &&& 4294967295 = a % 4294967296 := Nat.and_two_pow_sub_one_eq_mod a 32
  rw [e] at h
  exact h
theorem prep (hi lo y s : Nat) (hl : lo < 18446744073709551616) (hyh : hi < y) (hs : s ≤ 63) (h1 : 9223372036854775808 ≤ y * 2 ^ s) (h2 : y * 2 ^ s < 18446744073709551616) :
    ∃ Y y1 y0 u v v1 v0, Prep hi lo y s Y y1 y0 u v v1 v0 := by
  have hp : 0 < 2 ^ s := Nat.pow_pos (by omega)
  have h64 : 2 ^ (64 - s) * 2 ^ s = 18446744073709551616 := by rw [← Nat.pow_add, show 64 - s + s = 64 by omega]
  have hL : lo / 2 ^ (64 - s) < 2 ^ s := by
    rw [Nat.div_lt_iff_lt_mul (Nat.pow_pos (by omega)), Nat.mul_comm, h64]; exact hl
  have hH : hi * 2 ^ s + 2 ^ s ≤ y * 2 ^ s := by
    have : (hi + 1) * 2 ^ s ≤ y * 2 ^ s := Nat.mul_le_mul_right _ hyh
    rw [Nat.add_mul, Nat.one_mul] at this
    exact this
  have hlo : lo * 2 ^ s / 18446744073709551616 = lo / 2 ^ (64 - s) := by rw [← h64, Nat.mul_div_mul_right _ _ hp]
  have hor : hi * 2 ^ s ||| lo / 2 ^ (64 - s) = hi * 2 ^ s + lo / 2 ^ (64 - s) := by
    have := Nat.two_pow_add_eq_or_of_lt hL hi
    rw [Nat.mul_comm]
    exact this.symm
  have hcast : (lo : Int) / 2 ^ (64 - s) = ((lo / 2 ^ (64 - s) : Nat) : Int) := by push_cast; rfl
  have hw := wrap_shl hi s (by omega)
  refine ⟨y * 2 ^ s, y * 2 ^ s / 4294967296, y * 2 ^ s % 4294967296, hi * 2 ^ s + lo / 2 ^ (64 - s), lo * 2 ^ s % 18446744073709551616, lo * 2 ^ s % 18446744073709551616 / 4294967296, lo * 2 ^ s % 18446744073709551616 % 4294967296, rfl, wrap_shl y s h2, rfl, maskN _ h2, ?_, wrap_shl_mod lo s, rfl, maskN _ (Nat.mod_lt _ (by omega)), ?_, ?_, ?_, ?_, ?_, ?_, ?_, ?_⟩
  · rw [hw, hcast, bits_or_u64_nat _ _ (by omega) (by omega), hor]
  · omega
  · omega
  · exact Nat.mod_lt _ (by omega)
  · omega
  · omega
  · omega
  · exact Nat.mod_lt _ (by omega)
  · rw [Nat.add_mul, Nat.mul_right_comm]
    generalize hi * 2 ^ s = H at *
    generalize lo * 2 ^ s = D at *
    omega

theorem div_fin {N hi lo y s Y y1 y0 u v v1 v0 Q R q T S : Nat} (P : Prep hi lo y s Y y1 y0 u v v1 v0) (hy : 0 < y) (hN : N = hi * 18446744073709551616 + lo) (hQ : Q = (u * 4294967296 + v1) / Y) (hR : R = u * 4294967296 + v1 - Q * Y)
    (hq : q = (R * 4294967296 + v0) / Y) (hT : T = R * 4294967296 + v0 - q * Y) (hS : S = Q * 4294967296 + q) : (S : Int) = (N : Int) / (y : Int) ∧ (T : Int) / 2 ^ s = (N : Int) % (y : Int) := by
  have hP := P.hN
  rw [← hN] at hP
  obtain ⟨d1, d2⟩ := div_whole hy hP (Q1 := Q) (Q0 := q) (by rw [← P.hY]; exact hQ) (by rw [← P.hY, ← hR]; exact hq)
  rw [← hS] at d1
  rw [← P.hY, ← hR, ← hT] at d2
  constructor
  · rw [d1]; rfl
  · have : (T : Int) / 2 ^ s = ((T / 2 ^ s : Nat) : Int) := by push_cast; rfl
    rw [this, d2]; rfl
/-- What the second half of the long division is begun with. -/
theorem second {u v1 v0 Y y1 y0 Q : Nat} (hQ : Q = (u * 4294967296 + v1) / Y) (hY : Y = y1 * 4294967296 + y0) (q1 : 2147483648 ≤ y1) (q2 : y1 < 4294967296) (q3 : y0 < 4294967296) (_q5 : v1 < 4294967296) (q6 : v0 < 4294967296) (hu : u < Y) :
    ∃ R q p : Nat, IntKind.u64.wrap (IntKind.u64.wrap (IntKind.u64.wrap ((u : Int) * 4294967296) + (v1 : Int)) - IntKind.u64.wrap ((Q : Int) * (Y : Int))) = (R : Int) ∧ R = u * 4294967296 + v1 - Q * Y ∧ R < Y ∧
      (R : Int) / (y1 : Int) = (q : Int) ∧ IntKind.u64.wrap (q : Int) = (q : Int) ∧ (q : Int) * (y1 : Int) = (p : Int) ∧ IntKind.u64.wrap (p : Int) = (p : Int) ∧ IntKind.u64.wrap ((R : Int) - (p : Int)) = ((R - p : Nat) : Int) ∧
      EstI R v0 y1 y0 q (R - p) ∧ R - p < 4294967296 := by
  have hYl : Y < 18446744073709551616 := by omega
  have hY0 : 0 < Y := by omega
  have hm := Nat.div_add_mod (u * 4294967296 + v1) Y
  have hl := Nat.mod_lt (u * 4294967296 + v1) hY0
  rw [← hQ, Nat.mul_comm] at hm
  generalize (u * 4294967296 + v1) % Y = R at *
  have hQY : (Q : Int) * (Y : Int) = ((Q * Y : Nat) : Int) := (Int.natCast_mul Q Y).symm
  have hRl : R < Y := hl
  obtain ⟨z1, z2⟩ := est_zero (u := R) (v := v0) q1 q2 q3 q6 (by rw [← hY]; exact hRl)
  have hd := Nat.div_mul_le_self R y1
  refine ⟨R, R / y1, R / y1 * y1, ?_, by omega, hRl, rfl, ?_, (Int.natCast_mul _ _).symm, ?_, ?_, z1, z2⟩
  · rw [hQY]
    generalize Q * Y = C at *
    rw [IntKind.wrap_u64, IntKind.wrap_u64, IntKind.wrap_u64, IntKind.wrap_u64]
    rw [rem_wrap (by omega) (by omega)]
    omega
  · have := z1.2.2
    generalize R / y1 = c at *
    rw [IntKind.wrap_u64]; omega
  · generalize R / y1 * y1 = c at *
    rw [IntKind.wrap_u64]; omega
  · generalize R / y1 * y1 = c at *
    rw [IntKind.wrap_u64]; omega
/-- How the long division ends. -/
theorem third {R v0 Y Q q : Nat} (hq : q = (R * 4294967296 + v0) / Y) (hR : R < Y) (hY0 : 0 < Y) (hYl : Y < 18446744073709551616) (q6 : v0 < 4294967296) (hQ : Q < 4294967296) :
    ∃ T S : Nat, IntKind.u64.wrap (IntKind.u64.wrap (IntKind.u64.wrap ((R : Int) * 4294967296) + (v0 : Int)) - IntKind.u64.wrap ((q : Int) * (Y : Int))) = (T : Int) ∧ T = R * 4294967296 + v0 - q * Y ∧
      IntKind.u64.wrap (IntKind.u64.wrap ((Q : Int) * 4294967296) + (q : Int)) = (S : Int) ∧ S = Q * 4294967296 + q := by
  have hm := Nat.div_add_mod (R * 4294967296 + v0) Y
  have hl := Nat.mod_lt (R * 4294967296 + v0) hY0
  have hql := est_lt2 hY0 q6 hR
  rw [← hq] at hql
  rw [← hq, Nat.mul_comm] at hm
  generalize (R * 4294967296 + v0) % Y = T at *
  have hQY : (q : Int) * (Y : Int) = ((q * Y : Nat) : Int) := (Int.natCast_mul q Y).symm
  refine ⟨T, Q * 4294967296 + q, ?_, by omega, ?_, rfl⟩
  · rw [hQY]
    generalize q * Y = C at *
    rw [IntKind.wrap_u64, IntKind.wrap_u64, IntKind.wrap_u64, IntKind.wrap_u64]
    rw [rem_wrap (by omega) (by omega)]
    omega
  · rw [IntKind.wrap_u64, IntKind.wrap_u64]; omega
/-- A round of the estimate, in the walk's words. -/
theorem est_ways {v y1 y0 a r : Nat} (q2 : y1 < 4294967296) (q3 : y0 < 4294967296) (hr : r < 4294967296) (_hv : v < 4294967296) :
    ∃ c a' r' : Nat, (a : Int) * (y0 : Int) = (c : Int) ∧ a * y0 = c ∧ a - 1 = a' ∧ r + y1 = r' ∧ IntKind.u64.wrap ((r : Int) + (y1 : Int)) = (r' : Int) ∧
      ((4294967296 ≤ a ∧ r' < 4294967296) ∨ (4294967296 ≤ a ∧ 4294967296 ≤ r') ∨ (a < 4294967296 ∧ c ≤ 18446744069414584320 ∧ 4294967296 * r + v < c ∧ r' < 4294967296) ∨ (a < 4294967296 ∧ c ≤ 18446744069414584320 ∧ 4294967296 * r + v < c ∧ 4294967296 ≤ r') ∨ (a < 4294967296 ∧ c ≤ 18446744069414584320 ∧ c ≤ 4294967296 * r + v)) := by
  refine ⟨a * y0, a - 1, r + y1, (Int.natCast_mul _ _).symm, rfl, rfl, rfl, by rw [IntKind.wrap_u64]; omega, ?_⟩
  rcases Nat.lt_or_ge a 4294967296 with h | h
  · have : a * y0 ≤ 4294967295 * 4294967295 := Nat.mul_le_mul (by omega) (by omega)
    generalize a * y0 = c at *
    omega
  · omega
theorem est_fin {u v y1 y0 q r Y : Nat} (hY : Y = y1 * 4294967296 + y0) (hy : 0 < Y) (h : EstI u v y1 y0 q r) (ht : q * y0 ≤ 4294967296 * r + v) : q = (u * 4294967296 + v) / Y := by
  subst hY; exact est_end hy h ht
theorem est_nxt {u v y1 y0 q r Y q' r' : Nat} (hY : Y = y1 * 4294967296 + y0) (hy : 0 < Y) (hv : v < 4294967296) (hu : u < Y) (h : EstI u v y1 y0 q r) (ht : 4294967296 ≤ q ∨ 4294967296 * r + v < q * y0) (e1 : q - 1 = q') (e2 : r + y1 = r') :
    EstI u v y1 y0 q' r' ∧ 1 ≤ q ∧ q' ≤ 4294967296 ∧ IntKind.u64.wrap ((q : Int) - 1) = (q' : Int) := by
  subst hY
  obtain ⟨h1, h2⟩ := est_step hy hv hu h ht
  rw [e1, e2] at h1
  have := h.2.2
  exact ⟨h1, h2, by omega, by rw [IntKind.wrap_u64]; omega⟩
theorem rem_rem {hi lo y : Nat} : (hi % y * 18446744073709551616 + lo) % y = (hi * 18446744073709551616 + lo) % y := by
  rw [Nat.add_mod, Nat.mod_mul_mod, ← Nat.add_mod]

end Go.Proofs.Yteppamchbgnlfaa
