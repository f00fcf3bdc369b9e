/- math/bits.Div64 and Rem64. Conditions: the divisor is greater than the upper half (Div64), not 0 (Rem64). -/
import Derived.Lib.ItoaNum
import Derived.Test.YtkdbffhmnkkbcaaMem
import Derived.Test.YtkdbffhmnkkbcaaDMath
import Derived.Test.YtkdbffhmnkkbcaaShelf
import Derived.Deep.LoopGhost
namespace Go.Proofs.Ytkdbffhmnkkbcaa
open Go.RowKit

theorem wrap_div (a b : Nat) (ha : a < 18446744073709551616) : IntKind.u64.wrap ((a : Int) / (b : Int)) = ((a / b : Nat) : Int) := by
  have h := Nat.div_le_self a b
  have e : (a : Int) / (b : Int) = ((a / b : Nat) : Int) := rfl
  rw [e]
  generalize a / b = c at *
  rw [IntKind.wrap_u64]
  omega
theorem ret_pair {a b c d : Int} (h : a = b) (k : c = d) : Ending.returned (.tuple #[.int .u64 a, .int .u64 c]) = Ending.returned (.tuple #[.int .u64 b, .int .u64 d]) := by rw [h, k]
theorem div64_zero (lo y : Nat) (w : World) (hl : lo < 18446744073709551616) (hy : y < 18446744073709551616) (hy0 : 0 < y) :
    Calls Try.prog 120 #[.int .u64 0, .int .u64 lo, .int .u64 y] w fun e w' => e = .returned (.tuple #[.int .u64 (lo / y : Nat), .int .u64 (lo % y : Nat)]) ∧ ∃ n, w' = w.drewN n := by
  have h1 : ((y : Int) == 0) = false := by simp; omega
  have h2 : decide ((y : Int) ≤ 0) = false := decide_eq_false (by omega)
  have h3 := wrap_div lo y hl
  go_enter Try.func120, Try.ntmps120
  go_wp2
  go_quiet (fail)
  go_wp2
  go_ret2
  exact ⟨rfl, _, rfl⟩

theorem shift_of (y : Nat) (hy0 : 0 < y) (hy : y < 18446744073709551616) :
    ∃ s : Nat, 64 - (Lib.bitLen (y : Int).toNat : Int) = (s : Int) ∧ s ≤ 63 ∧ 9223372036854775808 ≤ y * 2 ^ s ∧ y * 2 ^ s < 18446744073709551616 := by
  obtain ⟨h1, h2, h3⟩ := Lib.bitLenAux_bounds 64 y (by omega) (by omega)
  have h4 := Lib.bitLen_le y 64 (by omega) (by omega)
  rw [Int.toNat_natCast]
  unfold Lib.bitLen at h4 ⊢
  generalize Lib.bitLenAux 64 y = b at *
  refine ⟨64 - b, by omega, by omega, ?_, ?_⟩
  · have e : 2 ^ (b - 1) * 2 ^ (64 - b) = 9223372036854775808 := by rw [← Nat.pow_add, show b - 1 + (64 - b) = 63 by omega]
    rw [← e]
    exact Nat.mul_le_mul_right _ h2
  · have e : 2 ^ b * 2 ^ (64 - b) = 18446744073709551616 := by rw [← Nat.pow_add, show b + (64 - b) = 64 by omega]
    rw [← e]
    exact Nat.mul_lt_mul_of_pos_right h3 (Nat.pow_pos (by omega))
theorem wrap_shl (a s : Nat) (h : a * 2 ^ s < 18446744073709551616) : IntKind.u64.wrap ((a : Int) * 2 ^ s) = ((a * 2 ^ s : Nat) : Int) := by
  have e : (a : Int) * 2 ^ s = ((a * 2 ^ s : Nat) : Int) := by push_cast; rfl
  rw [e]
  generalize a * 2 ^ s = c at *
  rw [IntKind.wrap_u64]
  omega
theorem wrap_shl_mod (a s : Nat) : IntKind.u64.wrap ((a : Int) * 2 ^ s) = ((a * 2 ^ s % 18446744073709551616 : Nat) : Int) := by
  have e : (a : Int) * 2 ^ s = ((a * 2 ^ s : Nat) : Int) := by push_cast; rfl
  rw [e]
  generalize a * 2 ^ s = c at *
  rw [IntKind.wrap_u64]
  omega
/-- What the long division is begun with. -/
structure Prep (hi lo y s : Nat) (Y y1 y0 u v v1 v0 : Nat) : Prop where
  hY : Y = y * 2 ^ s
  e1 : IntKind.u64.wrap ((y : Int) * 2 ^ s) = (Y : Int)
  e2 : (Y : Int) / 4294967296 = (y1 : Int)
  e3 : bits .and .u64 (Y : Int) 4294967295 = (y0 : Int)
  e4 : bits .or .u64 (IntKind.u64.wrap ((hi : Int) * 2 ^ s)) ((lo : Int) / 2 ^ (64 - s)) = (u : Int)
  e5 : IntKind.u64.wrap ((lo : Int) * 2 ^ s) = (v : Int)
  e6 : (v : Int) / 4294967296 = (v1 : Int)
  e7 : bits .and .u64 (v : Int) 4294967295 = (v0 : Int)
  hy1 : 2147483648 ≤ y1
  hy1' : y1 < 4294967296
  hy0 : y0 < 4294967296
  hYy : Y = y1 * 4294967296 + y0
  hu : u < Y
  hv1 : v1 < 4294967296
  hv0 : v0 < 4294967296
  hN : (hi * 18446744073709551616 + lo) * 2 ^ s = (u * 4294967296 + v1) * 4294967296 + v0
theorem maskN (a : Nat) (ha : a < 18446744073709551616) : bits .and .u64 (a : Int) 4294967295 = ((a % 4294967296 : Nat) : Int) := by
  have h := bits_and_u64_nat a 4294967295 ha (by omega)
  have e : a &&& 4294967295 = a % 4294967296 := Nat.and_two_pow_sub_one_eq_mod a 32
  rw [e] at h
  exact h
theorem prep (hi lo y s : Nat) (hl : lo < 18446744073709551616) (hyh : hi < y) (hs : s ≤ 63) (h1 : 9223372036854775808 ≤ y * 2 ^ s) (h2 : y * 2 ^ s < 18446744073709551616) :
    ∃ Y y1 y0 u v v1 v0, Prep hi lo y s Y y1 y0 u v v1 v0 := by
  have hp : 0 < 2 ^ s := Nat.pow_pos (by omega)
  have h64 : 2 ^ (64 - s) * 2 ^ s = 18446744073709551616 := by rw [← Nat.pow_add, show 64 - s + s = 64 by omega]
  have hL : lo / 2 ^ (64 - s) < 2 ^ s := by
    rw [Nat.div_lt_iff_lt_mul (Nat.pow_pos (by omega)), Nat.mul_comm, h64]; exact hl
  have hH : hi * 2 ^ s + 2 ^ s ≤ y * 2 ^ s := by
    have : (hi + 1) * 2 ^ s ≤ y * 2 ^ s := Nat.mul_le_mul_right _ hyh
    rw [Nat.add_mul, Nat.one_mul] at this
    exact this
  have hlo : lo * 2 ^ s / 18446744073709551616 = lo / 2 ^ (64 - s) := by rw [← h64, Nat.mul_div_mul_right _ _ hp]
  have hor : hi * 2 ^ s ||| lo / 2 ^ (64 - s) = hi * 2 ^ s + lo / 2 ^ (64 - s) := by
    have := Nat.two_pow_add_eq_or_of_lt hL hi
    rw [Nat.mul_comm]
    exact this.symm
  have hcast : (lo : Int) / 2 ^ (64 - s) = ((lo / 2 ^ (64 - s) : Nat) : Int) := by push_cast; rfl
  have hw := wrap_shl hi s (by omega)
  refine ⟨y * 2 ^ s, y * 2 ^ s / 4294967296, y * 2 ^ s % 4294967296, hi * 2 ^ s + lo / 2 ^ (64 - s), lo * 2 ^ s % 18446744073709551616, lo * 2 ^ s % 18446744073709551616 / 4294967296, lo * 2 ^ s % 18446744073709551616 % 4294967296, rfl, wrap_shl y s h2, rfl, maskN _ h2, ?_, wrap_shl_mod lo s, rfl, maskN _ (Nat.mod_lt _ (by omega)), ?_, ?_, ?_, ?_, ?_, ?_, ?_, ?_⟩
  · rw [hw, hcast, bits_or_u64_nat _ _ (by omega) (by omega), hor]
  · omega
  · omega
  · exact Nat.mod_lt _ (by omega)
  · omega
  · omega
  · omega
  · exact Nat.mod_lt _ (by omega)
  · rw [Nat.add_mul, Nat.mul_right_comm]
    generalize hi * 2 ^ s = H at *
    generalize lo * 2 ^ s = D at *
    omega

theorem div_fin {N hi lo y s Y y1 y0 u v v1 v0 Q R q T S : Nat} (P : Prep hi lo y s Y y1 y0 u v v1 v0) (hy : 0 < y) (hN : N = hi * 18446744073709551616 + lo) (hQ : Q = (u * 4294967296 + v1) / Y) (hR : R = u * 4294967296 + v1 - Q * Y)
    (hq : q = (R * 4294967296 + v0) / Y) (hT : T = R * 4294967296 + v0 - q * Y) (hS : S = Q * 4294967296 + q) : (S : Int) = (N : Int) / (y : Int) ∧ (T : Int) / 2 ^ s = (N : Int) % (y : Int) := by
  have hP := P.hN
  rw [← hN] at hP
  obtain ⟨d1, d2⟩ := div_whole hy hP (Q1 := Q) (Q0 := q) (by rw [← P.hY]; exact hQ) (by rw [← P.hY, ← hR]; exact hq)
  rw [← hS] at d1
  rw [← P.hY, ← hR, ← hT] at d2
  constructor
  · rw [d1]; rfl
  · have : (T : Int) / 2 ^ s = ((T / 2 ^ s : Nat) : Int) := by push_cast; rfl
    rw [this, d2]; rfl
/-- What the second half of the long division is begun with. -/
theorem second {u v1 v0 Y y1 y0 Q : Nat} (hQ : Q = (u * 4294967296 + v1) / Y) (hY : Y = y1 * 4294967296 + y0) (q1 : 2147483648 ≤ y1) (q2 : y1 < 4294967296) (q3 : y0 < 4294967296) (_q5 : v1 < 4294967296) (q6 : v0 < 4294967296) (hu : u < Y) :
    ∃ R q p : Nat, IntKind.u64.wrap (IntKind.u64.wrap (IntKind.u64.wrap ((u : Int) * 4294967296) + (v1 : Int)) - IntKind.u64.wrap ((Q : Int) * (Y : Int))) = (R : Int) ∧ R = u * 4294967296 + v1 - Q * Y ∧ R < Y ∧
      (R : Int) / (y1 : Int) = (q : Int) ∧ IntKind.u64.wrap (q : Int) = (q : Int) ∧ (q : Int) * (y1 : Int) = (p : Int) ∧ IntKind.u64.wrap (p : Int) = (p : Int) ∧ IntKind.u64.wrap ((R : Int) - (p : Int)) = ((R - p : Nat) : Int) ∧
      EstI R v0 y1 y0 q (R - p) ∧ R - p < 4294967296 := by
  have hYl : Y < 18446744073709551616 := by omega
  have hY0 : 0 < Y := by omega
  have hm := Nat.div_add_mod (u * 4294967296 + v1) Y
  have hl := Nat.mod_lt (u * 4294967296 + v1) hY0
  rw [← hQ, Nat.mul_comm] at hm
  generalize (u * 4294967296 + v1) % Y = R at *
  have hQY : (Q : Int) * (Y : Int) = ((Q * Y : Nat) : Int) := (Int.natCast_mul Q Y).symm
  have hRl : R < Y := hl
  obtain ⟨z1, z2⟩ := est_zero (u := R) (v := v0) q1 q2 q3 q6 (by rw [← hY]; exact hRl)
  have hd := Nat.div_mul_le_self R y1
  refine ⟨R, R / y1, R / y1 * y1, ?_, by omega, hRl, rfl, ?_, (Int.natCast_mul _ _).symm, ?_, ?_, z1, z2⟩
  · rw [hQY]
    generalize Q * Y = C at *
    rw [IntKind.wrap_u64, IntKind.wrap_u64, IntKind.wrap_u64, IntKind.wrap_u64]
    rw [rem_wrap (by omega) (by omega)]
    omega
  · have := z1.2.2
    generalize R / y1 = c at *
    rw [IntKind.wrap_u64]; omega
  · generalize R / y1 * y1 = c at *
    rw [IntKind.wrap_u64]; omega
  · generalize R / y1 * y1 = c at *
    rw [IntKind.wrap_u64]; omega
/-- How the long division ends. -/
theorem third {R v0 Y Q q : Nat} (hq : q = (R * 4294967296 + v0) / Y) (hR : R < Y) (hY0 : 0 < Y) (hYl : Y < 18446744073709551616) (q6 : v0 < 4294967296) (hQ : Q < 4294967296) :
    ∃ T S : Nat, IntKind.u64.wrap (IntKind.u64.wrap (IntKind.u64.wrap ((R : Int) * 4294967296) + (v0 : Int)) - IntKind.u64.wrap ((q : Int) * (Y : Int))) = (T : Int) ∧ T = R * 4294967296 + v0 - q * Y ∧
      IntKind.u64.wrap (IntKind.u64.wrap ((Q : Int) * 4294967296) + (q : Int)) = (S : Int) ∧ S = Q * 4294967296 + q := by
  have hm := Nat.div_add_mod (R * 4294967296 + v0) Y
  have hl := Nat.mod_lt (R * 4294967296 + v0) hY0
  have hql := est_lt2 hY0 q6 hR
  rw [← hq] at hql
  rw [← hq, Nat.mul_comm] at hm
  generalize (R * 4294967296 + v0) % Y = T at *
  have hQY : (q : Int) * (Y : Int) = ((q * Y : Nat) : Int) := (Int.natCast_mul q Y).symm
  refine ⟨T, Q * 4294967296 + q, ?_, by omega, ?_, rfl⟩
  · rw [hQY]
    generalize q * Y = C at *
    rw [IntKind.wrap_u64, IntKind.wrap_u64, IntKind.wrap_u64, IntKind.wrap_u64]
    rw [rem_wrap (by omega) (by omega)]
    omega
  · rw [IntKind.wrap_u64, IntKind.wrap_u64]; omega
/-- A round of the estimate, in the walk's words. -/
theorem est_ways {v y1 y0 a r : Nat} (q2 : y1 < 4294967296) (q3 : y0 < 4294967296) (hr : r < 4294967296) (_hv : v < 4294967296) :
    ∃ c a' r' : Nat, (a : Int) * (y0 : Int) = (c : Int) ∧ a * y0 = c ∧ a - 1 = a' ∧ r + y1 = r' ∧ IntKind.u64.wrap ((r : Int) + (y1 : Int)) = (r' : Int) ∧
      ((4294967296 ≤ a ∧ r' < 4294967296) ∨ (4294967296 ≤ a ∧ 4294967296 ≤ r') ∨ (a < 4294967296 ∧ c ≤ 18446744069414584320 ∧ 4294967296 * r + v < c ∧ r' < 4294967296) ∨ (a < 4294967296 ∧ c ≤ 18446744069414584320 ∧ 4294967296 * r + v < c ∧ 4294967296 ≤ r') ∨ (a < 4294967296 ∧ c ≤ 18446744069414584320 ∧ c ≤ 4294967296 * r + v)) := by
  refine ⟨a * y0, a - 1, r + y1, (Int.natCast_mul _ _).symm, rfl, rfl, rfl, by rw [IntKind.wrap_u64]; omega, ?_⟩
  rcases Nat.lt_or_ge a 4294967296 with h | h
  · have : a * y0 ≤ 4294967295 * 4294967295 := Nat.mul_le_mul (by omega) (by omega)
    generalize a * y0 = c at *
    omega
  · omega
theorem est_fin {u v y1 y0 q r Y : Nat} (hY : Y = y1 * 4294967296 + y0) (hy : 0 < Y) (h : EstI u v y1 y0 q r) (ht : q * y0 ≤ 4294967296 * r + v) : q = (u * 4294967296 + v) / Y := by
  subst hY; exact est_end hy h ht
theorem est_nxt {u v y1 y0 q r Y q' r' : Nat} (hY : Y = y1 * 4294967296 + y0) (hy : 0 < Y) (hv : v < 4294967296) (hu : u < Y) (h : EstI u v y1 y0 q r) (ht : 4294967296 ≤ q ∨ 4294967296 * r + v < q * y0) (e1 : q - 1 = q') (e2 : r + y1 = r') :
    EstI u v y1 y0 q' r' ∧ 1 ≤ q ∧ q' ≤ 4294967296 ∧ IntKind.u64.wrap ((q : Int) - 1) = (q' : Int) := by
  subst hY
  obtain ⟨h1, h2⟩ := est_step hy hv hu h ht
  rw [e1, e2] at h1
  have := h.2.2
  exact ⟨h1, h2, by omega, by rw [IntKind.wrap_u64]; omega⟩
set_option maxRecDepth 100000 in
set_option maxHeartbeats 2000000 in
theorem div64_big (N hi lo y : Nat) (w : World) (hNN : N = hi * 18446744073709551616 + lo) (hh : 0 < hi) (hl : lo < 18446744073709551616) (hy : y < 18446744073709551616) (hyh : hi < y) :
    Calls Try.prog 120 #[.int .u64 hi, .int .u64 lo, .int .u64 y] w fun e w' => e = .returned (.tuple #[.int .u64 (N / y : Nat), .int .u64 (N % y : Nat)]) ∧ ∃ n, w' = w.drewN n := by
  have HNN := Lib.hid hNN
  clear hNN
  have h1 : ((y : Int) == 0) = false := by simp; omega
  have h2 : decide ((y : Int) ≤ (hi : Int)) = false := decide_eq_false (by omega)
  have h3 : ((hi : Int) == 0) = false := by simp; omega
  go_enter Try.func120, Try.ntmps120
  go_wp2_with fail
  refine (Try.bits_LeadingZeros64 (y : Int) w (by omega) (by omega)).mono ?_
  rintro e w' ⟨rfl, rfl⟩
  obtain ⟨s, hs, hs63, hY1, hY2⟩ := shift_of y (by omega) hy
  rw [hs]
  obtain ⟨Y, y1, y0, u, v, v1, v0, P⟩ := prep hi lo y s hl hyh hs63 hY1 hY2
  have e1 := P.e1
  have e2 := P.e2
  have e3 := P.e3
  have e4 := P.e4
  have e5 := P.e5
  have e6 := P.e6
  have e7 := P.e7
  have q1 := P.hy1
  have q2 := P.hy1'
  have q3 := P.hy0
  have q4 := P.hu
  have q5 := P.hv1
  have q6 := P.hv0
  have hYl : Y < 18446744073709551616 := by rw [P.hY]; exact hY2
  have hyb : (0 : Int) < (y1 : Int) := by omega
  have hyz : ((y1 : Int) == 0) = false := by simp; omega
  obtain ⟨z1, z2⟩ := est_zero (u := u) (v := v1) q1 q2 q3 q5 (by rw [← P.hYy]; exact q4)
  obtain ⟨q, hq⟩ : ∃ q, u / y1 = q := ⟨_, rfl⟩
  have hqi : (u : Int) / (y1 : Int) = (q : Int) := by rw [← hq]; rfl
  rw [hq] at z1 z2
  obtain ⟨p, hp⟩ : ∃ p, q * y1 = p := ⟨_, rfl⟩
  have hpi : (q : Int) * (y1 : Int) = (p : Int) := by rw [← hp]; exact (Int.natCast_mul q y1).symm
  have hpu : p ≤ u := by rw [← hp, ← hq]; exact Nat.div_mul_le_self _ _
  rw [hp] at z1 z2
  have Z1 := Lib.hid z1
  have HPu := Lib.hid hpu
  have hul : u < 18446744073709551616 := by omega
  have hqw : IntKind.u64.wrap (q : Int) = (q : Int) := by rw [IntKind.wrap_u64]; have := z1.2.2; omega
  have hpw : IntKind.u64.wrap (p : Int) = (p : Int) := by rw [IntKind.wrap_u64]; omega
  have hrw : IntKind.u64.wrap ((u : Int) - (p : Int)) = ((u - p : Nat) : Int) := by rw [IntKind.wrap_u64]; omega
  clear hs hq hp z1 hY1 hY2
  have hYp : 0 < Y := by omega
  have HYy := Lib.hid P.hYy
  have HYp := Lib.hid hYp
  clear hYp
  go_wp2_with fail
  clear hqw hpw hrw hqi hpi hpu e1 e4 e5
  go_loop [15, 16] (fun a b => ∃ q r : Nat, a = .int .u64 q ∧ b = .int .u64 r ∧ r < 4294967296 ∧ EstI u v1 y1 y0 q r) (fun a _ => (intOf a).toNat)
  case atStart => exact ⟨q, u - p, rfl, rfl, z2, Z1.out⟩
  case round =>
    obtain ⟨a1, r1, rfl, rfl, hr, hE⟩ := hrel
    obtain ⟨c1, a1', r1', hci1, hc, hap, hrp, w2, hway⟩ := est_ways (a := a1) q2 q3 hr q5
    have HE1 := Lib.hid hE
    have HC1 := Lib.hid hc
    have HA1 := Lib.hid hap
    have HR1 := Lib.hid hrp
    have HRr1 := Lib.hid hr
    have HU1 := Lib.hid (show 4294967296 * r1 + v1 < 18446744073709551616 by omega)
    have hU1 : IntKind.u64.wrap (4294967296 * (r1 : Int)) = 4294967296 * (r1 : Int) := by rw [IntKind.wrap_u64]; omega
    have hU2 : IntKind.u64.wrap (4294967296 * (r1 : Int) + (v1 : Int)) = 4294967296 * (r1 : Int) + (v1 : Int) := by rw [IntKind.wrap_u64]; omega
    clear hE hc hap hrp hr
    rcases hway with ⟨t1, t2⟩ | ⟨t1, t2⟩ | ⟨t1, t2, t3, t4⟩ | ⟨t1, t2, t3, t4⟩ | ⟨t1, t2, t3⟩
    · obtain ⟨hS, hq1, hq2, w1⟩ := est_nxt HYy.out HYp.out q5 q4 HE1.out (.inl t1) HA1.out HR1.out
      have HS1 := Lib.hid hS
      have HQa1 := Lib.hid hq1
      have HQb1 := Lib.hid hq2
      have b1 : decide ((4294967296 : Int) ≤ (a1 : Int)) = true := decide_eq_true (by omega)
      have b2 : decide ((4294967296 : Int) ≤ (r1' : Int)) = false := decide_eq_false (by omega)
      have HT1 := Lib.hid t2
      clear hS hq1 hq2 t1 t2
      go_wp2
      go_round
      case rel => exact ⟨a1', r1', rfl, rfl, HT1.out, HS1.out⟩
      case measure => simp [intOf]; have := HA1.out; have := HQa1.out; omega
    · obtain ⟨hS, hq1, hq2, w1⟩ := est_nxt HYy.out HYp.out q5 q4 HE1.out (.inl t1) HA1.out HR1.out
      have HS1 := Lib.hid hS
      have HQa1 := Lib.hid hq1
      have HQb1 := Lib.hid hq2
      have b1 : decide ((4294967296 : Int) ≤ (a1 : Int)) = true := decide_eq_true (by omega)
      have b2 : decide ((4294967296 : Int) ≤ (r1' : Int)) = true := decide_eq_true (by omega)
      have HT1 := Lib.hid t2
      clear hS hq1 hq2 t1 t2
      have HQ1 := Lib.hid (est_fin HYy.out HYp.out HS1.out (est_break q3 HQb1.out HT1.out))
      obtain ⟨R, q', p', f1, f2, f3, f4, f5, f6, f7, f8, f9, f10⟩ := second (v0 := v0) HQ1.out HYy.out q1 q2 q3 q5 q6 q4
      have HRd := Lib.hid f2
      have HRY := Lib.hid f3
      have HF9 := Lib.hid f9
      have HF10 := Lib.hid f10
      clear f2 f3 f9 f10
      go_wp2_with fail
      clear f4 f5 f6 f7 f8 f1
      go_loop [18, 16] (fun a b => ∃ q r : Nat, a = .int .u64 q ∧ b = .int .u64 r ∧ r < 4294967296 ∧ EstI R v0 y1 y0 q r) (fun a _ => (intOf a).toNat)
      case atStart => exact ⟨q', R - p', rfl, rfl, HF10.out, HF9.out⟩
      case round =>
        obtain ⟨a2, r2, rfl, rfl, hr, hE⟩ := hrel
        obtain ⟨c2, a2', r2', hci2, hc, hap, hrp, w2, hway⟩ := est_ways (a := a2) q2 q3 hr q6
        have HE2 := Lib.hid hE
        have HC2 := Lib.hid hc
        have HA2 := Lib.hid hap
        have HR2 := Lib.hid hrp
        have HRr2 := Lib.hid hr
        have HU2 := Lib.hid (show 4294967296 * r2 + v0 < 18446744073709551616 by omega)
        have hU1 : IntKind.u64.wrap (4294967296 * (r2 : Int)) = 4294967296 * (r2 : Int) := by rw [IntKind.wrap_u64]; omega
        have hU2 : IntKind.u64.wrap (4294967296 * (r2 : Int) + (v0 : Int)) = 4294967296 * (r2 : Int) + (v0 : Int) := by rw [IntKind.wrap_u64]; omega
        clear hE hc hap hrp hr
        rcases hway with ⟨t1, t2⟩ | ⟨t1, t2⟩ | ⟨t1, t2, t3, t4⟩ | ⟨t1, t2, t3, t4⟩ | ⟨t1, t2, t3⟩
        · obtain ⟨hS, hq1, hq2, w1⟩ := est_nxt HYy.out HYp.out q6 HRY.out HE2.out (.inl t1) HA2.out HR2.out
          have HS2 := Lib.hid hS
          have HQa2 := Lib.hid hq1
          have HQb2 := Lib.hid hq2
          have b1 : decide ((4294967296 : Int) ≤ (a2 : Int)) = true := decide_eq_true (by omega)
          have b2 : decide ((4294967296 : Int) ≤ (r2' : Int)) = false := decide_eq_false (by omega)
          have HT2 := Lib.hid t2
          clear hS hq1 hq2 t1 t2
          go_wp2
          go_round
          case rel => exact ⟨a2', r2', rfl, rfl, HT2.out, HS2.out⟩
          case measure => simp [intOf]; have := HA2.out; have := HQa2.out; omega
        · obtain ⟨hS, hq1, hq2, w1⟩ := est_nxt HYy.out HYp.out q6 HRY.out HE2.out (.inl t1) HA2.out HR2.out
          have HS2 := Lib.hid hS
          have HQa2 := Lib.hid hq1
          have HQb2 := Lib.hid hq2
          have b1 : decide ((4294967296 : Int) ≤ (a2 : Int)) = true := decide_eq_true (by omega)
          have b2 : decide ((4294967296 : Int) ≤ (r2' : Int)) = true := decide_eq_true (by omega)
          have HT2 := Lib.hid t2
          clear hS hq1 hq2 t1 t2
          have HQ2 := Lib.hid (est_fin HYy.out HYp.out HS2.out (est_break q3 HQb2.out HT2.out))
          obtain ⟨T, S, g1, g2, g3, g4⟩ := third (Q := a1') HQ2.out HRY.out HYp.out hYl q6 (by rw [HQ1.out]; exact est_lt2 HYp.out q5 q4)
          have G2 := Lib.hid g2
          have G4 := Lib.hid g4
          clear g2 g4
          go_wp2
          go_ret2
          obtain ⟨d1, d2⟩ := div_fin P (by omega) HNN.out HQ1.out HRd.out HQ2.out G2.out G4.out
          exact ⟨ret_pair d1 d2, 0, rfl⟩
        · obtain ⟨hS, hq1, hq2, w1⟩ := est_nxt HYy.out HYp.out q6 HRY.out HE2.out (.inr (by rw [HC2.out]; exact t3)) HA2.out HR2.out
          have HS2 := Lib.hid hS
          have HQa2 := Lib.hid hq1
          have HQb2 := Lib.hid hq2
          have b1 : decide ((4294967296 : Int) ≤ (a2 : Int)) = false := decide_eq_false (by omega)
          have b3 : decide (4294967296 * (r2 : Int) + (v0 : Int) < (c2 : Int)) = true := decide_eq_true (by omega)
          have b4 : IntKind.u64.wrap (c2 : Int) = (c2 : Int) := by rw [IntKind.wrap_u64]; omega
          have b2 : decide ((4294967296 : Int) ≤ (r2' : Int)) = false := decide_eq_false (by omega)
          have HT2 := Lib.hid t4
          clear hS hq1 hq2 t1 t2 t3 t4
          go_wp2
          go_round
          case rel => exact ⟨a2', r2', rfl, rfl, HT2.out, HS2.out⟩
          case measure => simp [intOf]; have := HA2.out; have := HQa2.out; omega
        · obtain ⟨hS, hq1, hq2, w1⟩ := est_nxt HYy.out HYp.out q6 HRY.out HE2.out (.inr (by rw [HC2.out]; exact t3)) HA2.out HR2.out
          have HS2 := Lib.hid hS
          have HQa2 := Lib.hid hq1
          have HQb2 := Lib.hid hq2
          have b1 : decide ((4294967296 : Int) ≤ (a2 : Int)) = false := decide_eq_false (by omega)
          have b3 : decide (4294967296 * (r2 : Int) + (v0 : Int) < (c2 : Int)) = true := decide_eq_true (by omega)
          have b4 : IntKind.u64.wrap (c2 : Int) = (c2 : Int) := by rw [IntKind.wrap_u64]; omega
          have b2 : decide ((4294967296 : Int) ≤ (r2' : Int)) = true := decide_eq_true (by omega)
          have HT2 := Lib.hid t4
          clear hS hq1 hq2 t1 t2 t3 t4
          have HQ2 := Lib.hid (est_fin HYy.out HYp.out HS2.out (est_break q3 HQb2.out HT2.out))
          obtain ⟨T, S, g1, g2, g3, g4⟩ := third (Q := a1') HQ2.out HRY.out HYp.out hYl q6 (by rw [HQ1.out]; exact est_lt2 HYp.out q5 q4)
          have G2 := Lib.hid g2
          have G4 := Lib.hid g4
          clear g2 g4
          go_wp2
          go_ret2
          obtain ⟨d1, d2⟩ := div_fin P (by omega) HNN.out HQ1.out HRd.out HQ2.out G2.out G4.out
          exact ⟨ret_pair d1 d2, 0, rfl⟩
        · have b1 : decide ((4294967296 : Int) ≤ (a2 : Int)) = false := decide_eq_false (by omega)
          have b3 : decide (4294967296 * (r2 : Int) + (v0 : Int) < (c2 : Int)) = false := decide_eq_false (by omega)
          have b4 : IntKind.u64.wrap (c2 : Int) = (c2 : Int) := by rw [IntKind.wrap_u64]; omega
          have HQ2 := Lib.hid (est_fin HYy.out HYp.out HE2.out (by rw [HC2.out]; exact t3))
          clear t1 t2 t3
          obtain ⟨T, S, g1, g2, g3, g4⟩ := third (Q := a1') HQ2.out HRY.out HYp.out hYl q6 (by rw [HQ1.out]; exact est_lt2 HYp.out q5 q4)
          have G2 := Lib.hid g2
          have G4 := Lib.hid g4
          clear g2 g4
          go_wp2
          go_ret2
          obtain ⟨d1, d2⟩ := div_fin P (by omega) HNN.out HQ1.out HRd.out HQ2.out G2.out G4.out
          exact ⟨ret_pair d1 d2, 0, rfl⟩
    · obtain ⟨hS, hq1, hq2, w1⟩ := est_nxt HYy.out HYp.out q5 q4 HE1.out (.inr (by rw [HC1.out]; exact t3)) HA1.out HR1.out
      have HS1 := Lib.hid hS
      have HQa1 := Lib.hid hq1
      have HQb1 := Lib.hid hq2
      have b1 : decide ((4294967296 : Int) ≤ (a1 : Int)) = false := decide_eq_false (by omega)
      have b3 : decide (4294967296 * (r1 : Int) + (v1 : Int) < (c1 : Int)) = true := decide_eq_true (by omega)
      have b4 : IntKind.u64.wrap (c1 : Int) = (c1 : Int) := by rw [IntKind.wrap_u64]; omega
      have b2 : decide ((4294967296 : Int) ≤ (r1' : Int)) = false := decide_eq_false (by omega)
      have HT1 := Lib.hid t4
      clear hS hq1 hq2 t1 t2 t3 t4
      go_wp2
      go_round
      case rel => exact ⟨a1', r1', rfl, rfl, HT1.out, HS1.out⟩
      case measure => simp [intOf]; have := HA1.out; have := HQa1.out; omega
    · obtain ⟨hS, hq1, hq2, w1⟩ := est_nxt HYy.out HYp.out q5 q4 HE1.out (.inr (by rw [HC1.out]; exact t3)) HA1.out HR1.out
      have HS1 := Lib.hid hS
      have HQa1 := Lib.hid hq1
      have HQb1 := Lib.hid hq2
      have b1 : decide ((4294967296 : Int) ≤ (a1 : Int)) = false := decide_eq_false (by omega)
      have b3 : decide (4294967296 * (r1 : Int) + (v1 : Int) < (c1 : Int)) = true := decide_eq_true (by omega)
      have b4 : IntKind.u64.wrap (c1 : Int) = (c1 : Int) := by rw [IntKind.wrap_u64]; omega
      have b2 : decide ((4294967296 : Int) ≤ (r1' : Int)) = true := decide_eq_true (by omega)
      have HT1 := Lib.hid t4
      clear hS hq1 hq2 t1 t2 t3 t4
      have HQ1 := Lib.hid (est_fin HYy.out HYp.out HS1.out (est_break q3 HQb1.out HT1.out))
      obtain ⟨R, q', p', f1, f2, f3, f4, f5, f6, f7, f8, f9, f10⟩ := second (v0 := v0) HQ1.out HYy.out q1 q2 q3 q5 q6 q4
      have HRd := Lib.hid f2
      have HRY := Lib.hid f3
      have HF9 := Lib.hid f9
      have HF10 := Lib.hid f10
      clear f2 f3 f9 f10
      go_wp2_with fail
      clear f4 f5 f6 f7 f8 f1
      go_loop [18, 16] (fun a b => ∃ q r : Nat, a = .int .u64 q ∧ b = .int .u64 r ∧ r < 4294967296 ∧ EstI R v0 y1 y0 q r) (fun a _ => (intOf a).toNat)
      case atStart => exact ⟨q', R - p', rfl, rfl, HF10.out, HF9.out⟩
      case round =>
        obtain ⟨a2, r2, rfl, rfl, hr, hE⟩ := hrel
        obtain ⟨c2, a2', r2', hci2, hc, hap, hrp, w2, hway⟩ := est_ways (a := a2) q2 q3 hr q6
        have HE2 := Lib.hid hE
        have HC2 := Lib.hid hc
        have HA2 := Lib.hid hap
        have HR2 := Lib.hid hrp
        have HRr2 := Lib.hid hr
        have HU2 := Lib.hid (show 4294967296 * r2 + v0 < 18446744073709551616 by omega)
        have hU1 : IntKind.u64.wrap (4294967296 * (r2 : Int)) = 4294967296 * (r2 : Int) := by rw [IntKind.wrap_u64]; omega
        have hU2 : IntKind.u64.wrap (4294967296 * (r2 : Int) + (v0 : Int)) = 4294967296 * (r2 : Int) + (v0 : Int) := by rw [IntKind.wrap_u64]; omega
        clear hE hc hap hrp hr
        rcases hway with ⟨t1, t2⟩ | ⟨t1, t2⟩ | ⟨t1, t2, t3, t4⟩ | ⟨t1, t2, t3, t4⟩ | ⟨t1, t2, t3⟩
        · obtain ⟨hS, hq1, hq2, w1⟩ := est_nxt HYy.out HYp.out q6 HRY.out HE2.out (.inl t1) HA2.out HR2.out
          have HS2 := Lib.hid hS
          have HQa2 := Lib.hid hq1
          have HQb2 := Lib.hid hq2
          have b1 : decide ((4294967296 : Int) ≤ (a2 : Int)) = true := decide_eq_true (by omega)
          have b2 : decide ((4294967296 : Int) ≤ (r2' : Int)) = false := decide_eq_false (by omega)
          have HT2 := Lib.hid t2
          clear hS hq1 hq2 t1 t2
          go_wp2
          go_round
          case rel => exact ⟨a2', r2', rfl, rfl, HT2.out, HS2.out⟩
          case measure => simp [intOf]; have := HA2.out; have := HQa2.out; omega
        · obtain ⟨hS, hq1, hq2, w1⟩ := est_nxt HYy.out HYp.out q6 HRY.out HE2.out (.inl t1) HA2.out HR2.out
          have HS2 := Lib.hid hS
          have HQa2 := Lib.hid hq1
          have HQb2 := Lib.hid hq2
          have b1 : decide ((4294967296 : Int) ≤ (a2 : Int)) = true := decide_eq_true (by omega)
          have b2 : decide ((4294967296 : Int) ≤ (r2' : Int)) = true := decide_eq_true (by omega)
          have HT2 := Lib.hid t2
          clear hS hq1 hq2 t1 t2
          have HQ2 := Lib.hid (est_fin HYy.out HYp.out HS2.out (est_break q3 HQb2.out HT2.out))
          obtain ⟨T, S, g1, g2, g3, g4⟩ := third (Q := a1') HQ2.out HRY.out HYp.out hYl q6 (by rw [HQ1.out]; exact est_lt2 HYp.out q5 q4)
          have G2 := Lib.hid g2
          have G4 := Lib.hid g4
          clear g2 g4
          go_wp2
          go_ret2
          obtain ⟨d1, d2⟩ := div_fin P (by omega) HNN.out HQ1.out HRd.out HQ2.out G2.out G4.out
          exact ⟨ret_pair d1 d2, 0, rfl⟩
        · obtain ⟨hS, hq1, hq2, w1⟩ := est_nxt HYy.out HYp.out q6 HRY.out HE2.out (.inr (by rw [HC2.out]; exact t3)) HA2.out HR2.out
          have HS2 := Lib.hid hS
          have HQa2 := Lib.hid hq1
          have HQb2 := Lib.hid hq2
          have b1 : decide ((4294967296 : Int) ≤ (a2 : Int)) = false := decide_eq_false (by omega)
          have b3 : decide (4294967296 * (r2 : Int) + (v0 : Int) < (c2 : Int)) = true := decide_eq_true (by omega)
          have b4 : IntKind.u64.wrap (c2 : Int) = (c2 : Int) := by rw [IntKind.wrap_u64]; omega
          have b2 : decide ((4294967296 : Int) ≤ (r2' : Int)) = false := decide_eq_false (by omega)
          have HT2 := Lib.hid t4
          clear hS hq1 hq2 t1 t2 t3 t4
          go_wp2
          go_round
          case rel => exact ⟨a2', r2', rfl, rfl, HT2.out, HS2.out⟩
          case measure => simp [intOf]; have := HA2.out; have := HQa2.out; omega
        · obtain ⟨hS, hq1, hq2, w1⟩ := est_nxt HYy.out HYp.out q6 HRY.out HE2.out (.inr (by rw [HC2.out]; exact t3)) HA2.out HR2.out
          have HS2 := Lib.hid hS
          have HQa2 := Lib.hid hq1
          have HQb2 := Lib.hid hq2
          have b1 : decide ((4294967296 : Int) ≤ (a2 : Int)) = false := decide_eq_false (by omega)
          have b3 : decide (4294967296 * (r2 : Int) + (v0 : Int) < (c2 : Int)) = true := decide_eq_true (by omega)
          have b4 : IntKind.u64.wrap (c2 : Int) = (c2 : Int) := by rw [IntKind.wrap_u64]; omega
          have b2 : decide ((4294967296 : Int) ≤ (r2' : Int)) = true := decide_eq_true (by omega)
          have HT2 := Lib.hid t4
          clear hS hq1 hq2 t1 t2 t3 t4
          have HQ2 := Lib.hid (est_fin HYy.out HYp.out HS2.out (est_break q3 HQb2.out HT2.out))
          obtain ⟨T, S, g1, g2, g3, g4⟩ := third (Q := a1') HQ2.out HRY.out HYp.out hYl q6 (by rw [HQ1.out]; exact est_lt2 HYp.out q5 q4)
          have G2 := Lib.hid g2
          have G4 := Lib.hid g4
          clear g2 g4
          go_wp2
          go_ret2
          obtain ⟨d1, d2⟩ := div_fin P (by omega) HNN.out HQ1.out HRd.out HQ2.out G2.out G4.out
          exact ⟨ret_pair d1 d2, 0, rfl⟩
        · have b1 : decide ((4294967296 : Int) ≤ (a2 : Int)) = false := decide_eq_false (by omega)
          have b3 : decide (4294967296 * (r2 : Int) + (v0 : Int) < (c2 : Int)) = false := decide_eq_false (by omega)
          have b4 : IntKind.u64.wrap (c2 : Int) = (c2 : Int) := by rw [IntKind.wrap_u64]; omega
          have HQ2 := Lib.hid (est_fin HYy.out HYp.out HE2.out (by rw [HC2.out]; exact t3))
          clear t1 t2 t3
          obtain ⟨T, S, g1, g2, g3, g4⟩ := third (Q := a1') HQ2.out HRY.out HYp.out hYl q6 (by rw [HQ1.out]; exact est_lt2 HYp.out q5 q4)
          have G2 := Lib.hid g2
          have G4 := Lib.hid g4
          clear g2 g4
          go_wp2
          go_ret2
          obtain ⟨d1, d2⟩ := div_fin P (by omega) HNN.out HQ1.out HRd.out HQ2.out G2.out G4.out
          exact ⟨ret_pair d1 d2, 0, rfl⟩
    · have b1 : decide ((4294967296 : Int) ≤ (a1 : Int)) = false := decide_eq_false (by omega)
      have b3 : decide (4294967296 * (r1 : Int) + (v1 : Int) < (c1 : Int)) = false := decide_eq_false (by omega)
      have b4 : IntKind.u64.wrap (c1 : Int) = (c1 : Int) := by rw [IntKind.wrap_u64]; omega
      have HQ1 := Lib.hid (est_fin HYy.out HYp.out HE1.out (by rw [HC1.out]; exact t3))
      clear t1 t2 t3
      obtain ⟨R, q', p', f1, f2, f3, f4, f5, f6, f7, f8, f9, f10⟩ := second (v0 := v0) HQ1.out HYy.out q1 q2 q3 q5 q6 q4
      have HRd := Lib.hid f2
      have HRY := Lib.hid f3
      have HF9 := Lib.hid f9
      have HF10 := Lib.hid f10
      clear f2 f3 f9 f10
      go_wp2_with fail
      clear f4 f5 f6 f7 f8 f1
      go_loop [18, 16] (fun a b => ∃ q r : Nat, a = .int .u64 q ∧ b = .int .u64 r ∧ r < 4294967296 ∧ EstI R v0 y1 y0 q r) (fun a _ => (intOf a).toNat)
      case atStart => exact ⟨q', R - p', rfl, rfl, HF10.out, HF9.out⟩
      case round =>
        obtain ⟨a2, r2, rfl, rfl, hr, hE⟩ := hrel
        obtain ⟨c2, a2', r2', hci2, hc, hap, hrp, w2, hway⟩ := est_ways (a := a2) q2 q3 hr q6
        have HE2 := Lib.hid hE
        have HC2 := Lib.hid hc
        have HA2 := Lib.hid hap
        have HR2 := Lib.hid hrp
        have HRr2 := Lib.hid hr
        have HU2 := Lib.hid (show 4294967296 * r2 + v0 < 18446744073709551616 by omega)
        have hU1 : IntKind.u64.wrap (4294967296 * (r2 : Int)) = 4294967296 * (r2 : Int) := by rw [IntKind.wrap_u64]; omega
        have hU2 : IntKind.u64.wrap (4294967296 * (r2 : Int) + (v0 : Int)) = 4294967296 * (r2 : Int) + (v0 : Int) := by rw [IntKind.wrap_u64]; omega
        clear hE hc hap hrp hr
        rcases hway with ⟨t1, t2⟩ | ⟨t1, t2⟩ | ⟨t1, t2, t3, t4⟩ | ⟨t1, t2, t3, t4⟩ | ⟨t1, t2, t3⟩
        · obtain ⟨hS, hq1, hq2, w1⟩ := est_nxt HYy.out HYp.out q6 HRY.out HE2.out (.inl t1) HA2.out HR2.out
          have HS2 := Lib.hid hS
          have HQa2 := Lib.hid hq1
          have HQb2 := Lib.hid hq2
          have b1 : decide ((4294967296 : Int) ≤ (a2 : Int)) = true := decide_eq_true (by omega)
          have b2 : decide ((4294967296 : Int) ≤ (r2' : Int)) = false := decide_eq_false (by omega)
          have HT2 := Lib.hid t2
          clear hS hq1 hq2 t1 t2
          go_wp2
          go_round
          case rel => exact ⟨a2', r2', rfl, rfl, HT2.out, HS2.out⟩
          case measure => simp [intOf]; have := HA2.out; have := HQa2.out; omega
        · obtain ⟨hS, hq1, hq2, w1⟩ := est_nxt HYy.out HYp.out q6 HRY.out HE2.out (.inl t1) HA2.out HR2.out
          have HS2 := Lib.hid hS
          have HQa2 := Lib.hid hq1
          have HQb2 := Lib.hid hq2
          have b1 : decide ((4294967296 : Int) ≤ (a2 : Int)) = true := decide_eq_true (by omega)
          have b2 : decide ((4294967296 : Int) ≤ (r2' : Int)) = true := decide_eq_true (by omega)
          have HT2 := Lib.hid t2
          clear hS hq1 hq2 t1 t2
          have HQ2 := Lib.hid (est_fin HYy.out HYp.out HS2.out (est_break q3 HQb2.out HT2.out))
          obtain ⟨T, S, g1, g2, g3, g4⟩ := third (Q := a1) HQ2.out HRY.out HYp.out hYl q6 (by rw [HQ1.out]; exact est_lt2 HYp.out q5 q4)
          have G2 := Lib.hid g2
          have G4 := Lib.hid g4
          clear g2 g4
          go_wp2
          go_ret2
          obtain ⟨d1, d2⟩ := div_fin P (by omega) HNN.out HQ1.out HRd.out HQ2.out G2.out G4.out
          exact ⟨ret_pair d1 d2, 0, rfl⟩
        · obtain ⟨hS, hq1, hq2, w1⟩ := est_nxt HYy.out HYp.out q6 HRY.out HE2.out (.inr (by rw [HC2.out]; exact t3)) HA2.out HR2.out
          have HS2 := Lib.hid hS
          have HQa2 := Lib.hid hq1
          have HQb2 := Lib.hid hq2
          have b1 : decide ((4294967296 : Int) ≤ (a2 : Int)) = false := decide_eq_false (by omega)
          have b3 : decide (4294967296 * (r2 : Int) + (v0 : Int) < (c2 : Int)) = true := decide_eq_true (by omega)
          have b4 : IntKind.u64.wrap (c2 : Int) = (c2 : Int) := by rw [IntKind.wrap_u64]; omega
          have b2 : decide ((4294967296 : Int) ≤ (r2' : Int)) = false := decide_eq_false (by omega)
          have HT2 := Lib.hid t4
          clear hS hq1 hq2 t1 t2 t3 t4
          go_wp2
          go_round
          case rel => exact ⟨a2', r2', rfl, rfl, HT2.out, HS2.out⟩
          case measure => simp [intOf]; have := HA2.out; have := HQa2.out; omega
        · obtain ⟨hS, hq1, hq2, w1⟩ := est_nxt HYy.out HYp.out q6 HRY.out HE2.out (.inr (by rw [HC2.out]; exact t3)) HA2.out HR2.out
          have HS2 := Lib.hid hS
          have HQa2 := Lib.hid hq1
          have HQb2 := Lib.hid hq2
          have b1 : decide ((4294967296 : Int) ≤ (a2 : Int)) = false := decide_eq_false (by omega)
          have b3 : decide (4294967296 * (r2 : Int) + (v0 : Int) < (c2 : Int)) = true := decide_eq_true (by omega)
          have b4 : IntKind.u64.wrap (c2 : Int) = (c2 : Int) := by rw [IntKind.wrap_u64]; omega
          have b2 : decide ((4294967296 : Int) ≤ (r2' : Int)) = true := decide_eq_true (by omega)
          have HT2 := Lib.hid t4
          clear hS hq1 hq2 t1 t2 t3 t4
          have HQ2 := Lib.hid (est_fin HYy.out HYp.out HS2.out (est_break q3 HQb2.out HT2.out))
          obtain ⟨T, S, g1, g2, g3, g4⟩ := third (Q := a1) HQ2.out HRY.out HYp.out hYl q6 (by rw [HQ1.out]; exact est_lt2 HYp.out q5 q4)
          have G2 := Lib.hid g2
          have G4 := Lib.hid g4
          clear g2 g4
          go_wp2
          go_ret2
          obtain ⟨d1, d2⟩ := div_fin P (by omega) HNN.out HQ1.out HRd.out HQ2.out G2.out G4.out
          exact ⟨ret_pair d1 d2, 0, rfl⟩
        · have b1 : decide ((4294967296 : Int) ≤ (a2 : Int)) = false := decide_eq_false (by omega)
          have b3 : decide (4294967296 * (r2 : Int) + (v0 : Int) < (c2 : Int)) = false := decide_eq_false (by omega)
          have b4 : IntKind.u64.wrap (c2 : Int) = (c2 : Int) := by rw [IntKind.wrap_u64]; omega
          have HQ2 := Lib.hid (est_fin HYy.out HYp.out HE2.out (by rw [HC2.out]; exact t3))
          clear t1 t2 t3
          obtain ⟨T, S, g1, g2, g3, g4⟩ := third (Q := a1) HQ2.out HRY.out HYp.out hYl q6 (by rw [HQ1.out]; exact est_lt2 HYp.out q5 q4)
          have G2 := Lib.hid g2
          have G4 := Lib.hid g4
          clear g2 g4
          go_wp2
          go_ret2
          obtain ⟨d1, d2⟩ := div_fin P (by omega) HNN.out HQ1.out HRd.out HQ2.out G2.out G4.out
          exact ⟨ret_pair d1 d2, 0, rfl⟩

/-- Div64: the quotient and the remainder of two words. -/
theorem div64_any (N hi lo y : Nat) (w : World) (hN : N = hi * 18446744073709551616 + lo) (hl : lo < 18446744073709551616) (hy : y < 18446744073709551616) (hyh : hi < y) :
    Calls Try.prog 120 #[.int .u64 hi, .int .u64 lo, .int .u64 y] w fun e w' => e = .returned (.tuple #[.int .u64 (N / y : Nat), .int .u64 (N % y : Nat)]) ∧ ∃ n, w' = w.drewN n := by
  rcases Nat.eq_zero_or_pos hi with h | h
  · subst h
    obtain rfl : N = lo := by omega
    exact div64_zero N y w hl hy hyh
  · exact div64_big N hi lo y w hN h hl hy hyh
theorem rem_rem {hi lo y : Nat} : (hi % y * 18446744073709551616 + lo) % y = (hi * 18446744073709551616 + lo) % y := by
  rw [Nat.add_mod, Nat.mod_mul_mod, ← Nat.add_mod]

theorem rem64_any (N hi lo y : Nat) (w : World) (hN : N = hi * 18446744073709551616 + lo) (hh : hi < 18446744073709551616) (hl : lo < 18446744073709551616) (hy : y < 18446744073709551616) (hy0 : 0 < y) :
    Calls Try.prog 119 #[.int .u64 hi, .int .u64 lo, .int .u64 y] w fun e w' => e = .returned (.int .u64 (N % y : Nat)) ∧ ∃ n, w' = w.drewN n := by
  have HN := Lib.hid hN
  have hm := Nat.mod_lt hi hy0
  obtain ⟨m, hm'⟩ : ∃ m, hi % y = m := ⟨_, rfl⟩
  have hmi : (hi : Int) % (y : Int) = (m : Int) := by rw [← hm']; rfl
  have hyz : ((y : Int) == 0) = false := by simp; omega
  rw [hm'] at hm
  have HM := Lib.hid hm'
  clear hN hm'
  go_enter Try.func119, Try.ntmps119
  go_wp2_with fail
  refine (div64_any (m * 18446744073709551616 + lo) m lo y _ rfl hl hy hm).mono ?_
  rintro e w' ⟨rfl, hB⟩
  obtain ⟨r, hr⟩ : ∃ r, (m * 18446744073709551616 + lo) % y = r := ⟨_, rfl⟩
  obtain ⟨q, hq⟩ : ∃ q, (m * 18446744073709551616 + lo) / y = q := ⟨_, rfl⟩
  rw [hr, hq]
  have HR := Lib.hid hr
  clear hr hq
  go_wp2
  go_ret
  exact ⟨ret_int (by rw [← HR.out, ← HM.out, rem_rem, ← HN.out] ), hB⟩
end Go.Proofs.Ytkdbffhmnkkbcaa
