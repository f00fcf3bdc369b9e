/- Bits of numbers, as package wire computes with them. Conditions: as each states. -/
import Derived.Laws.BitsAllLaws
import Derived.Laws.Bits64b
import Derived.Test.YtkdbffhmnkkbcaaDoorOwn
import Derived.Test.YtkdbffhmnkkbcaaDoorWCode
namespace Go.Proofs.YtkdbffhmnkkbcaaDoor.W
open Go.RowKit

theorem or_128 : ∀ a : Nat, a < 256 → a ||| 128 = 128 + a % 128 := by decide +kernel
theorem u8_or_nat (a b : Nat) (ha : a < 256) (hb : b < 256) : bits .or .u8 (a : Int) (b : Int) = ((a ||| b : Nat) : Int) := by
  have hx : a ||| b < 2 ^ 8 := Nat.or_lt_two_pow (by omega) (by omega)
  have h1 : (BitVec.ofInt 8 (a : Int)).toNat = a := by
    rw [BitVec.ofInt_natCast, BitVec.toNat_ofNat]; exact Nat.mod_eq_of_lt (by omega)
  have h2 : (BitVec.ofInt 8 (b : Int)).toNat = b := by
    rw [BitVec.ofInt_natCast, BitVec.toNat_ofNat]; exact Nat.mod_eq_of_lt (by omega)
  show IntKind.u8.wrap ((BitVec.ofInt 8 (a : Int) ||| BitVec.ofInt 8 (b : Int)).toNat : Int) = _
  rw [BitVec.toNat_or, h1, h2]
  unfold IntKind.wrap
  simp [IntKind.bits, IntKind.signed]
  omega
theorem wrap_u8_nat (m : Nat) : IntKind.u8.wrap (m : Int) = ((m % 256 : Nat) : Int) := by
  unfold IntKind.wrap
  simp [IntKind.bits, IntKind.signed]
theorem ofByte_ofNat (m : Nat) (h : m < 256) : ofByte (UInt8.ofNat m) = (m : Int) := by
  unfold ofByte
  rw [byte_small m h]
theorem or_more (m : Nat) : bits .or .u8 (IntKind.u8.wrap (m : Int)) 128 = ofByte (UInt8.ofNat (128 + m % 128)) := by
  have h := u8_or_nat (m % 256) 128 (by omega) (by omega)
  rw [or_128 _ (by omega)] at h
  rw [wrap_u8_nat, ofByte_ofNat _ (by omega)]
  refine h.trans ?_
  congr 1
  omega
theorem wrap_small (m : Nat) (h : m < 128) : IntKind.u8.wrap (m : Int) = ofByte (UInt8.ofNat m) := by
  rw [wrap_u8_nat, ofByte_ofNat _ (by omega), Nat.mod_eq_of_lt (by omega)]
theorem ofByte_lo (c : UInt8) : 0 ≤ ofByte c := by unfold ofByte; omega
theorem ofByte_hi (c : UInt8) : ofByte c ≤ 255 := by have := c.toNat_lt; unfold ofByte; omega

theorem ones64 (a : Nat) (h : a < 18446744073709551616) : a ^^^ 18446744073709551615 = 18446744073709551615 - a := by
  have e : (BitVec.ofNat 64 a ^^^ BitVec.allOnes 64).toNat = (~~~ BitVec.ofNat 64 a).toNat := by rw [BitVec.xor_allOnes]
  rw [BitVec.toNat_xor, BitVec.toNat_not, BitVec.toNat_ofNat, BitVec.toNat_allOnes, Nat.mod_eq_of_lt h] at e
  exact e
theorem wrap_u64_of (n : Int) : IntKind.u64.wrap n = n % 18446744073709551616 := by
  unfold IntKind.wrap
  simp [IntKind.bits, IntKind.signed]
theorem zig_bits (n : Int) (h0 : -9223372036854775808 ≤ n) (h1 : n ≤ 9223372036854775807) :
    bits .xor .u64 (IntKind.u64.wrap (IntKind.u64.wrap n * 2)) (IntKind.u64.wrap (n / 9223372036854775808)) = (zz n : Int) := by
  rw [wrap_u64_of n, wrap_u64_of (n / 9223372036854775808), wrap_u64_of]
  by_cases h : n < 0
  · have e1 : n / 9223372036854775808 % 18446744073709551616 = ((18446744073709551615 : Nat) : Int) := by omega
    have e2 : n % 18446744073709551616 * 2 % 18446744073709551616 = (((2 * n + 18446744073709551616).toNat : Nat) : Int) := by omega
    rw [e1, e2, bits_xor_u64_nat _ _ (by omega) (by omega), ones64 _ (by omega)]
    unfold zz
    rw [if_pos h]
    omega
  · have e1 : n / 9223372036854775808 % 18446744073709551616 = ((0 : Nat) : Int) := by omega
    have e2 : n % 18446744073709551616 * 2 % 18446744073709551616 = (((2 * n).toNat : Nat) : Int) := by omega
    rw [e1, e2, bits_xor_u64_nat _ _ (by omega) (by omega), Nat.xor_zero]
    unfold zz
    rw [if_neg h]
theorem and_one (z : Nat) (h : z < 18446744073709551616) : bits .and .u64 (z : Int) 1 = ((z % 2 : Nat) : Int) := by
  have := bits_and_u64_nat z 1 h (by omega)
  rw [Nat.and_one_is_mod] at this
  exact this
theorem xor_i64_zero (a : Nat) (h : a < 9223372036854775808) : bits .xor .i64 (a : Int) 0 = (a : Int) := by
  have h1 : (BitVec.ofInt 64 (a : Int)).toNat = a := by
    rw [BitVec.ofInt_natCast, BitVec.toNat_ofNat]; exact Nat.mod_eq_of_lt (by omega)
  show IntKind.i64.wrap ((BitVec.ofInt 64 (a : Int) ^^^ BitVec.ofInt 64 (0 : Int)).toNat : Int) = _
  have h2 : BitVec.ofInt 64 (0 : Int) = 0#64 := rfl
  rw [h2, BitVec.xor_zero, h1, IntKind.wrap_i64]
  omega
theorem xor_i64_ones (a : Nat) (h : a < 9223372036854775808) : bits .xor .i64 (a : Int) (-1) = -(a : Int) - 1 := by
  have h1 : (BitVec.ofInt 64 (a : Int)).toNat = a := by
    rw [BitVec.ofInt_natCast, BitVec.toNat_ofNat]; exact Nat.mod_eq_of_lt (by omega)
  show IntKind.i64.wrap ((BitVec.ofInt 64 (a : Int) ^^^ BitVec.ofInt 64 (-1 : Int)).toNat : Int) = _
  have h2 : BitVec.ofInt 64 (-1 : Int) = BitVec.allOnes 64 := by decide
  rw [h2, BitVec.xor_allOnes, BitVec.toNat_not, h1, IntKind.wrap_i64]
  omega
theorem unzig_bits (z : Nat) (h : z < 18446744073709551616) : bits .xor .i64 ((z : Int) / 2) (wrap64 (-wrap64 (bits .and .u64 (z : Int) 1))) = unzz z := by
  rw [and_one z h]
  have e : (z : Int) / 2 = ((z / 2 : Nat) : Int) := by omega
  rw [e]
  unfold unzz
  by_cases h1 : z % 2 = 1
  · rw [if_pos h1, h1]
    have : wrap64 (-wrap64 ((1 : Nat) : Int)) = -1 := by unfold wrap64; omega
    rw [this, xor_i64_ones _ (by omega)]
  · have h2 : z % 2 = 0 := by omega
    rw [if_neg h1, h2]
    have : wrap64 (-wrap64 ((0 : Nat) : Int)) = 0 := by unfold wrap64; omega
    rw [this, xor_i64_zero _ (by omega)]
/-- The next seven bits of a number, or-ed in. -/
theorem or_digits (i acc c : Nat) (hi : i ≤ 9) (ha : acc < 128 ^ i) (hc : c < 128) (h9 : i = 9 → c ≤ 1) :
    bits .or .u64 (acc : Int) (IntKind.u64.wrap ((c : Int) * 2 ^ (7 * i))) = ((acc + c * 128 ^ i : Nat) : Int) := by
  have hp : (128 : Nat) ^ i = 2 ^ (7 * i) := by rw [Nat.pow_mul]
  have hpos : 0 < 2 ^ (7 * i) := Nat.two_pow_pos _
  have hb : (acc + c * 128 ^ i) < 18446744073709551616 := by
    rcases Nat.lt_or_ge i 9 with h | h
    · have h1 : 128 ^ i ≤ 128 ^ 8 := Nat.pow_le_pow_right (by decide) (by omega)
      have h2 : (128 : Nat) ^ 8 = 72057594037927936 := by decide
      have h3 : c * 128 ^ i ≤ 127 * 72057594037927936 := Nat.mul_le_mul (by omega) (by omega)
      omega
    · obtain rfl : i = 9 := by omega
      have h1 := h9 rfl
      have h2 : (128 : Nat) ^ 9 = 9223372036854775808 := by decide
      have h3 : c * 128 ^ 9 ≤ 1 * 9223372036854775808 := Nat.mul_le_mul h1 (by omega)
      omega
  have e : (c : Int) * 2 ^ (7 * i) = ((c * 128 ^ i : Nat) : Int) := by rw [hp]; push_cast; rfl
  have e2 : ((c * 128 ^ i : Nat) : Int) % 18446744073709551616 = ((c * 128 ^ i : Nat) : Int) := by
    have : c * 128 ^ i < 18446744073709551616 := by omega
    omega
  rw [e, wrap_u64_of, e2, bits_or_u64_nat _ _ (by omega) (by omega)]
  congr 1
  rw [hp] at ha ⊢
  rw [Nat.or_comm, Nat.mul_comm, ← Nat.two_pow_add_eq_or_of_lt ha, Nat.add_comm]
end Go.Proofs.YtkdbffhmnkkbcaaDoor.W
