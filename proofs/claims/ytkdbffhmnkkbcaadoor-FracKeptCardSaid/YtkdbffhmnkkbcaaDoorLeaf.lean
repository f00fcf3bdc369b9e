/- Contracts of the small functions under package hash's statements: mixing, little-endian words, comparisons. Conditions: as each states. -/
import Derived.WalkKit
import Derived.Outline
import Derived.Lib.Hide
import Derived.LoopTactic
import Derived.Laws.Bits64b
import Derived.Test.YtkdbffhmnkkbcaaDoorProg
import Derived.Test.YtkdbffhmnkkbcaaDoorMath
namespace Go.Proofs.YtkdbffhmnkkbcaaDoor.W
open Go.RowKit

set_option maxHeartbeats 400000 in
theorem mix_any (s x : Int) (w : World) :
    Calls Tryd.prog 31 #[.int .u64 s, .int .u64 x] w fun e w' => e = .returned (.int .u64 (mixI s x)) ∧ w = w' := by
  go_enter Tryd.func31, Tryd.ntmps31
  go_wp2
  go_ret
  exact ⟨rfl, rfl⟩

theorem ret_u64 {a b : Int} (h : a = b) : Ending.returned (.int .u64 a) = .returned (.int .u64 b) := by rw [h]

theorem wrap_u64_in (n : Int) (h0 : 0 ≤ n) (h1 : n ≤ 18446744073709551615) : IntKind.u64.wrap n = n := by
  unfold IntKind.wrap
  simp [IntKind.bits, IntKind.signed]
  omega
theorem wrap_u64_lo (n : Int) : 0 ≤ IntKind.u64.wrap n := by
  unfold IntKind.wrap
  simp [IntKind.bits, IntKind.signed]
  omega
theorem wrap_u64_hi (n : Int) : IntKind.u64.wrap n ≤ 18446744073709551615 := by
  unfold IntKind.wrap
  simp [IntKind.bits, IntKind.signed]
  omega
theorem mix_quo (s x : Int) : bits .xor .u64 (IntKind.u64.wrap (bits .xor .u64 s x * 11400714819323198485)) (IntKind.u64.wrap ((IntKind.u64.wrap (bits .xor .u64 s x * 11400714819323198485)).tdiv 4294967296)) = mixI s x := by
  unfold mixI
  have h0 := wrap_u64_lo (bits .xor .u64 s x * 11400714819323198485)
  have h1 := wrap_u64_hi (bits .xor .u64 s x * 11400714819323198485)
  generalize IntKind.u64.wrap (bits .xor .u64 s x * 11400714819323198485) = a at *
  rw [Int.tdiv_eq_ediv_of_nonneg h0, wrap_u64_in (a / 4294967296) (by omega) (by omega)]

theorem take_snoc_u8 (bs : List UInt8) (k : Nat) (h : k < bs.length) : bs.take (k + 1) = bs.take k ++ [bs[k]] := by
  rw [List.take_succ_eq_append_getElem h]
theorem le_bound (b k : Nat) (hb : b < 256) (hk : k < 8) : b * 2 ^ (8 * k) < 18446744073709551616 := by
  have h1 : 2 ^ (8 * k) ≤ 2 ^ (8 * 7) := Nat.pow_le_pow_right (by decide) (by omega)
  have h2 : 2 ^ (8 * 7) = 72057594037927936 := by decide
  have h3 : b * 2 ^ (8 * k) ≤ 255 * 72057594037927936 := Nat.mul_le_mul (by omega) (by omega)
  omega
/-- The number of the bytes read so far, or-ed with the next byte in its place. -/
theorem le_step (bs : List UInt8) (k : Nat) (h : k < bs.length) (h8 : bs.length ≤ 8) :
    bits .or .u64 (leN (bs.take k) : Int) (IntKind.u64.wrap (IntKind.u64.wrap ((bs[k].toNat : Nat) : Int) * 2 ^ (8 * k))) = (leN (bs.take (k + 1)) : Int) := by
  have hb : bs[k].toNat < 256 := bs[k].toNat_lt
  have hl : (bs.take k).length = k := by rw [List.length_take]; omega
  have h1 := leN_lt (bs.take k)
  rw [hl] at h1
  have h2 := le_bound bs[k].toNat k hb (by omega)
  have h3 := leN_lt8 (bs.take k) (by omega)
  have hp : (256 : Nat) ^ k = 2 ^ (8 * k) := by rw [Nat.pow_mul]
  rw [take_snoc_u8 bs k h, leN_snoc, hl]
  rw [wrap_u64_in ((bs[k].toNat : Nat) : Int) (by omega) (by omega)]
  have e : ((bs[k].toNat : Nat) : Int) * 2 ^ (8 * k) = ((bs[k].toNat * 2 ^ (8 * k) : Nat) : Int) := by push_cast; rfl
  rw [e, wrap_u64_in _ (by omega) (by omega), bits_or_u64_nat _ _ h3 h2]
  congr 1
  rw [hp] at h1 ⊢
  rw [Nat.or_comm, Nat.mul_comm, ← Nat.two_pow_add_eq_or_of_lt h1, Nat.add_comm]

set_option maxHeartbeats 400000 in
theorem le_any (b off cap : Nat) (bs : List UInt8) (w : World) (h8 : bs.length ≤ 8) (hc : ∀ j, j < bs.length → w.cell? ⟨b, off + j, none⟩ = some (.int .u8 ((bs[j]?.getD 0).toNat : Int))) :
    Calls Tryd.prog 46 #[.slice (some ⟨b, off, none⟩) bs.length cap] w fun e w' => e = .returned (.int .u64 (leN bs : Int)) ∧ w = w' := by
  go_enter Tryd.func46, Tryd.ntmps46
  go_wp2
  go_loop [3, 8] (fun n i => ∃ k : Nat, k ≤ bs.length ∧ i = .int .i64 k ∧ n = .int .u64 (leN (bs.take k) : Int)) (fun _ i => bs.length - (intOf i).toNat)
  case atStart => exact ⟨0, Nat.zero_le _, rfl, rfl⟩
  case round =>
    obtain ⟨k, hk, rfl, rfl⟩ := hrel
    by_cases hlt : k < bs.length
    · have hcx := hc k hlt
      go_wp2
      go_round
      case rel =>
        exact ⟨k + 1, by omega, by go_num, by rw [le_step bs k hlt h8]⟩
      case measure => simp [intOf]; omega
    · obtain rfl : k = bs.length := by omega
      go_wp2
      go_ret
      exact ⟨ret_u64 (by first | rfl | rw [List.take_length]), rfl⟩

end Go.Proofs.YtkdbffhmnkkbcaaDoor.W
