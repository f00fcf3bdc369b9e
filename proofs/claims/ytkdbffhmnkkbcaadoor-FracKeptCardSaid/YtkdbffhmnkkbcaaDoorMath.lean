/- The plain mathematics of package hash, over lists and integers: what its functions compute. Conditions: none. -/
import Derived.WalkKit
import Derived.Laws.BitsAllLaws
import Derived.Laws.Closers25b
namespace Go.Proofs.YtkdbffhmnkkbcaaDoor.W
open Go.RowKit

/-- One mixing step, as both texts compute it. -/
def mixI (s x : Int) : Int :=
  bits .xor .u64 (IntKind.u64.wrap (bits .xor .u64 s x * 11400714819323198485)) (IntKind.u64.wrap (bits .xor .u64 s x * 11400714819323198485) / 4294967296)

/-- The number with the given bytes, the least significant one first. -/
def leN : List UInt8 → Nat
  | [] => 0
  | b :: r => b.toNat + 256 * leN r

/-- Word number k of some bytes. -/
def wordAt (bs : List UInt8) (k : Nat) : Int := (leN ((bs.drop (8 * k)).take 8) : Int)
/-- How many words some bytes have. -/
def nWords (n : Nat) : Nat := (n + 7) / 8
/-- The words of some bytes. -/
def wordsL (bs : List UInt8) : List Int := (List.range (nWords bs.length)).map (wordAt bs)

def mixAll (l : List Int) (s : Int) : Int := l.foldl mixI s
def mixInts (l : List Int) (s : Int) : Int := l.foldl (fun s n => mixI s (IntKind.u64.wrap n)) s
def headI (lab : List UInt8) (n : Nat) : Int := mixI (mixI (mixAll (wordsL lab) 0) (lab.length : Int)) (n : Int)
def sumI (lab : List UInt8) (l : List Int) : Int := mixI (mixInts l (headI lab l.length)) 0
def bytesI (lab b : List UInt8) : Int := sumI lab ((wordsL b).map wrap64 ++ [(b.length : Int)])
def pairI (a b : Int) : Int := sumI [112, 97, 105, 114] [wrap64 a, wrap64 b]

theorem mixI_lo (s x : Int) : 0 ≤ mixI s x := by unfold mixI; exact bits_lo_u64 _ _ _
theorem mixI_hi (s x : Int) : mixI s x ≤ 18446744073709551615 := by unfold mixI; exact bits_hi_u64 _ _ _
theorem sumI_lo (lab : List UInt8) (l : List Int) : 0 ≤ sumI lab l := mixI_lo _ _
theorem sumI_hi (lab : List UInt8) (l : List Int) : sumI lab l ≤ 18446744073709551615 := mixI_hi _ _

theorem mixAll_snoc (l : List Int) (x s : Int) : mixAll (l ++ [x]) s = mixI (mixAll l s) x := by simp [mixAll]
theorem mixInts_snoc (l : List Int) (x s : Int) : mixInts (l ++ [x]) s = mixI (mixInts l s) (IntKind.u64.wrap x) := by simp [mixInts]

theorem leN_lt (bs : List UInt8) : leN bs < 256 ^ bs.length := by
  induction bs with
  | nil => simp [leN]
  | cons b r ih =>
    simp only [leN, List.length_cons, Nat.pow_succ]
    have := b.toNat_lt
    omega
theorem leN_snoc (bs : List UInt8) (b : UInt8) : leN (bs ++ [b]) = leN bs + b.toNat * 256 ^ bs.length := by
  induction bs with
  | nil => simp [leN]
  | cons c r ih =>
    simp only [leN, List.cons_append, List.length_cons, Nat.pow_succ, ih]
    rw [Nat.mul_add, ← Nat.add_assoc]
    congr 1
    rw [Nat.mul_comm 256, Nat.mul_assoc]
theorem leN_lt8 (bs : List UInt8) (h : bs.length ≤ 8) : leN bs < 18446744073709551616 := by
  have h1 := leN_lt bs
  have h2 : 256 ^ bs.length ≤ 256 ^ 8 := Nat.pow_le_pow_right (by decide) h
  have h3 : 256 ^ 8 = 18446744073709551616 := by decide
  omega
theorem wordAt_lo (bs : List UInt8) (k : Nat) : 0 ≤ wordAt bs k := by unfold wordAt; omega
theorem wordAt_hi (bs : List UInt8) (k : Nat) : wordAt bs k ≤ 18446744073709551615 := by
  have := leN_lt8 ((bs.drop (8 * k)).take 8) (List.length_take_le _ _)
  unfold wordAt; omega

theorem wordsL_length (bs : List UInt8) : (wordsL bs).length = nWords bs.length := by simp [wordsL]
theorem wordsL_le (bs : List UInt8) (h : bs.length ≤ 140737488351232) : (wordsL bs).length ≤ 140737488351232 := by rw [wordsL_length]; unfold nWords; omega
theorem wrap_u64_wrap64 (x : Int) (h0 : 0 ≤ x) (h1 : x ≤ 18446744073709551615) : IntKind.u64.wrap (wrap64 x) = x := by
  unfold wrap64 IntKind.wrap
  simp [IntKind.bits, IntKind.signed]
  omega
end Go.Proofs.YtkdbffhmnkkbcaaDoor.W
