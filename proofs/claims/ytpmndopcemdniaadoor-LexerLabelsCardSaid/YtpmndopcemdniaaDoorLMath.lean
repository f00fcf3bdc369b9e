/- Names, values and lists of labels: the plain mathematics. Conditions: none. -/
import Derived.WalkKit
import Derived.Laws.RangeString
import Derived.Laws.RangeAny
import Derived.Laws.StructEq
namespace Go.Proofs.YtpmndopcemdniaaDoor
open Go.RowKit

/-- A letter; a further character of a name. -/
def ltrI (c : Int) : Bool := decide (97 ≤ c ∧ c ≤ 122)
def digI (c : Int) : Bool := decide (48 ≤ c ∧ c ≤ 57)
def nchP (j : Nat) (c : Int) : Prop := (97 ≤ c ∧ c ≤ 122) ∨ (j ≠ 0 ∧ ((48 ≤ c ∧ c ≤ 57) ∨ c = 95))
instance (j : Nat) (c : Int) : Decidable (nchP j c) := by unfold nchP; infer_instance
def nameP (s : ByteArray) : Prop := 1 ≤ s.size ∧ s.size ≤ 16 ∧ ∀ j, (h : j < s.size) → nchP j ((s[j]'h).toNat : Int)
instance (s : ByteArray) : Decidable (nameP s) := by unfold nameP; infer_instance
def nameB (s : ByteArray) : Bool := decide (nameP s)
/-- A character of a value. -/
def vchP (c : Int) : Prop := 33 ≤ c ∧ c ≤ 126 ∧ c ≠ 34 ∧ c ≠ 92 ∧ c ≠ 44 ∧ c ≠ 123 ∧ c ≠ 125
instance (c : Int) : Decidable (vchP c) := by unfold vchP; infer_instance
def valP (s : ByteArray) : Prop := s.size ≤ 16 ∧ ∀ j, (h : j < s.size) → vchP ((s[j]'h).toNat : Int)
instance (s : ByteArray) : Decidable (valP s) := by unfold valP; infer_instance
def valB (s : ByteArray) : Bool := decide (valP s)
theorem nameB_true {s : ByteArray} (h1 : 1 ≤ s.size) (h2 : s.size ≤ 16) (h : ∀ j, (h : j < s.size) → nchP j ((s[j]'h).toNat : Int)) : nameB s = true := decide_eq_true ⟨h1, h2, h⟩
theorem nameB_short {s : ByteArray} (h : ¬ 1 ≤ s.size) : nameB s = false := decide_eq_false fun x => h x.1
theorem nameB_long {s : ByteArray} (h : ¬ s.size ≤ 16) : nameB s = false := decide_eq_false fun x => h x.2.1
theorem nameB_at {s : ByteArray} (j : Nat) (hj : j < s.size) (h : ¬ nchP j ((s[j]'hj).toNat : Int)) : nameB s = false := decide_eq_false fun x => h (x.2.2 j hj)
theorem valB_true {s : ByteArray} (h2 : s.size ≤ 16) (h : ∀ j, (h : j < s.size) → vchP ((s[j]'h).toNat : Int)) : valB s = true := decide_eq_true ⟨h2, h⟩
theorem valB_long {s : ByteArray} (h : ¬ s.size ≤ 16) : valB s = false := decide_eq_false fun x => h x.1
theorem valB_at {s : ByteArray} (j : Nat) (hj : j < s.size) (h : ¬ vchP ((s[j]'hj).toNat : Int)) : valB s = false := decide_eq_false fun x => h (x.2 j hj)
theorem nameB_size {s : ByteArray} (h : nameB s = true) : 1 ≤ s.size ∧ s.size ≤ 16 := ⟨(of_decide_eq_true h).1, (of_decide_eq_true h).2.1⟩
theorem valB_size {s : ByteArray} (h : valB s = true) : s.size ≤ 16 := (of_decide_eq_true h).1
theorem u8_lt (c : UInt8) : (0 : Int) ≤ (c.toNat : Int) ∧ (c.toNat : Int) ≤ 255 := by
  have := c.toNat_lt
  omega
theorem empty_no {s : ByteArray} (h : 1 ≤ s.size) : ¬ s.toList = [] := by
  rw [ByteArray.toList_eq]
  intro e
  have h1 : s.data.toList.length = 0 := by rw [e]; rfl
  have h2 : s.data.toList.length = s.size := Array.length_toList
  omega
theorem empty_is {s : ByteArray} (h : ¬ 1 ≤ s.size) : s.toList = [] := by
  rw [ByteArray.toList_eq]
  apply List.eq_nil_of_length_eq_zero
  have h2 : s.data.toList.length = s.size := Array.length_toList
  omega
theorem isEmpty_no {s : ByteArray} (h : 1 ≤ s.size) : s.toList.isEmpty = false := by
  have := empty_no h
  simpa using this
theorem isEmpty_is {s : ByteArray} (h : ¬ 1 ≤ s.size) : s.toList.isEmpty = true := by
  rw [empty_is h]; rfl
theorem decode_wide (s : ByteArray) (pos : Nat) (h : pos < s.size) (ha : ¬ (s[pos]'h).toNat < 128) : 128 ≤ (Utf8.decode s pos).1 := by
  have e : s.get! (pos + 0) = s[pos]'h := by
    show s.get! pos = _
    simp [ByteArray.get!, getElem!_pos, h]
    rfl
  have hb : ∀ k, (s.get! (pos + k)).toNat < 256 := fun k => (s.get! (pos + k)).toNat_lt
  have h1 := hb 1; have h2 := hb 2; have h3 := hb 3
  have h0 := (s[pos]'h).toNat_lt
  simp only [Utf8.decode, e, ha, if_false]
  clear e hb
  repeat' split
  all_goals simp_all [Utf8.runeError]
  all_goals omega
/-- The bytes up to k are characters of a name; of a value. -/
def NamePre (s : ByteArray) (k : Nat) : Prop := ∀ j, (h : j < s.size) → j < k → nchP j ((s[j]'h).toNat : Int)
def ValPre (s : ByteArray) (k : Nat) : Prop := ∀ j, (h : j < s.size) → j < k → vchP ((s[j]'h).toNat : Int)
theorem NamePre.zero (s : ByteArray) : NamePre s 0 := fun _ _ h => by omega
theorem ValPre.zero (s : ByteArray) : ValPre s 0 := fun _ _ h => by omega
theorem NamePre.succ {s : ByteArray} {k : Nat} (h : NamePre s k) (hk : k < s.size) (hc : nchP k ((s[k]'hk).toNat : Int)) : NamePre s (k + 1) := fun j hj hl => by
  by_cases e : j = k
  · subst e; exact hc
  · exact h j hj (by omega)
theorem ValPre.succ {s : ByteArray} {k : Nat} (h : ValPre s k) (hk : k < s.size) (hc : vchP ((s[k]'hk).toNat : Int)) : ValPre s (k + 1) := fun j hj hl => by
  by_cases e : j = k
  · subst e; exact hc
  · exact h j hj (by omega)
/-- One of the five bytes that no value contains. -/
def resB (c : Int) : Bool := decide (c = 34 ∨ c = 92 ∨ c = 44 ∨ c = 123 ∨ c = 125)
/-- A valid matcher. -/
def vmB (n : ByteArray) (k : Int) (v : ByteArray) : Bool := nameB n && decide (0 ≤ k ∧ k ≤ 2) && valB v
end Go.Proofs.YtpmndopcemdniaaDoor
