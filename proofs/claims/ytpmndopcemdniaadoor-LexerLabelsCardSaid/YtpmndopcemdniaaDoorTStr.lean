/- Strings as lists of bytes; where a trimming by a class of ASCII characters ends. Conditions: as each states. -/
import Derived.Laws.RangeString
import Derived.Shelf.Strings.FuncGrows
import Derived.Test.YtpmndopcemdniaaDoorTMath
namespace Go.Proofs.YtpmndopcemdniaaDoor
open Go.RowKit

/-- The string of some bytes. -/
def ba (l : List UInt8) : ByteArray := ⟨l.toArray⟩
theorem ba_list (l : List UInt8) : (ba l).data.toList = l := rfl
theorem ba_of (s : ByteArray) : ba s.data.toList = s := by unfold ba; simp
theorem ba_len (l : List UInt8) : (ba l).size = l.length := List.size_toArray ..
theorem ba_eq {s : ByteArray} {l : List UInt8} (h : s.data.toList = l) : s = ba l := by rw [← h, ba_of]
theorem list_len (s : ByteArray) : s.data.toList.length = s.size := by simp
theorem ba_inj {a b : List UInt8} (h : ba a = ba b) : a = b := by
  have := congrArg (fun x : ByteArray => x.data.toList) h
  exact this
theorem get_byte (s : ByteArray) (k : Nat) (h : k < s.size) : s.data.toList[k]'(by rw [list_len]; exact h) = s[k]'h := by
  rw [Array.getElem_toList]; rfl
theorem ba_ext (s : ByteArray) (a b : Nat) : s.extract a b = ba ((s.data.toList.take b).drop a) := by
  apply ba_eq
  rw [ByteArray.data_extract, Array.toList_extract, List.extract_eq_take_drop, List.drop_take]
theorem ba_take (s : ByteArray) (b : Nat) : s.extract 0 b = ba (s.data.toList.take b) := by rw [ba_ext, List.drop_zero]
theorem ba_drop (s : ByteArray) (a : Nat) : s.extract a s.size = ba (s.data.toList.drop a) := by
  rw [ba_ext, List.take_of_length_le (by rw [list_len]; exact Nat.le_refl _)]
theorem drop_cons (s : ByteArray) (k : Nat) (h : k < s.size) : s.data.toList.drop k = s[k]'h :: s.data.toList.drop (k + 1) := by
  rw [List.drop_eq_getElem_cons (by rw [list_len]; exact h), get_byte s k h]

/-- Where a class of ASCII characters ends. -/
theorem idx_class (p : Nat → Bool) (q : UInt8 → Bool) (hq : ∀ c : UInt8, c.toNat < 128 → p c.toNat = q c) (hw : ∀ c : UInt8, ¬ c.toNat < 128 → q c = false) (hx : ∀ x, 128 ≤ x → p x = false) (s : ByteArray) :
    ∀ (f k : Nat), s.size ≤ f + k → k ≤ s.size → Lib.idxFuncFrom p false s f k = if k + ((s.data.toList.drop k).takeWhile q).length < s.size then ((k + ((s.data.toList.drop k).takeWhile q).length : Nat) : Int) else -1
  | 0, k, h, h2 => by
    obtain rfl : k = s.size := by omega
    rw [Lib.idxFuncFrom_end _ _ _ _ _ (by omega), if_neg (by omega)]
  | f + 1, k, h, h2 => by
    by_cases hk : k < s.size
    · rw [drop_cons s k hk, List.takeWhile_cons]
      unfold Lib.idxFuncFrom
      rw [if_pos hk]
      by_cases ha : (s[k]'hk).toNat < 128
      · rw [decode_ascii s k hk ha]
        dsimp only
        rw [hq _ ha]
        cases hc : q (s[k]'hk)
        · simp [hk]
        · rw [idx_class p q hq hw hx s f (k + 1) (by omega) (by omega)]
          simp only [Bool.true_eq_false, if_false, if_true, List.length_cons]
          rw [show k + 1 + ((s.data.toList.drop (k + 1)).takeWhile q).length = k + (((s.data.toList.drop (k + 1)).takeWhile q).length + 1) by omega]
      · have hd := decode_wide s k hk ha
        rw [hx _ hd, hw _ ha]
        simp [hk]
    · rw [Lib.idxFuncFrom_end _ _ _ _ _ hk, if_neg (by omega)]
theorem trim_class (p : Nat → Bool) (q : UInt8 → Bool) (hq : ∀ c : UInt8, c.toNat < 128 → p c.toNat = q c) (hw : ∀ c : UInt8, ¬ c.toNat < 128 → q c = false) (hx : ∀ x, 128 ≤ x → p x = false) (s : ByteArray) :
    (Lib.trimLeftF p s).size = s.size - (s.data.toList.takeWhile q).length := by
  have h := idx_class p q hq hw hx s s.size 0 (by omega) (by omega)
  rw [List.drop_zero, Nat.zero_add] at h
  have hl : (s.data.toList.takeWhile q).length ≤ s.size := by rw [← list_len s]; exact (List.takeWhile_prefix _).length_le
  unfold Lib.trimLeftF Lib.idxFunc
  rw [h]
  by_cases h2 : (s.data.toList.takeWhile q).length < s.size
  · rw [if_pos h2, if_neg (by omega), ByteArray.size_extract]
    omega
  · rw [if_neg h2, if_pos rfl]
    show 0 = _
    omega
end Go.Proofs.YtpmndopcemdniaaDoor
