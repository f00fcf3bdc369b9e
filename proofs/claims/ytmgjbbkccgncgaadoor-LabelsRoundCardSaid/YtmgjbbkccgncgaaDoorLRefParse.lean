/- The contract of the reference's Parse. Conditions: a text of at most 1000 bytes. -/
import Derived.Deep.RegionLaw
import Derived.Test.YtmgjbbkccgncgaaDoorLParse
namespace Go.Proofs.YtmgjbbkccgncgaaDoor
open Go.RowKit

/-- The place of a byte at or behind a place, or -1. -/
def untilI (s : ByteArray) (i : Nat) (c : UInt8) : Int := if Lib.indexByte (s.data.toList.drop i) c < 0 then -1 else (i : Int) + Lib.indexByte (s.data.toList.drop i) c
theorem drop_at {s : ByteArray} {k : Nat} (h : k < s.size) : s.data.toList.drop k = s[k]'h :: s.data.toList.drop (k + 1) := by
  have h' : k < s.data.toList.length := by rw [ba_size]; exact h
  rw [List.drop_eq_getElem_cons h']
  rfl
theorem until_hit {s : ByteArray} {k : Nat} {c : UInt8} (h : k < s.size) (e : s[k]'h = c) : untilI s k c = (k : Int) := by
  unfold untilI
  rw [drop_at h, e, Lib.indexByte]
  simp
theorem until_miss {s : ByteArray} {k : Nat} {c : UInt8} (h : k < s.size) (e : s[k]'h ≠ c) : untilI s k c = untilI s (k + 1) c := by
  unfold untilI
  rw [drop_at h, Lib.indexByte]
  have hx : (s[k]'h == c) = false := by simpa using e
  rw [hx]
  have hge := Lib.indexByte_ge (s.data.toList.drop (k + 1)) c
  by_cases hm : Lib.indexByte (s.data.toList.drop (k + 1)) c = -1
  · rw [hm]; rfl
  · have h1 : (Lib.indexByte (s.data.toList.drop (k + 1)) c == -1) = false := by rw [beq_eq_false_iff_ne]; exact hm
    rw [h1]
    simp only [Bool.false_eq_true, if_false]
    rw [if_neg (by omega), if_neg (by omega)]
    omega
theorem until_end {s : ByteArray} {k : Nat} {c : UInt8} (h : s.size ≤ k) : untilI s k c = -1 := by
  unfold untilI
  rw [List.drop_eq_nil_of_le (by rw [ba_size]; exact h)]
  rfl
theorem ret_i64x {a b : Int} (h : a = b) : Ending.returned (.int .i64 a) = .returned (.int .i64 b) := by rw [h]
theorem owns_len {W : World} {base n m : Nat} {v : Value} {e size : Nat} {xs : List Value} (h : n = m) (ho : W.ownsRow base e size v m xs) : W.ownsRow base e size v n xs := by rw [h]; exact ho

theorem indexByte_lt2 (l : Bs) (c : UInt8) (h : 0 ≤ Lib.indexByte l c) : Lib.indexByte l c < l.length := by
  induction l with
  | nil => simp [Lib.indexByte] at h
  | cons x l ih =>
    unfold Lib.indexByte at h ⊢
    by_cases hx : (x == c) = true
    · rw [if_pos hx]; simp only [List.length_cons]; omega
    · rw [if_neg hx] at h ⊢
      by_cases hm : (Lib.indexByte l c == -1) = true
      · rw [if_pos hm] at h; omega
      · rw [if_neg hm] at h ⊢
        have := Lib.indexByte_ge l c
        have hne : Lib.indexByte l c ≠ -1 := fun e => hm (beq_iff_eq.2 e)
        have := ih (by omega)
        simp only [List.length_cons]; omega
/-- What until answers, and what it says of the index behind the place. -/
theorem until_cases (s : ByteArray) (i : Nat) (c : UInt8) : (untilI s i c = -1 ∧ Lib.indexByte (s.data.toList.drop i) c < 0) ∨
    ∃ e : Nat, untilI s i c = ((i + e : Nat) : Int) ∧ Lib.indexByte (s.data.toList.drop i) c = (e : Int) ∧ i + e < s.size := by
  unfold untilI
  by_cases h : Lib.indexByte (s.data.toList.drop i) c < 0
  · left; rw [if_pos h]; exact ⟨rfl, h⟩
  · right
    rw [if_neg h]
    have h1 := indexByte_lt2 (s.data.toList.drop i) c (by omega)
    rw [List.length_drop, ba_size] at h1
    exact ⟨(Lib.indexByte (s.data.toList.drop i) c).toNat, by omega, by omega, by omega⟩
theorem ext_eq (s : ByteArray) (i j : Nat) : s.extract i j = ⟨((s.data.toList.drop i).take (j - i)).toArray⟩ := by
  apply ba_ext
  rw [ByteArray.data_extract, Array.toList_extract, List.extract_eq_take_drop]
theorem ref_step {s : ByteArray} {i e f n : Nat} {acc : List L2} (hn : acc.length = n) (h9 : n < 9) (h1 : Lib.indexByte (s.data.toList.drop i) 61 = (e : Int)) (h2 : Lib.indexByte (s.data.toList.drop (i + e + 2)) 34 = (f : Int))
    (h : acc ++ (refL (9 - n) (s.data.toList.drop i)).map ofB = refP s) :
    (acc ++ [(s.extract i (i + e), s.extract (i + e + 2) (i + e + 2 + f))]) ++ (refL (9 - (n + 1)) (s.data.toList.drop (i + e + 2 + f + 2))).map ofB = refP s := by
  have hd : (s.data.toList.drop i).drop (e + 2) = s.data.toList.drop (i + e + 2) := by rw [List.drop_drop]; congr 1
  have hd2 : (s.data.toList.drop (i + e + 2)).drop (f + 2) = s.data.toList.drop (i + e + 2 + f + 2) := by rw [List.drop_drop]; congr 1
  rw [show 9 - n = (9 - (n + 1)) + 1 by omega, refL_yes h1 (by rw [hd]; exact h2), hd, hd2, List.map_cons] at h
  rw [← h, List.append_assoc]
  congr 1
  rw [List.cons_append, List.nil_append]
  congr 1
  unfold ofB
  rw [ext_eq, ext_eq, show i + e - i = e by omega, show i + e + 2 + f - (i + e + 2) = f by omega]
theorem ref_stop0 {s : ByteArray} {i n : Nat} {acc : List L2} (h : acc ++ (refL (9 - n) (s.data.toList.drop i)).map ofB = refP s) (hc : s.size ≤ i ∨ n = 9) : refP s = acc := by
  have e : refL (9 - n) (s.data.toList.drop i) = [] := by
    rcases hc with hc | hc
    · rw [List.drop_eq_nil_of_le (by rw [ba_size]; exact hc)]
      exact refL_no1 (by decide)
    · rw [hc]; rfl
  rw [e] at h
  rw [← h]; simp
theorem ref_stop1 {s : ByteArray} {i n : Nat} {acc : List L2} (h : acc ++ (refL (9 - n) (s.data.toList.drop i)).map ofB = refP s) (hc : Lib.indexByte (s.data.toList.drop i) 61 < 0) : refP s = acc := by
  rw [refL_no1 hc] at h
  rw [← h]; simp
theorem ref_stop2 {s : ByteArray} {i e n : Nat} {acc : List L2} (h : acc ++ (refL (9 - n) (s.data.toList.drop i)).map ofB = refP s) (h1 : Lib.indexByte (s.data.toList.drop i) 61 = (e : Int)) (hc : Lib.indexByte (s.data.toList.drop (i + e + 2)) 34 < 0) : refP s = acc := by
  have hd : (s.data.toList.drop i).drop (e + 2) = s.data.toList.drop (i + e + 2) := by rw [List.drop_drop]; congr 1
  rw [refL_no2 h1 (by rw [hd]; exact hc)] at h
  rw [← h]; simp
theorem Sz.snoc {it : List L2} (h : Sz it) {n v : ByteArray} (hn : n.size ≤ 1000) (hv : v.size ≤ 1000) : Sz (it ++ [(n, v)]) := fun t ht => by
  rcases List.mem_append.1 ht with h1 | h1
  · exact h t h1
  · rw [List.mem_singleton] at h1
    subst h1
    exact ⟨hn, hv⟩

end Go.Proofs.YtmgjbbkccgncgaaDoor
