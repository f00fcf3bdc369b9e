/- The injectivity of package hash's functions, over lists and integers. Conditions: numbers of 64 bits. -/
import Derived.Test.YtkdbffhmnkkbcaaDoorMath
import Derived.Laws.Bits64
namespace Go.Proofs.YtkdbffhmnkkbcaaDoor.W
open Go.RowKit

/-- The mixing step over natural numbers. -/
def mulN (y : Nat) : Nat := y * 11400714819323198485 % 18446744073709551616
def shN (m : Nat) : Nat := m ^^^ m / 4294967296
theorem mulN_inv (y : Nat) (h : y < 18446744073709551616) : mulN y * 17428512612931826493 % 18446744073709551616 = y := by
  unfold mulN
  rw [Nat.mod_mul_mod, Nat.mul_assoc]
  have e : 11400714819323198485 * 17428512612931826493 = 18446744073709551616 * 10771413168148108919 + 1 := by decide
  rw [e, Nat.mul_add, Nat.mul_one, ← Nat.mul_assoc, Nat.mul_comm y, Nat.mul_assoc, Nat.mul_add_mod]
  exact Nat.mod_eq_of_lt h
theorem mulN_lt (y : Nat) : mulN y < 18446744073709551616 := Nat.mod_lt _ (by decide)
theorem shN_inv (m : Nat) (h : m < 18446744073709551616) : shN (shN m) = m := by
  unfold shN
  have e : (4294967296 : Nat) = 2 ^ 32 := by decide
  rw [e, ← Nat.shiftRight_eq_div_pow, ← Nat.shiftRight_eq_div_pow, Nat.shiftRight_xor_distrib, ← Nat.shiftRight_add]
  have z : m >>> (32 + 32) = 0 := by rw [Nat.shiftRight_eq_div_pow]; exact Nat.div_eq_of_lt (by simpa using h)
  rw [z, Nat.xor_zero, Nat.xor_assoc, Nat.xor_self, Nat.xor_zero]
theorem wrap_u64_nat (n : Nat) : IntKind.u64.wrap (n : Int) = ((n % 18446744073709551616 : Nat) : Int) := by
  unfold IntKind.wrap
  simp [IntKind.bits, IntKind.signed]
theorem mixI_nat (s x : Nat) (hs : s < 18446744073709551616) (hx : x < 18446744073709551616) : mixI s x = (shN (mulN (s ^^^ x)) : Int) := by
  have e : (11400714819323198485 : Int) = ((11400714819323198485 : Nat) : Int) := rfl
  unfold mixI
  rw [bits_xor_u64_nat s x hs hx, e, ← Int.natCast_mul, wrap_u64_nat]
  exact xorShift_u64 _ 4294967296 (Nat.mod_lt _ (by decide))
theorem mixN_inj (y z : Nat) (hy : y < 18446744073709551616) (hz : z < 18446744073709551616) (h : shN (mulN y) = shN (mulN z)) : y = z := by
  have h1 : mulN y = mulN z := by rw [← shN_inv _ (mulN_lt y), ← shN_inv _ (mulN_lt z), h]
  rw [← mulN_inv y hy, ← mulN_inv z hz, h1]
theorem xor_lt (a b : Nat) (ha : a < 18446744073709551616) (hb : b < 18446744073709551616) : a ^^^ b < 18446744073709551616 := Nat.xor_lt_two_pow (n := 64) ha hb
theorem mixI_right {s x y : Int} (hs : 0 ≤ s) (hs' : s ≤ 18446744073709551615) (hx : 0 ≤ x) (hx' : x ≤ 18446744073709551615) (hy : 0 ≤ y) (hy' : y ≤ 18446744073709551615) (h : mixI s x = mixI s y) : x = y := by
  obtain ⟨s, rfl⟩ := Int.eq_ofNat_of_zero_le hs
  obtain ⟨x, rfl⟩ := Int.eq_ofNat_of_zero_le hx
  obtain ⟨y, rfl⟩ := Int.eq_ofNat_of_zero_le hy
  rw [mixI_nat s x (by omega) (by omega), mixI_nat s y (by omega) (by omega)] at h
  have h1 := mixN_inj _ _ (xor_lt s x (by omega) (by omega)) (xor_lt s y (by omega) (by omega)) (by omega)
  have h2 : s ^^^ (s ^^^ x) = s ^^^ (s ^^^ y) := by rw [h1]
  rw [← Nat.xor_assoc, ← Nat.xor_assoc, Nat.xor_self, Nat.zero_xor, Nat.zero_xor] at h2
  rw [h2]
theorem mixI_left {s t x : Int} (hs : 0 ≤ s) (hs' : s ≤ 18446744073709551615) (ht : 0 ≤ t) (ht' : t ≤ 18446744073709551615) (hx : 0 ≤ x) (hx' : x ≤ 18446744073709551615) (h : mixI s x = mixI t x) : s = t := by
  obtain ⟨s, rfl⟩ := Int.eq_ofNat_of_zero_le hs
  obtain ⟨x, rfl⟩ := Int.eq_ofNat_of_zero_le hx
  obtain ⟨t, rfl⟩ := Int.eq_ofNat_of_zero_le ht
  rw [mixI_nat s x (by omega) (by omega), mixI_nat t x (by omega) (by omega)] at h
  have h1 := mixN_inj _ _ (xor_lt s x (by omega) (by omega)) (xor_lt t x (by omega) (by omega)) (by omega)
  have h2 : s ^^^ x ^^^ x = t ^^^ x ^^^ x := by rw [h1]
  rw [Nat.xor_assoc, Nat.xor_assoc, Nat.xor_self, Nat.xor_zero, Nat.xor_zero] at h2
  rw [h2]

theorem wrapU_lo (n : Int) : 0 ≤ IntKind.u64.wrap n := by
  unfold IntKind.wrap
  simp [IntKind.bits, IntKind.signed]
  omega
theorem wrapU_hi (n : Int) : IntKind.u64.wrap n ≤ 18446744073709551615 := by
  unfold IntKind.wrap
  simp [IntKind.bits, IntKind.signed]
  omega
theorem wrapU_inj {a b : Int} (ha : -9223372036854775808 ≤ a) (ha' : a ≤ 9223372036854775807) (hb : -9223372036854775808 ≤ b) (hb' : b ≤ 9223372036854775807) (h : IntKind.u64.wrap a = IntKind.u64.wrap b) : a = b := by
  unfold IntKind.wrap at h
  simp [IntKind.bits, IntKind.signed] at h
  omega
theorem wrap64_inj {a b : Int} (ha : 0 ≤ a) (ha' : a ≤ 18446744073709551615) (hb : 0 ≤ b) (hb' : b ≤ 18446744073709551615) (h : wrap64 a = wrap64 b) : a = b := by
  unfold wrap64 at h
  omega
theorem wrap64_lo (a : Int) : -9223372036854775808 ≤ wrap64 a := by unfold wrap64; omega
theorem wrap64_hi (a : Int) : wrap64 a ≤ 9223372036854775807 := by unfold wrap64; omega

/-- A number of 64 bits, and one of a signed integer. -/
def InU (x : Int) : Prop := 0 ≤ x ∧ x ≤ 18446744073709551615
def InI (x : Int) : Prop := -9223372036854775808 ≤ x ∧ x ≤ 9223372036854775807
theorem mixI_in (s x : Int) : InU (mixI s x) := ⟨mixI_lo s x, mixI_hi s x⟩
theorem mixAll_in (l : List Int) : ∀ s, InU s → InU (mixAll l s) := by
  induction l with
  | nil => exact fun s hs => hs
  | cons x r ih => exact fun s _ => ih _ (mixI_in s x)
theorem mixInts_in (l : List Int) : ∀ s, InU s → InU (mixInts l s) := by
  induction l with
  | nil => exact fun s hs => hs
  | cons x r ih => exact fun s _ => ih _ (mixI_in s _)
theorem mixAll_left (l : List Int) (hl : ∀ x ∈ l, InU x) : ∀ s t, InU s → InU t → mixAll l s = mixAll l t → s = t := by
  induction l with
  | nil => exact fun s t _ _ h => h
  | cons x r ih =>
    intro s t hs ht h
    have hx := hl x (by simp)
    have h1 := ih (fun y hy => hl y (by simp [hy])) _ _ (mixI_in s x) (mixI_in t x) h
    exact mixI_left hs.1 hs.2 ht.1 ht.2 hx.1 hx.2 h1
theorem mixInts_left (l : List Int) : ∀ s t, InU s → InU t → mixInts l s = mixInts l t → s = t := by
  induction l with
  | nil => exact fun s t _ _ h => h
  | cons x r ih =>
    intro s t hs ht h
    have h1 := ih _ _ (mixI_in s _) (mixI_in t _) h
    exact mixI_left hs.1 hs.2 ht.1 ht.2 (wrapU_lo x) (wrapU_hi x) h1
/-- Lists of integers that differ in one element. -/
theorem mixInts_one (p q : List Int) (x y s : Int) (hs : InU s) (hx : InI x) (hy : InI y) (h : mixInts (p ++ x :: q) s = mixInts (p ++ y :: q) s) : x = y := by
  unfold mixInts at h
  rw [List.foldl_append, List.foldl_append, List.foldl_cons, List.foldl_cons] at h
  have h0 := mixInts_in p s hs
  have h1 := mixInts_left q _ _ (mixI_in _ _) (mixI_in _ _) h
  exact wrapU_inj hx.1 hx.2 hy.1 hy.2 (mixI_right h0.1 h0.2 (wrapU_lo x) (wrapU_hi x) (wrapU_lo y) (wrapU_hi y) h1)
/-- Lists of words that differ in one element. -/
theorem mixAll_one (p q : List Int) (x y s : Int) (hs : InU s) (hq : ∀ z ∈ q, InU z) (hx : InU x) (hy : InU y) (h : mixAll (p ++ x :: q) s = mixAll (p ++ y :: q) s) : x = y := by
  unfold mixAll at h
  rw [List.foldl_append, List.foldl_append, List.foldl_cons, List.foldl_cons] at h
  have h0 := mixAll_in p s hs
  have h1 := mixAll_left q hq _ _ (mixI_in _ _) (mixI_in _ _) h
  exact mixI_right h0.1 h0.2 hx.1 hx.2 hy.1 hy.2 h1
theorem zero_in : InU 0 := ⟨by omega, by omega⟩
theorem headI_in (lab : List UInt8) (n : Nat) : InU (headI lab n) := mixI_in _ _
theorem sumI_ints {lab : List UInt8} {l r : List Int} (hlen : l.length = r.length) (h : sumI lab l = sumI lab r) : mixInts l (headI lab l.length) = mixInts r (headI lab l.length) := by
  unfold sumI at h
  rw [← hlen] at h
  have h1 := mixInts_in l _ (headI_in lab l.length)
  have h2 := mixInts_in r _ (headI_in lab l.length)
  exact mixI_left h1.1 h1.2 h2.1 h2.2 zero_in.1 zero_in.2 h
/-- Sums of lists that differ in one element. -/
theorem sumI_one (lab : List UInt8) (p q : List Int) (x y : Int) (hx : InI x) (hy : InI y) (h : sumI lab (p ++ x :: q) = sumI lab (p ++ y :: q)) : x = y := by
  have h1 := sumI_ints (by simp) h
  exact mixInts_one p q x y _ (headI_in _ _) hx hy h1
theorem sumI_last (lab : List UInt8) (p : List Int) (x y : Int) (hx : InI x) (hy : InI y) (h : sumI lab (p ++ [x]) = sumI lab (p ++ [y])) : x = y := sumI_one lab p [] x y hx hy h
theorem sumI_label {lab lab' : List UInt8} {l : List Int} (hlen : lab.length = lab'.length) (hl : lab.length ≤ 140737488351232) (hn : l.length ≤ 140737488351232) (h : sumI lab l = sumI lab' l) : mixAll (wordsL lab) 0 = mixAll (wordsL lab') 0 := by
  unfold sumI at h
  have a1 := mixInts_in l _ (headI_in lab l.length)
  have a2 := mixInts_in l _ (headI_in lab' l.length)
  have h1 := mixI_left a1.1 a1.2 a2.1 a2.2 zero_in.1 zero_in.2 h
  have h2 := mixInts_left l _ _ (headI_in _ _) (headI_in _ _) h1
  unfold headI at h2
  have b1 := mixI_in (mixAll (wordsL lab) 0) (lab.length : Int)
  have b2 := mixI_in (mixAll (wordsL lab') 0) (lab'.length : Int)
  have h3 := mixI_left b1.1 b1.2 b2.1 b2.2 (by omega) (by omega) h2
  rw [← hlen] at h3
  have c1 := mixAll_in (wordsL lab) 0 zero_in
  have c2 := mixAll_in (wordsL lab') 0 zero_in
  exact mixI_left c1.1 c1.2 c2.1 c2.2 (by omega) (by omega) h3

/-- The number of some bytes determines them. -/
theorem leN_inj : ∀ (a b : List UInt8), a.length = b.length → leN a = leN b → a = b
  | [], [], _, _ => rfl
  | [], _ :: _, h, _ => by simp at h
  | _ :: _, [], h, _ => by simp at h
  | x :: a, y :: b, hl, h => by
    have hx := x.toNat_lt
    have hy := y.toNat_lt
    simp only [leN] at h
    have h1 : x.toNat = y.toNat := by omega
    have h2 : leN a = leN b := by omega
    rw [UInt8.toNat_inj.1 h1, leN_inj a b (by simpa using hl) h2]

theorem part_getElem? (bs : List UInt8) (i j : Nat) : ((bs.drop (8 * i)).take 8)[j]? = if j < 8 then bs[8 * i + j]? else none := by
  rw [List.getElem?_take]
  split
  · rw [List.getElem?_drop]
  · rfl
theorem part_same {x y : List UInt8} {i : Nat} (h : ∀ j, j < 8 → x[8 * i + j]? = y[8 * i + j]?) : (x.drop (8 * i)).take 8 = (y.drop (8 * i)).take 8 := by
  apply List.ext_getElem?
  intro j
  rw [part_getElem?, part_getElem?]
  split
  · exact h j ‹_›
  · rfl
theorem word_same {x y : List UInt8} {i : Nat} (h : ∀ j, j < 8 → x[8 * i + j]? = y[8 * i + j]?) : wordAt x i = wordAt y i := by
  unfold wordAt
  rw [part_same h]
theorem word_in (bs : List UInt8) (i : Nat) : InU (wordAt bs i) := ⟨wordAt_lo bs i, wordAt_hi bs i⟩
/-- The words of some bytes, with one of them in sight. -/
theorem words_split (bs : List UInt8) (g : Nat) (hg : g < nWords bs.length) : wordsL bs = (List.range g).map (wordAt bs) ++ wordAt bs g :: (List.range (nWords bs.length - g - 1)).map (fun i => wordAt bs (g + 1 + i)) := by
  unfold wordsL
  have e : nWords bs.length = g + (1 + (nWords bs.length - g - 1)) := by omega
  rw [e, List.range_add, List.map_append, List.range_add]
  have e2 : g + (1 + (nWords bs.length - g - 1)) - g - 1 = nWords bs.length - g - 1 := by omega
  rw [e2]
  simp [Nat.add_assoc]
theorem group_words {x y : List UInt8} (g : Nat) (hl : x.length = y.length) (hg : g < nWords x.length) (hd : ∀ i, i / 8 ≠ g → x[i]? = y[i]?) :
    ∃ p q, wordsL x = p ++ wordAt x g :: q ∧ wordsL y = p ++ wordAt y g :: q ∧ ∀ z ∈ q, InU z := by
  refine ⟨(List.range g).map (wordAt x), (List.range (nWords x.length - g - 1)).map (fun i => wordAt x (g + 1 + i)), words_split x g hg, ?_, ?_⟩
  · rw [words_split y g (by rw [← hl]; exact hg), ← hl]
    congr 1
    · apply List.map_congr_left
      intro i hi
      have hi' := List.mem_range.1 hi
      exact (word_same (fun j hj => hd _ (by omega))).symm
    · congr 1
      apply List.map_congr_left
      intro i _
      exact (word_same (fun j hj => hd _ (by omega))).symm
  · intro z hz
    obtain ⟨i, _, rfl⟩ := List.mem_map.1 hz
    exact word_in _ _
/-- Bytes that agree outside one group, and whose words agree there, are the same. -/
theorem group_same {x y : List UInt8} (g : Nat) (hl : x.length = y.length) (hd : ∀ i, i / 8 ≠ g → x[i]? = y[i]?) (h : wordAt x g = wordAt y g) : x = y := by
  unfold wordAt at h
  have h1 : (x.drop (8 * g)).take 8 = (y.drop (8 * g)).take 8 := leN_inj _ _ (by simp [hl]) (by omega)
  apply List.ext_getElem?
  intro i
  by_cases hi : i / 8 = g
  · have e1 := part_getElem? x g (i % 8)
    have e2 := part_getElem? y g (i % 8)
    rw [h1] at e1
    rw [e1] at e2
    rw [if_pos (by omega), if_pos (by omega)] at e2
    have e3 : 8 * g + i % 8 = i := by omega
    rw [e3] at e2
    exact e2
  · exact hd i hi
theorem bytes_group {s x y : List UInt8} (g : Nat) (hl : x.length = y.length) (hg : g < nWords x.length) (hd : ∀ i, i / 8 ≠ g → x[i]? = y[i]?) (h : bytesI s x = bytesI s y) : x = y := by
  obtain ⟨p, q, hx, hy, _⟩ := group_words g hl hg hd
  unfold bytesI at h
  rw [hx, hy, ← hl, List.map_append, List.map_append, List.map_cons, List.map_cons, List.append_assoc, List.append_assoc, List.cons_append, List.cons_append] at h
  have h1 := sumI_one s _ _ _ _ ⟨wrap64_lo _, wrap64_hi _⟩ ⟨wrap64_lo _, wrap64_hi _⟩ h
  exact group_same g hl hd (wrap64_inj (wordAt_lo _ _) (wordAt_hi _ _) (wordAt_lo _ _) (wordAt_hi _ _) h1)
theorem label_group {x y : List UInt8} {l : List Int} (g : Nat) (hl : x.length = y.length) (hx : x.length ≤ 140737488351232) (hn : l.length ≤ 140737488351232) (hg : g < nWords x.length) (hd : ∀ i, i / 8 ≠ g → x[i]? = y[i]?) (h : sumI x l = sumI y l) : x = y := by
  have h1 := sumI_label hl hx hn h
  obtain ⟨p, q, ex, ey, hq⟩ := group_words g hl hg hd
  rw [ex, ey] at h1
  exact group_same g hl hd (mixAll_one p q _ _ 0 zero_in hq (word_in _ _) (word_in _ _) h1)
theorem pair_left {a b c : Int} (ha : InU a) (hb : InU b) (h : pairI a c = pairI b c) : a = b :=
  wrap64_inj ha.1 ha.2 hb.1 hb.2 (sumI_one _ [] [wrap64 c] _ _ ⟨wrap64_lo _, wrap64_hi _⟩ ⟨wrap64_lo _, wrap64_hi _⟩ h)
theorem pair_right {a b c : Int} (ha : InU a) (hb : InU b) (h : pairI c a = pairI c b) : a = b :=
  wrap64_inj ha.1 ha.2 hb.1 hb.2 (sumI_one _ [wrap64 c] [] _ _ ⟨wrap64_lo _, wrap64_hi _⟩ ⟨wrap64_lo _, wrap64_hi _⟩ h)
/-- A zero byte behind the last group leaves the words, and turns the length. -/
theorem words_zero (bs : List UInt8) (h : bs.length % 8 ≠ 0) : wordsL (bs ++ [0]) = wordsL bs := by
  have e : nWords (bs ++ [0]).length = nWords bs.length := by unfold nWords; rw [List.length_append, List.length_singleton]; omega
  unfold wordsL
  rw [e]
  apply List.map_congr_left
  intro i hi
  have hi' := List.mem_range.1 hi
  unfold wordAt
  by_cases hlast : 8 * i + 8 ≤ bs.length
  · rw [List.drop_append_of_le_length (by omega), List.take_append_of_le_length (by rw [List.length_drop]; omega)]
  · have h1 : 8 * i ≤ bs.length := by unfold nWords at hi'; omega
    rw [List.drop_append_of_le_length h1, List.take_of_length_le (by rw [List.length_append, List.length_drop, List.length_singleton]; omega), List.take_of_length_le (by rw [List.length_drop]; omega), leN_snoc]
    simp
theorem bytes_zero (s bs : List UInt8) (h : bs.length % 8 ≠ 0) (hl : bs.length ≤ 140737488351232) : bytesI s (bs ++ [0]) ≠ bytesI s bs := by
  intro he
  unfold bytesI at he
  rw [words_zero bs h] at he
  have := sumI_last s _ _ _ ⟨by omega, by rw [List.length_append, List.length_singleton]; omega⟩ ⟨by omega, by omega⟩ he
  rw [List.length_append, List.length_singleton] at this
  omega
end Go.Proofs.YtkdbffhmnkkbcaaDoor.W
