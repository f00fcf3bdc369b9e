/- What Parse answers: the plain mathematics of cutting a text into its elements, as the code and as the reference do it. Conditions: none. -/
import Derived.Lib.Split
import Derived.Lib.SlTrimSet
import Derived.Lib.IndexMore
import Derived.Test.YtmgjbbkccgncgaaDoorLGood
namespace Go.Proofs.YtmgjbbkccgncgaaDoor
open Go.RowKit

abbrev Bs := List UInt8
def elB (n v : Bs) : Bs := n ++ 61 :: 34 :: (v ++ [34])
/-- The elements of a text, as lists of bytes. -/
def elsB (it : List L2) : List Bs := it.map fun t => elB t.1.data.toList t.2.data.toList
theorem els_data (it : List L2) : (els it).map (·.data.toList) = elsB it := by
  unfold els elsB
  rw [List.map_map]
  apply List.map_congr_left
  intro t _
  show (elS t.1 t.2).data.toList = _
  unfold elS elB
  simp
theorem text_bytes (it : List L2) : (textB it).data.toList = 123 :: (Lib.join (elsB it) [44] ++ [125]) := by
  unfold textB
  rw [ba_append, ba_append, els_data]
  rfl
/-- The bytes of a good label. -/
structure GoodB (n v : Bs) : Prop where
  n0 : n ≠ []
  n1 : ∀ b ∈ n, b ≠ 61 ∧ b ≠ 44 ∧ b ≠ 34 ∧ b ≠ 123 ∧ b ≠ 125
  v0 : v ≠ []
  v1 : ∀ b ∈ v, b ≠ 44 ∧ b ≠ 34 ∧ b ≠ 123 ∧ b ≠ 125
theorem mem_at {s : ByteArray} {b : UInt8} (h : b ∈ s.data.toList) : ∃ j, ∃ hj : j < s.size, s[j]'hj = b := by
  obtain ⟨j, hj, e⟩ := List.getElem_of_mem h
  have hj' : j < s.size := by rw [← ba_size]; exact hj
  exact ⟨j, hj', by rw [← e]; rfl⟩
theorem Good.bytes {t : L2} (h : Good t) : GoodB t.1.data.toList t.2.data.toList := by
  obtain ⟨n, v⟩ := t
  obtain ⟨h1, h2, h3⟩ := h
  have h2 : 1 ≤ v.size := h2
  have hn : nameP n := of_decide_eq_true h1
  have hv : valP v := of_decide_eq_true h3
  refine ⟨fun e => ?_, fun b hb => ?_, fun e => ?_, fun b hb => ?_⟩
  · have := hn.1
    have e2 := ba_size n
    rw [e] at e2
    simp at e2
    omega
  · obtain ⟨j, hj, rfl⟩ := mem_at hb
    have hc := hn.2.2 j hj
    unfold nchP at hc
    refine ⟨?_, ?_, ?_, ?_, ?_⟩ <;> (intro e; rw [e] at hc; simp at hc)
  · have e2 := ba_size v
    rw [e] at e2
    simp at e2
    omega
  · obtain ⟨j, hj, rfl⟩ := mem_at hb
    have hc := hv.2 j hj
    unfold vchP at hc
    refine ⟨?_, ?_, ?_, ?_⟩ <;> (intro e; rw [e] at hc; simp at hc)

/-- The first place of a byte that does not occur before it. -/
theorem indexByte_past (c : UInt8) : ∀ (a : Bs) (r : Bs), (∀ b ∈ a, b ≠ c) → Lib.indexByte (a ++ c :: r) c = (a.length : Int)
  | [], r, _ => by simp [Lib.indexByte]
  | x :: a, r, h => by
    have ih := indexByte_past c a r (fun b hb => h b (by simp [hb]))
    have hx : (x == c) = false := by simpa using h x (by simp)
    rw [List.cons_append, Lib.indexByte, hx, ih]
    have h1 : ((a.length : Int) == -1) = false := by rw [beq_eq_false_iff_ne]; omega
    simp [h1]
theorem indexByte_no (c : UInt8) : ∀ (a : Bs), (∀ b ∈ a, b ≠ c) → Lib.indexByte a c = -1
  | [], _ => rfl
  | x :: a, h => by
    have ih := indexByte_no c a (fun b hb => h b (by simp [hb]))
    have hx : (x == c) = false := by simpa using h x (by simp)
    rw [Lib.indexByte, hx, ih]
    rfl

/-! The reference. -/
/-- The pairs that the reference reads, as far as they can be read. -/
def refL : Nat → Bs → List (Bs × Bs)
  | 0, _ => []
  | k + 1, l => if Lib.indexByte l 61 < 0 then [] else
    if Lib.indexByte (l.drop ((Lib.indexByte l 61).toNat + 2)) 34 < 0 then [] else
    (l.take (Lib.indexByte l 61).toNat, (l.drop ((Lib.indexByte l 61).toNat + 2)).take (Lib.indexByte (l.drop ((Lib.indexByte l 61).toNat + 2)) 34).toNat)
      :: refL k ((l.drop ((Lib.indexByte l 61).toNat + 2)).drop ((Lib.indexByte (l.drop ((Lib.indexByte l 61).toNat + 2)) 34).toNat + 2))
theorem refL_no1 {l : Bs} {k : Nat} (h : Lib.indexByte l 61 < 0) : refL k l = [] := by cases k with
  | zero => rfl
  | succ k => rw [refL, if_pos h]
theorem refL_no2 {l : Bs} {k e : Nat} (h : Lib.indexByte l 61 = e) (h2 : Lib.indexByte (l.drop (e + 2)) 34 < 0) : refL k l = [] := by cases k with
  | zero => rfl
  | succ k => rw [refL, h, if_neg (by omega), Int.toNat_natCast, if_pos h2]
theorem refL_yes {l : Bs} {k e f : Nat} (h : Lib.indexByte l 61 = e) (h2 : Lib.indexByte (l.drop (e + 2)) 34 = f) :
    refL (k + 1) l = (l.take e, (l.drop (e + 2)).take f) :: refL k ((l.drop (e + 2)).drop (f + 2)) := by
  rw [refL, h, if_neg (by omega), Int.toNat_natCast, h2, if_neg (by omega), Int.toNat_natCast]
theorem refL_len : ∀ (k : Nat) (l : Bs), (refL k l).length ≤ k
  | 0, _ => Nat.le_refl _
  | k + 1, l => by
    rw [refL]
    split
    · exact Nat.zero_le _
    · split
      · exact Nat.zero_le _
      · have := refL_len k ((l.drop ((Lib.indexByte l 61).toNat + 2)).drop ((Lib.indexByte (l.drop ((Lib.indexByte l 61).toNat + 2)) 34).toNat + 2))
        simp only [List.length_cons]; omega
/-- A first element of a text. -/
theorem refL_el {n v r : Bs} {c : UInt8} {k : Nat} (h : GoodB n v) : refL (k + 1) (elB n v ++ c :: r) = (n, v) :: refL k r := by
  have e0 : elB n v ++ c :: r = n ++ 61 :: 34 :: (v ++ 34 :: c :: r) := by simp [elB]
  rw [e0]
  have i1 := indexByte_past 61 n (34 :: (v ++ 34 :: c :: r)) (fun b hb => (h.n1 b hb).1)
  have d1 : (n ++ 61 :: 34 :: (v ++ 34 :: c :: r)).drop (n.length + 2) = v ++ 34 :: c :: r := by
    rw [List.drop_append]
    simp
  have i2 := indexByte_past 34 v (c :: r) (fun b hb => (h.v1 b hb).2.1)
  rw [refL_yes i1 (by rw [d1]; exact i2), d1]
  congr 1
  · rw [List.take_append_of_le_length (Nat.le_refl _), List.take_length, List.take_append_of_le_length (Nat.le_refl _), List.take_length]
  · congr 1
    rw [List.drop_append]
    simp
def pairsB (it : List L2) : List (Bs × Bs) := it.map fun t => (t.1.data.toList, t.2.data.toList)
theorem refL_text : ∀ (it : List L2) (k : Nat), it.length ≤ k → (∀ t ∈ it, Good t) → refL k (Lib.join (elsB it) [44] ++ [125]) = pairsB it
  | [], k, _, _ => refL_no1 (by show Lib.indexByte [125] 61 < 0; decide)
  | [t], k, hk, hg => by
    obtain ⟨k, rfl⟩ : ∃ j, k = j + 1 := ⟨k - 1, by simp at hk; omega⟩
    show refL (k + 1) (Lib.join [elB t.1.data.toList t.2.data.toList] [44] ++ [125]) = _
    rw [Lib.join_one, refL_el (hg t (by simp)).bytes, refL_no1 (by decide)]
    rfl
  | t :: u :: it, k, hk, hg => by
    obtain ⟨k, rfl⟩ : ∃ j, k = j + 1 := ⟨k - 1, by simp at hk; omega⟩
    have ih := refL_text (u :: it) k (by simp at hk ⊢; omega) (fun x hx => hg x (by simp [hx]))
    have e : Lib.join (elsB (t :: u :: it)) [44] ++ [125] = elB t.1.data.toList t.2.data.toList ++ 44 :: (Lib.join (elsB (u :: it)) [44] ++ [125]) := by
      show Lib.join (elB t.1.data.toList t.2.data.toList :: elB u.1.data.toList u.2.data.toList :: elsB it) [44] ++ [125] = _ ++ 44 :: (Lib.join (elB u.1.data.toList u.2.data.toList :: elsB it) [44] ++ [125])
      rw [Lib.join_cons, Lib.join_cons]
      simp [Lib.joinTail]
    rw [e, refL_el (hg t (by simp)).bytes, ih]
    rfl
/-- The labels that the reference reads out of a text. -/
def ofB (p : Bs × Bs) : L2 := (⟨p.1.toArray⟩, ⟨p.2.toArray⟩)
def refP (s : ByteArray) : List L2 := (refL 9 (s.data.toList.drop 1)).map ofB
theorem ofB_pairs (it : List L2) : (pairsB it).map ofB = it := by
  unfold pairsB
  rw [List.map_map]
  conv => rhs; rw [← List.map_id it]
  apply List.map_congr_left
  intro t _
  rfl
theorem valid_parts {it : List L2} (h : validB it = true) : it.length ≤ 8 ∧ (∀ t ∈ it, Good t) ∧ Srt it := by
  unfold validB at h
  rw [Bool.and_eq_true] at h
  have h0 : newE it = 0 := by simpa using h.1
  have h1 : newL it = it := of_decide_eq_true h.2
  exact ⟨(newE_dist h0).1, newE_good h0, by rw [← h1]; exact newL_srt h0⟩
theorem refP_text {it : List L2} (h : validB it = true) : refP (textB it) = it := by
  obtain ⟨h8, hg, -⟩ := valid_parts h
  unfold refP
  rw [text_bytes, List.drop_one, List.tail_cons, refL_text it 9 (by omega) hg, ofB_pairs]

/-! The code. -/
theorem index_one_past (c : UInt8) (a r : Bs) (h : ∀ b ∈ a, b ≠ c) : Lib.index (a ++ c :: r) [c] = (a.length : Int) := by rw [Lib.index_one, indexByte_past c a r h]
/-- Splitting at the commas that stand between the elements. -/
theorem split_join : ∀ (xs : List Bs) (k : Nat), xs ≠ [] → xs.length ≤ k + 1 → (∀ x ∈ xs, ∀ b ∈ x, b ≠ 44) → Lib.splitK [44] 0 k (Lib.join xs [44]) = xs
  | [], _, h, _, _ => absurd rfl h
  | [x], k, _, _, hx => by
    rw [Lib.join_one]
    cases k with
    | zero => rfl
    | succ k =>
      have : Lib.index x [44] = -1 := by rw [Lib.index_one]; exact indexByte_no 44 x (hx x (by simp))
      rw [Lib.splitK, this]
      rfl
  | x :: y :: xs, k, _, hk, hx => by
    obtain ⟨k, rfl⟩ : ∃ j, k = j + 1 := ⟨k - 1, by simp at hk; omega⟩
    have ih := split_join (y :: xs) k (by simp) (by simp at hk ⊢; omega) (fun z hz => hx z (by simp [hz]))
    have e : Lib.join (x :: y :: xs) [44] = x ++ 44 :: Lib.join (y :: xs) [44] := by
      rw [Lib.join_cons, Lib.join_cons]
      simp [Lib.joinTail]
    have hi := index_one_past 44 x (Lib.join (y :: xs) [44]) (hx x (by simp))
    rw [e, Lib.splitK, hi]
    have h1 : ((x.length : Int) == -1) = false := by rw [beq_eq_false_iff_ne]; omega
    rw [h1, Int.toNat_natCast]
    have e1 : (x ++ 44 :: Lib.join (y :: xs) [44]).take (x.length + 0) = x := by rw [Nat.add_zero, List.take_append_of_le_length (Nat.le_refl _), List.take_length]
    have e2 : (x ++ 44 :: Lib.join (y :: xs) [44]).drop (x.length + [(44 : UInt8)].length) = Lib.join (y :: xs) [44] := by rw [List.drop_append]; simp
    rw [e1, e2, ih]
    rfl
theorem trim_suffix (a : Bs) : Lib.trimSuffix (a ++ [34]) [34] = a := by
  unfold Lib.trimSuffix Lib.hasSuffix
  have h : ([34] : Bs).isSuffixOf (a ++ [34]) = true := by
    rw [List.isSuffixOf_iff_suffix]
    exact List.suffix_append _ _
  rw [if_pos h]
  simp
theorem cut_el {n v : Bs} (h : ∀ b ∈ n, b ≠ 61) : Lib.cut (n ++ 61 :: 34 :: v) [61, 34] = (n, v, true) := by
  have hi : Lib.index (n ++ 61 :: 34 :: v) [61, 34] = (n.length : Int) := by
    refine Lib.index_first (by simp) ?_ ?_
    · unfold Lib.occAt
      rw [List.drop_append_of_le_length (Nat.le_refl _), List.drop_length]
      simp
    · intro j hj
      unfold Lib.occAt
      rw [List.drop_append_of_le_length (by omega), List.drop_eq_getElem_cons hj, List.cons_append]
      have hb := h n[j] (List.getElem_mem hj)
      simp only [List.isPrefixOf]
      have : ((61 : UInt8) == n[j]) = false := by rw [beq_eq_false_iff_ne]; exact fun e => hb e.symm
      rw [this]
      rfl
  unfold Lib.cut
  rw [if_pos (by omega), hi, Int.toNat_natCast]
  congr 1
  · rw [List.take_append_of_le_length (Nat.le_refl _), List.take_length]
  · congr 1
    rw [List.drop_append]
    simp
/-- A label as Parse reads it out of an element. -/
def sufB (e : ByteArray) : ByteArray := ⟨(Lib.trimSuffix e.data.toList [34]).toArray⟩
def pairOf (e : ByteArray) : L2 := (⟨(Lib.cut (sufB e).data.toList [61, 34]).1.toArray⟩, ⟨(Lib.cut (sufB e).data.toList [61, 34]).2.1.toArray⟩)
theorem pairOf_el {t : L2} (h : Good t) : pairOf (elS t.1 t.2) = t := by
  have hb := h.bytes
  have e0 : (elS t.1 t.2).data.toList = (t.1.data.toList ++ 61 :: 34 :: t.2.data.toList) ++ [34] := by unfold elS; simp
  have e1 : (sufB (elS t.1 t.2)).data.toList = t.1.data.toList ++ 61 :: 34 :: t.2.data.toList := by
    unfold sufB
    rw [e0, trim_suffix]
  unfold pairOf
  rw [e1, cut_el (fun b hb' => (hb.n1 b hb').1)]
/-- What is left of a text without its braces. -/
def trimB (s : ByteArray) : ByteArray := ⟨(Lib.trimS s.data.toList [123, 125]).toArray⟩
def partsB (s : ByteArray) : List ByteArray := Lib.splitB ⟨#[44]⟩ 0 (min 9 ((trimB s).size + 1) - 1) (trimB s)
def emptyT : ByteArray := ⟨#[123, 125]⟩
def parP (s : ByteArray) : List L2 := if s = emptyT then [] else (partsB s).map pairOf
theorem join_first {t : L2} {it : List L2} (h : Good t) : ∃ b r, Lib.join (elsB (t :: it)) [44] = b :: r ∧ b ≠ 123 ∧ b ≠ 125 := by
  have hb := h.bytes
  cases hn : t.1.data.toList with
  | nil => exact absurd hn hb.n0
  | cons b r =>
    have hm := hb.n1 b (by rw [hn]; simp)
    refine ⟨b, (r ++ 61 :: 34 :: (t.2.data.toList ++ [34])) ++ Lib.joinTail [44] (elsB it), ?_, hm.2.2.2.1, hm.2.2.2.2⟩
    show Lib.join (elB t.1.data.toList t.2.data.toList :: elsB it) [44] = _
    rw [Lib.join_cons, elB, hn]
    rfl
theorem join_last : ∀ (it : List L2), it ≠ [] → ∃ r, Lib.join (elsB it) [44] = r ++ [34]
  | [], h => absurd rfl h
  | [t], _ => by
    refine ⟨t.1.data.toList ++ 61 :: 34 :: t.2.data.toList, ?_⟩
    show Lib.join [elB t.1.data.toList t.2.data.toList] [44] = _
    rw [Lib.join_one, elB]
    simp
  | t :: u :: it, _ => by
    obtain ⟨r, hr⟩ := join_last (u :: it) (by simp)
    refine ⟨elB t.1.data.toList t.2.data.toList ++ 44 :: r, ?_⟩
    have e : Lib.join (elsB (t :: u :: it)) [44] = elB t.1.data.toList t.2.data.toList ++ 44 :: Lib.join (elsB (u :: it)) [44] := by
      show Lib.join (elB t.1.data.toList t.2.data.toList :: elB u.1.data.toList u.2.data.toList :: elsB it) [44] = _ ++ 44 :: Lib.join (elB u.1.data.toList u.2.data.toList :: elsB it) [44]
      rw [Lib.join_cons, Lib.join_cons]
      simp [Lib.joinTail]
    rw [e, hr]
    simp
theorem trim_join {it : List L2} (hn : it ≠ []) (hg : ∀ t ∈ it, Good t) : Lib.trimS (123 :: (Lib.join (elsB it) [44] ++ [125])) [123, 125] = Lib.join (elsB it) [44] := by
  obtain ⟨r, hr⟩ := join_last it hn
  obtain ⟨b, q, hq, h1, h2⟩ : ∃ b q, Lib.join (elsB it) [44] = b :: q ∧ b ≠ 123 ∧ b ≠ 125 := by
    cases it with
    | nil => exact absurd rfl hn
    | cons t it => exact join_first (hg t (by simp))
  unfold Lib.trimS
  have er : Lib.trimRightS (123 :: (Lib.join (elsB it) [44] ++ [125])) [123, 125] = 123 :: Lib.join (elsB it) [44] := by
    unfold Lib.trimRightS
    rw [hr]
    simp [List.dropWhile]
  rw [er]
  unfold Lib.trimLeftS
  rw [hq]
  have c1 : ([123, 125] : Bs).contains b = false := by simp [h1, h2]
  rw [List.dropWhile_cons_of_pos (by decide), List.dropWhile_cons_of_neg (by rw [c1]; simp)]
theorem els_nocomma {it : List L2} (hg : ∀ t ∈ it, Good t) : ∀ x ∈ elsB it, ∀ b ∈ x, b ≠ 44 := by
  intro x hx b hb
  obtain ⟨t, ht, rfl⟩ := List.mem_map.1 hx
  have h := (hg t ht).bytes
  unfold elB at hb
  simp only [List.mem_append, List.mem_cons, List.mem_nil_iff, or_false] at hb
  rcases hb with h1 | rfl | rfl | h1 | rfl
  · exact (h.n1 b h1).2.1
  · decide
  · decide
  · exact (h.v1 b h1).1
  · decide
theorem join_size_ge : ∀ (it : List L2), it.length ≤ (Lib.join (elsB it) [44]).length + 1
  | [] => by simp
  | [t] => by simp
  | t :: u :: it => by
    have ih := join_size_ge (u :: it)
    have e : Lib.join (elsB (t :: u :: it)) [44] = elB t.1.data.toList t.2.data.toList ++ 44 :: Lib.join (elsB (u :: it)) [44] := by
      show Lib.join (elB t.1.data.toList t.2.data.toList :: elB u.1.data.toList u.2.data.toList :: elsB it) [44] = _ ++ 44 :: Lib.join (elB u.1.data.toList u.2.data.toList :: elsB it) [44]
      rw [Lib.join_cons, Lib.join_cons]
      simp [Lib.joinTail]
    rw [e]
    simp only [List.length_append, List.length_cons] at ih ⊢
    omega
theorem map_data_inj : ∀ {a b : List ByteArray}, a.map (·.data.toList) = b.map (·.data.toList) → a = b
  | [], [], _ => rfl
  | [], _ :: _, h => by simp at h
  | _ :: _, [], h => by simp at h
  | x :: a, y :: b, h => by
    rw [List.map_cons, List.map_cons] at h
    injection h with h1 h2
    rw [ba_ext h1, map_data_inj h2]
theorem parP_text {it : List L2} (h : validB it = true) : parP (textB it) = it := by
  obtain ⟨h8, hg, -⟩ := valid_parts h
  unfold parP
  by_cases hn : it = []
  · subst hn
    rw [if_pos (ba_ext (by rw [text_bytes]; rfl))]
  · have hne : textB it ≠ emptyT := by
      intro e
      have e2 := text_bytes it
      rw [e] at e2
      obtain ⟨r, hr⟩ := join_last it hn
      rw [hr] at e2
      have := congrArg List.length e2
      simp [emptyT] at this
    rw [if_neg hne]
    have ht : (trimB (textB it)).data.toList = Lib.join (elsB it) [44] := by
      unfold trimB
      rw [text_bytes, trim_join hn hg]
    have hp : partsB (textB it) = els it := by
      apply map_data_inj
      unfold partsB
      rw [Lib.splitB_data, ht, els_data]
      have hs : (trimB (textB it)).size = (Lib.join (elsB it) [44]).length := by rw [← ba_size, ht]
      have hge := join_size_ge it
      have hl : (elsB it).length = it.length := by simp [elsB]
      exact split_join (elsB it) _ (by intro e; rw [e] at hl; exact hn (List.eq_nil_of_length_eq_zero hl.symm)) (by rw [hl, hs]; omega) (els_nocomma hg)
    rw [hp]
    unfold els
    rw [List.map_map]
    conv => rhs; rw [← List.map_id it]
    apply List.map_congr_left
    intro t ht'
    exact pairOf_el (hg t ht')

/-! What both answer. -/
def okP (s : ByteArray) (x : List L2) : Bool := validB x && decide (textB x = s)
def ansP (s : ByteArray) (x : List L2) : List L2 := if okP s x = true then x else []
def errP (s : ByteArray) (x : List L2) : Int := if okP s x = true then 0 else 2
theorem par_ref (s : ByteArray) : ansP s (parP s) = ansP s (refP s) ∧ errP s (parP s) = errP s (refP s) := by
  by_cases h1 : okP s (parP s) = true
  · have h := h1
    unfold okP at h
    rw [Bool.and_eq_true] at h
    have hv := h.1
    have ht : textB (parP s) = s := of_decide_eq_true h.2
    have e : refP s = parP s := by
      have := refP_text hv
      rwa [ht] at this
    rw [e]
    exact ⟨rfl, rfl⟩
  · by_cases h2 : okP s (refP s) = true
    · have h := h2
      unfold okP at h
      rw [Bool.and_eq_true] at h
      have hv := h.1
      have ht : textB (refP s) = s := of_decide_eq_true h.2
      have e : parP s = refP s := by
        have := parP_text hv
        rwa [ht] at this
      rw [e]
      exact ⟨rfl, rfl⟩
    · unfold ansP errP
      rw [if_neg h1, if_neg h2, if_neg h1, if_neg h2]
      exact ⟨rfl, rfl⟩
theorem okP_text {it : List L2} (h : validB it = true) : okP (textB it) (parP (textB it)) = true := by
  rw [parP_text h]
  unfold okP
  rw [h, decide_eq_true rfl]
  rfl
theorem parse_text {it : List L2} (h : validB it = true) : ansP (textB it) (parP (textB it)) = it ∧ errP (textB it) (parP (textB it)) = 0 := by
  unfold ansP errP
  rw [if_pos (okP_text h), if_pos (okP_text h)]
  exact ⟨parP_text h, rfl⟩
theorem text_inj {a b : List L2} (ha : validB a = true) (hb : validB b = true) (h : textB a = textB b) : a = b := by
  have h1 := refP_text ha
  rw [h, refP_text hb] at h1
  exact h1.symm
end Go.Proofs.YtmgjbbkccgncgaaDoor
