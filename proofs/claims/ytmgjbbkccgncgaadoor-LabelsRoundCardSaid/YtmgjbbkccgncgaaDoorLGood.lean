/- Which lists are label sets: plain mathematics; what the generators' lists are. Conditions: none. -/
import Derived.Test.YtmgjbbkccgncgaaDoorLValid
import Derived.Test.YtmgjbbkccgncgaaDoorLDirty
namespace Go.Proofs.YtmgjbbkccgncgaaDoor
open Go.RowKit

/-- A label whose name and value are valid. -/
def Good (t : L2) : Prop := nameB t.1 = true ∧ 1 ≤ t.2.size ∧ valB t.2 = true
theorem badE_good {pre : List L2} {t : L2} (h : badE pre t = 0) : Good t := by
  unfold badE at h
  split at h
  · omega
  · rename_i h1
    split at h
    · omega
    · rename_i h2
      refine ⟨by simpa using h1, ?_, ?_⟩
      · rcases Nat.eq_zero_or_pos t.2.size with h0 | h0
        · exact absurd (.inl h0) h2
        · exact h0
      · cases hv : valB t.2
        · exact absurd (.inr hv) h2
        · rfl
theorem badE_zero {pre : List L2} {t : L2} (h : Good t) (hd : ∀ s ∈ pre, s.1 ≠ t.1) : badE pre t = 0 := by
  obtain ⟨n, v⟩ := t
  refine badE_ok h.1 h.2.1 h.2.2 ?_
  rw [Bool.eq_false_iff]
  intro ha
  obtain ⟨s, hs, he⟩ := List.any_eq_true.1 ha
  exact hd s hs (of_decide_eq_true he)
theorem firstBad_good : ∀ (l pre : List L2), firstBad pre l = 0 → ∀ t ∈ l, Good t
  | [], _, _, t, ht => by simp at ht
  | s :: l, pre, h, t, ht => by
    rw [firstBad] at h
    by_cases hb : badE pre s = 0
    · rw [if_pos hb] at h
      rcases List.mem_cons.1 ht with rfl | h1
      · exact badE_good hb
      · exact firstBad_good l _ h t h1
    · rw [if_neg hb] at h; exact absurd h hb
theorem firstBad_zero : ∀ (l pre : List L2), (∀ t ∈ l, Good t) → Dist (pre ++ l) → firstBad pre l = 0
  | [], _, _, _ => rfl
  | s :: l, pre, h, hd => by
    have h1 : badE pre s = 0 := badE_zero (h s (by simp)) (fun x hx => (List.pairwise_append.1 hd).2.2 x hx s (by simp))
    rw [firstBad, if_pos h1]
    exact firstBad_zero l _ (fun t ht => h t (by simp [ht])) (by simpa using hd)
theorem newE_good {l : List L2} (h : newE l = 0) : ∀ t ∈ l, Good t := by
  unfold newE at h
  split at h
  · omega
  · exact firstBad_good l [] h
theorem newE_zero {l : List L2} (h8 : l.length ≤ 8) (hg : ∀ t ∈ l, Good t) (hd : Dist l) : newE l = 0 := by
  unfold newE
  rw [if_neg (by omega)]
  exact firstBad_zero l [] hg (by simpa using hd)
/-- Sorted lists of valid labels are what New makes of them. -/
theorem newL_fix {l : List L2} (h8 : l.length ≤ 8) (hg : ∀ t ∈ l, Good t) (hs : Srt l) : newE l = 0 ∧ newL l = l := by
  have h0 := newE_zero h8 hg (Dist.of_srt hs)
  exact ⟨h0, (newL_of h0 (List.Perm.refl _) hs).symm⟩
theorem valid_of {l : List L2} (h8 : l.length ≤ 8) (hg : ∀ t ∈ l, Good t) (hs : Srt l) : validB l = true := by
  obtain ⟨h0, h1⟩ := newL_fix h8 hg hs
  unfold validB
  rw [h0, h1, sameL_of rfl]
  rfl
theorem newL_perm {l : List L2} (h : newE l = 0) : (newL l).Perm l := by unfold newL; rw [if_pos h]; exact sortL_perm l
theorem newL_srt {l : List L2} (h : newE l = 0) : Srt (newL l) := by unfold newL; rw [if_pos h]; exact sortL_srt (newE_dist h).2
theorem newL_valid {l : List L2} (h : newE l = 0) : validB (newL l) = true := by
  have hp := newL_perm h
  exact valid_of (by rw [hp.length_eq]; exact (newE_dist h).1) (fun t ht => newE_good h t (hp.mem_iff.1 ht)) (newL_srt h)
theorem Good.sz {t : L2} (h : Good t) : t.1.size ≤ 1000 ∧ t.2.size ≤ 1000 := by
  have h1 := (nameB_size h.1).2
  have h2 := valB_size h.2.2
  omega
theorem newL_sz {l : List L2} (h : Sz l) : Sz (newL l) := by
  unfold newL
  split
  · exact fun t ht => h t ((sortL_perm l).mem_iff.1 ht)
  · exact fun t ht => by simp at ht
theorem newL_len (l : List L2) : (newL l).length ≤ l.length := by
  unfold newL
  split
  · rw [(sortL_perm l).length_eq]; exact Nat.le_refl _
  · exact Nat.zero_le _
theorem names_good : ∀ n ∈ namesL, nameB n = true := by decide +kernel
theorem values_good : ∀ v ∈ valuesL, 1 ≤ v.size ∧ valB v = true := by decide +kernel
theorem SetOf.good {k : Nat} {it : List L2} (h : SetOf k it) : ∀ t ∈ it, Good t := fun t ht =>
  ⟨names_good _ (List.mem_of_mem_take (h.2.2 t ht).1), values_good _ (h.2.2 t ht).2⟩
theorem SetOf.sz {k : Nat} {it : List L2} (h : SetOf k it) : Sz it := fun t ht => (h.good t ht).sz
theorem names16_sz : ∀ n ∈ names16, n.size ≤ 1000 := by decide +kernel
theorem vals14_sz : ∀ n ∈ vals14, n.size ≤ 1000 := by decide +kernel
theorem DirtyOf.sz {it : List L2} (h : DirtyOf it) : Sz it := fun t ht => ⟨names16_sz _ (h.2 t ht).1, vals14_sz _ (h.2 t ht).2⟩
end Go.Proofs.YtmgjbbkccgncgaaDoor
