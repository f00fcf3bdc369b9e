/- The walk of LexerNames. Conditions: the table of symbols as the program lays it. -/
import Derived.Test.YtpmndopcemdniaaDoorTGen
import Derived.Test.YtpmndopcemdniaaDoorLValue
namespace Go.Proofs.YtpmndopcemdniaaDoor
open Go.RowKit

theorem vaB_nq {c : UInt8} (h : vaB c = true) : nqB c = true := by
  have h1 := of_decide_eq_true h
  unfold nqB
  refine decide_eq_true ?_
  unfold vchP at h1
  omega
theorem leB_nw {c : UInt8} (h : leB c = true) : whB c = false := by
  have h1 := of_decide_eq_true h
  unfold whB
  exact decide_eq_false (by omega)
theorem nch_of {s : ByteArray} : nameP s ↔ ∃ c r, s.data.toList = c :: r ∧ leB c = true ∧ (c :: r).all woB = true ∧ (c :: r).length ≤ 16 := by
  have hat : ∀ j, (h : j < s.size) → s.data.toList[j]? = some (s[j]'h) := fun j h => by
    rw [List.getElem?_eq_getElem (by rw [list_len]; exact h), get_byte s j h]
  constructor
  · rintro ⟨h1, h2, h3⟩
    obtain ⟨c, r, hl⟩ := List.exists_cons_of_ne_nil (l := s.data.toList) (fun e => by have := list_len s; rw [e] at this; simp at this; omega)
    have hlen : (c :: r).length = s.size := by rw [← hl, list_len]
    have h0 : s[0]'(by omega) = c := by
      have := hat 0 (by omega)
      rw [hl] at this
      simpa using this.symm
    have hc := h3 0 (by omega)
    rw [h0] at hc
    have hle : leB c = true := by
      unfold nchP at hc
      unfold leB
      exact decide_eq_true (by omega)
    refine ⟨c, r, hl, hle, ?_, by omega⟩
    rw [← hl]
    refine List.all_eq_true.2 fun x hx => ?_
    obtain ⟨j, hj, e⟩ := List.getElem_of_mem hx
    rw [list_len] at hj
    have hn := h3 j hj
    have : s[j]'hj = x := by rw [← get_byte s j hj]; exact e
    rw [this] at hn
    unfold nchP at hn
    unfold woB leB diB
    simp only [Bool.or_eq_true, decide_eq_true_eq]
    omega
  · rintro ⟨c, r, hl, hle, hall, hlen⟩
    have hsz : (c :: r).length = s.size := by rw [← hl, list_len]
    refine ⟨by rw [List.length_cons] at hsz; omega, by omega, fun j hj => ?_⟩
    have hx := hat j hj
    rw [hl] at hx
    have hw := List.all_eq_true.1 hall _ (List.mem_of_getElem? hx)
    unfold woB leB diB at hw
    simp only [Bool.or_eq_true, decide_eq_true_eq] at hw
    unfold nchP
    by_cases hj0 : j = 0
    · subst hj0
      simp at hx
      rw [← hx]
      unfold leB at hle
      simp at hle
      omega
    · omega

/-- What the law asks of the tokens of a word. -/
def oneTok (k : Nat) (l : List UInt8) (q : List Tk × Nat × Nat) : Prop := q.2.2 = 0 ∧ ∃ t, q.1 = [t] ∧ t.kind = k ∧ t.text = l
theorem tok_first {c : UInt8} {r : List UInt8} (h : (c :: r).length ≤ 2000) (hw : whB c = false) (h0 : (firstL (c :: r)).2 = 0) (hs : sizeT (firstL (c :: r)).1 = (c :: r).length) : tokL (c :: r) = ([atT (firstL (c :: r)).1 0], 0, 0) := by
  unfold tokL
  rw [if_neg (by omega), comb_tok [] 0 hw h0, hs, List.drop_length, comb_nil]
  rfl
/-- A single token that is as long as the source is the first one. -/
theorem one_first {c : UInt8} {r : List UInt8} {t : Tk} (h : (tokL (c :: r)).1 = [t]) (he : (tokL (c :: r)).2.2 = 0) (hw : whB c = false) : (firstL (c :: r)).2 = 0 ∧ t.kind = (firstL (c :: r)).1.kind ∧ t.text = (firstL (c :: r)).1.text := by
  unfold tokL at h he
  split at h
  · simp at h
  · rename_i h1
    rw [if_neg h1] at he
    by_cases h0 : (firstL (c :: r)).2 = 0
    · rw [comb_tok [] 0 hw h0] at h he
      unfold comb at h he
      split at h
      · simp at h
        obtain ⟨h2, _⟩ := h
        rw [← h2]
        exact ⟨h0, rfl, rfl⟩
      · simp at h
    · rw [comb_err [] 0 hw h0] at he
      exact absurd he h0
theorem tok_text_len : ∀ (n p : Nat) (l : List UInt8), l.length ≤ n → ∀ t ∈ (lexP p l).1, t.text.length ≤ l.length
  | n, p, [], _, t, h => by rw [lex_nil] at h; simp at h
  | 0, p, c :: r, h, _, _ => by simp at h
  | n + 1, p, c :: r, hn, t, h => by
    rw [List.length_cons] at hn
    cases hw : whB c with
    | true =>
      rw [lex_white _ _ hw] at h
      have := tok_text_len n (p + 1) r (by omega) t h
      rw [List.length_cons]; omega
    | false =>
      by_cases h0 : (firstL (c :: r)).2 = 0
      · rw [lex_tok p hw h0] at h
        have hs := first_size h0
        rcases List.mem_cons.1 h with rfl | h
        · have : (firstL (c :: r)).1.text.length ≤ sizeT (firstL (c :: r)).1 := by unfold sizeT; split <;> omega
          show (firstL (c :: r)).1.text.length ≤ _
          omega
        · have := tok_text_len n _ ((c :: r).drop (sizeT (firstL (c :: r)).1)) (by rw [List.length_drop, List.length_cons]; omega) t h
          rw [List.length_drop] at this
          omega
      · rw [lex_err p hw h0] at h
        simp at h
theorem kind_pos {c : UInt8} {r : List UInt8} (h : leB c = false) (h0 : (firstL (c :: r)).2 = 0) : (firstL (c :: r)).1.kind ≠ 0 := by
  rw [first_cons, if_neg (by simp [h])] at h0 ⊢
  by_cases h1 : diB c = true
  · rw [if_pos h1] at h0 ⊢
    by_cases h2 : valF 0 ((c :: r).takeWhile diB) ≤ 1073741824
    · rw [if_pos h2]; show (1 : Nat) ≠ 0; decide
    · rw [if_neg h2] at h0; cases h0
  · rw [if_neg h1] at h0 ⊢
    by_cases h2 : c = 34
    · rw [if_pos h2] at h0 ⊢
      by_cases h3 : (r.takeWhile nqB).length < r.length ∧ (r.takeWhile nqB).all vaB
      · rw [if_pos h3] at h0 ⊢
        by_cases h4 : (r.takeWhile nqB).length ≤ 16
        · rw [if_pos h4]; show (2 : Nat) ≠ 0; decide
        · rw [if_neg h4] at h0; cases h0
      · rw [if_neg h3] at h0; cases h0
    · rw [if_neg h2] at h0 ⊢
      by_cases h3 : symL (c :: r) = []
      · rw [if_pos h3] at h0; cases h0
      · rw [if_neg h3]; show (3 : Nat) ≠ 0; decide
theorem name_iff (s : ByteArray) (h20 : s.size ≤ 20) : nameB s = true ↔ oneTok 0 s.data.toList (tokL s.data.toList) := by
  have hl := list_len s
  constructor
  · intro h
    obtain ⟨c, r, e, hle, hall, hlen⟩ := nch_of.1 (of_decide_eq_true h)
    rw [e]
    have htw : (c :: r).takeWhile woB = c :: r := (takeWhile_all _).1 hall
    have hf : firstL (c :: r) = (⟨0, c :: r, 0, 0⟩, 0) := by rw [first_cons, if_pos hle, htw, if_pos hlen]
    rw [tok_first (by omega) (leB_nw hle) (by rw [hf]) (by rw [hf]; rfl), hf]
    exact ⟨rfl, _, rfl, rfl, rfl⟩
  · rintro ⟨he, t, ht, hk, hx⟩
    refine decide_eq_true (nch_of.2 ?_)
    cases hc : s.data.toList with
    | nil => rw [hc] at ht; simp [tokL, comb, lexP, lexF] at ht
    | cons c r =>
      rw [hc] at ht he hx
      cases hw : whB c with
      | true =>
        exfalso
        have hlen : (c :: r).length ≤ 20 := by rw [← hc, hl]; exact h20
        unfold tokL at ht
        rw [if_neg (by omega), lex_white _ _ hw] at ht
        have hm : t ∈ (lexP 1 r).1 := by
          unfold comb at ht
          split at ht
          · simp at ht; rw [ht]; simp
          · simp at ht
        have := tok_text_len _ 1 r (Nat.le_refl _) t hm
        rw [hx, List.length_cons] at this
        omega
      | false =>
        obtain ⟨h0, hk2, hx2⟩ := one_first ht he hw
        rw [hk] at hk2
        rw [hx] at hx2
        refine ⟨c, r, rfl, ?_⟩
        have h0' := h0
        have hk2' := hk2
        rw [first_cons] at h0 hx2
        by_cases hle : leB c = true
        · rw [if_pos hle] at h0 hx2
          by_cases h16 : ((c :: r).takeWhile woB).length ≤ 16
          · rw [if_pos h16] at hx2
            have htw : (c :: r).takeWhile woB = c :: r := hx2.symm
            rw [htw] at h16
            exact ⟨hle, (takeWhile_all _).2 htw, h16⟩
          · rw [if_neg h16] at h0; cases h0
        · exfalso
          exact kind_pos (by simpa using hle) h0' hk2'.symm
theorem value_iff (s : ByteArray) (h20 : s.size ≤ 20) : valB s = true ↔ oneTok 2 s.data.toList (tokL (34 :: (s.data.toList ++ [34]))) := by
  have hl := list_len s
  have hval : valB s = true ↔ s.data.toList.length ≤ 16 ∧ s.data.toList.all vaB = true := by
    rw [hl]
    constructor
    · intro h
      have hp := of_decide_eq_true h
      refine ⟨hp.1, List.all_eq_true.2 fun x hx => ?_⟩
      obtain ⟨j, hj, e⟩ := List.getElem_of_mem hx
      rw [hl] at hj
      have := hp.2 j hj
      rw [← get_byte s j hj, e] at this
      exact decide_eq_true this
    · rintro ⟨h1, h2⟩
      refine decide_eq_true ⟨h1, fun j hj => ?_⟩
      have := List.all_eq_true.1 h2 _ (List.getElem_mem (by rw [hl]; exact hj))
      rw [get_byte s j hj] at this
      exact of_decide_eq_true this
  rw [hval]
  generalize hq : s.data.toList = l at *
  have hf0 : firstL (34 :: (l ++ [34])) = if ((l ++ [34]).takeWhile nqB).length < (l ++ [34]).length ∧ ((l ++ [34]).takeWhile nqB).all vaB then if ((l ++ [34]).takeWhile nqB).length ≤ 16 then (⟨2, (l ++ [34]).takeWhile nqB, 0, 0⟩, 0) else (tk0, 4) else (tk0, 2) := by
    rw [first_cons, if_neg (by decide), if_neg (by decide), if_pos rfl]
  constructor
  · rintro ⟨h1, h2⟩
    have htw : (l ++ [34]).takeWhile nqB = l := by
      rw [List.takeWhile_append_of_pos (fun x hx => vaB_nq (List.all_eq_true.1 h2 x hx)), List.takeWhile_cons, if_neg (by decide), List.append_nil]
    rw [htw, if_pos ⟨by simp, h2⟩, if_pos h1] at hf0
    rw [tok_first (by simp; omega) (by decide) (by rw [hf0]) (by rw [hf0]; simp [sizeT]), hf0]
    exact ⟨rfl, _, rfl, rfl, rfl⟩
  · rintro ⟨he, t, ht, hk, hx⟩
    obtain ⟨h0, hk2, hx2⟩ := one_first ht he (by decide)
    rw [hf0] at h0 hx2
    split at h0
    · rename_i hc
      rw [if_pos hc] at hx2
      split at h0
      · rename_i h16
        rw [if_pos h16] at hx2
        have htw : (l ++ [34]).takeWhile nqB = l := by
          have h9 : t.text = (l ++ [34]).takeWhile nqB := hx2
          rw [hx] at h9
          exact h9.symm
        rw [htw] at hc h16
        exact ⟨h16, hc.2⟩
      · cases h0
    · cases h0
end Go.Proofs.YtpmndopcemdniaaDoor
