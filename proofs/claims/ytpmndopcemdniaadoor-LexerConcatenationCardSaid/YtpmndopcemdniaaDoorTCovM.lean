/- The walks of covers and of LexerCovers. Conditions: the table of symbols as the program lays it. -/
import Derived.Test.YtpmndopcemdniaaDoorTSrc
namespace Go.Proofs.YtpmndopcemdniaaDoor
open Go.RowKit

/-- A token as it is written. -/
def fullT (t : Tk) : List UInt8 := if t.kind = 2 then 34 :: (t.text ++ [34]) else t.text
theorem fullT_len (t : Tk) : (fullT t).length = sizeT t := by unfold fullT sizeT; split <;> simp
theorem sym_pre {c : UInt8} {r : List UInt8} (h : symL (c :: r) ≠ []) : (c :: r).take (symL (c :: r)).length = symL (c :: r) := by
  rw [sym_cons] at h ⊢
  by_cases h1 : oneB c = true
  · rw [if_pos h1]; rfl
  · rw [if_neg h1] at h ⊢
    by_cases h2 : (c = 33 ∨ c = 94) ∧ r.head? = some 61
    · rw [if_pos h2]
      cases r with
      | nil => simp at h2
      | cons d r => obtain ⟨_, h3⟩ := h2; simp at h3; rw [h3]; rfl
    · rw [if_neg h2] at h; exact absurd rfl h
theorem first_text {c : UInt8} {r : List UInt8} (h0 : (firstL (c :: r)).2 = 0) : (c :: r).take (sizeT (firstL (c :: r)).1) = fullT (firstL (c :: r)).1 := by
  rw [first_cons] at h0 ⊢
  by_cases h1 : leB c = true
  · rw [if_pos h1] at h0 ⊢
    by_cases h2 : ((c :: r).takeWhile woB).length ≤ 16
    · rw [if_pos h2]; exact takeWhile_take _
    · rw [if_neg h2] at h0; cases h0
  · rw [if_neg h1] at h0 ⊢
    by_cases h2 : diB c = true
    · rw [if_pos h2] at h0 ⊢
      by_cases h3 : valF 0 ((c :: r).takeWhile diB) ≤ 1073741824
      · rw [if_pos h3]; exact takeWhile_take _
      · rw [if_neg h3] at h0; cases h0
    · rw [if_neg h2] at h0 ⊢
      by_cases h3 : c = 34
      · rw [if_pos h3] at h0 ⊢
        by_cases h4 : (r.takeWhile nqB).length < r.length ∧ (r.takeWhile nqB).all vaB
        · rw [if_pos h4] at h0 ⊢
          by_cases h5 : (r.takeWhile nqB).length ≤ 16
          · rw [if_pos h5]
            show (c :: r).take ((r.takeWhile nqB).length + 2) = 34 :: (r.takeWhile nqB ++ [34])
            rw [List.take_succ_cons, h3, List.take_succ_eq_append_getElem h4.1, takeWhile_take]
            have hn : nqB (r[(r.takeWhile nqB).length]'h4.1) = false := by
              have hd : r.dropWhile nqB = r[(r.takeWhile nqB).length]'h4.1 :: r.drop ((r.takeWhile nqB).length + 1) := by
                have e : r.dropWhile nqB = r.drop (r.takeWhile nqB).length := by
                  conv => rhs; arg 2; rw [← List.takeWhile_append_dropWhile (p := nqB) (l := r)]
                  rw [List.drop_left]
                rw [e, List.drop_eq_getElem_cons h4.1]
              exact dropWhile_head hd
            have he : r[(r.takeWhile nqB).length]'h4.1 = 34 := by
              have h9 := of_decide_eq_false hn
              exact UInt8.toNat_inj.1 (Decidable.not_not.1 h9)
            rw [he]
          · rw [if_neg h5] at h0; cases h0
        · rw [if_neg h4] at h0; cases h0
      · rw [if_neg h3] at h0 ⊢
        by_cases h4 : symL (c :: r) = []
        · rw [if_pos h4] at h0; cases h0
        · rw [if_neg h4]; exact sym_pre h4
theorem takeWhile_len (p : UInt8 → Bool) : ∀ l : List UInt8, l.length - (l.dropWhile p).length = (l.takeWhile p).length
  | [] => rfl
  | c :: r => by
    have ih := takeWhile_len p r
    have hl : (r.dropWhile p).length ≤ r.length := (List.dropWhile_suffix _).length_le
    rw [List.dropWhile_cons, List.takeWhile_cons]
    cases p c
    · simp
    · simp; omega
/-- What the next token of a source without an error is. -/
theorem next_tok {s : ByteArray} {q : Nat} {ts : List Tk} {a : Nat} (_hq : q ≤ s.size) (h : lexP q (s.data.toList.drop q) = (ts, a, 0)) :
    (ts = [] ∧ (s.data.toList.drop q).all whB = true) ∨ ∃ t ts' a', ts = t :: ts' ∧ q ≤ t.pos ∧ ((s.data.toList.drop q).take (t.pos - q)).all whB = true ∧ 1 ≤ sizeT t ∧ t.pos + sizeT t ≤ s.size ∧ (s.data.toList.drop t.pos).take (sizeT t) = fullT t ∧ lexP (t.pos + sizeT t) (s.data.toList.drop (t.pos + sizeT t)) = (ts', a', 0) ∧ t.kind ≤ 3 := by
  rw [lex_skip] at h
  have hw := takeWhile_len whB (s.data.toList.drop q)
  have hd : (s.data.toList.drop q).dropWhile whB = s.data.toList.drop (q + ((s.data.toList.drop q).takeWhile whB).length) := by
    rw [← List.drop_drop]
    conv => rhs; arg 2; rw [← List.takeWhile_append_dropWhile (p := whB) (l := s.data.toList.drop q)]
    rw [List.drop_left]
  obtain ⟨n, hn⟩ : ∃ n, ((s.data.toList.drop q).takeWhile whB).length = n := ⟨_, rfl⟩
  rw [hw, hn] at h
  rw [hn] at hd
  have hall : ((s.data.toList.drop q).take n).all whB = true := by
    rw [← hn, takeWhile_take]
    exact List.all_eq_true.2 (all_takeWhile _)
  have hnl : n ≤ s.size - q := by
    have : ((s.data.toList.drop q).takeWhile whB).length ≤ (s.data.toList.drop q).length := (List.takeWhile_prefix _).length_le
    rw [List.length_drop, list_len, hn] at this
    exact this
  cases hl : (s.data.toList.drop q).dropWhile whB with
  | nil =>
    left
    rw [hl, lex_nil] at h
    refine ⟨(Prod.mk.inj h).1.symm, ?_⟩
    have e := List.takeWhile_append_dropWhile (p := whB) (l := s.data.toList.drop q)
    rw [hl, List.append_nil] at e
    exact (takeWhile_all _).2 e
  | cons c r =>
    right
    have hwc := dropWhile_head hl
    rw [hl] at h hd
    by_cases h0 : (firstL (c :: r)).2 = 0
    · rw [lex_tok _ hwc h0] at h
      obtain ⟨e1, e2⟩ := Prod.mk.inj h
      have hs := first_size h0
      have hlen : (c :: r).length = s.size - (q + n) := by rw [hd, List.length_drop, list_len]
      rw [List.length_cons] at hlen
      have hk := first_kind (c :: r)
      refine ⟨_, _, a, e1.symm, by show q ≤ q + n; omega, by show ((s.data.toList.drop q).take (q + n - q)).all whB = true; rw [show q + n - q = n by omega]; exact hall, hs.1, ?_, ?_, ?_, hk⟩
      · show q + n + sizeT (firstL (c :: r)).1 ≤ s.size
        have := hs.2
        rw [List.length_cons] at this
        omega
      · show (s.data.toList.drop (q + n)).take (sizeT (firstL (c :: r)).1) = fullT (firstL (c :: r)).1
        rw [← hd]
        exact first_text h0
      · show lexP (q + n + sizeT (firstL (c :: r)).1) (s.data.toList.drop (q + n + sizeT (firstL (c :: r)).1)) = _
        rw [← List.drop_drop, ← hd]
        exact Prod.ext rfl e2
    · rw [lex_err _ hwc h0] at h
      have := (Prod.mk.inj (Prod.mk.inj h).2).2
      exact absurd this h0
theorem err_at (l : List UInt8) (h : (tokL l).2.2 ≠ 0) : (tokL l).1 = [] ∧ (tokL l).2.1 ≤ l.length := by
  have key : ∀ (n p : Nat) (m : List UInt8), m.length ≤ n → (lexP p m).2.2 ≠ 0 → (lexP p m).2.1 ≤ p + m.length := fun n => by
    induction n with
    | zero => intro p m hm h; cases m with
      | nil => exact absurd rfl h
      | cons c r => simp at hm
    | succ n ih =>
      intro p m hm h
      cases m with
      | nil => exact absurd rfl h
      | cons c r =>
        rw [List.length_cons] at hm ⊢
        cases hw : whB c with
        | true =>
          rw [lex_white _ _ hw] at h ⊢
          have := ih (p + 1) r (by omega) h
          omega
        | false =>
          by_cases h0 : (firstL (c :: r)).2 = 0
          · rw [lex_tok p hw h0] at h ⊢
            have hs := first_size h0
            have := ih _ ((c :: r).drop (sizeT (firstL (c :: r)).1)) (by rw [List.length_drop, List.length_cons]; omega) h
            rw [List.length_drop] at this
            rw [List.length_cons] at this hs
            show (lexP (p + sizeT (firstL (c :: r)).1) ((c :: r).drop (sizeT (firstL (c :: r)).1))).2.1 ≤ _
            omega
          · rw [lex_err p hw h0]
            show p ≤ _
            omega
  unfold tokL at h ⊢
  by_cases h1 : 2000 < l.length
  · rw [if_pos h1]
    exact ⟨rfl, Nat.le_of_lt h1⟩
  · rw [if_neg h1] at h ⊢
    unfold comb at h ⊢
    by_cases h2 : (lexP 0 l).2.2 = 0
    · rw [if_pos h2] at h; exact absurd rfl h
    · rw [if_neg h2]
      have := key l.length 0 l (Nat.le_refl _) h2
      exact ⟨rfl, by show (lexP 0 l).2.1 ≤ l.length; omega⟩
end Go.Proofs.YtpmndopcemdniaaDoor
