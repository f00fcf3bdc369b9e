/- Tokens of two sources with white space between them: the plain mathematics. Conditions: none. -/
import Derived.Test.YtpmndopcemdniaaDoorTMath
namespace Go.Proofs.YtpmndopcemdniaaDoor
open Go.RowKit

theorem tw_app {p : UInt8 → Bool} {x : UInt8} (hx : p x = false) (b : List UInt8) : ∀ l : List UInt8, (l ++ x :: b).takeWhile p = l.takeWhile p
  | [] => by rw [List.nil_append, List.takeWhile_cons, hx]; rfl
  | c :: r => by
    rw [List.cons_append, List.takeWhile_cons, List.takeWhile_cons, tw_app hx b r]
theorem tw_full {p : UInt8 → Bool} {x : UInt8} (hx : p x = true) (b : List UInt8) : ∀ l : List UInt8, (l.takeWhile p).length = l.length → (l ++ x :: b).takeWhile p = l ++ x :: b.takeWhile p
  | [], _ => by rw [List.nil_append, List.takeWhile_cons, hx]; rfl
  | c :: r, h => by
    rw [List.takeWhile_cons] at h
    rw [List.cons_append, List.takeWhile_cons]
    cases hc : p c
    · rw [hc] at h; simp at h
    · rw [hc] at h
      simp at h
      rw [if_pos rfl, tw_full hx b r (by omega)]
      rfl
theorem tw_short {p : UInt8 → Bool} (b : List UInt8) : ∀ l : List UInt8, (l.takeWhile p).length < l.length → (l ++ b).takeWhile p = l.takeWhile p
  | [], h => by simp at h
  | c :: r, h => by
    rw [List.takeWhile_cons] at h
    rw [List.cons_append, List.takeWhile_cons, List.takeWhile_cons]
    cases hc : p c
    · rfl
    · rw [hc] at h
      simp at h
      rw [if_pos rfl, if_pos rfl, tw_short b r (by omega)]
theorem white_cases {x : UInt8} (h : whB x = true) : woB x = false ∧ diB x = false ∧ nqB x = true ∧ vaB x = false ∧ x ≠ 61 := by
  have h1 := of_decide_eq_true h
  refine ⟨?_, ?_, ?_, ?_, ?_⟩
  · unfold woB leB diB
    rw [decide_eq_false (by omega), decide_eq_false (by omega), decide_eq_false (by omega)]; rfl
  · exact decide_eq_false (by omega)
  · exact decide_eq_true (by omega)
  · exact decide_eq_false (by unfold vchP; omega)
  · intro e; rw [e] at h1; exact absurd h1 (by decide)
theorem sym_app {c : UInt8} (r : List UInt8) {x : UInt8} (hx : x ≠ 61) (b : List UInt8) : symL (c :: (r ++ x :: b)) = symL (c :: r) := by
  rw [sym_cons, sym_cons]
  cases r with
  | nil =>
    rw [List.nil_append]
    have : ¬ ((c = 33 ∨ c = 94) ∧ (x :: b).head? = some 61) := fun h => hx (by simpa using h.2)
    have h2 : ¬ ((c = 33 ∨ c = 94) ∧ ([] : List UInt8).head? = some 61) := fun h => by simp at h
    rw [if_neg this, if_neg h2]
  | cons d r => rfl
/-- The first token is settled ahead of white space. -/
theorem first_app {c : UInt8} (r : List UInt8) {x : UInt8} (hx : whB x = true) (b : List UInt8) : firstL (c :: (r ++ x :: b)) = firstL (c :: r) := by
  obtain ⟨h1, h2, h3, h4, h5⟩ := white_cases hx
  have e1 : (c :: (r ++ x :: b)).takeWhile woB = (c :: r).takeWhile woB := tw_app h1 b (c :: r)
  have e2 : (c :: (r ++ x :: b)).takeWhile diB = (c :: r).takeWhile diB := tw_app h2 b (c :: r)
  rw [first_cons, first_cons, e1, e2, sym_app r h5 b]
  by_cases hq : (r.takeWhile nqB).length < r.length
  · rw [tw_short (x :: b) r hq]
    have : (r.takeWhile nqB).length < (r ++ x :: b).length := by rw [List.length_append]; omega
    congr 1
    congr 1
    congr 1
    simp only [hq, this, true_and]
  · have hf : (r.takeWhile nqB).length = r.length := by have := (List.takeWhile_prefix (l := r) (p := nqB)).length_le; omega
    rw [tw_full h3 b r hf]
    have hv : ¬ ((r ++ x :: b.takeWhile nqB).length < (r ++ x :: b).length ∧ (r ++ x :: b.takeWhile nqB).all vaB = true) := by
      rintro ⟨_, h⟩
      rw [List.all_append, List.all_cons, h4] at h
      simp at h
    have hv2 : ¬ ((r.takeWhile nqB).length < r.length ∧ (r.takeWhile nqB).all vaB = true) := fun h => hq h.1
    rw [if_neg hv, if_neg hv2]
theorem lex_app {x : UInt8} (hx : whB x = true) (b : List UInt8) : ∀ (n p : Nat) (l : List UInt8), l.length ≤ n →
    ((lexP p l).2.2 = 0 → lexP p (l ++ x :: b) = ((lexP p l).1 ++ (lexP (p + l.length + 1) b).1, (lexP (p + l.length + 1) b).2)) ∧ ((lexP p l).2.2 ≠ 0 → (lexP p (l ++ x :: b)).2 = (lexP p l).2)
  | _, p, [], _ => by
    refine ⟨fun _ => ?_, fun h => absurd rfl h⟩
    rw [List.nil_append, lex_white _ _ hx, lex_nil]
    rfl
  | 0, p, c :: r, h => by simp at h
  | n + 1, p, c :: r, hn => by
    rw [List.length_cons] at hn
    rw [List.cons_append]
    cases hw : whB c with
    | true =>
      obtain ⟨i1, i2⟩ := lex_app hx b n (p + 1) r (by omega)
      rw [lex_white _ _ hw, lex_white _ _ hw, List.length_cons, show p + (r.length + 1) + 1 = p + 1 + r.length + 1 by omega]
      exact ⟨i1, i2⟩
    | false =>
      have hfa := first_app (c := c) r hx b
      by_cases h0 : (firstL (c :: r)).2 = 0
      · have hs := first_size h0
        have hd : (c :: (r ++ x :: b)).drop (sizeT (firstL (c :: r)).1) = (c :: r).drop (sizeT (firstL (c :: r)).1) ++ x :: b := by
          rw [← List.cons_append, List.drop_append_of_le_length hs.2]
        have hl : ((c :: r).drop (sizeT (firstL (c :: r)).1)).length = r.length + 1 - sizeT (firstL (c :: r)).1 := by rw [List.length_drop, List.length_cons]
        rw [List.length_cons] at hs
        obtain ⟨i1, i2⟩ := lex_app hx b n (p + sizeT (firstL (c :: r)).1) ((c :: r).drop (sizeT (firstL (c :: r)).1)) (by omega)
        rw [lex_tok p hw h0, lex_tok p hw (by rw [hfa]; exact h0), hfa, hd, List.length_cons]
        rw [hl, show p + sizeT (firstL (c :: r)).1 + (r.length + 1 - sizeT (firstL (c :: r)).1) + 1 = p + (r.length + 1) + 1 by omega] at i1
        dsimp only
        refine ⟨fun h => ?_, fun h => i2 h⟩
        rw [i1 h]
        rfl
      · rw [lex_err p hw h0, lex_err p hw (by rw [hfa]; exact h0), hfa]
        exact ⟨fun h => absurd h h0, fun _ => rfl⟩
def shiftT (d : Nat) (t : Tk) : Tk := { t with pos := t.pos + d }
theorem lex_shift (d : Nat) : ∀ (n p : Nat) (l : List UInt8), l.length ≤ n → lexP (p + d) l = ((lexP p l).1.map (shiftT d), if (lexP p l).2.2 = 0 then (lexP p l).2.1 else (lexP p l).2.1 + d, (lexP p l).2.2)
  | _, p, [], _ => rfl
  | 0, p, c :: r, h => by simp at h
  | n + 1, p, c :: r, hn => by
    rw [List.length_cons] at hn
    cases hw : whB c with
    | true =>
      rw [lex_white _ _ hw, lex_white _ _ hw, show p + d + 1 = p + 1 + d by omega]
      exact lex_shift d n (p + 1) r (by omega)
    | false =>
      by_cases h0 : (firstL (c :: r)).2 = 0
      · have hs := first_size h0
        rw [List.length_cons] at hs
        have ih := lex_shift d n (p + sizeT (firstL (c :: r)).1) ((c :: r).drop (sizeT (firstL (c :: r)).1)) (by rw [List.length_drop, List.length_cons]; omega)
        rw [lex_tok _ hw h0, lex_tok _ hw h0, show p + d + sizeT (firstL (c :: r)).1 = p + sizeT (firstL (c :: r)).1 + d by omega, ih]
        rfl
      · rw [lex_err _ hw h0, lex_err _ hw h0]
        dsimp only
        rw [if_neg h0]
        rfl
/-- The tokens of two sources with a byte of white space between them. -/
theorem tok_cat (a b : List UInt8) {x : UInt8} (hx : whB x = true) (hl : a.length + b.length + 1 ≤ 2000) :
    ((tokL a).2.2 ≠ 0 → tokL (a ++ x :: b) = ([], (tokL a).2.1, (tokL a).2.2)) ∧
    ((tokL a).2.2 = 0 → (tokL b).2.2 ≠ 0 → tokL (a ++ x :: b) = ([], (tokL b).2.1 + (a.length + 1), (tokL b).2.2)) ∧
    ((tokL a).2.2 = 0 → (tokL b).2.2 = 0 → tokL (a ++ x :: b) = ((tokL a).1 ++ (tokL b).1.map (shiftT (a.length + 1)), 0, 0)) := by
  have hc : (a ++ x :: b).length = a.length + b.length + 1 := by rw [List.length_append, List.length_cons]; omega
  obtain ⟨h1, h2⟩ := lex_app hx b a.length 0 a (Nat.le_refl _)
  have hs := lex_shift (a.length + 1) b.length 0 b (Nat.le_refl _)
  rw [Nat.zero_add] at hs h1
  unfold tokL
  rw [if_neg (show ¬ 2000 < a.length by omega), if_neg (show ¬ 2000 < b.length by omega), if_neg (show ¬ 2000 < (a ++ x :: b).length by omega)]
  unfold comb
  rw [List.nil_append, List.nil_append, List.nil_append]
  by_cases ea : (lexP 0 a).2.2 = 0
  · have e := h1 ea
    rw [hs] at e
    rw [e, if_pos ea]
    refine ⟨fun h => absurd rfl h, fun _ => ?_, fun _ => ?_⟩
    · intro h
      by_cases eb : (lexP 0 b).2.2 = 0
      · rw [if_pos eb] at h; exact absurd rfl h
      · dsimp only
        rw [if_neg eb, if_neg eb, if_neg eb]
    · intro h
      by_cases eb : (lexP 0 b).2.2 = 0
      · dsimp only
        rw [if_pos eb, if_pos eb]
      · rw [if_neg eb] at h; exact absurd h eb
  · have e := h2 ea
    have e3 : (lexP 0 (a ++ x :: b)).2.2 ≠ 0 := by rw [e]; exact ea
    rw [if_neg ea, if_neg e3, e]
    exact ⟨fun _ => rfl, fun h => absurd h ea, fun h => absurd h ea⟩
end Go.Proofs.YtpmndopcemdniaaDoor
