/- Tokens of a query: the plain mathematics. Conditions: none. -/
import Derived.Lib.AtoiAll
import Derived.Test.YtpmndopcemdniaaDoorLMath
namespace Go.Proofs.YtpmndopcemdniaaDoor
open Go.RowKit

/-- White space; a letter; a digit; a further character of a word; a character of a value. -/
def whB (c : UInt8) : Bool := decide (c.toNat = 9 ∨ c.toNat = 10 ∨ c.toNat = 13 ∨ c.toNat = 32)
def leB (c : UInt8) : Bool := decide (97 ≤ c.toNat ∧ c.toNat ≤ 122)
def diB (c : UInt8) : Bool := decide (48 ≤ c.toNat ∧ c.toNat ≤ 57)
def woB (c : UInt8) : Bool := leB c || diB c || decide (c.toNat = 95)
def vaB (c : UInt8) : Bool := decide (vchP (c.toNat : Int))
def nqB (c : UInt8) : Bool := decide (c.toNat ≠ 34)
/-- The number that digits spell, behind a number. -/
def valF : Nat → List UInt8 → Nat
  | n, [] => n
  | n, c :: r => valF (10 * n + (c.toNat - 48)) r
/-- The symbols of one byte. -/
def oneB (c : UInt8) : Bool := [43, 45, 42, 47, 40, 41, 123, 125, 44, 46, 64, 61].contains c
structure Tk where
  kind : Nat
  text : List UInt8
  n : Nat
  pos : Nat
  deriving DecidableEq
def tk0 : Tk := ⟨0, [], 0, 0⟩
/-- The symbol at the beginning. -/
def symL : List UInt8 → List UInt8
  | [] => []
  | c :: r => if oneB c then [c] else if (c = 33 ∨ c = 94) ∧ r.head? = some 61 then [c, 61] else []
/-- The token at the beginning, and its error. -/
def firstL : List UInt8 → Tk × Nat
  | [] => (tk0, 2)
  | c :: r =>
    if leB c then
      if ((c :: r).takeWhile woB).length ≤ 16 then (⟨0, (c :: r).takeWhile woB, 0, 0⟩, 0) else (tk0, 4)
    else if diB c then
      if valF 0 ((c :: r).takeWhile diB) ≤ 1073741824 then (⟨1, (c :: r).takeWhile diB, valF 0 ((c :: r).takeWhile diB), 0⟩, 0) else (tk0, 5)
    else if c = 34 then
      if (r.takeWhile nqB).length < r.length ∧ (r.takeWhile nqB).all vaB then
        if (r.takeWhile nqB).length ≤ 16 then (⟨2, r.takeWhile nqB, 0, 0⟩, 0) else (tk0, 4)
      else (tk0, 2)
    else if symL (c :: r) = [] then (tk0, 2) else (⟨3, symL (c :: r), 0, 0⟩, 0)
def sizeT (t : Tk) : Nat := if t.kind = 2 then t.text.length + 2 else t.text.length
def atT (t : Tk) (p : Nat) : Tk := { t with pos := p }
/-- The tokens, the offset of an error and the error, from a place on. -/
def lexF : Nat → Nat → List UInt8 → List Tk × Nat × Nat
  | 0, _, _ => ([], 0, 0)
  | _ + 1, _, [] => ([], 0, 0)
  | f + 1, p, c :: r =>
    if whB c then lexF f (p + 1) r
    else if (firstL (c :: r)).2 = 0 then
      (atT (firstL (c :: r)).1 p :: (lexF f (p + sizeT (firstL (c :: r)).1) ((c :: r).drop (sizeT (firstL (c :: r)).1))).1, (lexF f (p + sizeT (firstL (c :: r)).1) ((c :: r).drop (sizeT (firstL (c :: r)).1))).2)
    else ([], p, (firstL (c :: r)).2)
def lexP (p : Nat) (l : List UInt8) : List Tk × Nat × Nat := lexF l.length p l
/-- What a reader of tokens that has some already hands back. -/
def comb (acc : List Tk) (q : List Tk × Nat × Nat) : List Tk × Nat × Nat := if q.2.2 = 0 then (acc ++ q.1, 0, 0) else ([], q.2)
def tokL (l : List UInt8) : List Tk × Nat × Nat := if 2000 < l.length then ([], 2000, 4) else comb [] (lexP 0 l)

theorem first_cons (c : UInt8) (r : List UInt8) : firstL (c :: r) =
    if leB c then
      if ((c :: r).takeWhile woB).length ≤ 16 then (⟨0, (c :: r).takeWhile woB, 0, 0⟩, 0) else (tk0, 4)
    else if diB c then
      if valF 0 ((c :: r).takeWhile diB) ≤ 1073741824 then (⟨1, (c :: r).takeWhile diB, valF 0 ((c :: r).takeWhile diB), 0⟩, 0) else (tk0, 5)
    else if c = 34 then
      if (r.takeWhile nqB).length < r.length ∧ (r.takeWhile nqB).all vaB then
        if (r.takeWhile nqB).length ≤ 16 then (⟨2, r.takeWhile nqB, 0, 0⟩, 0) else (tk0, 4)
      else (tk0, 2)
    else if symL (c :: r) = [] then (tk0, 2) else (⟨3, symL (c :: r), 0, 0⟩, 0) := rfl
theorem sym_cons (c : UInt8) (r : List UInt8) : symL (c :: r) = if oneB c then [c] else if (c = 33 ∨ c = 94) ∧ r.head? = some 61 then [c, 61] else [] := rfl
theorem le_of_woB {c : UInt8} (h : leB c = true) : woB c = true := by unfold woB; rw [h]; rfl
/-- A token has a byte at least. -/
theorem first_size {c : UInt8} {r : List UInt8} (h : (firstL (c :: r)).2 = 0) : 1 ≤ sizeT (firstL (c :: r)).1 ∧ sizeT (firstL (c :: r)).1 ≤ (c :: r).length := by
  rw [first_cons] at h ⊢
  by_cases h1 : leB c = true
  · have h5 := List.takeWhile_prefix (l := c :: r) (p := woB)
    have h6 := h5.length_le
    rw [if_pos h1] at h ⊢
    split at h
    · rename_i h2
      rw [if_pos h2]
      refine ⟨?_, h6⟩
      show 1 ≤ ((c :: r).takeWhile woB).length
      rw [List.takeWhile_cons, if_pos (le_of_woB h1)]
      simp
    · cases h
  rw [if_neg h1] at h ⊢
  by_cases h2 : diB c = true
  · have h5 := List.takeWhile_prefix (l := c :: r) (p := diB)
    have h6 := h5.length_le
    rw [if_pos h2] at h ⊢
    split at h
    · rename_i h3
      rw [if_pos h3]
      refine ⟨?_, h6⟩
      show 1 ≤ ((c :: r).takeWhile diB).length
      rw [List.takeWhile_cons, if_pos h2]
      simp
    · cases h
  rw [if_neg h2] at h ⊢
  by_cases h3 : c = 34
  · rw [if_pos h3] at h ⊢
    split at h
    · rename_i h4
      split at h
      · rename_i h5
        rw [if_pos h4, if_pos h5]
        refine ⟨?_, ?_⟩
        · show 1 ≤ (r.takeWhile nqB).length + 2
          omega
        · show (r.takeWhile nqB).length + 2 ≤ (c :: r).length
          rw [List.length_cons]; have := h4.1; omega
      · cases h
    · cases h
  rw [if_neg h3] at h ⊢
  split at h
  · cases h
  · rename_i h4
    rw [if_neg h4]
    refine ⟨?_, ?_⟩
    · show 1 ≤ (symL (c :: r)).length
      exact List.length_pos_iff.2 h4
    · show (symL (c :: r)).length ≤ _
      rw [sym_cons]
      split
      · simp
      · split
        · rename_i h5
          cases r with
          | nil => simp at h5
          | cons a r => simp
        · simp
theorem lexF_more : ∀ (n f g p : Nat) (l : List UInt8), l.length ≤ n → l.length ≤ f → l.length ≤ g → lexF f p l = lexF g p l
  | _, 0, 0, _, _, _, _, _ => rfl
  | _, 0, g + 1, p, [], _, _, _ => rfl
  | _, f + 1, 0, p, [], _, _, _ => rfl
  | _, f + 1, g + 1, p, [], _, _, _ => rfl
  | _, 0, _, _, c :: r, _, h, _ => by simp at h
  | _, _, 0, _, c :: r, _, _, h => by simp at h
  | 0, _, _, _, c :: r, h, _, _ => by simp at h
  | n + 1, f + 1, g + 1, p, c :: r, hn, hf, hg => by
    rw [List.length_cons] at hn hf hg
    unfold lexF
    split
    · exact lexF_more n f g (p + 1) r (by omega) (by omega) (by omega)
    · split
      · rename_i _ h0
        have hs := first_size h0
        rw [List.length_cons] at hs
        have hd : ((c :: r).drop (sizeT (firstL (c :: r)).1)).length ≤ r.length := by rw [List.length_drop, List.length_cons]; omega
        rw [lexF_more n f g _ _ (by omega) (by omega) (by omega)]
      · rfl
theorem lex_nil (p : Nat) : lexP p [] = ([], 0, 0) := rfl
theorem lex_white {c : UInt8} (r : List UInt8) (p : Nat) (h : whB c = true) : lexP p (c :: r) = lexP (p + 1) r := by
  unfold lexP
  rw [List.length_cons]
  conv => lhs; unfold lexF
  rw [if_pos h]
theorem lex_tok {c : UInt8} {r : List UInt8} (p : Nat) (h : whB c = false) (h0 : (firstL (c :: r)).2 = 0) :
    lexP p (c :: r) = (atT (firstL (c :: r)).1 p :: (lexP (p + sizeT (firstL (c :: r)).1) ((c :: r).drop (sizeT (firstL (c :: r)).1))).1, (lexP (p + sizeT (firstL (c :: r)).1) ((c :: r).drop (sizeT (firstL (c :: r)).1))).2) := by
  have hs := first_size h0
  rw [List.length_cons] at hs
  have hd : ((c :: r).drop (sizeT (firstL (c :: r)).1)).length ≤ r.length := by rw [List.length_drop, List.length_cons]; omega
  unfold lexP
  rw [List.length_cons]
  conv => lhs; unfold lexF
  rw [if_neg (by simp [h]), if_pos h0, lexF_more r.length r.length ((c :: r).drop (sizeT (firstL (c :: r)).1)).length _ _ hd hd (Nat.le_refl _)]
theorem lex_err {c : UInt8} {r : List UInt8} (p : Nat) (h : whB c = false) (h0 : ¬ (firstL (c :: r)).2 = 0) : lexP p (c :: r) = ([], p, (firstL (c :: r)).2) := by
  unfold lexP
  rw [List.length_cons]
  conv => lhs; unfold lexF
  rw [if_neg (by simp [h]), if_neg h0]
theorem lex_skip : ∀ (l : List UInt8) (p : Nat), lexP p l = lexP (p + (l.length - (l.dropWhile whB).length)) (l.dropWhile whB)
  | [], p => by simp
  | c :: r, p => by
    by_cases h : whB c = true
    · rw [lex_white r p h, lex_skip r (p + 1), List.dropWhile_cons, if_pos h]
      have hl : (r.dropWhile whB).length ≤ r.length := (List.dropWhile_suffix _).length_le
      rw [List.length_cons, show p + 1 + (r.length - (r.dropWhile whB).length) = p + (r.length + 1 - (r.dropWhile whB).length) by omega]
    · rw [List.dropWhile_cons, if_neg h]
      simp
theorem comb_tok (acc : List Tk) {c : UInt8} {r : List UInt8} (p : Nat) (h : whB c = false) (h0 : (firstL (c :: r)).2 = 0) :
    comb acc (lexP p (c :: r)) = comb (acc ++ [atT (firstL (c :: r)).1 p]) (lexP (p + sizeT (firstL (c :: r)).1) ((c :: r).drop (sizeT (firstL (c :: r)).1))) := by
  rw [lex_tok p h h0]
  unfold comb
  dsimp only
  split
  · simp
  · rfl
theorem comb_err (acc : List Tk) {c : UInt8} {r : List UInt8} (p : Nat) (h : whB c = false) (h0 : ¬ (firstL (c :: r)).2 = 0) : comb acc (lexP p (c :: r)) = ([], p, (firstL (c :: r)).2) := by
  rw [lex_err p h h0]
  unfold comb
  rw [if_neg h0]
theorem comb_nil (acc : List Tk) (p : Nat) : comb acc (lexP p []) = (acc, 0, 0) := by
  rw [lex_nil]; unfold comb; simp
end Go.Proofs.YtpmndopcemdniaaDoor
