/- The mathematics of LexerNumbers. Conditions: none. -/
import Derived.Test.YtpmndopcemdniaaDoorPMath
import Derived.Test.YtpmndopcemdniaaDoorTNamesM
namespace Go.Proofs.YtpmndopcemdniaaDoor

/-- Zeros ahead of the digits of a number. -/
def zerL (z m : Nat) : List UInt8 := List.replicate z 48 ++ Lib.decDigits m
theorem zerL_succ (z m : Nat) : 48 :: zerL z m = zerL (z + 1) m := rfl
theorem val_zero (r : List UInt8) : valF 0 (48 :: r) = valF 0 r := rfl
theorem itoa_dec (m : Nat) : Lib.itoa (m : Int) = Lib.decDigits m := by
  unfold Lib.itoa
  rw [if_neg (by omega)]
  rfl
theorem dec_nil (m : Nat) : Lib.decDigits m ≠ [] := by
  rw [Lib.decDigits]
  split
  · simp
  · simp
theorem dec_di (m : Nat) : ∀ c ∈ Lib.decDigits m, diB c = true := fun c hc => by
  have := dec_digit m c hc
  unfold diB
  exact decide_eq_true this
theorem val_dec (m : Nat) (hm : m ≤ 1073741824) : valF 0 (Lib.decDigits m) = m := by
  have h := atoi_itoa (m : Int) (by omega) (by omega)
  rw [itoa_dec, atoi_digits _ (dec_nil m) (dec_di m)] at h
  split at h
  · have := Option.some.inj h
    omega
  · cases h
theorem zerL_val (m : Nat) (hm : m ≤ 1073741824) : ∀ z, valF 0 (zerL z m) = m
  | 0 => val_dec m hm
  | z + 1 => by rw [← zerL_succ, val_zero]; exact zerL_val m hm z
theorem zerL_di (m : Nat) : ∀ z, ∀ c ∈ zerL z m, diB c = true
  | 0, c, h => dec_di m c h
  | z + 1, c, h => by
    rw [← zerL_succ] at h
    rcases List.mem_cons.1 h with rfl | h
    · rfl
    · exact zerL_di m z c h
theorem zerL_len (m : Nat) (hm : m ≤ 1073741824) (z : Nat) : (zerL z m).length ≤ z + 21 := by
  have h := Lib.itoa_length_le (m : Int) (by omega) (by omega)
  rw [itoa_dec] at h
  unfold zerL
  rw [List.length_append, List.length_replicate]
  omega
theorem zerL_ne (z m : Nat) : zerL z m ≠ [] := by
  unfold zerL
  have := dec_nil m
  simp [this]
/-- The one token of a number with zeros ahead. -/
theorem num_tok (m : Nat) (hm : m ≤ 1073741824) (z : Nat) (hz : z ≤ 5) : tokL (zerL z m) = ([⟨1, zerL z m, m, 0⟩], 0, 0) := by
  have hlen := zerL_len m hm z
  have hv := zerL_val m hm z
  have hd := zerL_di m z
  obtain ⟨c, r, e⟩ := List.exists_cons_of_ne_nil (zerL_ne z m)
  rw [e] at hlen hv hd ⊢
  have hc := hd c (by simp)
  have hcb : 48 ≤ c.toNat ∧ c.toNat ≤ 57 := by simpa [diB] using hc
  have hle : leB c = false := by unfold leB; exact decide_eq_false (by omega)
  have hwh : whB c = false := by unfold whB; exact decide_eq_false (by omega)
  have htw : (c :: r).takeWhile diB = c :: r := (takeWhile_all _).1 (List.all_eq_true.2 hd)
  have hf : firstL (c :: r) = (⟨1, c :: r, m, 0⟩, 0) := by
    rw [first_cons, if_neg (by simp [hle]), if_pos hc, htw, hv, if_pos hm]
  rw [tok_first (by omega) hwh (by rw [hf]) (by rw [hf]; rfl), hf]
  rfl
theorem new_one (m : Nat) (hm : m ≤ 1073741824) : newR (m : Int) 1 = ((m : Int), 1, 0) := by
  unfold newR lowR
  have h1 : decide ((m : Int) < 0) = false := decide_eq_false (by omega)
  have h2 : decide ((1 : Int) < 0) = false := rfl
  have e1 : (m : Int).natAbs = m := by omega
  have e2 : (1 : Int).natAbs = 1 := rfl
  rw [if_neg (by omega), if_neg (by omega), h1, h2, e1, e2, Nat.gcd_one_right, Nat.div_one, Nat.div_one, if_pos ⟨by omega, by omega⟩]
  rfl
theorem text_one (m : Nat) (hm : m ≤ 1073741824) : textL (m : Int) 1 = zerL 0 m := by
  unfold textL
  rw [if_pos (show vP (m : Int) 1 by
    refine ⟨by omega, by omega, by omega, by omega, ?_⟩
    rw [show (1 : Int).natAbs = 1 from rfl, Nat.gcd_one_right]), if_pos rfl, itoa_dec]
  rfl
end Go.Proofs.YtpmndopcemdniaaDoor
