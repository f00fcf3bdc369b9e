/- The text of a fraction, read again. Conditions: none. -/
import Derived.Test.YtpmndopcemdniaaDoorParse
namespace Go.Proofs.YtpmndopcemdniaaDoor

theorem u8_digit {u : Nat} (h : u < 10) : (UInt8.ofNat (48 + u)).toNat = 48 + u := by
  rw [UInt8.toNat_ofNat']; omega
theorem dec_digit (u : Nat) : ∀ c ∈ Lib.decDigits u, 48 ≤ c.toNat ∧ c.toNat ≤ 57 := by
  induction u using Nat.strongRecOn with
  | _ u ih =>
    intro c hc
    rw [Lib.decDigits] at hc
    by_cases h : u < 10
    · rw [dif_pos h] at hc
      simp only [List.mem_singleton] at hc
      subst hc
      rw [u8_digit h]; omega
    · rw [dif_neg h, List.mem_append] at hc
      rcases hc with hc | hc
      · exact ih _ (by omega) c hc
      · simp only [List.mem_singleton] at hc
        subst hc
        rw [u8_digit (by omega)]; omega
theorem dec_ne (u : Nat) : Lib.decDigits u ≠ [] := by
  intro h
  have := Lib.nDigits_pos u
  rw [← Lib.decDigits_length, h] at this
  simp at this
theorem parse_dec (u : Nat) (hu : u < 18446744073709551616) : ∀ r, Lib.parseUint10 0 (Lib.decDigits u ++ r) = Lib.parseUint10 u r := by
  induction u using Nat.strongRecOn with
  | _ u ih =>
    intro r
    rw [Lib.decDigits]
    by_cases h : u < 10
    · rw [dif_pos h]
      simp only [List.singleton_append, Lib.parseUint10, u8_digit h]
      rw [if_pos (by omega), if_neg (by omega), if_neg (by omega)]
      congr 1; omega
    · rw [dif_neg h, List.append_assoc, ih (u / 10) (by omega) (by omega)]
      simp only [List.singleton_append, Lib.parseUint10, u8_digit (show u % 10 < 10 by omega)]
      rw [if_pos (by omega), if_neg (by omega), if_neg (by omega)]
      congr 1; omega
theorem parseMag_dec (u : Nat) (hu : u < 18446744073709551616) : Lib.parseMag (Lib.decDigits u) = .ok u := by
  unfold Lib.parseMag
  rw [if_neg (dec_ne u)]
  have := parse_dec u hu []
  rw [List.append_nil] at this
  rw [this]; rfl
theorem atoi_itoa (n : Int) (h0 : -9223372036854775808 ≤ n) (h1 : n ≤ 9223372036854775807) : atoiO (Lib.itoa n) = some n := by
  have h : Lib.atoiAll (Lib.itoa n) = .ok n := by
    unfold Lib.itoa
    by_cases hn : n < 0
    · rw [if_pos hn]
      unfold Lib.atoiAll
      simp only
      rw [if_pos (Or.inr (by decide)), parseMag_dec _ (by omega)]
      simp only
      rw [if_neg (fun h => h.1 (by decide)), if_neg (by omega), if_pos (by decide)]
      congr 1; omega
    · rw [if_neg hn]
      obtain ⟨c, r, hc⟩ : ∃ c r, Lib.decDigits n.toNat = c :: r := by
        cases h : Lib.decDigits n.toNat with
        | nil => exact absurd h (dec_ne _)
        | cons c r => exact ⟨c, r, rfl⟩
      have hd := dec_digit n.toNat c (by rw [hc]; simp)
      have hm := parseMag_dec n.toNat (by omega)
      rw [hc] at hm ⊢
      unfold Lib.atoiAll
      simp only
      rw [if_neg (by omega), hm]
      simp only
      rw [if_neg (fun h => by omega), if_neg (fun h => by omega), if_neg (by omega)]
      congr 1; omega
  unfold atoiO
  rw [h]
theorem indexByte_none (l : List UInt8) (c : UInt8) (h : ∀ x ∈ l, x ≠ c) : Lib.indexByte l c = -1 := by
  induction l with
  | nil => rfl
  | cons b l ih =>
    unfold Lib.indexByte
    rw [if_neg (by simpa using h b (by simp)), ih (fun x hx => h x (by simp [hx]))]
    rfl
theorem indexByte_at (l r : List UInt8) (c : UInt8) (h : ∀ x ∈ l, x ≠ c) : Lib.indexByte (l ++ c :: r) c = (l.length : Int) := by
  induction l with
  | nil => unfold Lib.indexByte; simp
  | cons b l ih =>
    have := ih (fun x hx => h x (by simp [hx]))
    rw [List.cons_append]
    unfold Lib.indexByte
    rw [if_neg (by simpa using h b (by simp)), this, if_neg (by simp), List.length_cons]
    omega
theorem itoa_noslash (n : Int) : ∀ x ∈ Lib.itoa n, x ≠ 47 := by
  intro x hx h
  subst h
  unfold Lib.itoa at hx
  split at hx
  · rw [List.mem_cons] at hx
    rcases hx with hx | hx
    · cases hx
    · have := dec_digit _ _ hx
      simp at this
  · have := dec_digit _ _ hx
    simp at this
theorem cut_one (n : Int) : cutL (Lib.itoa n) = (Lib.itoa n, [], false) := by
  unfold cutL
  rw [indexByte_none _ _ (itoa_noslash n), if_neg (by decide)]
theorem cut_two (n : Int) (r : List UInt8) : cutL (Lib.itoa n ++ 47 :: r) = (Lib.itoa n, r, true) := by
  unfold cutL
  rw [indexByte_at _ _ _ (itoa_noslash n), if_pos (by omega)]
  simp
/-- What Text writes, Parse reads. -/
theorem parse_text {n d : Int} (h : vP n d) : parseR (textL n d) = (n, d, 0) := by
  have e : textL n d = if d = 1 then Lib.itoa n else Lib.itoa n ++ 47 :: Lib.itoa d := by unfold textL; rw [if_pos h]
  have hn := atoi_itoa n (by have := h.2.2.1; omega) (by have := h.2.2.2.1; omega)
  have hd := atoi_itoa d (by have := h.1; omega) (by have := h.2.1; omega)
  unfold parseR parseO
  by_cases hd1 : d = 1
  · subst hd1
    rw [if_pos rfl] at e
    have k : atoiO [49] = some 1 := by
      rw [show ([49] : List UInt8) = Lib.itoa 1 by unfold Lib.itoa; rw [if_neg (by decide), Lib.decDigits_one (by decide)]; rfl]
      exact hd
    rw [e, cut_one, hn, if_neg (by simp), k]
    unfold parseQ
    simp only
    rw [if_pos e]
  · rw [if_neg hd1] at e
    rw [e, cut_two, hn, if_pos rfl, hd]
    unfold parseQ
    simp only
    rw [if_pos e]
end Go.Proofs.YtpmndopcemdniaaDoor
