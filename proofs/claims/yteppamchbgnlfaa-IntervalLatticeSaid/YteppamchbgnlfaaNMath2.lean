/- The reference's product, comparison, half, greatest common divisor and quotient, over lists and numbers. Conditions: none. -/
import Derived.Test.YteppamchbgnlfaaNMath
namespace Go.Proofs.Yteppamchbgnlfaa

/-- A round of the inner loop of the product: the first i + k digits, and the carry. -/
def MulI (b o l : List Nat) (i d k c : Nat) : Prop :=
  Digs l ∧ l.drop (i + k) = o.drop (i + k) ∧ val (l.take (i + k)) + c * 4294967296 ^ (i + k) = val (o.take (i + k)) + 4294967296 ^ i * (d * val (b.take k)) ∧ c < 4294967296
theorem mulI_zero {b o : List Nat} (ho : Digs o) (i d : Nat) : MulI b o o i d 0 0 := ⟨ho, rfl, by simp [val], by omega⟩
theorem mulI_bound {c x d y : Nat} (hc : c < 4294967296) (hx : x < 4294967296) (hd : d < 4294967296) (hy : y < 4294967296) : d * y ≤ 18446744065119617025 ∧ c + x + d * y < 18446744073709551616 := by
  have h : d * y ≤ 4294967295 * 4294967295 := Nat.mul_le_mul (by omega) (by omega)
  omega
theorem mulI_step {b o l : List Nat} {i d k c x y s : Nat} (ho : Digs o) (hb : Digs b) (hk : i + k < 8) (hd : d < 4294967296) (h : MulI b o l i d k c) (hx : l[i + k]? = some x) (hy : b[k]? = some y)
    (hs : s = c + x + d * y) : MulI b o (l.set (i + k) (s % 4294967296)) i d (k + 1) (s / 4294967296) := by
  obtain ⟨h1, h2, h3, h4⟩ := h
  have hxo : o[i + k]? = some x := by rw [← drop_at h2]; exact hx
  have hx' : x < 4294967296 := by
    obtain ⟨x', e, h⟩ := h1.at_ hk
    rw [hx] at e; injection e with e; omega
  have hy' : y < 4294967296 := by
    obtain ⟨x', e, h⟩ := hb.at_ (show k < 8 by omega)
    rw [hy] at e; injection e with e; omega
  have hbd := (mulI_bound h4 hx' hd hy').2
  refine ⟨digs_set h1 (by omega), ?_, ?_, by omega⟩
  · rw [← Nat.add_assoc, set_drop]; exact drop_step h2
  rw [← Nat.add_assoc, val_step (by rw [List.length_set]; exact h1.1) hk (set_at h1.1 hk), set_take, val_step ho.1 hk hxo, val_step hb.1 (by omega) hy, Nat.pow_succ]
  have e1 : 4294967296 ^ i * (d * (val (b.take k) + 4294967296 ^ k * y)) = 4294967296 ^ i * (d * val (b.take k)) + 4294967296 ^ (i + k) * (d * y) := by
    rw [Nat.mul_add, Nat.mul_add, Nat.pow_add]
    congr 1
    simp only [Nat.mul_assoc, Nat.mul_comm, Nat.mul_left_comm]
  rw [e1]
  generalize 4294967296 ^ (i + k) = T at *
  have e : T * s = T * (s % 4294967296) + s / 4294967296 * (T * 4294967296) := by
    conv => lhs; rw [← Nat.mod_add_div s 4294967296]
    rw [Nat.mul_add, ← Nat.mul_assoc T, Nat.mul_comm (T * 4294967296)]
  have e2 : T * s = c * T + T * x + T * (d * y) := by rw [hs, Nat.mul_add, Nat.mul_add, Nat.mul_comm T c]
  omega

/-- A round of the outer loop: what was dropped is a multiple of 2^256. -/
def MulO (a b l : List Nat) (i : Nat) : Prop := Digs l ∧ ∃ q, val l + q * W8 = val (a.take i) * val b
theorem mulO_zero {a b : List Nat} : MulO a b (limbs 0) 0 := ⟨limbs_digs 0, 0, by rw [val_limbs 0 (by decide)]; simp [val]⟩
theorem mulO_step {a b o l : List Nat} {i d c : Nat} (ha : Digs a) (hb : Digs b) (hi : i < 8) (hd : a[i]? = some d) (h : MulO a b o i) (hl : MulI b o l i d (8 - i) c) : MulO a b l (i + 1) := by
  obtain ⟨ho, q, hq⟩ := h
  obtain ⟨h1, _, h3, _⟩ := hl
  rw [show i + (8 - i) = 8 by omega] at h3
  have e : ∀ {m : List Nat}, Digs m → m.take 8 = m := fun hm => List.take_of_length_le (by rw [hm.1]; omega)
  rw [e h1, e ho] at h3
  have hb2 : val b = val (b.take (8 - i)) + 4294967296 ^ (8 - i) * val (b.drop (8 - i)) := by
    conv => lhs; rw [← List.take_append_drop (8 - i) b, val_append, take_len hb.1 (by omega)]
  have hW : 4294967296 ^ i * 4294967296 ^ (8 - i) = W8 := by rw [← Nat.pow_add, show i + (8 - i) = 8 by omega]; rfl
  refine ⟨h1, q + c + d * val (b.drop (8 - i)), ?_⟩
  rw [val_step ha.1 hi hd, Nat.add_mul (val (a.take i)), ← hq]
  have e2 : 4294967296 ^ i * d * val b = 4294967296 ^ i * (d * val (b.take (8 - i))) + d * val (b.drop (8 - i)) * W8 := by
    rw [hb2, ← hW, Nat.mul_add]
    simp only [Nat.mul_assoc, Nat.mul_comm, Nat.mul_left_comm]
  rw [e2, Nat.add_mul, Nat.add_mul]
  have e3 : c * 4294967296 ^ 8 = c * W8 := rfl
  omega
theorem mulO_end {a b l : List Nat} (ha : Digs a) (h : MulO a b l 8) (hs : val a * val b < W8) : l = limbs (val a * val b) := by
  obtain ⟨h1, q, hq⟩ := h
  rw [List.take_of_length_le (show a.length ≤ 8 by rw [ha.1]; omega)] at hq
  have hc : q = 0 := by
    rcases Nat.eq_zero_or_pos q with h0 | h0
    · exact h0
    · have : W8 ≤ q * W8 := Nat.le_mul_of_pos_left _ h0
      omega
  subst hc
  exact of_val h1 (by omega)

/-- Digits from the highest on decide. -/
theorem val_cmp {a b : List Nat} {i x y : Nat} (ha : Digs a) (hb : Digs b) (hi : i < 8) (hd : a.drop (i + 1) = b.drop (i + 1)) (hx : a[i]? = some x) (hy : b[i]? = some y) (h : x < y) : val a < val b := by
  have hs : ∀ {m : List Nat} {z : Nat}, Digs m → m[i]? = some z → val m = val (m.take i) + 4294967296 ^ i * z + 4294967296 ^ (i + 1) * val (m.drop (i + 1)) := by
    intro m z hm hz
    conv => lhs; rw [← List.take_append_drop (i + 1) m, val_append, take_len hm.1 (by omega), val_step hm.1 hi hz]
  rw [hs ha hx, hs hb hy, hd]
  have h1 := val_lt (a.take i) (fun z hz => ha.2 z (List.mem_of_mem_take hz))
  rw [take_len ha.1 (by omega)] at h1
  have h2 : 4294967296 ^ i * (x + 1) ≤ 4294967296 ^ i * y := Nat.mul_le_mul_left _ h
  rw [Nat.mul_add] at h2
  omega
/-- The sign of a comparison. -/
def cmpN (a b : Nat) : Int := if a < b then -1 else if b < a then 1 else 0
theorem cmpN_lt {a b : Nat} (h : a < b) : cmpN a b = -1 := by unfold cmpN; rw [if_pos h]
theorem cmpN_gt {a b : Nat} (h : b < a) : cmpN a b = 1 := by unfold cmpN; rw [if_neg (by omega), if_pos h]
theorem cmpN_eq (a : Nat) : cmpN a a = 0 := by simp [cmpN]
theorem cmpN_bd (a b : Nat) : -1 ≤ cmpN a b ∧ cmpN a b ≤ 1 := by unfold cmpN; split <;> (try split) <;> omega
/-- The digits of a number of 64 bits. -/
theorem lim_small (n : Nat) (h : n < 18446744073709551616) : limbs n = [n % 4294967296, n / 4294967296, 0, 0, 0, 0, 0, 0] := by
  unfold limbs
  have h0 : lim n 0 = n % 4294967296 := by unfold lim; simp
  have h1 : lim n 1 = n / 4294967296 := by unfold lim; simp only [Nat.pow_one]; omega
  have h2 : ∀ k, 2 ≤ k → lim n k = 0 := by
    intro k hk
    unfold lim
    have : n / 4294967296 ^ k = 0 := by
      apply Nat.div_eq_of_lt
      have : 4294967296 ^ 2 ≤ 4294967296 ^ k := Nat.pow_le_pow_right (by omega) hk
      omega
    rw [this]
  rw [h0, h1, h2 2 (by omega), h2 3 (by omega), h2 4 (by omega), h2 5 (by omega), h2 6 (by omega), h2 7 (by omega)]

end Go.Proofs.Yteppamchbgnlfaa
