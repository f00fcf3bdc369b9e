/- The arithmetic under math/bits.Div64: long division in base 2^32. Conditions: none. -/
import Derived.WalkKit
namespace Go.Proofs.Yteppamchbgnlfaa

/-- What a loop of the estimate keeps: u = q * y1 + r, the estimate is not too small. -/
def EstI (u v y1 y0 q r : Nat) : Prop := q * y1 + r = u ∧ (u * 4294967296 + v) / (y1 * 4294967296 + y0) ≤ q ∧ q ≤ 4294967297
theorem est_zero {u v y1 y0 : Nat} (hy : 2147483648 ≤ y1) (hy1 : y1 < 4294967296) (hy0 : y0 < 4294967296) (hv : v < 4294967296) (hu : u < y1 * 4294967296 + y0) : EstI u v y1 y0 (u / y1) (u - u / y1 * y1) ∧ u - u / y1 * y1 < 4294967296 := by
  have hm := Nat.div_add_mod u y1
  have hl := Nat.mod_lt u (show 0 < y1 by omega)
  rw [Nat.mul_comm] at hm
  refine ⟨⟨by omega, ?_, ?_⟩, by omega⟩
  · have h1 : u * 4294967296 + v < (u / y1 + 1) * (y1 * 4294967296 + y0) := by
      have e : (u / y1 + 1) * (y1 * 4294967296 + y0) = (u / y1 * y1 + y1) * 4294967296 + (u / y1 + 1) * y0 := by
        rw [Nat.mul_add, ← Nat.mul_assoc, Nat.add_mul _ 1 y1, Nat.one_mul]
      rw [e]
      generalize u / y1 * y1 = A at *
      generalize (u / y1 + 1) * y0 = C
      omega
    have := (Nat.div_lt_iff_lt_mul (show 0 < y1 * 4294967296 + y0 by omega)).2 h1
    omega
  · have h2 : u < 4294967298 * y1 := by omega
    have := (Nat.div_lt_iff_lt_mul (show 0 < y1 by omega)).2 h2
    omega
/-- The estimate divides what it is held against exactly where the test says so. -/
theorem est_le {u v y1 y0 q r : Nat} (h : q * y1 + r = u) : q * (y1 * 4294967296 + y0) ≤ u * 4294967296 + v ↔ q * y0 ≤ 4294967296 * r + v := by
  rw [← h, Nat.mul_add, ← Nat.mul_assoc, Nat.add_mul (q * y1)]
  omega
theorem est_lt2 {u v y : Nat} (hy : 0 < y) (hv : v < 4294967296) (hu : u < y) : (u * 4294967296 + v) / y < 4294967296 :=
  (Nat.div_lt_iff_lt_mul hy).2 (by omega)
theorem est_lt {u v y1 y0 : Nat} (hy : 0 < y1 * 4294967296 + y0) (hv : v < 4294967296) (hu : u < y1 * 4294967296 + y0) : (u * 4294967296 + v) / (y1 * 4294967296 + y0) < 4294967296 := est_lt2 hy hv hu
theorem est_more {u v y1 y0 q r : Nat} (hy : 0 < y1 * 4294967296 + y0) (hv : v < 4294967296) (hu : u < y1 * 4294967296 + y0) (h : EstI u v y1 y0 q r) (ht : 4294967296 ≤ q ∨ 4294967296 * r + v < q * y0) :
    (u * 4294967296 + v) / (y1 * 4294967296 + y0) < q := by
  obtain ⟨h1, h2, h3⟩ := h
  rcases ht with ht | ht
  · have := est_lt hy hv hu; omega
  · refine (Nat.div_lt_iff_lt_mul hy).2 (Nat.lt_of_not_le fun hle => ?_)
    have := (est_le (v := v) (y0 := y0) h1).1 hle
    omega
theorem est_step {u v y1 y0 q r : Nat} (hy : 0 < y1 * 4294967296 + y0) (hv : v < 4294967296) (hu : u < y1 * 4294967296 + y0) (h : EstI u v y1 y0 q r) (ht : 4294967296 ≤ q ∨ 4294967296 * r + v < q * y0) :
    EstI u v y1 y0 (q - 1) (r + y1) ∧ 1 ≤ q := by
  have hlt := est_more hy hv hu h ht
  obtain ⟨h1, h2, h3⟩ := h
  have hq : 1 ≤ q := Nat.lt_of_le_of_lt (Nat.zero_le _) hlt
  obtain ⟨p, rfl⟩ : ∃ p, q = p + 1 := ⟨q - 1, by omega⟩
  rw [Nat.add_mul, Nat.one_mul] at h1
  unfold EstI
  rw [Nat.add_sub_cancel]
  generalize (u * 4294967296 + v) / (y1 * 4294967296 + y0) = T at *
  exact ⟨⟨by omega, by omega, by omega⟩, by omega⟩
theorem est_end {u v y1 y0 q r : Nat} (hy : 0 < y1 * 4294967296 + y0) (h : EstI u v y1 y0 q r) (ht : q * y0 ≤ 4294967296 * r + v) : q = (u * 4294967296 + v) / (y1 * 4294967296 + y0) := by
  obtain ⟨h1, h2, h3⟩ := h
  have := (Nat.le_div_iff_mul_le hy).2 ((est_le (v := v) (y0 := y0) h1).2 ht)
  omega
theorem est_break {v y0 q r : Nat} (hy0 : y0 < 4294967296) (hq : q ≤ 4294967296) (hr : 4294967296 ≤ r) : q * y0 ≤ 4294967296 * r + v := by
  have h1 : q * y0 ≤ 4294967296 * 4294967295 := Nat.mul_le_mul hq (by omega)
  omega
/-- The remainder below the divisor, found modulo 2^64. -/
theorem rem_wrap {X v Z M : Int} (h1 : 0 ≤ X + v - Z) (h2 : X + v - Z < M) : ((X % M + v) % M - Z % M) % M = X + v - Z := by
  rw [Int.emod_add_emod, Int.emod_sub_emod, Int.sub_emod_emod]
  exact Int.emod_eq_of_lt h1 h2

/-- The whole division. -/
theorem div_whole {N y s u v1 v0 Q1 Q0 : Nat} (hy0 : 0 < y) (hN : N * 2 ^ s = (u * 4294967296 + v1) * 4294967296 + v0)
    (hQ1 : Q1 = (u * 4294967296 + v1) / (y * 2 ^ s)) (hQ0 : Q0 = ((u * 4294967296 + v1 - Q1 * (y * 2 ^ s)) * 4294967296 + v0) / (y * 2 ^ s)) :
    Q1 * 4294967296 + Q0 = N / y ∧ ((u * 4294967296 + v1 - Q1 * (y * 2 ^ s)) * 4294967296 + v0 - Q0 * (y * 2 ^ s)) / 2 ^ s = N % y := by
  have hs : 0 < 2 ^ s := Nat.pow_pos (by omega)
  have hY : 0 < y * 2 ^ s := Nat.mul_pos hy0 hs
  have m1 := Nat.div_add_mod (u * 4294967296 + v1) (y * 2 ^ s)
  have l1 := Nat.mod_lt (u * 4294967296 + v1) hY
  rw [← hQ1, Nat.mul_comm] at m1
  have e1 : u * 4294967296 + v1 - Q1 * (y * 2 ^ s) = (u * 4294967296 + v1) % (y * 2 ^ s) := by omega
  rw [e1] at hQ0 ⊢
  generalize (u * 4294967296 + v1) % (y * 2 ^ s) = r1 at *
  have m0 := Nat.div_add_mod (r1 * 4294967296 + v0) (y * 2 ^ s)
  have l0 := Nat.mod_lt (r1 * 4294967296 + v0) hY
  rw [← hQ0, Nat.mul_comm] at m0
  have e0 : r1 * 4294967296 + v0 - Q0 * (y * 2 ^ s) = (r1 * 4294967296 + v0) % (y * 2 ^ s) := by
    conv => lhs; lhs; rw [← m0]
    exact Nat.add_sub_cancel_left _ _
  rw [e0]
  generalize (r1 * 4294967296 + v0) % (y * 2 ^ s) = r0 at *
  have hT : N * 2 ^ s = (Q1 * 4294967296 + Q0) * y * 2 ^ s + r0 := by
    rw [hN, ← m1, Nat.mul_assoc (Q1 * 4294967296 + Q0), Nat.add_mul (Q1 * 4294967296)]
    have : Q1 * 4294967296 * (y * 2 ^ s) = Q1 * (y * 2 ^ s) * 4294967296 := Nat.mul_right_comm Q1 4294967296 (y * 2 ^ s)
    rw [this]
    generalize Q1 * (y * 2 ^ s) = A at *
    generalize Q0 * (y * 2 ^ s) = C at *
    omega
  have hd : 2 ^ s ∣ r0 := by
    have h1 : 2 ^ s ∣ (Q1 * 4294967296 + Q0) * y * 2 ^ s + r0 := by rw [← hT]; exact Nat.dvd_mul_left _ _
    exact (Nat.dvd_add_right (Nat.dvd_mul_left _ _)).1 h1
  obtain ⟨r, rfl⟩ := hd
  have hr : r < y := by
    rw [Nat.mul_comm] at l0
    exact Nat.lt_of_mul_lt_mul_right l0
  have hN2 : N = (Q1 * 4294967296 + Q0) * y + r := by
    rw [Nat.mul_comm (2 ^ s) r, ← Nat.add_mul] at hT
    exact Nat.eq_of_mul_eq_mul_right hs hT
  rw [Nat.mul_div_cancel_left _ hs, hN2, Nat.add_comm ((Q1 * 4294967296 + Q0) * y) r, Nat.add_mul_div_right _ _ hy0, Nat.add_mul_mod_self_right, Nat.div_eq_of_lt hr, Nat.mod_eq_of_lt hr, Nat.zero_add]
  exact ⟨rfl, rfl⟩
end Go.Proofs.Yteppamchbgnlfaa
