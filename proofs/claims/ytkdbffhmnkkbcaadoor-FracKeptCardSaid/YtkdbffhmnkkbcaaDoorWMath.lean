/- The plain mathematics of package wire, over lists and numbers: encodings, and how they are read. Conditions: numbers of 64 bits. -/
import Derived.WalkKit
namespace Go.Proofs.YtkdbffhmnkkbcaaDoor.W

/-- The varint of a number, by at most f bytes. -/
def uvF : Nat → Nat → List UInt8
  | 0, _ => []
  | f + 1, n => if n < 128 then [UInt8.ofNat n] else UInt8.ofNat (128 + n % 128) :: uvF f (n / 128)
def uv (n : Nat) : List UInt8 := uvF 10 n

theorem uvF_more : ∀ (f n : Nat), 1 ≤ f → n < 128 ^ f → uvF (f + 1) n = uvF f n
  | 0, _, h, _ => by omega
  | f + 1, n, _, hn => by
    by_cases h : n < 128
    · simp [uvF, h]
    · have hf : 1 ≤ f := by
        cases f with
        | zero => simp at hn; omega
        | succ f => omega
      have hd : n / 128 < 128 ^ f := by
        rw [Nat.pow_succ] at hn
        exact Nat.div_lt_of_lt_mul (by omega)
      have := uvF_more f (n / 128) hf hd
      rw [uvF, if_neg h, this]
      rw [uvF.eq_def (f + 1) n]
      simp [h]
theorem uv_small (n : Nat) (h : n < 128) : uv n = [UInt8.ofNat n] := by simp [uv, uvF, h]
theorem uv_big (n : Nat) (h : 128 ≤ n) (h64 : n < 18446744073709551616) : uv n = UInt8.ofNat (128 + n % 128) :: uv (n / 128) := by
  have h1 : n / 128 < 128 ^ 9 := by
    have : 128 ^ 9 = 9223372036854775808 := by decide
    omega
  have h2 := uvF_more 9 (n / 128) (by omega) h1
  unfold uv
  rw [h2, uvF, if_neg (by omega)]
theorem uvF_length : ∀ (g f n : Nat), 1 ≤ f → n < 128 ^ f → (uvF g n).length ≤ f
  | 0, _, _, _, _ => by simp [uvF]
  | g + 1, f, n, hf, hn => by
    by_cases h : n < 128
    · simp [uvF, h]; omega
    · cases f with
      | zero => omega
      | succ f =>
        have hf' : 1 ≤ f := by
          cases f with
          | zero => simp at hn; omega
          | succ f => omega
        have hd : n / 128 < 128 ^ f := by
          rw [Nat.pow_succ] at hn
          exact Nat.div_lt_of_lt_mul (by omega)
        have := uvF_length g f (n / 128) hf' hd
        simp [uvF, h]; omega
theorem uv_length (n : Nat) : (uv n).length ≤ 10 := by
  have : ∀ g n, (uvF g n).length ≤ g := by
    intro g
    induction g with
    | zero => intro n; simp [uvF]
    | succ g ih =>
      intro n
      by_cases h : n < 128
      · simp [uvF, h]
      · simp [uvF, h]; exact ih _
  exact this 10 n
theorem uv_pos (n : Nat) : 1 ≤ (uv n).length := by
  by_cases h : n < 128
  · simp [uv, uvF, h]
  · simp [uv, uvF, h]
theorem uv_length8 (n : Nat) (h : n < 72057594037927936) : (uv n).length ≤ 8 := by
  refine uvF_length 10 8 n (by omega) ?_
  have : 128 ^ 8 = 72057594037927936 := by decide
  omega
theorem byte_small (n : Nat) (h : n < 256) : (UInt8.ofNat n).toNat = n := by
  rw [UInt8.toNat_ofNat']; exact Nat.mod_eq_of_lt h

/-- How Uint examines bytes: from byte number i on, with what has been gathered. (The number, what is left, the error.) -/
def rdF : Nat → Nat → List UInt8 → Nat × List UInt8 × Nat
  | _, _, [] => (0, [], 3)
  | i, acc, c :: r =>
    if (0 < i ∧ c.toNat = 0) ∨ (i = 9 ∧ 1 < c.toNat) then (0, [], 2)
    else if c.toNat < 128 then (acc + c.toNat * 128 ^ i, r, 0)
    else rdF (i + 1) (acc + c.toNat % 128 * 128 ^ i) r

theorem pow_room (i : Nat) (h : i < 9) : 2 ^ (64 - 7 * i) = 128 * 2 ^ (64 - 7 * (i + 1)) := by
  have e : 64 - 7 * i = 7 + (64 - 7 * (i + 1)) := by omega
  rw [e, Nat.pow_add]
theorem add_digits (a n p : Nat) : a + n % 128 * p + n / 128 * (p * 128) = a + n * p := by
  have h := Nat.div_add_mod n 128
  have e : n * p = (128 * (n / 128) + n % 128) * p := by rw [h]
  rw [e, Nat.add_mul, Nat.mul_comm p 128, ← Nat.mul_assoc, Nat.mul_comm (n / 128) 128]
  omega

/-- Reading the varint of a number. -/
theorem rdF_uv : ∀ (f i acc n : Nat) (r : List UInt8), i + f = 10 → n < 2 ^ (64 - 7 * i) → (i = 0 ∨ 0 < n) → rdF i acc (uv n ++ r) = (acc + n * 128 ^ i, r, 0)
  | 0, i, acc, n, r, hf, hn, h0 => by
    obtain rfl : i = 10 := by omega
    simp at hn; omega
  | f + 1, i, acc, n, r, hf, hn, h0 => by
    have h64 : n < 18446744073709551616 := Nat.lt_of_lt_of_le hn (by
      have : (18446744073709551616 : Nat) = 2 ^ 64 := by decide
      rw [this]; exact Nat.pow_le_pow_right (by decide) (by omega))
    by_cases h : n < 128
    · rw [uv_small n h, List.singleton_append, rdF, byte_small n (by omega)]
      have h1 : ¬ ((0 < i ∧ n = 0) ∨ (i = 9 ∧ 1 < n)) := by
        rintro (⟨h1, h2⟩ | ⟨h1, h2⟩)
        · omega
        · subst h1; simp at hn; omega
      rw [if_neg h1, if_pos h]
    · have hi : i < 9 := by
        rcases Nat.lt_or_ge i 9 with h1 | h1
        · exact h1
        · have : i = 9 := by omega
          subst this; simp at hn; omega
      rw [uv_big n (by omega) h64, List.cons_append, rdF, byte_small (128 + n % 128) (by omega)]
      have h1 : ¬ ((0 < i ∧ 128 + n % 128 = 0) ∨ (i = 9 ∧ 1 < 128 + n % 128)) := by omega
      rw [if_neg h1, if_neg (by omega)]
      have e : (128 + n % 128) % 128 = n % 128 := by omega
      rw [e, rdF_uv f (i + 1) _ (n / 128) r (by omega) (by
        have := pow_room i hi
        rw [this] at hn
        exact Nat.div_lt_of_lt_mul hn) (by omega)]
      rw [Nat.pow_succ, add_digits]

/-- What reads as a number is its varint. -/
theorem uv_rdF : ∀ (bs : List UInt8) (i acc v : Nat) (r : List UInt8), i ≤ 9 → rdF i acc bs = (v, r, 0) → ∃ n, bs = uv n ++ r ∧ v = acc + n * 128 ^ i ∧ n < 2 ^ (64 - 7 * i) ∧ (i = 0 ∨ 0 < n)
  | [], i, acc, v, r, _, h => by simp [rdF] at h
  | c :: bs, i, acc, v, r, hi, h => by
    rw [rdF] at h
    by_cases h1 : (0 < i ∧ c.toNat = 0) ∨ (i = 9 ∧ 1 < c.toNat)
    · rw [if_pos h1] at h; simp at h
    · rw [if_neg h1] at h
      have hc : UInt8.ofNat c.toNat = c := UInt8.ofNat_toNat
      by_cases h2 : c.toNat < 128
      · rw [if_pos h2] at h
        simp only [Prod.mk.injEq] at h
        obtain ⟨rfl, rfl, _⟩ := h
        refine ⟨c.toNat, by rw [uv_small _ h2, hc]; rfl, rfl, ?_, by omega⟩
        rcases Nat.lt_or_ge i 9 with h3 | h3
        · refine Nat.lt_of_lt_of_le h2 ?_
          rw [show (128 : Nat) = 2 ^ 7 from rfl]
          exact Nat.pow_le_pow_right (by decide) (by omega)
        · have : i = 9 := by omega
          subst this
          have : 2 ^ (64 - 7 * 9) = 2 := rfl
          omega
      · rw [if_neg h2] at h
        have hlt := c.toNat_lt
        obtain ⟨n, rfl, rfl, hn, h0⟩ := uv_rdF bs (i + 1) _ v r (by omega) h
        have hi9 : i < 9 := by omega
        have hp := pow_room i hi9
        have h64 : 2 ^ (64 - 7 * i) ≤ 18446744073709551616 := by
          have : (18446744073709551616 : Nat) = 2 ^ 64 := by decide
          rw [this]; exact Nat.pow_le_pow_right (by decide) (by omega)
        rw [hp]
        rw [hp] at h64
        clear hp
        generalize 2 ^ (64 - 7 * (i + 1)) = Q at hn h64 ⊢
        refine ⟨c.toNat % 128 + 128 * n, ?_, ?_, by omega, by omega⟩
        · rw [uv_big (c.toNat % 128 + 128 * n) (by omega) (by omega)]
          have e1 : (c.toNat % 128 + 128 * n) % 128 = c.toNat % 128 := by omega
          have e2 : (c.toNat % 128 + 128 * n) / 128 = n := by omega
          have e3 : 128 + c.toNat % 128 = c.toNat := by omega
          rw [e1, e2, e3, hc]; rfl
        · have := add_digits acc (c.toNat % 128 + 128 * n) (128 ^ i)
          have e1 : (c.toNat % 128 + 128 * n) % 128 = c.toNat % 128 := by omega
          have e2 : (c.toNat % 128 + 128 * n) / 128 = n := by omega
          rw [e1, e2] at this
          rw [Nat.pow_succ, this]

theorem rdF_err : ∀ (bs : List UInt8) (i acc : Nat), (rdF i acc bs).2.2 = 0 ∨ ((rdF i acc bs).1 = 0 ∧ (rdF i acc bs).2.1 = [] ∧ ((rdF i acc bs).2.2 = 2 ∨ (rdF i acc bs).2.2 = 3))
  | [], i, acc => by simp [rdF]
  | c :: bs, i, acc => by
    rw [rdF]
    by_cases h1 : (0 < i ∧ c.toNat = 0) ∨ (i = 9 ∧ 1 < c.toNat)
    · rw [if_pos h1]; simp
    · rw [if_neg h1]
      by_cases h2 : c.toNat < 128
      · rw [if_pos h2]; simp
      · rw [if_neg h2]; exact rdF_err bs _ _
/-- More bytes behind what is read change nothing. -/
theorem rdF_ext : ∀ (bs q : List UInt8) (i acc : Nat), ((rdF i acc bs).2.2 = 0 → rdF i acc (bs ++ q) = ((rdF i acc bs).1, (rdF i acc bs).2.1 ++ q, 0)) ∧ ((rdF i acc bs).2.2 = 2 → (rdF i acc (bs ++ q)).2.2 = 2)
  | [], q, i, acc => by simp [rdF]
  | c :: bs, q, i, acc => by
    rw [List.cons_append, rdF, rdF]
    by_cases h1 : (0 < i ∧ c.toNat = 0) ∨ (i = 9 ∧ 1 < c.toNat)
    · rw [if_pos h1, if_pos h1]; simp
    · rw [if_neg h1, if_neg h1]
      by_cases h2 : c.toNat < 128
      · rw [if_pos h2, if_pos h2]; simp
      · rw [if_neg h2, if_neg h2]; exact rdF_ext bs q _ _

/-- The zigzag form of a number, and back. -/
def zz (n : Int) : Nat := if n < 0 then (2 * (-(n + 1)) + 1).toNat else (2 * n).toNat
def unzz (z : Nat) : Int := if z % 2 = 1 then -((z / 2 : Nat) : Int) - 1 else ((z / 2 : Nat) : Int)
theorem unzz_zz (n : Int) : unzz (zz n) = n := by
  unfold zz unzz
  by_cases h : n < 0
  · rw [if_pos h, if_pos (by omega)]; omega
  · rw [if_neg h, if_neg (by omega)]; omega
theorem zz_unzz (z : Nat) : zz (unzz z) = z := by
  unfold zz unzz
  by_cases h : z % 2 = 1
  · rw [if_pos h, if_pos (by omega)]; omega
  · rw [if_neg h, if_neg (by omega)]; omega
theorem zz_lt (n : Int) (h1 : -9223372036854775808 ≤ n) (h2 : n ≤ 9223372036854775807) : zz n < 18446744073709551616 := by
  unfold zz
  by_cases h : n < 0
  · rw [if_pos h]; omega
  · rw [if_neg h]; omega
theorem unzz_in (z : Nat) (h : z < 18446744073709551616) : -9223372036854775808 ≤ unzz z ∧ unzz z ≤ 9223372036854775807 := by
  unfold unzz
  by_cases h : z % 2 = 1
  · rw [if_pos h]; omega
  · rw [if_neg h]; omega

/-- A reader: what is left, and the error that is recorded. -/
structure St where
  bs : List UInt8
  e : Nat
/-- Uint, Int, Bool, Raw and Ints of a reader. -/
def rU (s : St) : Nat × St := if s.e = 0 then ((rdF 0 0 s.bs).1, ⟨(rdF 0 0 s.bs).2.1, (rdF 0 0 s.bs).2.2⟩) else (0, s)
def rI (s : St) : Int × St := (unzz (rU s).1, (rU s).2)
def rB (s : St) : Bool × St :=
  if s.e = 0 then
    match s.bs with
    | [] => (false, ⟨[], 3⟩)
    | c :: r => if 1 < c.toNat then (false, ⟨[], 2⟩) else (c.toNat == 1, ⟨r, 0⟩)
  else (false, s)
/-- The length of a list. -/
def rL (s : St) : Nat × St :=
  if (rU s).2.e = 0 then (if (rU s).2.bs.length < (rU s).1 then (0, ⟨[], 3⟩) else rU s) else (0, (rU s).2)
def rRaw (s : St) : List UInt8 × St :=
  if (rL s).2.e = 0 then ((rL s).2.bs.take (rL s).1, ⟨(rL s).2.bs.drop (rL s).1, 0⟩) else ([], (rL s).2)
/-- k numbers more, behind those that were read. -/
def rIs : Nat → List Int → St → List Int × St
  | 0, acc, s => (acc, s)
  | k + 1, acc, s => if (rI s).2.e = 0 then rIs k (acc ++ [(rI s).1]) (rI s).2 else ([], (rI s).2)
def rInts (s : St) : List Int × St := if (rL s).2.e = 0 then rIs (rL s).1 [] (rL s).2 else ([], (rL s).2)
def endE (s : St) : Nat := if s.e = 0 ∧ s.bs ≠ [] then 2 else s.e

/-- A value: its kind, an unsigned number, a signed one, bytes, a list. -/
structure V where
  k : Int
  u : Nat
  n : Int
  b : List UInt8
  l : List Int
/-- A value of each kind. -/
def rV (k : Int) (s : St) : V × St :=
  if k = 0 then (⟨k, (rU s).1, 0, [], []⟩, (rU s).2)
  else if k = 1 then (⟨k, 0, (rI s).1, [], []⟩, (rI s).2)
  else if k = 2 then (⟨k, 0, if (rB s).1 then 1 else 0, [], []⟩, (rB s).2)
  else if k = 3 ∨ k = 4 then (⟨k, 0, 0, (rRaw s).1, []⟩, (rRaw s).2)
  else (⟨k, 0, 0, [], (rInts s).1⟩, (rInts s).2)
def encL (l : List Int) : List UInt8 := l.flatMap fun n => uv (zz n)
def enc (v : V) : List UInt8 :=
  if v.k = 0 then uv v.u
  else if v.k = 1 then uv (zz v.n)
  else if v.k = 2 then [if v.n = 1 then 1 else 0]
  else if v.k = 3 ∨ v.k = 4 then uv v.b.length ++ v.b
  else uv v.l.length ++ encL v.l
def encAll (l : List V) : List UInt8 := l.flatMap enc
end Go.Proofs.YtkdbffhmnkkbcaaDoor.W
