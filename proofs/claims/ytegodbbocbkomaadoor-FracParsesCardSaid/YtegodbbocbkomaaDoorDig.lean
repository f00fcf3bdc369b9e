/- The reference's digits and Parse as functions of lists. Conditions: none. -/
import Derived.Test.YtegodbbocbkomaaDoorPMath
namespace Go.Proofs.YtegodbbocbkomaaDoor

def dig (b : UInt8) : Bool := decide (48 ≤ b.toNat ∧ b.toNat ≤ 57)
def runL : List UInt8 → Nat
  | [] => 0
  | b :: l => if dig b = true then runL l + 1 else 0
def valL (acc : Nat) : List UInt8 → Nat
  | [] => acc
  | b :: l => valL (10 * acc + (b.toNat - 48)) l
def digL (l : List UInt8) (p : Nat) : Int × Int :=
  if min (runL (l.drop p)) 20 = 0 ∨ 19 < min (runL (l.drop p)) 20 ∨ 4611686018427387904 < valL 0 ((l.drop p).take (min (runL (l.drop p)) 20)) then (0, -1)
  else ((valL 0 ((l.drop p).take (min (runL (l.drop p)) 20)) : Nat), ((p + min (runL (l.drop p)) 20 : Nat) : Int))
def signL (l : List UInt8) : Nat := if l.head? = some 45 then 1 else 0
def restL (l : List UInt8) (r : Int × Int) : Int × Int := if l[r.2.toNat]? = some 47 then digL l (r.2.toNat + 1) else (1, r.2)
def lastL (l : List UInt8) (n : Int) (q : Int × Int) : R3 := if q.2 < 0 then (0, 0, 2) else if q.2 < l.length ∨ textL n q.1 ≠ l then (0, 0, 2) else (n, q.1, 0)
def rparseL (l : List UInt8) : R3 :=
  if (digL l (signL l)).2 < 0 then (0, 0, 2)
  else lastL l (if signL l = 1 then -(digL l (signL l)).1 else (digL l (signL l)).1) (restL l (digL l (signL l)))

theorem run_step (m : List UInt8) : ∀ k, k ≤ runL m → (k < runL m ↔ ∃ b, m[k]? = some b ∧ dig b = true) := by
  induction m with
  | nil => intro k _; simp [runL]
  | cons b l ih =>
    intro k hk
    unfold runL at hk ⊢
    by_cases hb : dig b = true
    · rw [if_pos hb] at hk ⊢
      cases k with
      | zero => simp [hb]
      | succ k =>
        have := ih k (by omega)
        rw [List.getElem?_cons_succ, ← this]
        omega
    · rw [if_neg hb] at hk ⊢
      obtain rfl : k = 0 := by omega
      simp [hb]
theorem valL_snoc (b : UInt8) : ∀ (l : List UInt8) (a : Nat), valL a (l ++ [b]) = 10 * valL a l + (b.toNat - 48) := by
  intro l
  induction l with
  | nil => intro a; rfl
  | cons c l ih => intro a; rw [List.cons_append]; exact ih _
theorem valL_lt : ∀ (l : List UInt8) (a : Nat), (∀ b ∈ l, dig b = true) → valL a l + 1 ≤ (a + 1) * 10 ^ l.length := by
  intro l
  induction l with
  | nil => intro a _; rw [List.length_nil, Nat.pow_zero]; unfold valL; omega
  | cons c l ih =>
    intro a h
    have h1 := ih (10 * a + (c.toNat - 48)) (fun b hb => h b (by simp [hb]))
    have h2 := h c (by simp)
    unfold dig at h2
    have h3 := of_decide_eq_true h2
    unfold valL
    refine Nat.le_trans h1 ?_
    rw [List.length_cons, Nat.pow_succ, Nat.mul_comm (10 ^ l.length) 10, ← Nat.mul_assoc]
    exact Nat.mul_le_mul_right _ (by omega)
theorem take_dig (m : List UInt8) (k : Nat) (hk : k ≤ runL m) : ∀ b ∈ m.take k, dig b = true := by
  intro b hb
  obtain ⟨i, hi, rfl⟩ := List.mem_iff_getElem.1 hb
  rw [List.length_take] at hi
  obtain ⟨c, h1, h2⟩ := (run_step m i (by omega)).1 (by omega)
  rw [List.getElem_take]
  rw [List.getElem?_eq_getElem (by omega)] at h1
  injection h1 with h1
  rw [h1]; exact h2
theorem run_le (m : List UInt8) : runL m ≤ m.length := by
  induction m with
  | nil => simp [runL]
  | cons b l ih => unfold runL; rw [List.length_cons]; split <;> omega
theorem val_small (m : List UInt8) (k : Nat) (hk : k ≤ runL m) (h : k ≤ 19) : valL 0 (m.take k) < 10000000000000000000 := by
  have h1 := valL_lt (m.take k) 0 (take_dig m k hk)
  have h2 : (m.take k).length ≤ 19 := by rw [List.length_take]; omega
  have h3 : 10 ^ (m.take k).length ≤ 10 ^ 19 := Nat.pow_le_pow_right (by omega) h2
  omega
theorem val_next (m : List UInt8) (k : Nat) (b : UInt8) (h : m[k]? = some b) : valL 0 (m.take (k + 1)) = 10 * valL 0 (m.take k) + (b.toNat - 48) := by
  rw [List.take_add_one, h, Option.toList_some, valL_snoc]
/-! What the digits of a number are. -/
theorem valL_app : ∀ (l r : List UInt8) (a : Nat), valL a (l ++ r) = valL (valL a l) r := by
  intro l
  induction l with
  | nil => intro r a; rfl
  | cons c l ih => intro r a; rw [List.cons_append]; exact ih _ _
theorem val_dec (u : Nat) : valL 0 (Lib.decDigits u) = u := by
  induction u using Nat.strongRecOn with
  | _ u ih =>
    rw [Lib.decDigits]
    by_cases h : u < 10
    · rw [dif_pos h]
      show 10 * 0 + ((UInt8.ofNat (48 + u)).toNat - 48) = u
      rw [u8_digit h]; omega
    · rw [dif_neg h, valL_snoc, ih (u / 10) (by omega), u8_digit (by omega)]
      omega
theorem run_app (l r : List UInt8) (h : ∀ b ∈ l, dig b = true) (hr : ∀ b, r.head? = some b → dig b = false) : runL (l ++ r) = l.length := by
  induction l with
  | nil =>
    cases r with
    | nil => rfl
    | cons c r => have := hr c rfl; rw [List.nil_append]; unfold runL; rw [if_neg (by rw [this]; decide)]; rfl
  | cons c l ih =>
    rw [List.cons_append]
    unfold runL
    rw [if_pos (h c (by simp)), ih (fun b hb => h b (by simp [hb]))]
    rfl
theorem dec_dig (u : Nat) : ∀ b ∈ Lib.decDigits u, dig b = true := fun b hb => by
  unfold dig; exact decide_eq_true (dec_digit u b hb)
theorem dig_at (p : List UInt8) (u : Nat) (r : List UInt8) (hu : u ≤ 4611686018427387904) (hl : (Lib.decDigits u).length ≤ 19) (hr : ∀ b, r.head? = some b → dig b = false) :
    digL (p ++ (Lib.decDigits u ++ r)) p.length = (((u : Nat) : Int), ((p.length + (Lib.decDigits u).length : Nat) : Int)) := by
  have h1 : (p ++ (Lib.decDigits u ++ r)).drop p.length = Lib.decDigits u ++ r := by simp
  have h2 : 0 < (Lib.decDigits u).length := by rw [Lib.decDigits_length]; exact Lib.nDigits_pos u
  unfold digL
  rw [h1, run_app _ _ (dec_dig u) hr, Nat.min_eq_left (by omega), List.take_left, val_dec, if_neg (by omega)]
theorem nd_le : ∀ (k u : Nat), u < 10 ^ (k + 1) → Lib.nDigits u ≤ k + 1 := by
  intro k
  induction k with
  | zero => intro u h; rw [Lib.nDigits_small (by omega)]; exact Nat.le_refl _
  | succ k ih =>
    intro u h
    by_cases hu : u < 10
    · rw [Lib.nDigits_small hu]; omega
    · rw [Lib.nDigits_big hu]
      have := ih (u / 10) (by rw [Nat.pow_succ] at h; omega)
      omega
theorem dec_len (u : Nat) (hu : u ≤ 4611686018427387904) : (Lib.decDigits u).length ≤ 19 := by
  rw [Lib.decDigits_length]
  exact nd_le 18 u (Nat.lt_of_le_of_lt hu (by decide))
theorem itoa_eq (n : Int) : Lib.itoa n = (if n < 0 then [45] else []) ++ Lib.decDigits n.natAbs := by
  unfold Lib.itoa
  by_cases h : n < 0
  · rw [if_pos h, if_pos h]; rfl
  · rw [if_neg h, if_neg h, show n.toNat = n.natAbs by omega]; rfl
theorem sign_at (n : Int) (r : List UInt8) : signL ((if n < 0 then [45] else []) ++ (Lib.decDigits n.natAbs ++ r)) = (if n < 0 then [45] else ([] : List UInt8)).length := by
  unfold signL
  by_cases h : n < 0
  · rw [if_pos h]; rfl
  · rw [if_neg h, List.nil_append]
    cases hc : Lib.decDigits n.natAbs with
    | nil => exact absurd hc (dec_ne _)
    | cons c q =>
      have hd := dec_digit n.natAbs c (by rw [hc]; simp)
      rw [if_neg]
      · rfl
      · intro e
        injection e with e
        rw [e] at hd
        exact absurd hd.1 (by decide)
theorem rparse_text {n d : Int} (h : vP n d) : rparseL (textL n d) = (n, d, 0) := by
  have e : textL n d = if d = 1 then Lib.itoa n else Lib.itoa n ++ 47 :: Lib.itoa d := by unfold textL; rw [if_pos h]
  have hu : n.natAbs ≤ 4611686018427387904 := by have := h.2.2.1; have := h.2.2.2.1; omega
  have hv : d.natAbs ≤ 4611686018427387904 := by have := h.1; have := h.2.1; omega
  have hd0 : ¬ d < 0 := by have := h.1; omega
  obtain ⟨r, hr, hl⟩ : ∃ r, (r = if d = 1 then [] else 47 :: Lib.decDigits d.natAbs) ∧ textL n d = (if n < 0 then [45] else []) ++ (Lib.decDigits n.natAbs ++ r) := by
    refine ⟨_, rfl, ?_⟩
    rw [e, itoa_eq n, itoa_eq d, if_neg hd0]
    split <;> simp
  have hh : ∀ b, r.head? = some b → dig b = false := by
    intro b hb
    rw [hr] at hb
    split at hb
    · cases hb
    · injection hb with hb
      rw [← hb]; decide
  have h1 := dig_at (if n < 0 then [45] else []) n.natAbs r hu (dec_len _ hu) hh
  rw [← hl] at h1
  have h2 : signL (textL n d) = (if n < 0 then [45] else ([] : List UInt8)).length := by rw [hl, sign_at]
  have h3 : (if signL (textL n d) = 1 then -((n.natAbs : Nat) : Int) else ((n.natAbs : Nat) : Int)) = n := by
    rw [h2]
    by_cases hn : n < 0
    · rw [if_pos hn, if_pos (by rfl)]; omega
    · rw [if_neg hn, if_neg (by simp)]; omega
  unfold rparseL
  rw [h2, h1, ← h2]
  simp only
  rw [if_neg (by omega), h3]
  have h4 : (textL n d).length = (if n < 0 then [45] else ([] : List UInt8)).length + (Lib.decDigits n.natAbs).length + r.length := by rw [hl]; simp [Nat.add_assoc]
  have h5 : (textL n d)[(if n < 0 then [45] else ([] : List UInt8)).length + (Lib.decDigits n.natAbs).length]? = r.head? := by
    rw [hl, ← List.append_assoc, List.getElem?_append_right (by simp), List.length_append, Nat.sub_self, List.head?_eq_getElem?]
  have h6 : restL (textL n d) (((n.natAbs : Nat) : Int), (((if n < 0 then [45] else ([] : List UInt8)).length + (Lib.decDigits n.natAbs).length : Nat) : Int)) = (d, ((textL n d).length : Int)) := by
    unfold restL
    simp only [Int.toNat_natCast]
    rw [h5]
    by_cases hd : d = 1
    · rw [if_pos hd] at hr
      subst hr
      rw [h4, if_neg (by simp), hd]
      simp
    · rw [if_neg hd] at hr
      have k1 := dig_at ((if n < 0 then [45] else []) ++ (Lib.decDigits n.natAbs ++ [47])) d.natAbs [] hv (dec_len _ hv) (fun b hb => by cases hb)
      have k2 : (if n < 0 then [45] else ([] : List UInt8)) ++ (Lib.decDigits n.natAbs ++ [47]) ++ (Lib.decDigits d.natAbs ++ []) = textL n d := by rw [hl, hr]; simp
      have k3 : ((if n < 0 then [45] else ([] : List UInt8)) ++ (Lib.decDigits n.natAbs ++ [47])).length = (if n < 0 then [45] else ([] : List UInt8)).length + (Lib.decDigits n.natAbs).length + 1 := by simp [Nat.add_assoc]
      rw [k2, k3] at k1
      rw [if_pos (by rw [hr]; rfl), k1, h4, hr, List.length_cons]
      refine Prod.ext ?_ ?_
      · show ((d.natAbs : Nat) : Int) = d
        omega
      · show _ = _
        omega
  rw [h2, h6]
  unfold lastL
  simp only
  rw [if_neg (by omega), if_neg (by simp)]
theorem textL_nil {n d : Int} (h : ¬ vP n d) : textL n d = [] := by unfold textL; rw [if_neg h]
theorem rparse_eq (l : List UInt8) : rparseL l = parseR l := by
  by_cases hl : l = []
  · subst hl; decide +kernel
  · by_cases h : ∃ n d, vP n d ∧ textL n d = l
    · obtain ⟨n, d, hv, rfl⟩ := h
      rw [rparse_text hv, parse_text hv]
    · have no : ∀ n d : Int, textL n d ≠ l := fun n d e => by
        by_cases hv : vP n d
        · exact h ⟨n, d, hv, e⟩
        · rw [textL_nil hv] at e; exact hl e.symm
      have h1 : rparseL l = (0, 0, 2) := by
        unfold rparseL lastL
        split
        · rfl
        · split
          · rfl
          · rw [if_pos (Or.inr (no _ _))]
      have h2 : parseR l = (0, 0, 2) := by
        unfold parseR parseQ
        split
        · rw [if_neg (no _ _)]
        · rfl
      rw [h1, h2]
end Go.Proofs.YtegodbbocbkomaaDoor
