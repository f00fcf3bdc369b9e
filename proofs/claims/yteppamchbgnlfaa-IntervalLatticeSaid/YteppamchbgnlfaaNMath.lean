/- Natural numbers as lists of digits of 32 bits, the least significant one first: the reference's arithmetic, over lists. Conditions: none. -/
import Derived.WalkKit
namespace Go.Proofs.Yteppamchbgnlfaa

def val : List Nat → Nat
  | [] => 0
  | x :: l => x + 4294967296 * val l
/-- Digit i of a number. -/
def lim (n i : Nat) : Nat := n / 4294967296 ^ i % 4294967296
def limbs (n : Nat) : List Nat := [lim n 0, lim n 1, lim n 2, lim n 3, lim n 4, lim n 5, lim n 6, lim n 7]
/-- Eight digits. -/
def Digs (l : List Nat) : Prop := l.length = 8 ∧ ∀ x ∈ l, x < 4294967296
/-- The numbers of eight digits are those below this one. -/
def W8 : Nat := 4294967296 ^ 8

theorem lim_lt (n i : Nat) : lim n i < 4294967296 := Nat.mod_lt _ (by omega)
theorem limbs_digs (n : Nat) : Digs (limbs n) := by
  refine ⟨rfl, fun x hx => ?_⟩
  simp only [limbs, List.mem_cons, List.not_mem_nil, or_false] at hx
  rcases hx with h | h | h | h | h | h | h | h <;> rw [h] <;> exact lim_lt _ _
theorem Digs.at_ {l : List Nat} (h : Digs l) {k : Nat} (hk : k < 8) : ∃ x, l[k]? = some x ∧ x < 4294967296 := by
  have hl : k < l.length := by have := h.1; omega
  exact ⟨l[k], List.getElem?_eq_getElem hl, h.2 _ (List.getElem_mem hl)⟩

theorem val_append : ∀ (p s : List Nat), val (p ++ s) = val p + 4294967296 ^ p.length * val s
  | [], s => by simp [val]
  | x :: p, s => by
    have e : 4294967296 * (4294967296 ^ p.length * val s) = 4294967296 ^ (p.length + 1) * val s := by rw [Nat.pow_succ, ← Nat.mul_assoc, Nat.mul_comm 4294967296 (4294967296 ^ p.length)]
    simp only [List.cons_append, val, val_append p s, List.length_cons]
    rw [← e]
    omega
theorem val_lt : ∀ (l : List Nat), (∀ x ∈ l, x < 4294967296) → val l < 4294967296 ^ l.length
  | [], _ => by simp [val]
  | x :: l, h => by
    have h1 := val_lt l (fun y hy => h y (by simp [hy]))
    have h2 := h x (by simp)
    simp only [val, List.length_cons, Nat.pow_succ]
    omega
theorem lim_cons (x m i : Nat) (h : x < 4294967296) : lim (x + 4294967296 * m) (i + 1) = lim m i := by
  unfold lim
  rw [Nat.pow_succ, Nat.mul_comm (4294967296 ^ i), ← Nat.div_div_eq_div_mul]
  congr 2
  omega
theorem lim_zero (x m : Nat) (h : x < 4294967296) : lim (x + 4294967296 * m) 0 = x := by
  unfold lim
  simp only [Nat.pow_zero, Nat.div_one]
  omega
theorem lim_val : ∀ (l : List Nat) (k : Nat), (∀ x ∈ l, x < 4294967296) → lim (val l) k = l.getD k 0
  | [], k, _ => by simp [val, lim]
  | x :: l, 0, h => by
    rw [val, lim_zero _ _ (h x (by simp))]; rfl
  | x :: l, k + 1, h => by
    rw [val, lim_cons _ _ _ (h x (by simp)), lim_val l k (fun y hy => h y (by simp [hy]))]; rfl
theorem digs_form {l : List Nat} (h : l.length = 8) : ∃ a0 a1 a2 a3 a4 a5 a6 a7, l = [a0, a1, a2, a3, a4, a5, a6, a7] := by
  match l, h with
  | [a0, a1, a2, a3, a4, a5, a6, a7], _ => exact ⟨_, _, _, _, _, _, _, _, rfl⟩
theorem limbs_val {l : List Nat} (h : Digs l) : limbs (val l) = l := by
  have e := fun k => lim_val l k h.2
  obtain ⟨a0, a1, a2, a3, a4, a5, a6, a7, rfl⟩ := digs_form h.1
  unfold limbs
  rw [e 0, e 1, e 2, e 3, e 4, e 5, e 6, e 7]
  rfl
theorem val_limbs (n : Nat) (h : n < W8) : val (limbs n) = n := by
  have h' : n / 4294967296 / 4294967296 / 4294967296 / 4294967296 / 4294967296 / 4294967296 / 4294967296 / 4294967296 = 0 := by
    simp only [Nat.div_div_eq_div_mul]
    exact Nat.div_eq_of_lt (by simpa [W8] using h)
  simp only [limbs, val, lim, Nat.pow_succ, Nat.pow_zero, Nat.one_mul, Nat.div_one, ← Nat.div_div_eq_div_mul]
  omega
theorem limbs_inj {a b : Nat} (ha : a < W8) (hb : b < W8) (h : limbs a = limbs b) : a = b := by
  rw [← val_limbs a ha, ← val_limbs b hb, h]
theorem of_val {l : List Nat} {n : Nat} (h : Digs l) (e : val l = n) : l = limbs n := by rw [← e, limbs_val h]

theorem take_step {l : List Nat} {k x : Nat} (h : l[k]? = some x) : l.take (k + 1) = l.take k ++ [x] := by
  rw [List.take_add_one, h]; rfl
theorem take_len {l : List Nat} (h : l.length = 8) {k : Nat} (hk : k ≤ 8) : (l.take k).length = k := by rw [List.length_take]; omega
theorem val_step {l : List Nat} (hl : l.length = 8) {k x : Nat} (hk : k < 8) (h : l[k]? = some x) : val (l.take (k + 1)) = val (l.take k) + 4294967296 ^ k * x := by
  rw [take_step h, val_append, take_len hl (by omega)]
  simp [val]
theorem digs_set {l : List Nat} (h : Digs l) {k x : Nat} (hx : x < 4294967296) : Digs (l.set k x) := by
  refine ⟨by rw [List.length_set]; exact h.1, fun y hy => ?_⟩
  rcases List.mem_or_eq_of_mem_set hy with h1 | h1
  · exact h.2 y h1
  · rw [h1]; exact hx
theorem set_take {l : List Nat} {k x : Nat} : (l.set k x).take k = l.take k := by
  rw [List.take_set, List.set_eq_of_length_le (by rw [List.length_take]; omega)]
theorem set_at {l : List Nat} (h : l.length = 8) {k x : Nat} (hk : k < 8) : (l.set k x)[k]? = some x := by
  rw [List.getElem?_set_self (by omega)]
theorem set_drop {l : List Nat} {k x : Nat} : (l.set k x).drop (k + 1) = l.drop (k + 1) := by simp [List.drop_set]
theorem drop_step {l m : List Nat} {k : Nat} (h : l.drop k = m.drop k) : l.drop (k + 1) = m.drop (k + 1) := by
  rw [← List.drop_drop, ← List.drop_drop, h]
theorem drop_at {l m : List Nat} {k : Nat} (h : l.drop k = m.drop k) : l[k]? = m[k]? := by
  have := congrArg (·[0]?) h
  simpa using this

end Go.Proofs.Yteppamchbgnlfaa
