/- The order of strings and labels; what New and Compare ask: plain mathematics. Conditions: none. -/
import Derived.Lib.Bytealg
import Derived.Test.YtpmndopcemdniaaDoorLMem
namespace Go.Proofs.YtpmndopcemdniaaDoor
open Go.RowKit

/-- The order of two byte lists, as -1, 0 or 1. -/
theorem cb_self : ∀ a : List UInt8, Lib.compareBytes a a = 0
  | [] => rfl
  | x :: a => by rw [Lib.compareBytes, if_neg (by simp), if_neg (by simp)]; exact cb_self a
theorem cb_zero : ∀ a b : List UInt8, Lib.compareBytes a b = 0 → a = b
  | [], [], _ => rfl
  | [], _ :: _, h => by simp [Lib.compareBytes] at h
  | _ :: _, [], h => by simp [Lib.compareBytes] at h
  | x :: a, y :: b, h => by
    rw [Lib.compareBytes] at h
    by_cases h1 : x < y
    · rw [if_pos h1] at h; simp at h
    · rw [if_neg h1] at h
      by_cases h2 : y < x
      · rw [if_pos h2] at h; simp at h
      · rw [if_neg h2] at h
        have := cb_zero a b h
        have e : x = y := by
          rw [UInt8.lt_iff_toNat_lt] at h1 h2
          exact UInt8.toNat_inj.1 (by omega)
        rw [e, this]
theorem cb_anti : ∀ a b : List UInt8, Lib.compareBytes b a = - Lib.compareBytes a b
  | [], [] => rfl
  | [], _ :: _ => rfl
  | _ :: _, [] => rfl
  | x :: a, y :: b => by
    rw [Lib.compareBytes, Lib.compareBytes]
    by_cases h1 : x < y
    · have h2 : ¬ y < x := by rw [UInt8.lt_iff_toNat_lt] at *; omega
      rw [if_neg h2, if_pos h1, if_pos h1]; rfl
    · by_cases h2 : y < x
      · rw [if_pos h2, if_neg h1, if_pos h2]
      · rw [if_neg h2, if_neg h1, if_neg h1, if_neg h2]; exact cb_anti a b
theorem cb_range : ∀ a b : List UInt8, Lib.compareBytes a b = -1 ∨ Lib.compareBytes a b = 0 ∨ Lib.compareBytes a b = 1
  | [], [] => .inr (.inl rfl)
  | [], _ :: _ => .inl rfl
  | _ :: _, [] => .inr (.inr rfl)
  | x :: a, y :: b => by
    rw [Lib.compareBytes]
    by_cases h1 : x < y
    · rw [if_pos h1]; exact .inl rfl
    · rw [if_neg h1]
      by_cases h2 : y < x
      · rw [if_pos h2]; exact .inr (.inr rfl)
      · rw [if_neg h2]; exact cb_range a b
theorem cb_trans : ∀ a b c : List UInt8, Lib.compareBytes a b < 0 → Lib.compareBytes b c < 0 → Lib.compareBytes a c < 0
  | [], [], _, h, _ => by simp [Lib.compareBytes] at h
  | [], _ :: _, [], _, k => by simp [Lib.compareBytes] at k
  | [], _ :: _, _ :: _, _, _ => by simp [Lib.compareBytes]
  | _ :: _, [], _, h, _ => by simp [Lib.compareBytes] at h
  | _ :: _, _ :: _, [], _, k => by simp [Lib.compareBytes] at k
  | x :: a, y :: b, z :: c, h, k => by
    rw [Lib.compareBytes] at h k ⊢
    simp only [UInt8.lt_iff_toNat_lt] at h k ⊢
    by_cases h1 : x.toNat < y.toNat
    · by_cases k1 : y.toNat < z.toNat
      · rw [if_pos (by omega)]; decide
      · rw [if_neg k1] at k
        by_cases k2 : z.toNat < y.toNat
        · rw [if_pos k2] at k; simp at k
        · rw [if_pos (by omega)]; decide
    · rw [if_neg h1] at h
      by_cases h2 : y.toNat < x.toNat
      · rw [if_pos h2] at h; simp at h
      · rw [if_neg h2] at h
        by_cases k1 : y.toNat < z.toNat
        · rw [if_pos (by omega)]; decide
        · rw [if_neg k1] at k
          by_cases k2 : z.toNat < y.toNat
          · rw [if_pos k2] at k; simp at k
          · rw [if_neg k2] at k
            rw [if_neg (by omega), if_neg (by omega)]
            exact cb_trans a b c h k
theorem bl_cb : ∀ a b : List UInt8, Op.bytesLess a b = decide (Lib.compareBytes a b < 0)
  | [], [] => rfl
  | [], _ :: _ => rfl
  | _ :: _, [] => rfl
  | x :: a, y :: b => by
    rw [Op.bytesLess, Lib.compareBytes, bl_cb a b]
    by_cases h1 : x < y
    · rw [if_pos h1]; simp [h1]
    · rw [if_neg h1]
      by_cases h2 : y < x
      · have e : ¬ x = y := by rintro rfl; exact h1 h2
        rw [if_pos h2]; simp [h1, e]
      · have e : x = y := by
          rw [UInt8.lt_iff_toNat_lt] at h1 h2
          exact UInt8.toNat_inj.1 (by omega)
        rw [if_neg h2]; simp [e]

def cmpS (a b : ByteArray) : Int := Lib.compareBytes a.data.toList b.data.toList
theorem cmpS_self (a : ByteArray) : cmpS a a = 0 := cb_self _
theorem cmpS_zero {a b : ByteArray} (h : cmpS a b = 0) : a = b := ByteArray.ext (Array.toList_inj.1 (cb_zero _ _ h))
theorem cmpS_anti (a b : ByteArray) : cmpS b a = - cmpS a b := cb_anti _ _
theorem cmpS_range (a b : ByteArray) : cmpS a b = -1 ∨ cmpS a b = 0 ∨ cmpS a b = 1 := cb_range _ _
theorem cmpS_trans {a b c : ByteArray} (h : cmpS a b < 0) (k : cmpS b c < 0) : cmpS a c < 0 := cb_trans _ _ _ h k
theorem less_cmp (a b : ByteArray) : Op.bytesLess a.toList b.toList = decide (cmpS a b < 0) := by
  rw [ByteArray.toList_eq, ByteArray.toList_eq, bl_cb]; rfl
theorem eq_cmp (a b : ByteArray) : (a.toList == b.toList) = decide (cmpS a b = 0) := by
  by_cases h : a = b
  · rw [str_yes h, h, cmpS_self]; rfl
  · rw [str_no h, decide_eq_false (fun e => h (cmpS_zero e))]

/-- The error that an element gives behind others. -/
def badE (pre : List L2) (t : L2) : Int := if nameB t.1 = false then 8 else if t.2.size = 0 ∨ valB t.2 = false then 1 else if (pre.any fun s => decide (s.1 = t.1)) = true then 10 else 0
def firstBad : List L2 → List L2 → Int
  | _, [] => 0
  | pre, t :: r => if badE pre t = 0 then firstBad (pre ++ [t]) r else badE pre t
def newE (l : List L2) : Int := if 8 < l.length then 4 else firstBad [] l
def ltN (s t : L2) : Prop := cmpS s.1 t.1 < 0
instance (s t : L2) : Decidable (ltN s t) := by unfold ltN; infer_instance
/-- A label put in its place among sorted ones. -/
def insL (t : L2) : List L2 → List L2
  | [] => [t]
  | s :: r => if cmpS s.1 t.1 < 0 then s :: insL t r else t :: s :: r
def sortL (l : List L2) : List L2 := l.foldl (fun acc t => insL t acc) []
def newL (l : List L2) : List L2 := if newE l = 0 then sortL l else []
theorem sortL_snoc (l : List L2) (t : L2) : sortL (l ++ [t]) = insL t (sortL l) := by simp [sortL]
theorem insL_perm (t : L2) : ∀ l : List L2, (insL t l).Perm (t :: l)
  | [] => List.Perm.refl _
  | s :: r => by
    unfold insL
    split
    · exact ((insL_perm t r).cons s).trans (List.Perm.swap t s r)
    · exact List.Perm.refl _
theorem sortL_perm (l : List L2) : (sortL l).Perm l := by
  suffices h : ∀ (l acc : List L2), (l.foldl (fun acc t => insL t acc) acc).Perm (acc ++ l) from by simpa [sortL] using h l []
  intro l
  induction l with
  | nil => intro acc; simp
  | cons t l ih =>
    intro acc
    have h1 := ih (insL t acc)
    have h2 : (insL t acc ++ l).Perm ((t :: acc) ++ l) := (insL_perm t acc).append_right l
    have h3 : ((t :: acc) ++ l).Perm (acc ++ t :: l) := by simpa using (List.perm_middle (l₁ := acc) (a := t) (l₂ := l)).symm
    exact h1.trans (h2.trans h3)
/-- Sorted by the names, no name twice. -/
def Srt (l : List L2) : Prop := l.Pairwise ltN
theorem ltN_of_ne {s t : L2} (h : ¬ cmpS s.1 t.1 < 0) (e : s.1 ≠ t.1) : ltN t s := by
  unfold ltN
  have h1 := cmpS_anti s.1 t.1
  have h2 : cmpS s.1 t.1 ≠ 0 := fun z => e (cmpS_zero z)
  omega
theorem insL_srt {t : L2} : ∀ {l : List L2}, Srt l → (∀ s ∈ l, s.1 ≠ t.1) → Srt (insL t l)
  | [], _, _ => by unfold insL; exact List.pairwise_singleton _ _
  | s :: r, h, hn => by
    unfold insL
    obtain ⟨h1, h2⟩ := List.pairwise_cons.1 h
    split
    · rename_i hlt
      refine List.pairwise_cons.2 ⟨fun x hx => ?_, insL_srt h2 (fun x hx => hn x (List.mem_cons_of_mem _ hx))⟩
      rcases List.mem_cons.1 ((insL_perm t r).mem_iff.1 hx) with rfl | hx
      · exact hlt
      · exact h1 x hx
    · rename_i hlt
      have hts := ltN_of_ne hlt (hn s (List.mem_cons_self ..))
      refine List.pairwise_cons.2 ⟨fun x hx => ?_, h⟩
      rcases List.mem_cons.1 hx with rfl | hx
      · exact hts
      · exact cmpS_trans hts (h1 x hx)
theorem srt_unique : ∀ {a b : List L2}, a.Perm b → Srt a → Srt b → a = b
  | [], b, p, _, _ => (List.nil_perm.1 p).symm
  | x :: a, [], p, _, _ => absurd p.length_eq (by simp)
  | x :: a, y :: b, p, ha, hb => by
    obtain ⟨a1, a2⟩ := List.pairwise_cons.1 ha
    obtain ⟨b1, b2⟩ := List.pairwise_cons.1 hb
    by_cases e : x = y
    · subst e
      rw [srt_unique (List.Perm.cons_inv p) a2 b2]
    · exfalso
      have h1 : x ∈ b := by
        rcases List.mem_cons.1 (p.mem_iff.1 (List.mem_cons_self ..)) with h | h
        · exact absurd h e
        · exact h
      have h2 : y ∈ a := by
        rcases List.mem_cons.1 (p.mem_iff.2 (List.mem_cons_self ..)) with h | h
        · exact absurd h.symm e
        · exact h
      have h3 := a1 y h2
      have h4 := b1 x h1
      unfold ltN at h3 h4
      have := cmpS_anti x.1 y.1
      omega
/-- No name twice. -/
def Dist (l : List L2) : Prop := l.Pairwise fun s t => s.1 ≠ t.1
theorem Dist.of_srt {l : List L2} (h : Srt l) : Dist l := h.imp fun {s t} (hl : ltN s t) e => by
  unfold ltN at hl
  rw [e, cmpS_self] at hl
  omega
theorem sortL_srt_aux : ∀ (l acc : List L2), Srt acc → Dist (acc ++ l) → Srt (l.foldl (fun acc t => insL t acc) acc)
  | [], acc, h, _ => h
  | t :: l, acc, h, hd => by
    have h1 : ∀ s ∈ acc, s.1 ≠ t.1 := fun s hs => (List.pairwise_append.1 hd).2.2 s hs t (List.mem_cons_self ..)
    refine sortL_srt_aux l (insL t acc) (insL_srt h h1) ?_
    have hp : (insL t acc ++ l).Perm (acc ++ t :: l) := ((insL_perm t acc).append_right l).trans (by simpa using (List.perm_middle (l₁ := acc) (a := t) (l₂ := l)).symm)
    exact (List.Perm.pairwise_iff (R := fun s t : L2 => s.1 ≠ t.1) (fun h => h.symm) hp).2 hd
theorem sortL_srt {l : List L2} (h : Dist l) : Srt (sortL l) := sortL_srt_aux l [] List.Pairwise.nil (by simpa using h)

theorem firstBad_dist : ∀ (l pre : List L2), Dist pre → firstBad pre l = 0 → Dist (pre ++ l)
  | [], pre, h, _ => by simpa using h
  | t :: l, pre, h, hz => by
    rw [firstBad] at hz
    by_cases hb : badE pre t = 0
    · rw [if_pos hb] at hz
      have hd : Dist (pre ++ [t]) := by
        refine List.pairwise_append.2 ⟨h, List.pairwise_singleton _ _, fun s hs u hu => ?_⟩
        rw [List.mem_singleton] at hu
        subst hu
        unfold badE at hb
        intro e
        split at hb
        · omega
        · split at hb
          · omega
          · split at hb
            · omega
            · rename_i h3
              apply h3
              rw [List.any_eq_true]
              exact ⟨s, hs, by simp [e]⟩
      have := firstBad_dist l (pre ++ [t]) hd hz
      simpa using this
    · rw [if_neg hb] at hz
      exact absurd hz hb
theorem newE_dist {l : List L2} (h : newE l = 0) : l.length ≤ 8 ∧ Dist l := by
  unfold newE at h
  split at h
  · omega
  · exact ⟨by omega, by simpa using firstBad_dist l [] List.Pairwise.nil h⟩
theorem newL_of {l m : List L2} (h : newE l = 0) (hp : m.Perm l) (hs : Srt m) : m = newL l := by
  unfold newL
  rw [if_pos h]
  exact srt_unique (hp.trans (sortL_perm l).symm) hs (sortL_srt (newE_dist h).2)
theorem firstBad_hit {it : List L2} {k : Nat} {n v : ByteArray} (h : it[k]? = some (n, v)) (hb : badE (it.take k) (n, v) ≠ 0) : firstBad (it.take k) (it.drop k) = badE (it.take k) (n, v) := by
  obtain ⟨hk, h⟩ := List.getElem?_eq_some_iff.1 h
  rw [List.drop_eq_getElem_cons hk, h, firstBad, if_neg hb]
theorem firstBad_miss {it : List L2} {k : Nat} {n v : ByteArray} (h : it[k]? = some (n, v)) (hb : badE (it.take k) (n, v) = 0) : firstBad (it.take k) (it.drop k) = firstBad (it.take (k + 1)) (it.drop (k + 1)) := by
  obtain ⟨hk, h⟩ := List.getElem?_eq_some_iff.1 h
  rw [List.drop_eq_getElem_cons hk, h, firstBad, if_pos hb, List.take_succ_eq_append_getElem hk, h]
end Go.Proofs.YtpmndopcemdniaaDoor
