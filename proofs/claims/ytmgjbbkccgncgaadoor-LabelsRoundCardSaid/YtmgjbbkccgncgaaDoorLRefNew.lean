/- The contract of the reference's New. Conditions: lists and strings of bounded length. -/
import Derived.Laws.AppendOwnNone
import Derived.Deep.AppendLies
import Derived.LoopN
import Derived.Test.YtmgjbbkccgncgaaDoorLNew
namespace Go.Proofs.YtmgjbbkccgncgaaDoor
open Go.RowKit

theorem insL_split {t : L2} : ∀ {S : List L2} (j : Nat), (∀ s ∈ S.take j, cmpS s.1 t.1 < 0) → (∀ s, S[j]? = some s → ¬ cmpS s.1 t.1 < 0) → insL t S = S.take j ++ t :: S.drop j
  | [], j, _, _ => by simp [insL]
  | s :: S, 0, _, h => by
    unfold insL
    rw [if_neg (h s rfl)]
    rfl
  | s :: S, j + 1, h1, h2 => by
    unfold insL
    rw [if_pos (h1 s (by simp)), insL_split j (fun x hx => h1 x (by simp [hx])) (fun x hx => h2 x (by simpa using hx))]
    rfl
/-- Whether a name has come before, seen from the place that it would take among the sorted ones. -/
theorem twice_at {pre S : List L2} {n : ByteArray} {j : Nat} (hp : S.Perm pre) (hs : Srt S) (h1 : ∀ s ∈ S.take j, cmpS s.1 n < 0) (h2 : ∀ s, S[j]? = some s → ¬ cmpS s.1 n < 0) :
    (pre.any fun s => decide (s.1 = n)) = (match S[j]? with | some s => decide (s.1 = n) | none => false) := by
  have hany : (pre.any fun s => decide (s.1 = n)) = (S.any fun s => decide (s.1 = n)) := by
    rw [Bool.eq_iff_iff, List.any_eq_true, List.any_eq_true]
    constructor
    · rintro ⟨s, hm, he⟩; exact ⟨s, hp.mem_iff.2 hm, he⟩
    · rintro ⟨s, hm, he⟩; exact ⟨s, hp.mem_iff.1 hm, he⟩
  rw [hany, Bool.eq_iff_iff, List.any_eq_true]
  constructor
  · rintro ⟨s, hm, he⟩
    have he : s.1 = n := of_decide_eq_true he
    obtain ⟨i, hi, hsi⟩ := List.getElem_of_mem hm
    rcases Nat.lt_trichotomy i j with hij | hij | hij
    · have := h1 s (by rw [← hsi]; exact List.mem_take_iff_getElem.2 ⟨i, by omega, rfl⟩)
      rw [he, cmpS_self] at this
      omega
    · subst hij
      rw [List.getElem?_eq_getElem hi, hsi]
      exact decide_eq_true he
    · have hj : j < S.length := by omega
      have h3 := h2 S[j] (List.getElem?_eq_getElem hj)
      have h4 := List.pairwise_iff_getElem.1 hs j i hj hi hij
      unfold ltN at h4
      rw [hsi, he] at h4
      exact absurd h4 h3
  · cases hj : S[j]? with
    | none => simp
    | some s => exact fun h => ⟨s, List.mem_of_getElem? hj, h⟩
theorem cells2_take {S : List L2} {j : Nat} {n v : ByteArray} (h : S[j]? = some (n, v)) : (S.take (j + 1)).flatMap cells2 = (S.take j).flatMap cells2 ++ [.string n, .string v] := by
  rw [List.take_add_one, h, List.flatMap_append]
  rfl
theorem take_lt_snoc {S : List L2} {j : Nat} {n v nm : ByteArray} (h : ∀ s ∈ S.take j, cmpS s.1 nm < 0) (hj : S[j]? = some (n, v)) (hn : cmpS n nm < 0) : ∀ s ∈ S.take (j + 1), cmpS s.1 nm < 0 := by
  intro s hs
  rw [List.take_add_one, hj] at hs
  rcases List.mem_append.1 hs with h1 | h1
  · exact h s h1
  · simp at h1
    subst h1
    exact hn
theorem dist_snoc {it : List L2} {k : Nat} {n v : ByteArray} (h : Dist (it.take k)) (hj : it[k]? = some (n, v)) (hb : badE (it.take k) (n, v) = 0) : Dist (it.take (k + 1)) := by
  have h1 := firstBad_dist [(n, v)] (it.take k) h (by rw [firstBad, if_pos hb]; rfl)
  rw [List.take_add_one, hj]
  exact h1
theorem cells2_drop {S : List L2} {g j : Nat} {W : World} (h : LCells W g 0 S) : ∀ i u, ((S.drop j).flatMap cells2)[i]? = some u → W.cell? ((⟨g, j * 2, none⟩ : Addr).add i) = some u := by
  intro i u hu
  have hi : i < ((S.drop j).flatMap cells2).length := (List.getElem?_eq_some_iff.1 hu).1
  rw [cells2_length, List.length_drop] at hi
  have hL : LCells W g (j * 2) (S.drop j) := fun p n v hp => by
    rw [List.getElem?_drop] at hp
    have := h (j + p) n v hp
    rw [show 0 + (j + p) * 2 = j * 2 + p * 2 by omega] at this
    exact this
  have := owned_cells hL i u hu
  unfold Addr.add
  split
  · rename_i h0; subst h0; simpa using this
  · exact this

theorem owns_weak2 {W : World} {a b e size n : Nat} {v : Value} {xs : List Value} (h : W.ownsRow a e size v n xs) (hb : b ≤ a) : W.ownsRow b e size v n xs := by
  refine ⟨h.1, ?_⟩
  rcases h.2 with h2 | ⟨g, cap, cur, e1, hg, rest⟩
  · exact .inl h2
  · exact .inr ⟨g, cap, cur, e1, Nat.le_trans hb hg, rest⟩
theorem LsAt.cells {W : World} {g off l c : Nat} {it : List L2} (h : LsAt W (.slice (some ⟨g, off, none⟩) l c) it) : LCells W g off it := by
  rcases h with ⟨e, -⟩ | ⟨g', off', c', e, -, -, hL⟩
  · cases e
  · simp only [Value.slice.injEq, Option.some.injEq, Addr.mk.injEq] at e
    obtain ⟨⟨rfl, rfl, -⟩, -, -⟩ := e
    exact hL
theorem LCells.zero {W : World} {g : Nat} {it : List L2} (h : LCells W g 0 it) {j : Nat} {n v : ByteArray} (hj : it[j]? = some (n, v)) : W.cell? ⟨g, j * 2, none⟩ = some (.string n) ∧ W.cell? ⟨g, j * 2 + 1, none⟩ = some (.string v) := by
  have := h j n v hj
  rw [Nat.zero_add] at this
  exact this
theorem less_yes {a b : ByteArray} (h : cmpS a b < 0) : Op.bytesLess a.toList b.toList = true := by rw [less_cmp]; exact decide_eq_true h
theorem less_no {a b : ByteArray} (h : ¬ cmpS a b < 0) : Op.bytesLess a.toList b.toList = false := by rw [less_cmp]; exact decide_eq_false h
/-- The new list that a round has built. -/
theorem round_owns {W : World} {base : Nat} {v4 : Value} {S : List L2} {n v : ByteArray} {j k : Nat} {zs : List Value} (h : W.ownsRow base 41 2 v4 (j + 1 + (k - j)) zs) (hz : zs = ((S.take j).flatMap cells2 ++ [.string n, .string v]) ++ (S.drop j).flatMap cells2) (hjk : j ≤ k)
    (hlow : ∀ s ∈ S.take j, cmpS s.1 n < 0) (hup : ∀ s, S[j]? = some s → ¬ cmpS s.1 n < 0) : W.ownsRow base 41 2 v4 (k + 1) ((insL (n, v) S).flatMap cells2) := by
  rw [insL_split j hlow hup]
  rw [hz] at h
  rw [show j + 1 + (k - j) = k + 1 by omega] at h
  have e : ((S.take j).flatMap cells2 ++ [Value.string n, Value.string v]) ++ (S.drop j).flatMap cells2 = (S.take j ++ (n, v) :: S.drop j).flatMap cells2 := by
    rw [List.flatMap_append, List.flatMap_cons, List.append_assoc]
    rfl
  rw [e] at h
  exact h

end Go.Proofs.YtmgjbbkccgncgaaDoor
