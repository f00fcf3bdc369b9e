/- Lists of fractions at a slice value; the reference's Sorted. Conditions: valid fractions. -/
import Derived.Laws.AppendOwnNone
import Derived.Maps.AppendAt
import Derived.OwnWalk
import Derived.LoopN
import Derived.Deep.RegionHeld3
import Derived.Deep.AppendLies
import Derived.Test.YteppamchbgnlfaaLives4
import Derived.Test.YteppamchbgnlfaaSMath
namespace Go.Proofs.Yteppamchbgnlfaa
open Go.RowKit

theorem Try.infoFrac : (Try.prog.info? 23).map (fun i => (i.zero, i.size, i.bytes)) = some (some (.agg #[.int .i64 0, .int .i64 0]), 2, 16) := by kernel_rfl
def cellsF (x : F2) : List Value := [.int .i64 x.1, .int .i64 x.2]
theorem flatL_one (l : List F2) : ∀ u ∈ flatL l, u.oneCell' = true := by
  intro u hu
  obtain ⟨t, -, h⟩ := List.mem_flatMap.1 hu
  simp at h
  rcases h with rfl | rfl <;> rfl
theorem flatL_app (l m : List F2) : flatL (l ++ m) = flatL l ++ flatL m := by unfold flatL; rw [List.flatMap_append]
theorem flatL_get (l : List F2) (j f : Nat) (hf : f < 2) : (flatL l)[j * 2 + f]? = (l[j]?).bind fun t => (cellsF t)[f]? := by
  cases hx : l[j]? with
  | some x =>
    have h := flatL_at l j x hx
    have h2 : f = 0 ∨ f = 1 := by omega
    rcases h2 with rfl | rfl
    · rw [Nat.add_zero, h.1]; rfl
    · rw [h.2]; rfl
  | none =>
    have hl := List.getElem?_eq_none_iff.1 hx
    rw [List.getElem?_eq_none (by rw [flatL_len]; omega)]
    rfl
/-- Fractions from a place of a block on. -/
def FCells (W : World) (g off : Nat) (l : List F2) : Prop := ∀ (j : Nat) x, l[j]? = some x → W.cell? ⟨g, off + j * 2, none⟩ = some (.int .i64 x.1) ∧ W.cell? ⟨g, off + j * 2 + 1, none⟩ = some (.int .i64 x.2)
/-- A list of fractions at a slice value. -/
def FsAt (W : World) (sv : Value) (l : List F2) : Prop :=
  (sv = .slice none 0 0 ∧ l = []) ∨ ∃ g off c, sv = .slice (some ⟨g, off, none⟩) l.length c ∧ l.length ≤ c ∧ g < W.heap.size ∧ FCells W g off l
section
variable {A B W : World} {sv : Value} {l : List F2}
theorem FCells.below {g off : Nat} (h : FCells A g off l) (hg : g < A.heap.size) (hB : Below A.heap.size A B) : FCells B g off l := fun j x hj =>
  ⟨(hB.cell (p := ⟨g, off + j * 2, none⟩) hg).trans (h j x hj).1, (hB.cell (p := ⟨g, off + j * 2 + 1, none⟩) hg).trans (h j x hj).2⟩
theorem FsAt.below (h : FsAt A sv l) (hB : Below A.heap.size A B) : FsAt B sv l := by
  rcases h with h | ⟨g, off, c, e, hl, hg, hc⟩
  · exact .inl h
  · exact .inr ⟨g, off, c, e, hl, Nat.lt_of_lt_of_le hg hB.size, hc.below hg hB⟩
theorem FsAt.slice (h : FsAt W sv l) : ∃ a c, sv = .slice a l.length c := by
  rcases h with ⟨rfl, rfl⟩ | ⟨g, off, c, e, hl, hg, hc⟩
  · exact ⟨none, 0, rfl⟩
  · exact ⟨_, c, e⟩
theorem FsAt.get {a : Option Addr} {n c : Nat} (h : FsAt W (.slice a n c) l) {j : Nat} {x : F2} (hj : l[j]? = some x) :
    ∃ g off, a = some ⟨g, off, none⟩ ∧ g < W.heap.size ∧ W.cell? ⟨g, off + j * 2, none⟩ = some (.int .i64 x.1) ∧ W.cell? ⟨g, off + j * 2 + 1, none⟩ = some (.int .i64 x.2) := by
  rcases h with ⟨-, rfl⟩ | ⟨g, off, c', e, hl, hg, hc⟩
  · simp at hj
  · simp only [Value.slice.injEq] at e
    obtain ⟨rfl, -, -⟩ := e
    exact ⟨g, off, rfl, hg, (hc j x hj).1, (hc j x hj).2⟩
theorem FCells.zero {g : Nat} (h : FCells W g 0 l) {j : Nat} {x : F2} (hj : l[j]? = some x) : W.cell? ⟨g, j * 2, none⟩ = some (.int .i64 x.1) ∧ W.cell? ⟨g, j * 2 + 1, none⟩ = some (.int .i64 x.2) := by
  have := h j x hj
  rw [Nat.zero_add] at this
  exact this
theorem FCells.flat {g off : Nat} (h : FCells W g off l) : ∀ j u, (flatL l)[j]? = some u → W.cell? ⟨g, off + j, none⟩ = some u := by
  intro j u hu
  have hj : j < l.length * 2 := by have := (List.getElem?_eq_some_iff.1 hu).1; rw [flatL_len] at this; omega
  have hq : j / 2 < l.length := by omega
  have e := flatL_get l (j / 2) (j % 2) (by omega)
  rw [show j / 2 * 2 + j % 2 = j by omega, hu, List.getElem?_eq_getElem hq] at e
  have h1 := h (j / 2) _ (List.getElem?_eq_getElem hq)
  have h2 : j % 2 = 0 ∨ j % 2 = 1 := by omega
  rcases h2 with h2 | h2
  · rw [h2] at e
    simp [cellsF] at e
    rw [e, ← h1.1]
    congr 2
    omega
  · rw [h2] at e
    simp [cellsF] at e
    rw [e, ← h1.2]
    congr 2
    omega
theorem FCells.drop {g : Nat} (h : FCells W g 0 l) (k : Nat) : ∀ i u, (flatL (l.drop k))[i]? = some u → W.cell? ((⟨g, k * 2, none⟩ : Addr).add i) = some u := by
  intro i u hu
  have hL : FCells W g (k * 2) (l.drop k) := fun p x hp => by
    rw [List.getElem?_drop] at hp
    have := h (k + p) x hp
    rw [show 0 + (k + p) * 2 = k * 2 + p * 2 by omega] at this
    exact this
  have := hL.flat i u hu
  unfold Addr.add
  split
  · rename_i h0; subst h0; simpa using this
  · exact this
theorem FCells.drop0 {g : Nat} (h : FCells W g 0 l) : ∀ i u, (flatL (l.drop 0))[i]? = some u → W.cell? ((⟨g, 0, none⟩ : Addr).add i) = some u := by
  have := h.drop 0
  rwa [Nat.zero_mul] at this
theorem FCells.take {g : Nat} (h : FCells W g 0 l) (k : Nat) : ∀ i u, (flatL (l.take k))[i]? = some u → W.cell? ((⟨g, 0, none⟩ : Addr).add i) = some u := by
  intro i u hu
  have hL : FCells W g 0 (l.take k) := fun p x hp => by
    rw [List.getElem?_take] at hp
    split at hp
    · exact h p x hp
    · cases hp
  have := hL.flat i u hu
  unfold Addr.add
  split
  · rename_i h0; subst h0; simpa using this
  · simpa using this
end
theorem FsAt.of_owns {W : World} {base : Nat} {sv : Value} {l : List F2} (h : W.ownsRow base 23 2 sv l.length (flatL l)) : (sv = .slice none 0 0 ∧ l = []) ∨ ∃ g c, sv = .slice (some ⟨g, 0, none⟩) l.length c ∧ l.length ≤ c ∧ base ≤ g ∧ g < W.heap.size ∧ FCells W g 0 l := by
  have h0 := h
  rcases h.2 with ⟨rfl, hl⟩ | ⟨g, cap, cur, rfl, hb, hg, hn, hm, hs, ht⟩
  · exact .inl ⟨rfl, List.eq_nil_of_length_eq_zero hl⟩
  · refine .inr ⟨g, cap, rfl, hn, hb, (Array.getElem?_eq_some_iff.1 hg).1, fun j x hj => ?_⟩
    have hjl : j < l.length := (List.getElem?_eq_some_iff.1 hj).1
    have e := flatL_at l j x hj
    have c0 := h0.cellAt (j * 2) (by omega)
    have c1 := h0.cellAt (j * 2 + 1) (by omega)
    rw [e.1] at c0
    rw [e.2] at c1
    rw [Nat.zero_add]
    exact ⟨c0, c1⟩
theorem owns_weakF {W : World} {a b e size n : Nat} {v : Value} {xs : List Value} (h : W.ownsRow a e size v n xs) (hb : b ≤ a) : W.ownsRow b e size v n xs := by
  refine ⟨h.1, ?_⟩
  rcases h.2 with h2 | ⟨g, cap, cur, e1, hg, rest⟩
  · exact .inl h2
  · exact .inr ⟨g, cap, cur, e1, Nat.le_trans hb hg, rest⟩

def putAt (m : List F2) (k : Nat) (x : F2) : List F2 := m.take k ++ x :: m.drop k
theorem putAt_len {m : List F2} {k : Nat} {x : F2} (hk : k ≤ m.length) : (putAt m k x).length = m.length + 1 := by
  unfold putAt
  rw [List.length_append, List.length_cons, List.length_take, List.length_drop]
  omega
theorem putAt_perm (m : List F2) (k : Nat) (x : F2) : (putAt m k x).Perm (m ++ [x]) := by
  unfold putAt
  refine List.perm_middle.trans ?_
  rw [List.take_append_drop]
  exact (List.perm_append_singleton x m).symm
theorem putAt_get {m : List F2} {k : Nat} {x : F2} (hk : k ≤ m.length) (p : Nat) : (putAt m k x)[p]? = if p < k then m[p]? else if p = k then some x else m[p - 1]? := by
  unfold putAt
  have hl : (m.take k).length = k := by rw [List.length_take]; omega
  by_cases h1 : p < k
  · rw [if_pos h1, List.getElem?_append_left (by omega), List.getElem?_take, if_pos h1]
  · rw [if_neg h1, List.getElem?_append_right (by omega), hl]
    by_cases h2 : p = k
    · subst h2; rw [if_pos rfl, Nat.sub_self]; rfl
    · rw [if_neg h2]
      obtain ⟨q, hq⟩ : ∃ q, p - k = q + 1 := ⟨p - k - 1, by omega⟩
      rw [hq, List.getElem?_cons_succ, List.getElem?_drop]
      congr 1
      omega
theorem putAt_srt {m : List F2} {k : Nat} {x : F2} (hs : Srt m m.length) (hv : VL m) (hx : vP x.1 x.2) (hk : k ≤ m.length)
    (hlow : ∀ y, 0 < k → m[k - 1]? = some y → ¬ cmpR x.1 x.2 y.1 y.2 < 0) (hup : ∀ j y, k ≤ j → m[j]? = some y → cmpR x.1 x.2 y.1 y.2 < 0) : Srt (putAt m k x) (putAt m k x).length := by
  have low : ∀ j y, j < k → m[j]? = some y → leF y x := by
    intro j y hj hy
    obtain ⟨z, hz⟩ : ∃ z, m[k - 1]? = some z := ⟨_, List.getElem?_eq_getElem (by omega)⟩
    have h1 : leF z x := by
      have h0 := hlow z (by omega) hz
      unfold leF
      rw [cmp_anti]
      omega
    by_cases e : j = k - 1
    · subst e; rw [hy] at hz; cases hz; exact h1
    · exact leF_trans (hv.get hy) (hv.get hz) hx (hs j (k - 1) y z (by omega) (by omega) hy hz) h1
  intro p q u v hpq hq hu hv'
  rw [putAt_len hk] at hq
  rw [putAt_get hk] at hu hv'
  by_cases q1 : q < k
  · rw [if_pos q1] at hv'
    rw [if_pos (by omega)] at hu
    exact hs p q u v hpq (by omega) hu hv'
  · rw [if_neg q1] at hv'
    by_cases q2 : q = k
    · rw [if_pos q2] at hv'
      cases hv'
      rw [if_pos (by omega)] at hu
      exact low p u (by omega) hu
    · rw [if_neg q2] at hv'
      by_cases p1 : p < k
      · rw [if_pos p1] at hu
        exact hs p (q - 1) u v (by omega) (by omega) hu hv'
      · rw [if_neg p1] at hu
        by_cases p2 : p = k
        · rw [if_pos p2] at hu
          cases hu
          have := hup (q - 1) v (by omega) hv'
          unfold leF
          omega
        · rw [if_neg p2] at hu
          exact hs (p - 1) (q - 1) u v (by omega) (by omega) hu hv'
end Go.Proofs.Yteppamchbgnlfaa
