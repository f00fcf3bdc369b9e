/- Lists of intervals at a slice value. Conditions: none. -/
import Derived.Laws.AppendOwnNone
import Derived.Maps.AppendAt
import Derived.OwnWalk
import Derived.LoopN
import Derived.Deep.RegionHeld3
import Derived.Deep.AppendLies
import Derived.Test.YteppamchbgnlfaaIv
import Derived.Test.YteppamchbgnlfaaKthM
namespace Go.Proofs.Yteppamchbgnlfaa
open Go.RowKit

theorem Try.infoIv : (Try.prog.info? 25).map (fun i => (i.zero, i.size, i.bytes)) = some (some (.agg #[.int .i64 0, .int .i64 0, .int .i64 0, .int .i64 0]), 4, 32) := by kernel_rfl
def cellsI (x : I4) : List Value := [.int .i64 x.1, .int .i64 x.2.1, .int .i64 x.2.2.1, .int .i64 x.2.2.2]
def flatI (l : List I4) : List Value := l.flatMap cellsI
theorem flatI_len (l : List I4) : (flatI l).length = 4 * l.length := by
  induction l with
  | nil => rfl
  | cons x l ih => unfold flatI at *; rw [List.flatMap_cons, List.length_append, ih]; simp [cellsI]; omega
theorem flatI_one (l : List I4) : ∀ u ∈ flatI l, u.oneCell' = true := by
  intro u hu
  obtain ⟨t, -, h⟩ := List.mem_flatMap.1 hu
  simp [cellsI] at h
  rcases h with rfl | rfl | rfl | rfl <;> rfl
theorem flatI_app (l m : List I4) : flatI (l ++ m) = flatI l ++ flatI m := by unfold flatI; rw [List.flatMap_append]
theorem flatI_get : ∀ (l : List I4) (j f : Nat), f < 4 → (flatI l)[j * 4 + f]? = (l[j]?).bind fun t => (cellsI t)[f]?
  | [], j, f, _ => by simp [flatI]
  | y :: l, 0, f, hf => by
    have e : flatI (y :: l) = cellsI y ++ flatI l := by unfold flatI; rw [List.flatMap_cons]
    rw [e, Nat.zero_mul, Nat.zero_add, List.getElem?_append_left (by simp [cellsI]; omega)]
    rfl
  | y :: l, j + 1, f, hf => by
    have e : flatI (y :: l) = cellsI y ++ flatI l := by unfold flatI; rw [List.flatMap_cons]
    rw [e, List.getElem?_append_right (by simp [cellsI]; omega), show (j + 1) * 4 + f - (cellsI y).length = j * 4 + f by simp [cellsI]; omega, flatI_get l j f hf]
    simp
/-- Intervals from a place of a block on. -/
def ICells (W : World) (g off : Nat) (l : List I4) : Prop := ∀ (j : Nat) x, l[j]? = some x → W.cell? ⟨g, off + j * 4, none⟩ = some (.int .i64 x.1) ∧ W.cell? ⟨g, off + j * 4 + 1, none⟩ = some (.int .i64 x.2.1) ∧ W.cell? ⟨g, off + j * 4 + 2, none⟩ = some (.int .i64 x.2.2.1) ∧ W.cell? ⟨g, off + j * 4 + 3, none⟩ = some (.int .i64 x.2.2.2)
/-- A list of intervals at a slice value. -/
def IsAt (W : World) (sv : Value) (l : List I4) : Prop :=
  (sv = .slice none 0 0 ∧ l = []) ∨ ∃ g off c, sv = .slice (some ⟨g, off, none⟩) l.length c ∧ l.length ≤ c ∧ (l ≠ [] → g < W.heap.size) ∧ ICells W g off l
section
variable {A B W : World} {sv : Value} {l : List I4}
theorem ICells.below {g off : Nat} (h : ICells A g off l) (hg : l ≠ [] → g < A.heap.size) (hB : Below A.heap.size A B) : ICells B g off l := fun j x hj =>
  have hg' : g < A.heap.size := hg (fun e => by rw [e] at hj; simp at hj)
  ⟨(hB.cell (p := ⟨g, off + j * 4, none⟩) hg').trans (h j x hj).1, (hB.cell (p := ⟨g, off + j * 4 + 1, none⟩) hg').trans (h j x hj).2.1, (hB.cell (p := ⟨g, off + j * 4 + 2, none⟩) hg').trans (h j x hj).2.2.1, (hB.cell (p := ⟨g, off + j * 4 + 3, none⟩) hg').trans (h j x hj).2.2.2⟩
theorem IsAt.below (h : IsAt A sv l) (hB : Below A.heap.size A B) : IsAt B sv l := by
  rcases h with h | ⟨g, off, c, e, hl, hg, hc⟩
  · exact .inl h
  · exact .inr ⟨g, off, c, e, hl, fun hn => Nat.lt_of_lt_of_le (hg hn) hB.size, hc.below hg hB⟩
theorem IsAt.slice (h : IsAt W sv l) : ∃ a c, sv = .slice a l.length c := by
  rcases h with ⟨rfl, rfl⟩ | ⟨g, off, c, e, hl, hg, hc⟩
  · exact ⟨none, 0, rfl⟩
  · exact ⟨_, c, e⟩
theorem IsAt.get {a : Option Addr} {n c : Nat} (h : IsAt W (.slice a n c) l) {j : Nat} {x : I4} (hj : l[j]? = some x) :
    ∃ g off, a = some ⟨g, off, none⟩ ∧ g < W.heap.size ∧ W.cell? ⟨g, off + j * 4, none⟩ = some (.int .i64 x.1) ∧ W.cell? ⟨g, off + j * 4 + 1, none⟩ = some (.int .i64 x.2.1) ∧ W.cell? ⟨g, off + j * 4 + 2, none⟩ = some (.int .i64 x.2.2.1) ∧ W.cell? ⟨g, off + j * 4 + 3, none⟩ = some (.int .i64 x.2.2.2) := by
  rcases h with ⟨-, rfl⟩ | ⟨g, off, c', e, hl, hg, hc⟩
  · simp at hj
  · simp only [Value.slice.injEq] at e
    obtain ⟨rfl, -, -⟩ := e
    exact ⟨g, off, rfl, hg (fun e => by rw [e] at hj; simp at hj), hc j x hj⟩
theorem ICells.flat {g off : Nat} (h : ICells W g off l) : ∀ j u, (flatI l)[j]? = some u → W.cell? ⟨g, off + j, none⟩ = some u := by
  intro j u hu
  have hj : j < l.length * 4 := by have := (List.getElem?_eq_some_iff.1 hu).1; rw [flatI_len] at this; omega
  have hq : j / 4 < l.length := by omega
  have e := flatI_get l (j / 4) (j % 4) (by omega)
  rw [show j / 4 * 4 + j % 4 = j by omega, hu, List.getElem?_eq_getElem hq] at e
  obtain ⟨h0, h1, h2, h3⟩ := h (j / 4) _ (List.getElem?_eq_getElem hq)
  have h5 : j % 4 = 0 ∨ j % 4 = 1 ∨ j % 4 = 2 ∨ j % 4 = 3 := by omega
  rcases h5 with h5 | h5 | h5 | h5
  · rw [h5] at e
    simp [cellsI] at e
    rw [e, ← h0]
    congr 2
    omega
  · rw [h5] at e
    simp [cellsI] at e
    rw [e, ← h1]
    congr 2
    omega
  · rw [h5] at e
    simp [cellsI] at e
    rw [e, ← h2]
    congr 2
    omega
  · rw [h5] at e
    simp [cellsI] at e
    rw [e, ← h3]
    congr 2
    omega
/-- The cells of a part, as append asks for them. -/
theorem ICells.part {g off : Nat} (h : ICells W g off l) (k m : Nat) : ∀ i u, (flatI ((l.drop k).take m))[i]? = some u → W.cell? ((⟨g, off + k * 4, none⟩ : Addr).add i) = some u := by
  intro i u hu
  have hL : ICells W g (off + k * 4) ((l.drop k).take m) := fun p x hp => by
    rw [List.getElem?_take] at hp
    split at hp
    · rw [List.getElem?_drop] at hp
      have := h (k + p) x hp
      rw [show off + (k + p) * 4 = off + k * 4 + p * 4 by omega] at this
      exact this
    · cases hp
  have := hL.flat i u hu
  unfold Addr.add
  split
  · rename_i h0; subst h0; simpa using this
  · exact this
end
theorem IsAt.of_owns {W : World} {base : Nat} {sv : Value} {l : List I4} (h : W.ownsRow base 25 4 sv l.length (flatI l)) : (sv = .slice none 0 0 ∧ l = []) ∨ ∃ g c, sv = .slice (some ⟨g, 0, none⟩) l.length c ∧ l.length ≤ c ∧ base ≤ g ∧ g < W.heap.size ∧ ICells W g 0 l := by
  have h0 := h
  rcases h.2 with ⟨rfl, hl⟩ | ⟨g, cap, cur, rfl, hb, hg, hn, hm, hs, ht⟩
  · exact .inl ⟨rfl, List.eq_nil_of_length_eq_zero hl⟩
  · refine .inr ⟨g, cap, rfl, hn, hb, (Array.getElem?_eq_some_iff.1 hg).1, fun j x hj => ?_⟩
    have hjl : j < l.length := (List.getElem?_eq_some_iff.1 hj).1
    have e : ∀ f, f < 4 → (flatI l)[j * 4 + f]? = (cellsI x)[f]? := fun f hf => by rw [flatI_get l j f hf, hj]; rfl
    have c0 := h0.cellAt (j * 4) (by omega)
    have c1 := h0.cellAt (j * 4 + 1) (by omega)
    have c2 := h0.cellAt (j * 4 + 2) (by omega)
    have c3 := h0.cellAt (j * 4 + 3) (by omega)
    rw [show (flatI l)[j * 4]? = (cellsI x)[0]? from e 0 (by omega)] at c0
    rw [e 1 (by omega)] at c1
    rw [e 2 (by omega)] at c2
    rw [e 3 (by omega)] at c3
    rw [Nat.zero_add]
    exact ⟨c0, c1, c2, c3⟩
theorem owns_isAt {W : World} {base : Nat} {sv : Value} {l : List I4} (h : W.ownsRow base 25 4 sv l.length (flatI l)) : IsAt W sv l := by
  rcases IsAt.of_owns h with h | ⟨g, c, e, hl, -, hg, hc⟩
  · exact .inl h
  · exact .inr ⟨g, 0, c, e, hl, fun _ => hg, hc⟩
end Go.Proofs.Yteppamchbgnlfaa
