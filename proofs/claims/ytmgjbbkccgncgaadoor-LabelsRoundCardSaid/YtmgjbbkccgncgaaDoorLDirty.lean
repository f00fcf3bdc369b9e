/- The reference's generator of lists of labels, valid ones and others. Conditions: none. -/
import Derived.Test.YtmgjbbkccgncgaaDoorLSet
namespace Go.Proofs.YtmgjbbkccgncgaaDoor
open Go.RowKit

def moreN : List ByteArray := [⟨#[]⟩, ⟨#[65]⟩, ⟨#[49, 97]⟩, ⟨#[97, 45, 98]⟩, ⟨#[97, 98, 99, 100, 101, 102, 103, 104, 105, 106, 107, 108, 109, 110, 111, 112]⟩, ⟨#[97, 98, 99, 100, 101, 102, 103, 104, 105, 106, 107, 108, 109, 110, 111, 112, 113]⟩, ⟨#[99]⟩, ⟨#[100]⟩, ⟨#[101]⟩, ⟨#[95, 97]⟩]
def moreV : List ByteArray := [⟨#[]⟩, ⟨#[32]⟩, ⟨#[97, 44]⟩, ⟨#[97, 98, 99, 100, 101, 102, 103, 104, 105, 106, 107, 108, 109, 110, 111, 112]⟩, ⟨#[97, 98, 99, 100, 101, 102, 103, 104, 105, 106, 107, 108, 109, 110, 111, 112, 113]⟩, ⟨#[127]⟩, ⟨#[123]⟩, ⟨#[92]⟩]
def names16 : List ByteArray := namesL ++ moreN
def vals14 : List ByteArray := valuesL ++ moreV
/-- Strings from the head of a block on. -/
def SCells (W : World) (g : Nat) (l : List ByteArray) : Prop := g < W.heap.size ∧ ∀ (j : Nat) x, l[j]? = some x → W.cell? ⟨g, j, none⟩ = some (.string x)
theorem SCells.below {A B : World} {n g : Nat} {l : List ByteArray} (h : SCells A g l) (hg : g < n) (hB : Below n A B) : SCells B g l := ⟨Nat.lt_of_lt_of_le h.1 hB.size, fun j x hj => (hB.cell (p := ⟨g, j, none⟩) hg).trans (h.2 j x hj)⟩
theorem owns_new (w : World) (l : List ByteArray) (hl : l.length ≤ 1000) : (w.alloc (.cells (rowS l) 9)).ownsRow w.heap.size 9 1 (.slice (some ⟨w.heap.size, 0, none⟩) l.length l.length) l.length (l.map Value.string) := by
  refine ⟨by simp, .inr ⟨w.heap.size, l.length, rowS l, rfl, Nat.le_refl _, heap_alloc_new w _, Nat.le_refl _, by unfold maxLen; omega, by simp [rowS], ?_⟩⟩
  rw [List.take_of_length_le (by simp [rowS])]
  simp [rowS]
theorem scells_of {W : World} {base : Nat} {v : Value} {l : List ByteArray} (h : W.ownsRow base 9 1 v l.length (l.map Value.string)) (hl : l ≠ []) : ∃ g cap, v = .slice (some ⟨g, 0, none⟩) l.length cap ∧ l.length ≤ cap ∧ base ≤ g ∧ SCells W g l := by
  have h0 := h
  rcases h.2 with ⟨-, h1⟩ | ⟨g, cap, cur, rfl, hb, hg, hn, -⟩
  · exact absurd (List.eq_nil_of_length_eq_zero h1) hl
  · refine ⟨g, cap, rfl, hn, hb, (Array.getElem?_eq_some_iff.1 hg).1, fun j x hj => ?_⟩
    have hjl : j < l.length := (List.getElem?_eq_some_iff.1 hj).1
    have h2 := h0.cellAt j (by omega)
    rw [List.getElem?_map, hj] at h2
    exact h2

/-- What Dirty returns. -/
def DirtyOf (it : List L2) : Prop := it.length ≤ 10 ∧ ∀ t ∈ it, t.1 ∈ names16 ∧ t.2 ∈ vals14
def DirtyR (w : World) (e : Ending) (w' : World) : Prop := ∃ v it, e = .returned v ∧ w'.ownsRow w.heap.size 41 2 v it.length (it.flatMap cells2) ∧ DirtyOf it ∧ Below w.heap.size w w'

end Go.Proofs.YtmgjbbkccgncgaaDoor
