/- Rows that a law's helpers have made: how they read, are written and appended to. Conditions: as each states. -/
import Derived.Test.YtkdbffhmnkkbcaaDoorOpen
namespace Go.Proofs.YtkdbffhmnkkbcaaDoor.W
open Go.RowKit

/-- A byte as the machine holds it. -/
def ofByte (b : UInt8) : Int := (b.toNat : Int)
theorem bytes_of (zs : List Int) (h : ∀ z ∈ zs, (Lit.int .u8 z).wf = true) : ∃ bs : List UInt8, zs = bs.map ofByte := by
  induction zs with
  | nil => exact ⟨[], rfl⟩
  | cons z r ih =>
    obtain ⟨bs, rfl⟩ := ih (fun y hy => h y (by simp [hy]))
    have hz := h z (by simp)
    have h1 : IntKind.u8.min = 0 := rfl
    have h2 : IntKind.u8.max = 255 := rfl
    simp only [Lit.wf, Bool.and_eq_true, decide_eq_true_eq] at hz
    refine ⟨UInt8.ofNat z.toNat :: bs, ?_⟩
    rw [List.map_cons]
    congr 1
    unfold ofByte
    rw [UInt8.toNat_ofNat_of_lt' (by simp [UInt8.size]; omega)]
    omega
theorem bytesAt_of_row {n₀ : Nat} {W : World} {sv : Value} {bs : List UInt8} (h : RowAt .u8 n₀ W sv (bs.map ofByte)) : BytesAt n₀ W sv bs := by
  rcases h with ⟨e, h0⟩ | ⟨b, off, cap, e, hl, hb, hc⟩
  · exact .inl ⟨e, by simpa using h0⟩
  · rw [List.length_map] at e hl hc
    refine .inr ⟨b, off, cap, e, hl, hb, fun j hj => ?_⟩
    rw [hc j hj, List.getElem?_map, List.getElem?_eq_getElem hj]
    rfl

/-- A row of integers of kind k that lies in a block from base on. -/
def Row (k : IntKind) (e : TypeId) (base : Nat) (W : World) (v : Value) (zs : List Int) : Prop := W.ownsRow base e 1 v zs.length (zs.map (Value.int k))
theorem Row.at {k : IntKind} {e base : Nat} {W : World} {v : Value} {zs : List Int} (h : Row k e base W v zs) : RowAt k W.heap.size W v zs := rowAt_of_owns h
theorem Row.slice {k : IntKind} {e base : Nat} {W : World} {v : Value} {zs : List Int} (h : Row k e base W v zs) : ∃ a cap, v = .slice a zs.length cap := h.at.slice
theorem owns_below {e base n : Nat} {W W' : World} {v : Value} {xs : List Value} (h : W.ownsRow base e 1 v n xs) (hB : Below W.heap.size W W') : W'.ownsRow base e 1 v n xs := by
  obtain ⟨h1, h2⟩ := h
  refine ⟨h1, ?_⟩
  rcases h2 with h2 | ⟨g, cap, cur, e1, hb, hg, hn, hm, hs, ht⟩
  · exact .inl h2
  · exact .inr ⟨g, cap, cur, e1, hb, (hB.block g (Array.getElem?_eq_some_iff.1 hg).1).trans hg, hn, hm, hs, ht⟩
/-- It lies on where nothing below a bound beyond it has turned. -/
theorem Row.below {k : IntKind} {e base : Nat} {W W' : World} {v : Value} {zs : List Int} (h : Row k e base W v zs) (hB : Below W.heap.size W W') : Row k e base W' v zs := by
  exact owns_below h hB
theorem MadeRow.row {k : IntKind} {e : TypeId} {w : World} {zs : List Int} {en : Ending} {w' : World} (h : MadeRow k e w zs en w') : ∃ a cap, en = .returned (.slice a zs.length cap) ∧ Row k e w.heap.size w' (.slice a zs.length cap) zs ∧ Below w.heap.size w w' := by
  obtain ⟨v, he, hown, hB⟩ := h
  obtain ⟨a, cap, rfl⟩ := Row.slice hown
  exact ⟨a, cap, he, hown, hB⟩
theorem row_succ {k : IntKind} {e base : Nat} {W : World} {a : Option Addr} {l cap : Nat} {z : Int} {zs : List Int} (h : Row k e base W (.slice a l cap) (zs ++ [z])) : ∃ g, a = some ⟨g, 0, none⟩ := by
  rcases h.2 with ⟨_, h0⟩ | ⟨g, c, _, e1, _⟩
  · simp at h0
  · simp only [Value.slice.injEq] at e1
    exact ⟨g, e1.1⟩
theorem row_some {k : IntKind} {e base : Nat} {W : World} {a : Option Addr} {l cap : Nat} {zs : List Int} (h : Row k e base W (.slice a l cap) zs) (h1 : 1 ≤ zs.length) : ∃ g, a = some ⟨g, 0, none⟩ := by
  rcases h.2 with ⟨_, h0⟩ | ⟨g, c, _, e1, _⟩
  · omega
  · simp only [Value.slice.injEq] at e1
    exact ⟨g, e1.1⟩
/-- Behind an append of one element. -/
theorem row_appended {k : IntKind} {e base : Nat} {w1 : World} {v' : Value} {zs : List Int} {z : Int} (h : w1.ownsRow base e 1 v' (zs.length + 1) (zs.map (Value.int k) ++ [.int k z])) : Row k e base w1 v' (zs ++ [z]) := by
  unfold Row
  rw [List.length_append, List.length_singleton, List.map_append]
  exact h
/-- An element, as the walk reads it. -/
theorem Row.cell {k : IntKind} {e base : Nat} {W : World} {g l cap : Nat} {zs : List Int} (h : Row k e base W (.slice (some ⟨g, 0, none⟩) l cap) zs) (hl : l = zs.length) (j : Nat) (hj : j < zs.length) : W.cell? ⟨g, j, none⟩ = some (.int k (zs[j]'hj)) := by
  subst hl
  have := World.ownsRow.cellAt h j (by omega)
  rw [this, List.getElem?_map, List.getElem?_eq_getElem hj]
  rfl
theorem Row.free {k : IntKind} {e base : Nat} {W : World} {g l cap : Nat} {zs : List Int} (h : Row k e base W (.slice (some ⟨g, 0, none⟩) l cap) zs) (hl : l = zs.length) (j : Nat) : W.frozen? ⟨g, j, none⟩ = false := by
  subst hl
  exact World.ownsRow.frozenAt h j
/-- A store into it. -/
theorem Row.stored {k : IntKind} {e base : Nat} {W : World} {g l cap : Nat} {zs : List Int} (h : Row k e base W (.slice (some ⟨g, 0, none⟩) l cap) zs) (hl : l = zs.length) (j : Nat) (z : Int) :
    Row k e base (W.setCell ⟨g, j, none⟩ (.int k z)) (.slice (some ⟨g, 0, none⟩) l cap) (zs.set j z) := by
  subst hl
  have := (World.ownsRow.stored h j (.int k z)).1
  unfold Row
  rw [List.length_set, List.map_set]
  exact this
theorem Row.lt {k : IntKind} {e base : Nat} {W : World} {g off l cap : Nat} {zs : List Int} (h : Row k e base W (.slice (some ⟨g, off, none⟩) l cap) zs) : base ≤ g ∧ g < W.heap.size := World.ownsRow.lt h g rfl
/-- A store into one row leaves a row in another block. -/
theorem Row.other {k : IntKind} {e base base' : Nat} {W : World} {v : Value} {zs : List Int} {g j : Nat} {u : Value} (h : Row k e base W v zs) (hne : ∀ b, v.ownBlock = some b → b < base') (hg : base' ≤ g) : Row k e base (W.setCell ⟨g, j, none⟩ u) v zs := by
  obtain ⟨h1, h2⟩ := h
  refine ⟨h1, ?_⟩
  rcases h2 with h2 | ⟨b, cap, cur, rfl, hb, hb2, hn, hm, hs, ht⟩
  · exact .inl h2
  · refine .inr ⟨b, cap, cur, rfl, hb, ?_, hn, hm, hs, ht⟩
    have := hne b rfl
    rw [Below.heap_setCell W ⟨g, j, none⟩ u b (by show b ≠ g; omega)]
    exact hb2

end Go.Proofs.YtkdbffhmnkkbcaaDoor.W
