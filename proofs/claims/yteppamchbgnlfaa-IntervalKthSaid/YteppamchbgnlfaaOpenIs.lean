/- How a list of intervals that came in is opened. Conditions: none. -/
import Derived.Deep.Slices
import Derived.Test.YteppamchbgnlfaaOpenI
import Derived.Test.YteppamchbgnlfaaIs
namespace Go.Proofs.Yteppamchbgnlfaa
open Go.ChangeShapes Go.WideShapes Go.ChangeAt Go.RowKit

/-- A slice of intervals that came in. -/
def IvsIn (W : World) (a : Option Addr) (cap : Nat) (L : List I4) : Prop :=
  L.length ≤ cap ∧ cap ≤ 9223372036854775807 ∧ (a = none → cap = 0) ∧ ∀ (j : Nat) x, L[j]? = some x → ∃ g off, a = some ⟨g, off, none⟩ ∧ g < W.heap.size ∧ W.cell? ⟨g, off + j * 4, none⟩ = some (.int .i64 x.1) ∧ W.cell? ⟨g, off + j * 4 + 1, none⟩ = some (.int .i64 x.2.1) ∧ W.cell? ⟨g, off + j * 4 + 2, none⟩ = some (.int .i64 x.2.2.1) ∧ W.cell? ⟨g, off + j * 4 + 3, none⟩ = some (.int .i64 x.2.2.2)
theorem IvsIn.cells {W : World} {ad : Addr} {cap : Nat} {L : List I4} (h : IvsIn W (some ad) cap L) (hn : L ≠ []) : ∃ g off, ad = ⟨g, off, none⟩ ∧ g < W.heap.size ∧ ICells W g off L := by
  obtain ⟨x, l, rfl⟩ := List.exists_cons_of_ne_nil hn
  obtain ⟨g, off, e, hg, -⟩ := h.2.2.2 0 x rfl
  cases e
  refine ⟨g, off, rfl, hg, fun j y hj => ?_⟩
  obtain ⟨g', off', e', -, hc⟩ := h.2.2.2 j y hj
  cases e'
  exact hc
section
variable {H : Type} {enc : TypeId × Value → H}
set_option maxRecDepth 100000 in
theorem open_ivs5 {W : World} {base : Nat} {v : Value} {d : DataW H} {ps : List MemPlace}
    (hval : Value.okWide Try.prog W .any base 33 v) (h : DataW.Trod enc Try.prog W 0 (fun _ => true) true 33 v d ps) :
    ∃ (L : List I4) (a : Option Addr) (cap : Nat), v = .slice a L.length cap ∧ IvsIn W a cap L ∧ ∀ x ∈ L, ((-9223372036854775808 ≤ x.1 ∧ x.1 ≤ 9223372036854775807) ∧ (-9223372036854775808 ≤ x.2.1 ∧ x.2.1 ≤ 9223372036854775807)) ∧ (-9223372036854775808 ≤ x.2.2.1 ∧ x.2.2.1 ≤ 9223372036854775807) ∧ (-9223372036854775808 ≤ x.2.2.2 ∧ x.2.2.2 ≤ 9223372036854775807) := by
  obtain ⟨a0, len, cap, rfl⟩ := okWide_slice Try.underlying33 hval
  obtain ⟨fuel, hf⟩ := h
  rcases Go.Deep.open_slice Try.underlying33 hf with ⟨hcs, hx⟩ | ⟨a, len', cap', m, n, D, Pl, hcs, _, hl, hm, hmm, hx, hel⟩
  · simp [Value.cells] at hcs
    obtain ⟨rfl, rfl, rfl⟩ := hcs
    exact ⟨[], none, 0, rfl, ⟨Nat.le_refl _, Nat.zero_le _, fun _ => rfl, fun j x hj => by simp at hj⟩, fun x hx => by simp at hx⟩
  · simp [Value.cells] at hcs
    obtain ⟨rfl, rfl, rfl⟩ := hcs
    have hlm : len ≤ m := by rw [hmm]; split <;> omega
    have each : ∀ i, i < len → ∃ x : I4, (((-9223372036854775808 ≤ x.1 ∧ x.1 ≤ 9223372036854775807) ∧ (-9223372036854775808 ≤ x.2.1 ∧ x.2.1 ≤ 9223372036854775807)) ∧ (-9223372036854775808 ≤ x.2.2.1 ∧ x.2.2.1 ≤ 9223372036854775807) ∧ (-9223372036854775808 ≤ x.2.2.2 ∧ x.2.2.2 ≤ 9223372036854775807)) ∧
        W.cell? (a.add (i * 4)) = some (.int .i64 x.1) ∧ W.cell? (a.add (i * 4 + 1)) = some (.int .i64 x.2.1) ∧ W.cell? (a.add (i * 4 + 2)) = some (.int .i64 x.2.2.1) ∧ W.cell? (a.add (i * 4 + 3)) = some (.int .i64 x.2.2.2) := by
      intro i hi
      obtain ⟨cs', h1, h2⟩ := hel i (by omega)
      rw [Try.cellsIv] at h1
      obtain ⟨_, hlen, hcell⟩ := World.cells?_some h1
      obtain ⟨y0, y1, k, -, hl', h0, h3⟩ := trod_struct2 Try.underlying25 h2
      obtain ⟨p, q, e0, hp, hq⟩ := frac_cells h0
      obtain ⟨r, s, e1, hr, hs⟩ := frac_cells h3
      have c0 := hcell 0 (by omega)
      have c1 := hcell 1 (by omega)
      have c2 := hcell 2 (by omega)
      have c3 := hcell 3 (by omega)
      rw [Go.Deep.add_add] at c0 c1 c2 c3
      match cs', hlen with
      | [v0, v1, v2, v3], _ =>
        simp only [Try.cellsFrac] at e0 e1
        simp at e0 e1
        obtain ⟨rfl, rfl⟩ := e0
        obtain ⟨rfl, rfl⟩ := e1
        exact ⟨(p, q, r, s), ⟨⟨hp, hq⟩, hr, hs⟩, by simpa using c0, by simpa using c1, by simpa using c2, by simpa using c3⟩
    obtain ⟨F, hF⟩ := Go.Deep.choose_lt each
    have hll : ((List.range len).map F).length = len := by simp
    have hmx : maxLen = 9223372036854775807 := rfl
    refine ⟨(List.range len).map F, some a, cap, by rw [hll], ⟨by rw [hll]; exact hl, by omega, (fun e => by cases e), fun j x hj => ?_⟩, fun x hx => ?_⟩
    · have hjl : j < len := by have := (List.getElem?_eq_some_iff.1 hj).1; omega
      rw [List.getElem?_map, List.getElem?_range hjl] at hj
      have hjj : F j = x := by simpa using hj
      obtain ⟨-, c0, c1, c2, c3⟩ := hF j hjl
      rw [hjj] at c0 c1 c2 c3
      obtain ⟨b, off, spot⟩ := a
      have hspot : spot = none := by simpa [Addr.add] using World.cell?_spot (hF 0 (by omega)).2.1
      subst hspot
      rw [add_plain] at c0 c1 c2 c3
      exact ⟨b, off, rfl, World.block_lt_of_cell? W _ c0, c0, by rw [Nat.add_assoc]; exact c1, by rw [Nat.add_assoc]; exact c2, by rw [Nat.add_assoc]; exact c3⟩
    · obtain ⟨j, hj, rfl⟩ := List.mem_map.1 hx
      exact (hF j (List.mem_range.1 hj)).1
end
end Go.Proofs.Yteppamchbgnlfaa
