/- Lists of labels in memory. Conditions: none. -/
import Derived.Maps.AppendAt
import Derived.OwnWalk
import Derived.Test.YtpmndopcemdniaaDoorLVM
namespace Go.Proofs.YtpmndopcemdniaaDoor
open Go.RowKit

theorem Tryd.infoLabel : (Tryd.prog.info? 43).map (fun i => (i.zero, i.size, i.bytes)) = some (some (.agg #[.string ⟨#[]⟩, .string ⟨#[]⟩]), 2, 32) := by kernel_rfl
theorem Tryd.infoStr : (Tryd.prog.info? 9).map (fun i => (i.zero, i.size, i.bytes)) = some (some (.string ⟨#[]⟩), 1, 16) := by kernel_rfl

/-- A label: its name and its value. -/
abbrev L2 := ByteArray × ByteArray
/-- The value of the first label with a name. -/
def getL : List L2 → ByteArray → ByteArray
  | [], _ => ⟨#[]⟩
  | t :: r, nm => if t.1 = nm then t.2 else getL r nm
theorem getL_hit {it : List L2} {k : Nat} {n v nm : ByteArray} (h : it[k]? = some (n, v)) (e : n = nm) : getL (it.drop k) nm = v := by
  obtain ⟨hk, h⟩ := List.getElem?_eq_some_iff.1 h
  rw [List.drop_eq_getElem_cons hk, h]
  simp [getL, e]
theorem getL_miss {it : List L2} {k : Nat} {n v nm : ByteArray} (h : it[k]? = some (n, v)) (e : n ≠ nm) : getL (it.drop k) nm = getL (it.drop (k + 1)) nm := by
  obtain ⟨hk, h⟩ := List.getElem?_eq_some_iff.1 h
  rw [List.drop_eq_getElem_cons hk, h]
  simp [getL, e]
theorem toList_inj {a b : ByteArray} (h : a.toList = b.toList) : a = b := by
  rw [ByteArray.toList_eq, ByteArray.toList_eq] at h
  exact ByteArray.ext (Array.toList_inj.1 h)
theorem str_yes {a b : ByteArray} (h : a = b) : (a.toList == b.toList) = true := by rw [h]; simp
theorem str_no {a b : ByteArray} (h : a ≠ b) : (a.toList == b.toList) = false := by
  simp only [beq_eq_false_iff_ne, ne_eq]
  exact fun e => h (toList_inj e)
theorem label_at {it : List L2} {k : Nat} (h : k < it.length) : ∃ n v, it[k]? = some (n, v) := ⟨it[k].1, it[k].2, List.getElem?_eq_getElem h⟩
def cells2 (t : L2) : List Value := [.string t.1, .string t.2]
theorem cells2_flat : ∀ (it : List L2) (j f : Nat), f < 2 → (it.flatMap cells2)[j * 2 + f]? = (it[j]?).bind fun t => (cells2 t)[f]?
  | [], j, f, _ => by simp
  | t :: it, 0, f, hf => by
    rw [List.flatMap_cons, Nat.zero_mul, Nat.zero_add, List.getElem?_append_left (by simpa [cells2] using hf)]
    rfl
  | t :: it, j + 1, f, hf => by
    rw [List.flatMap_cons, List.getElem?_append_right (by simp [cells2]; omega)]
    have e : (j + 1) * 2 + f - (cells2 t).length = j * 2 + f := by simp [cells2]; omega
    rw [e, cells2_flat it j f hf]
    simp
theorem cells2_length (it : List L2) : (it.flatMap cells2).length = it.length * 2 := by
  induction it with
  | nil => rfl
  | cons t it ih => rw [List.flatMap_cons, List.length_append, ih]; simp [cells2]; omega
theorem cells2_one (it : List L2) : ∀ u ∈ it.flatMap cells2, u.oneCell' = true := by
  intro u hu
  obtain ⟨t, -, h⟩ := List.mem_flatMap.1 hu
  simp [cells2] at h
  rcases h with rfl | rfl <;> rfl

/-- The cells of a list of labels from a place on. -/
def LCells (W : World) (g off : Nat) (it : List L2) : Prop := ∀ (j : Nat) n v, it[j]? = some (n, v) → W.cell? ⟨g, off + j * 2, none⟩ = some (.string n) ∧ W.cell? ⟨g, off + j * 2 + 1, none⟩ = some (.string v)
/-- A list of labels at a slice value. -/
def LsAt (W : World) (sv : Value) (it : List L2) : Prop :=
  (sv = .slice none 0 0 ∧ it = []) ∨ ∃ g off c, sv = .slice (some ⟨g, off, none⟩) it.length c ∧ it.length ≤ c ∧ g < W.heap.size ∧ LCells W g off it
section
variable {A B W : World} {sv : Value} {it : List L2}
theorem LCells.below {g off : Nat} (h : LCells A g off it) (hg : g < A.heap.size) (hB : Below A.heap.size A B) : LCells B g off it := fun j n v hj =>
  ⟨(hB.cell (p := ⟨g, off + j * 2, none⟩) hg).trans (h j n v hj).1, (hB.cell (p := ⟨g, off + j * 2 + 1, none⟩) hg).trans (h j n v hj).2⟩
theorem LsAt.below (h : LsAt A sv it) (hB : Below A.heap.size A B) : LsAt B sv it := by
  rcases h with h | ⟨g, off, c, e, hl, hg, hc⟩
  · exact .inl h
  · exact .inr ⟨g, off, c, e, hl, Nat.lt_of_lt_of_le hg hB.size, hc.below hg hB⟩
theorem LsAt.slice (h : LsAt W sv it) : ∃ a c, sv = .slice a it.length c ∧ it.length ≤ c := by
  rcases h with ⟨rfl, rfl⟩ | ⟨g, off, c, e, hl, hg, hc⟩
  · exact ⟨none, 0, rfl, Nat.le_refl _⟩
  · exact ⟨_, c, e, hl⟩
theorem LsAt.nil : LsAt W (.slice none 0 0) [] := .inl ⟨rfl, rfl⟩
theorem LsAt.get {a : Option Addr} {l c : Nat} (h : LsAt W (.slice a l c) it) {j : Nat} {n v : ByteArray} (hj : it[j]? = some (n, v)) :
    ∃ g off, a = some ⟨g, off, none⟩ ∧ g < W.heap.size ∧ W.cell? ⟨g, off + j * 2, none⟩ = some (.string n) ∧ W.cell? ⟨g, off + j * 2 + 1, none⟩ = some (.string v) := by
  rcases h with ⟨-, rfl⟩ | ⟨g, off, c', e, hl, hg, hc⟩
  · simp at hj
  · simp only [Value.slice.injEq] at e
    obtain ⟨rfl, -, rfl⟩ := e
    exact ⟨g, off, rfl, hg, hc j n v hj⟩
theorem LsAt.all {a : Option Addr} {l c : Nat} (h : LsAt W (.slice a l c) it) (hn : it ≠ []) : ∃ g off, a = some ⟨g, off, none⟩ ∧ it.length ≤ c ∧ g < W.heap.size ∧ LCells W g off it := by
  rcases h with ⟨-, rfl⟩ | ⟨g, off, c', e, hl, hg, hc⟩
  · exact absurd rfl hn
  · simp only [Value.slice.injEq] at e
    obtain ⟨rfl, -, rfl⟩ := e
    exact ⟨g, off, rfl, hl, hg, hc⟩
theorem LCells.enc {g off : Nat} (h : LCells W g off it) : ∀ j, j < it.length → ∀ i u, (cells2 it[j]!)[i]? = some u → W.cell? ⟨g, off + j * 2 + i, none⟩ = some u := by
  intro j hj i u hu
  have e : it[j]! = it[j] := getElem!_pos it j hj
  rw [e] at hu
  obtain ⟨h0, h1⟩ := h j it[j].1 it[j].2 (List.getElem?_eq_getElem hj)
  match i, hu with
  | 0, hu => simp [cells2] at hu; rw [← hu]; exact h0
  | 1, hu => simp [cells2] at hu; rw [← hu]; exact h1
  | i + 2, hu => simp [cells2] at hu
theorem LsAt.of_owns {base : Nat} (h : W.ownsRow base 43 2 sv it.length (it.flatMap cells2)) : LsAt W sv it := by
  have h0 := h
  rcases h.2 with ⟨rfl, hl⟩ | ⟨g, cap, cur, rfl, hb, hg, hn, hm, hs, ht⟩
  · have hy : it = [] := List.eq_nil_of_length_eq_zero hl
    subst hy
    exact .nil
  · refine .inr ⟨g, 0, cap, rfl, hn, (Array.getElem?_eq_some_iff.1 hg).1, fun j n v hj => ?_⟩
    have hj' : j < it.length := (List.getElem?_eq_some_iff.1 hj).1
    have e0 := h0.cellAt (j * 2) (by omega)
    have e1 := h0.cellAt (j * 2 + 1) (by omega)
    rw [show j * 2 = j * 2 + 0 by omega, cells2_flat it j 0 (by omega), hj] at e0
    rw [cells2_flat it j 1 (by omega), hj] at e1
    simp only [Nat.zero_add]
    exact ⟨by simpa [cells2] using e0, by simpa [cells2] using e1⟩
end
end Go.Proofs.YtpmndopcemdniaaDoor
