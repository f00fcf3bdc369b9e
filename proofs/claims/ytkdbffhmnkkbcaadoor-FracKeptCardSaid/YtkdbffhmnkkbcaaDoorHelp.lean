/- Contracts of the reference model's helpers: Around, Short, Ints, Few, SameInts, SameBytes. Conditions: as each states. -/
import Derived.BigQuiet
import Derived.Deep.QuietTactic
import Derived.OwnWalk
import Derived.Test.YtkdbffhmnkkbcaaDoorBase
namespace Go.Proofs.YtkdbffhmnkkbcaaDoor.W
open Go.RowKit

/-- An index within a length. -/
def aroundI (n most : Int) : Int := (if n < 0 then -(n + 1) else n) % most
theorem aroundI_lo (n most : Int) (h : 1 ≤ most) : 0 ≤ aroundI n most := Int.emod_nonneg _ (by omega)
theorem aroundI_hi (n most : Int) (h : 1 ≤ most) : aroundI n most < most := Int.emod_lt_of_pos _ (by omega)

theorem ret_i64 {a b : Int} (h : a = b) : Ending.returned (.int .i64 a) = .returned (.int .i64 b) := by rw [h]

set_option maxHeartbeats 400000 in
theorem around_any (n most : Int) (w : World) (h1 : -9223372036854775808 ≤ n) (h2 : n ≤ 9223372036854775807) (h3 : 1 ≤ most) (h4 : most ≤ 9223372036854775807) :
    Calls Tryd.prog 18 #[.int .i64 n, .int .i64 most] w fun e w' => e = .returned (.int .i64 (aroundI n most)) ∧ w = w' := by
  by_cases hn : n < 0
  · have ha : aroundI n most = (-(n + 1)) % most := by unfold aroundI; rw [if_pos hn]
    have Ha := Lib.hid ha
    clear ha
    go_enter Tryd.func18, Tryd.ntmps18
    go_wp2
    go_ret
    exact ⟨ret_i64 (by rw [Ha.out, ← Int.neg_tmod, Int.tmod_eq_emod_of_nonneg (by omega)]), rfl⟩
  · have ha : aroundI n most = n % most := by unfold aroundI; rw [if_neg hn]
    have Ha := Lib.hid ha
    clear ha
    go_enter Tryd.func18, Tryd.ntmps18
    go_wp2
    go_ret
    exact ⟨ret_i64 Ha.out.symm, rfl⟩

/-- A call has made a row of its own of these integers; nothing that lay has turned. -/
def MadeRow (k : IntKind) (e : TypeId) (w : World) (zs : List Int) (en : Ending) (w' : World) : Prop :=
  ∃ v, en = .returned v ∧ w'.ownsRow w.heap.size e 1 v zs.length (zs.map (Value.int k)) ∧ Below w.heap.size w w'
theorem src_cells {k : IntKind} {w : World} {b off : Nat} {zs : List Int} (n : Nat) (hc : ∀ j, j < zs.length → w.cell? ⟨b, off + j, none⟩ = some (.int k (zs[j]?.getD 0))) :
    ∀ j u, ((zs.take n).map (Value.int k))[j]? = some u → w.cell? ((⟨b, off, none⟩ : Addr).add j) = some u := by
  intro j u hu
  have hj := (List.getElem?_eq_some_iff.1 hu).1
  simp only [List.length_map, List.length_take] at hj
  have h := hc j (by omega)
  have e : ((⟨b, off, none⟩ : Addr).add j) = ⟨b, off + j, none⟩ := by simp [Addr.add]
  rw [e, h, ← hu, List.getElem?_map, List.getElem?_take, if_pos (by omega), List.getElem?_eq_getElem (by omega)]
  rfl
theorem one_cells (k : IntKind) (zs : List Int) : ∀ u ∈ zs.map (Value.int k), u.oneCell' = true := by
  intro u hu
  obtain ⟨z, _, rfl⟩ := List.mem_map.1 hu
  rfl
theorem owns_take {W : World} {B : Nat} {e : TypeId} {v : Value} {n l : Nat} {zs : List Int} {k : IntKind} (h : W.ownsRow B e 1 v (0 + n) ([] ++ (zs.take l).map (Value.int k))) (hn : n = (zs.take l).length) :
    W.ownsRow B e 1 v (zs.take l).length ((zs.take l).map (Value.int k)) := by
  rw [Nat.zero_add, List.nil_append, hn] at h
  exact h

/-- The integers zs came in at a slice value: an empty one may lie anywhere. -/
def InAt (k : IntKind) (n₀ : Nat) (W : World) (sv : Value) (zs : List Int) : Prop := RowAt k n₀ W sv zs ∨ ∃ a cap, sv = .slice (some a) 0 cap ∧ zs = []
theorem InAt.below {k : IntKind} {n₀ : Nat} {A B : World} (h : Below n₀ A B) {sv : Value} {zs : List Int} : InAt k n₀ A sv zs → InAt k n₀ B sv zs
  | .inl e => .inl (e.below h)
  | .inr e => .inr e
end Go.Proofs.YtkdbffhmnkkbcaaDoor.W
