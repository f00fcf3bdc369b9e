/- Contracts of the reference model's helpers: Around, Short, Ints, Few, SameInts, SameBytes. Conditions: as each states. -/
import Derived.BigQuiet
import Derived.Deep.QuietTactic
import Derived.OwnWalk
import Derived.Test.YtiebefomhnbemaaBase
namespace Go.Proofs.Ytiebefomhnbemaa
open Go.RowKit

/-- An index within a length. -/
def aroundI (n most : Int) : Int := (if n < 0 then -(n + 1) else n) % most
theorem aroundI_lo (n most : Int) (h : 1 ≤ most) : 0 ≤ aroundI n most := Int.emod_nonneg _ (by omega)
theorem aroundI_hi (n most : Int) (h : 1 ≤ most) : aroundI n most < most := Int.emod_lt_of_pos _ (by omega)

theorem ret_i64 {a b : Int} (h : a = b) : Ending.returned (.int .i64 a) = .returned (.int .i64 b) := by rw [h]

set_option maxHeartbeats 400000 in
theorem around_any (n most : Int) (w : World) (h1 : -9223372036854775808 ≤ n) (h2 : n ≤ 9223372036854775807) (h3 : 1 ≤ most) (h4 : most ≤ 9223372036854775807) :
    Calls Try.prog 19 #[.int .i64 n, .int .i64 most] w fun e w' => e = .returned (.int .i64 (aroundI n most)) ∧ w = w' := by
  by_cases hn : n < 0
  · have ha : aroundI n most = (-(n + 1)) % most := by unfold aroundI; rw [if_pos hn]
    have Ha := Lib.hid ha
    clear ha
    go_enter Try.func19, Try.ntmps19
    go_wp2
    go_ret
    exact ⟨ret_i64 (by rw [Ha.out, ← Int.neg_tmod, Int.tmod_eq_emod_of_nonneg (by omega)]), rfl⟩
  · have ha : aroundI n most = n % most := by unfold aroundI; rw [if_neg hn]
    have Ha := Lib.hid ha
    clear ha
    go_enter Try.func19, Try.ntmps19
    go_wp2
    go_ret
    exact ⟨ret_i64 Ha.out.symm, rfl⟩

set_option maxHeartbeats 400000 in
theorem short_any (s : ByteArray) (m : Int) (w : World) (hs : s.size ≤ 140737488351232) (h0 : 0 ≤ m) (h1 : m ≤ 1000000) :
    Calls Try.prog 36 #[.string s, .int .i64 m] w fun e w' => (∃ s' : ByteArray, e = .returned (.string s') ∧ (s'.size : Int) ≤ m) ∧ w = w' := by
  by_cases h : m < (s.size : Int)
  · go_enter Try.func36, Try.ntmps36
    go_wp2
    go_ret
    refine ⟨⟨_, rfl, ?_⟩, rfl⟩
    rw [ByteArray.size_extract]
    omega
  · go_enter Try.func36, Try.ntmps36
    go_wp2
    go_ret
    exact ⟨⟨_, rfl, by omega⟩, rfl⟩

/-- A call has made a row of its own of these integers; nothing that lay has turned. -/
def MadeRow (k : IntKind) (e : TypeId) (w : World) (zs : List Int) (en : Ending) (w' : World) : Prop :=
  ∃ v, en = .returned v ∧ w'.ownsRow w.heap.size e 1 v zs.length (zs.map (Value.int k)) ∧ Below w.heap.size w w'
theorem src_cells {k : IntKind} {w : World} {b off : Nat} {zs : List Int} (n : Nat) (hc : ∀ j, j < zs.length → w.cell? ⟨b, off + j, none⟩ = some (.int k (zs[j]?.getD 0))) :
    ∀ j u, ((zs.take n).map (Value.int k))[j]? = some u → w.cell? ((⟨b, off, none⟩ : Addr).add j) = some u := by
  intro j u hu
  have hj := (List.getElem?_eq_some_iff.1 hu).1
  simp only [List.length_map, List.length_take] at hj
  have h := hc j (by omega)
  have e : ((⟨b, off, none⟩ : Addr).add j) = ⟨b, off + j, none⟩ := by simp [Addr.add]
  rw [e, h, ← hu, List.getElem?_map, List.getElem?_take, if_pos (by omega), List.getElem?_eq_getElem (by omega)]
  rfl
theorem one_cells (k : IntKind) (zs : List Int) : ∀ u ∈ zs.map (Value.int k), u.oneCell' = true := by
  intro u hu
  obtain ⟨z, _, rfl⟩ := List.mem_map.1 hu
  rfl
theorem owns_take {W : World} {B : Nat} {e : TypeId} {v : Value} {n l : Nat} {zs : List Int} {k : IntKind} (h : W.ownsRow B e 1 v (0 + n) ([] ++ (zs.take l).map (Value.int k))) (hn : n = (zs.take l).length) :
    W.ownsRow B e 1 v (zs.take l).length ((zs.take l).map (Value.int k)) := by
  rw [Nat.zero_add, List.nil_append, hn] at h
  exact h

set_option maxRecDepth 100000 in
set_option maxHeartbeats 1000000 in
theorem ints_some (b off cap : Nat) (zs : List Int) (m : Int) (w : World) (hz : zs.length ≤ 140737488351232) (hl : zs.length ≤ cap) (h0 : 0 ≤ m) (h1 : m ≤ 1000000)
    (hc : ∀ j, j < zs.length → w.cell? ⟨b, off + j, none⟩ = some (.int .i64 (zs[j]?.getD 0))) :
    Calls Try.prog 13 #[.slice (some ⟨b, off, none⟩) zs.length cap, .int .i64 m] w (MadeRow .i64 3 w (zs.take m.toNat)) := by
  obtain ⟨i0, hi, hz0, hz1, hz2⟩ := info_parts Try.infoInt
  have hlt : (zs.take m.toNat).length = min m.toNat zs.length := List.length_take
  have Hlt := Lib.hid hlt
  clear hlt
  have hsrc := src_cells m.toNat hc
  have Hsrc := Lib.hid hsrc
  clear hsrc
  by_cases h : m < (zs.length : Int)
  · go_enter Try.func13, Try.ntmps13
    go_wp2_with (at_builtin; refine wpList_append_own _ rfl _ _ 22 rfl w.heap.size 3 i0 (.int .i64 0) 1 8 Try.underlying22 hi hz0 hz1 hz2 rfl (by decide) _ _ _ rfl (World.ownsRow_nil _ _ _ _) ⟨b, off, none⟩ m.toNat cap ((zs.take m.toNat).map (Value.int .i64)) rfl (by rw [List.length_map, Hlt.out]; omega) Hsrc.out (one_cells _ _) (by unfold maxLen; omega) (by omega) (Nat.le_refl _) ?_; intro v' w1 hown' hgrow _)
    go_ret
    exact ⟨_, rfl, owns_take hown' (by rw [Hlt.out]; omega), (Below.refl _ _).grown hgrow (Nat.le_refl _) (fun j hj => by cases hj)⟩
  · go_enter Try.func13, Try.ntmps13
    go_wp2_with (at_builtin; refine wpList_append_own _ rfl _ _ 22 rfl w.heap.size 3 i0 (.int .i64 0) 1 8 Try.underlying22 hi hz0 hz1 hz2 rfl (by decide) _ _ _ rfl (World.ownsRow_nil _ _ _ _) ⟨b, off, none⟩ zs.length cap ((zs.take m.toNat).map (Value.int .i64)) rfl (by rw [List.length_map, Hlt.out]; omega) Hsrc.out (one_cells _ _) (by unfold maxLen; omega) (by omega) (Nat.le_refl _) ?_; intro v' w1 hown' hgrow _)
    go_ret
    exact ⟨_, rfl, owns_take hown' (by rw [Hlt.out]; omega), (Below.refl _ _).grown hgrow (Nat.le_refl _) (fun j hj => by cases hj)⟩
set_option maxRecDepth 100000 in
set_option maxHeartbeats 1000000 in
theorem few_some (b off cap : Nat) (zs : List Int) (m : Int) (w : World) (hz : zs.length ≤ 140737488351232) (hl : zs.length ≤ cap) (h0 : 0 ≤ m) (h1 : m ≤ 1000000)
    (hc : ∀ j, j < zs.length → w.cell? ⟨b, off + j, none⟩ = some (.int .u8 (zs[j]?.getD 0))) :
    Calls Try.prog 12 #[.slice (some ⟨b, off, none⟩) zs.length cap, .int .i64 m] w (MadeRow .u8 5 w (zs.take m.toNat)) := by
  obtain ⟨i0, hi, hz0, hz1, hz2⟩ := info_parts Try.infoU8
  have hlt : (zs.take m.toNat).length = min m.toNat zs.length := List.length_take
  have Hlt := Lib.hid hlt
  clear hlt
  have hsrc := src_cells m.toNat hc
  have Hsrc := Lib.hid hsrc
  clear hsrc
  by_cases h : m < (zs.length : Int)
  · go_enter Try.func12, Try.ntmps12
    go_wp2_with (at_builtin; refine wpList_append_own _ rfl _ _ 24 rfl w.heap.size 5 i0 (.int .u8 0) 1 1 Try.underlying24 hi hz0 hz1 hz2 rfl (by decide) _ _ _ rfl (World.ownsRow_nil _ _ _ _) ⟨b, off, none⟩ m.toNat cap ((zs.take m.toNat).map (Value.int .u8)) rfl (by rw [List.length_map, Hlt.out]; omega) Hsrc.out (one_cells _ _) (by unfold maxLen; omega) (by omega) (Nat.le_refl _) ?_; intro v' w1 hown' hgrow _)
    go_ret
    exact ⟨_, rfl, owns_take hown' (by rw [Hlt.out]; omega), (Below.refl _ _).grown hgrow (Nat.le_refl _) (fun j hj => by cases hj)⟩
  · go_enter Try.func12, Try.ntmps12
    go_wp2_with (at_builtin; refine wpList_append_own _ rfl _ _ 24 rfl w.heap.size 5 i0 (.int .u8 0) 1 1 Try.underlying24 hi hz0 hz1 hz2 rfl (by decide) _ _ _ rfl (World.ownsRow_nil _ _ _ _) ⟨b, off, none⟩ zs.length cap ((zs.take m.toNat).map (Value.int .u8)) rfl (by rw [List.length_map, Hlt.out]; omega) Hsrc.out (one_cells _ _) (by unfold maxLen; omega) (by omega) (Nat.le_refl _) ?_; intro v' w1 hown' hgrow _)
    go_ret
    exact ⟨_, rfl, owns_take hown' (by rw [Hlt.out]; omega), (Below.refl _ _).grown hgrow (Nat.le_refl _) (fun j hj => by cases hj)⟩

set_option maxRecDepth 100000 in
set_option maxHeartbeats 1000000 in
theorem ints_nil (m : Int) (w : World) (h0 : 0 ≤ m) (h1 : m ≤ 1000000) : Calls Try.prog 13 #[.slice none 0 0, .int .i64 m] w (MadeRow .i64 3 w []) := by
  go_enter Try.func13, Try.ntmps13
  go_wp2
  go_ret
  exact ⟨_, rfl, World.ownsRow_nil _ _ _ _, Below.refl _ _⟩

set_option maxRecDepth 100000 in
set_option maxHeartbeats 1000000 in
theorem few_nil (m : Int) (w : World) (h0 : 0 ≤ m) (h1 : m ≤ 1000000) : Calls Try.prog 12 #[.slice none 0 0, .int .i64 m] w (MadeRow .u8 5 w []) := by
  go_enter Try.func12, Try.ntmps12
  go_wp2
  go_ret
  exact ⟨_, rfl, World.ownsRow_nil _ _ _ _, Below.refl _ _⟩

/-- Ints of any slice: its first elements. -/
theorem ints_any (a : Option Addr) (cap : Nat) (zs : List Int) (m : Int) (w : World) (hz : zs.length ≤ 140737488351232) (h0 : 0 ≤ m) (h1 : m ≤ 1000000) {n₀ : Nat} (hI : RowAt .i64 n₀ w (.slice a zs.length cap) zs) :
    Calls Try.prog 13 #[.slice a zs.length cap, .int .i64 m] w (MadeRow .i64 3 w (zs.take m.toNat)) := by
  rcases hI with ⟨e, rfl⟩ | ⟨b, off, c', e, hl, hbb, hcs⟩
  · obtain ⟨rfl, _, rfl⟩ : a = none ∧ 0 = 0 ∧ cap = 0 := by simpa using e
    rw [List.take_nil]
    exact ints_nil m w h0 h1
  · obtain ⟨rfl, -, rfl⟩ : a = some ⟨b, off, none⟩ ∧ zs.length = zs.length ∧ cap = c' := by simpa using e
    exact ints_some b off cap zs m w hz hl h0 h1 hcs

/-- Few of any slice: its first elements. -/
theorem few_any (a : Option Addr) (cap : Nat) (zs : List Int) (m : Int) (w : World) (hz : zs.length ≤ 140737488351232) (h0 : 0 ≤ m) (h1 : m ≤ 1000000) {n₀ : Nat} (hI : RowAt .u8 n₀ w (.slice a zs.length cap) zs) :
    Calls Try.prog 12 #[.slice a zs.length cap, .int .i64 m] w (MadeRow .u8 5 w (zs.take m.toNat)) := by
  rcases hI with ⟨e, rfl⟩ | ⟨b, off, c', e, hl, hbb, hcs⟩
  · obtain ⟨rfl, _, rfl⟩ : a = none ∧ 0 = 0 ∧ cap = 0 := by simpa using e
    rw [List.take_nil]
    exact few_nil m w h0 h1
  · obtain ⟨rfl, -, rfl⟩ : a = some ⟨b, off, none⟩ ∧ zs.length = zs.length ∧ cap = c' := by simpa using e
    exact few_some b off cap zs m w hz hl h0 h1 hcs

set_option maxRecDepth 100000 in
set_option maxHeartbeats 1000000 in
theorem ints_empty (a : Addr) (cap : Nat) (m : Int) (w : World) (h0 : 0 ≤ m) (h1 : m ≤ 1000000) : Calls Try.prog 13 #[.slice (some a) 0 cap, .int .i64 m] w (MadeRow .i64 3 w []) := by
  go_enter Try.func13, Try.ntmps13
  go_wp2
  go_ret
  exact ⟨_, rfl, World.ownsRow_nil _ _ _ _, Below.refl _ _⟩

set_option maxRecDepth 100000 in
set_option maxHeartbeats 1000000 in
theorem few_empty (a : Addr) (cap : Nat) (m : Int) (w : World) (h0 : 0 ≤ m) (h1 : m ≤ 1000000) : Calls Try.prog 12 #[.slice (some a) 0 cap, .int .i64 m] w (MadeRow .u8 5 w []) := by
  go_enter Try.func12, Try.ntmps12
  go_wp2
  go_ret
  exact ⟨_, rfl, World.ownsRow_nil _ _ _ _, Below.refl _ _⟩

/-- The integers zs came in at a slice value: an empty one may lie anywhere. -/
def InAt (k : IntKind) (n₀ : Nat) (W : World) (sv : Value) (zs : List Int) : Prop := RowAt k n₀ W sv zs ∨ ∃ a cap, sv = .slice (some a) 0 cap ∧ zs = []
theorem InAt.below {k : IntKind} {n₀ : Nat} {A B : World} (h : Below n₀ A B) {sv : Value} {zs : List Int} : InAt k n₀ A sv zs → InAt k n₀ B sv zs
  | .inl e => .inl (e.below h)
  | .inr e => .inr e
theorem ints_in (a : Option Addr) (cap : Nat) (zs : List Int) (m : Int) (w : World) (hz : zs.length ≤ 140737488351232) (h0 : 0 ≤ m) (h1 : m ≤ 1000000) {n₀ : Nat} (hI : InAt .i64 n₀ w (.slice a zs.length cap) zs) :
    Calls Try.prog 13 #[.slice a zs.length cap, .int .i64 m] w (MadeRow .i64 3 w (zs.take m.toNat)) := by
  rcases hI with hI | ⟨a', c', e, rfl⟩
  · exact ints_any a cap zs m w hz h0 h1 hI
  · obtain ⟨rfl, _, rfl⟩ : a = some a' ∧ 0 = 0 ∧ cap = c' := by simpa using e
    rw [List.take_nil]
    exact ints_empty a' cap m w h0 h1
theorem few_in (a : Option Addr) (cap : Nat) (zs : List Int) (m : Int) (w : World) (hz : zs.length ≤ 140737488351232) (h0 : 0 ≤ m) (h1 : m ≤ 1000000) {n₀ : Nat} (hI : InAt .u8 n₀ w (.slice a zs.length cap) zs) :
    Calls Try.prog 12 #[.slice a zs.length cap, .int .i64 m] w (MadeRow .u8 5 w (zs.take m.toNat)) := by
  rcases hI with hI | ⟨a', c', e, rfl⟩
  · exact few_any a cap zs m w hz h0 h1 hI
  · obtain ⟨rfl, _, rfl⟩ : a = some a' ∧ 0 = 0 ∧ cap = c' := by simpa using e
    rw [List.take_nil]
    exact few_empty a' cap m w h0 h1
end Go.Proofs.Ytiebefomhnbemaa
