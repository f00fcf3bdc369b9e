/- Contracts of the generators Around, Short, Source and Clean. Conditions: as each states. -/
import Derived.Test.YtpmndopcemdniaaDoorTSame
namespace Go.Proofs.YtpmndopcemdniaaDoor
open Go.RowKit

/-- An index within a length. -/
def aroundI (n most : Int) : Int := (if n < 0 then -(n + 1) else n) % most
theorem aroundI_lo (n most : Int) (h : 1 ≤ most) : 0 ≤ aroundI n most := Int.emod_nonneg _ (by omega)
theorem aroundI_hi (n most : Int) (h : 1 ≤ most) : aroundI n most < most := Int.emod_lt_of_pos _ (by omega)

theorem ret_i64 {a b : Int} (h : a = b) : Ending.returned (.int .i64 a) = .returned (.int .i64 b) := by rw [h]

set_option maxHeartbeats 400000 in
theorem around_any (n most : Int) (w : World) (h1 : -9223372036854775808 ≤ n) (h2 : n ≤ 9223372036854775807) (h3 : 1 ≤ most) (h4 : most ≤ 9223372036854775807) :
    Calls Tryd.prog 16 #[.int .i64 n, .int .i64 most] w fun e w' => e = .returned (.int .i64 (aroundI n most)) ∧ w = w' := by
  by_cases hn : n < 0
  · have ha : aroundI n most = (-(n + 1)) % most := by unfold aroundI; rw [if_pos hn]
    have Ha := Lib.hid ha
    clear ha
    go_enter Tryd.func16, Tryd.ntmps16
    go_wp2
    go_ret
    exact ⟨ret_i64 (by rw [Ha.out, ← Int.neg_tmod, Int.tmod_eq_emod_of_nonneg (by omega)]), rfl⟩
  · have ha : aroundI n most = n % most := by unfold aroundI; rw [if_neg hn]
    have Ha := Lib.hid ha
    clear ha
    go_enter Tryd.func16, Tryd.ntmps16
    go_wp2
    go_ret
    exact ⟨ret_i64 Ha.out.symm, rfl⟩

set_option maxHeartbeats 400000 in
theorem short_any (s : ByteArray) (m : Int) (w : World) (hs : s.size ≤ 140737488351232) (h0 : 0 ≤ m) (h1 : m ≤ 1000000) :
    Calls Tryd.prog 15 #[.string s, .int .i64 m] w fun e w' => (∃ s' : ByteArray, e = .returned (.string s') ∧ (s'.size : Int) ≤ m) ∧ w = w' := by
  by_cases h : m < (s.size : Int)
  · go_enter Tryd.func15, Tryd.ntmps15
    go_wp2
    go_ret
    refine ⟨⟨_, rfl, ?_⟩, rfl⟩
    rw [ByteArray.size_extract]
    omega
  · go_enter Tryd.func15, Tryd.ntmps15
    go_wp2
    go_ret
    exact ⟨⟨_, rfl, by omega⟩, rfl⟩

/-- The integers zs lie at a slice value. -/
def IntsIn (W : World) (sv : Value) (zs : List Int) : Prop :=
  (∃ a c, sv = .slice a zs.length c ∧ ∀ (j : Nat) x, zs[j]? = some x → ∃ g off, a = some ⟨g, off, none⟩ ∧ g < W.heap.size ∧ W.cell? ⟨g, off + j, none⟩ = some (.int .i64 x)) ∧ (∀ x ∈ zs, -9223372036854775808 ≤ x ∧ x ≤ 9223372036854775807) ∧ zs.length ≤ 17592186044404
theorem IntsIn.below {A B : World} {sv : Value} {zs : List Int} (h : IntsIn A sv zs) (hB : Below A.heap.size A B) : IntsIn B sv zs := by
  obtain ⟨⟨a, c, e, h1⟩, h2⟩ := h
  refine ⟨⟨a, c, e, fun j x hj => ?_⟩, h2⟩
  obtain ⟨g, off, ea, hg, hc⟩ := h1 j x hj
  exact ⟨g, off, ea, Nat.lt_of_lt_of_le hg hB.size, (hB.cell (p := ⟨g, off + j, none⟩) hg).trans hc⟩
end Go.Proofs.YtpmndopcemdniaaDoor
