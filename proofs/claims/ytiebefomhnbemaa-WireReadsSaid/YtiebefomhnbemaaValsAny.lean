/- The contract of the reference's Vals, at every slice. Conditions: none. -/
import Derived.Test.YtiebefomhnbemaaVals
namespace Go.Proofs.Ytiebefomhnbemaa
open Go.RowKit

set_option maxRecDepth 100000 in
set_option maxHeartbeats 1000000 in
theorem vals_none (w : World) : Calls Try.prog 11 #[.slice none 0 0] w (Made w) := by
  go_enter Try.func11, Try.ntmps11
  go_wp2
  go_loop [3, 4] (fun v i => v = .slice none 0 0 ∧ i = .int .i64 0) (fun _ _ => 0)
  case atStart => exact ⟨rfl, rfl⟩
  case round =>
    obtain ⟨rfl, rfl⟩ := hrel
    go_wp2
    go_ret
    exact ⟨_, [], rfl, ⟨World.ownsRow_nil _ _ _ _, by simp⟩, by simp, by simp, Below.refl _ _⟩

set_option maxRecDepth 100000 in
set_option maxHeartbeats 1000000 in
theorem vals_empty (a : Addr) (c : Nat) (w : World) : Calls Try.prog 11 #[.slice (some a) 0 c] w (Made w) := by
  go_enter Try.func11, Try.ntmps11
  go_wp2
  go_loop [3, 4] (fun v i => v = .slice none 0 0 ∧ i = .int .i64 0) (fun _ _ => 0)
  case atStart => exact ⟨rfl, rfl⟩
  case round =>
    obtain ⟨rfl, rfl⟩ := hrel
    go_wp2
    go_ret
    exact ⟨_, [], rfl, ⟨World.ownsRow_nil _ _ _ _, by simp⟩, by simp, by simp, Below.refl _ _⟩

/-- Vals of any slice of integers. -/
theorem vals_any (a : Option Addr) (cap : Nat) (zs : List Int) (w : World) (hz : zs.length ≤ 140737488351232) (hzi : ∀ z ∈ zs, (Lit.int .i64 z).wf = true) (hI : InAt .i64 w.heap.size w (.slice a zs.length cap) zs) :
    Calls Try.prog 11 #[.slice a zs.length cap] w (Made w) := by
  rcases hI with (⟨e, rfl⟩ | ⟨b, off, c', e, hl, hbb, hcs⟩) | ⟨a', c', e, rfl⟩
  · obtain ⟨rfl, _, rfl⟩ : a = none ∧ 0 = 0 ∧ cap = 0 := by simpa using e
    exact vals_none w
  · obtain ⟨rfl, -, rfl⟩ : a = some ⟨b, off, none⟩ ∧ zs.length = zs.length ∧ cap = c' := by simpa using e
    exact vals_some b off cap zs w hz hzi hbb hcs
  · obtain ⟨rfl, _, rfl⟩ : a = some a' ∧ 0 = 0 ∧ cap = c' := by simpa using e
    exact vals_empty a' cap w
/-- The list that Vals has made, as it is read. -/
theorem Gen.at {base : Nat} {W : World} {v : Value} {it : List VT} (h : Gen base W v it) : VsAt (base ≤ ·) W v it := VsAt.of_owns h.1 (fun t ht => (h.2 t ht).mono (fun _ _ h => h.1))
end Go.Proofs.Ytiebefomhnbemaa
