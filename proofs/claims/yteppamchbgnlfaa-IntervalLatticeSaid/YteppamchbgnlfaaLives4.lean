/- The chapter's examples hold. Conditions: none. -/
import Derived.Test.YteppamchbgnlfaaIv4
import Derived.Test.YteppamchbgnlfaaLv4
namespace Go.Proofs.Yteppamchbgnlfaa
open Go.RowKit

theorem lives_any (w : World) :
    Calls Try.prog 18 #[] w fun e w' => e = .returned (.bool true) ∧ Below w.heap.size w w' := by
  have MU := fun (W : World) => imul_w (a := -1) (b := 1) (c := 2) (d := 1) (a' := -3) (b' := 1) (c' := 4) (d' := 1) (by unfold W2; omega) (by unfold W2; omega) (by unfold W2; omega) (by unfold W2; omega) W
  have DI := fun (W : World) => idiv_w (a := 1) (b := 1) (c := 2) (d := 1) (a' := -1) (b' := 1) (c' := 1) (d' := 1) (by unfold W2; omega) (by unfold W2; omega) (by unfold W2; omega) (by unfold W2; omega) W
  rw [show mulI (-1) 1 2 1 (-3) 1 4 1 = (-6, 1, 8, 1, 0) by decide +kernel] at MU
  rw [show divI 1 1 2 1 (-1) 1 1 1 = (0, 0, 0, 0, 6) by decide +kernel] at DI
  exact lives_of (Lib.hid MU) (Lib.hid DI) w
end Go.Proofs.Yteppamchbgnlfaa
