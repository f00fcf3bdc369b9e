/- The library's calls on lists of labels: ContainsFunc, Clone, SortFunc, with the closures of New. Conditions: few labels. -/
import Derived.LoopN
import Derived.Test.YtpmndopcemdniaaDoorLOrd
namespace Go.Proofs.YtpmndopcemdniaaDoor
open Go.RowKit Go.Sort

theorem owned_cells {W : World} {g off : Nat} {it : List L2} (h : LCells W g off it) : ∀ j u, (it.flatMap cells2)[j]? = some u → W.cell? ⟨g, off + j, none⟩ = some u := by
  intro j u hu
  have hj : j < it.length * 2 := by have := (List.getElem?_eq_some_iff.1 hu).1; rwa [cells2_length] at this
  have hq : j / 2 < it.length := by omega
  have e := cells2_flat it (j / 2) (j % 2) (by omega)
  rw [show j / 2 * 2 + j % 2 = j by omega, hu, List.getElem?_eq_getElem hq] at e
  have h2 := h.enc (j / 2) hq (j % 2) u (by rw [getElem!_pos it (j / 2) hq]; exact e.symm)
  rw [show off + j / 2 * 2 + j % 2 = off + j by omega] at h2
  exact h2

end Go.Proofs.YtpmndopcemdniaaDoor
