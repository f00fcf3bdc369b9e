/- The walk of LexerTokens. Conditions: the table of symbols as the program lays it. -/
import Derived.Test.YtpmndopcemdniaaDoorTSrc
namespace Go.Proofs.YtpmndopcemdniaaDoor
open Go.RowKit

set_option maxHeartbeats 4000000 in
theorem toks_walk (sv : Value) (zs : List Int) (w : World) (hI : IntsIn w sv zs) (hE : LEnv w) : Calls Tryd.prog 3 #[sv] w fun e w' => e = .returned (.bool true) ∧ Below w.heap.size w w' := by
  have hW := Below.refl w.heap.size w
  obtain ⟨⟨a0, c0, hsv, -⟩, -⟩ := id hI
  subst hsv
  go_enter Tryd.func3, Tryd.ntmps3
  go_wp2_with (first | (go_at_call 12; refine (source_any _ _ _ (hI.below hW)).mono ?_; rintro e w1 ⟨s1, rfl, hs1, hB⟩; replace hW := step_low hW hB; clear hB) | (go_at_call 13; refine (clean_any _ _ _ (hI.below hW)).mono ?_; rintro e w1 ⟨s2, rfl, hs2, hB⟩; replace hW := step_low hW hB; clear hB) | (go_at_call 11; refine (agrees_any _ _ (by first | omega | (simp only [ByteArray.size_append]; omega)) (hE.below hW)).mono ?_; rintro e w2 ⟨rfl, hB⟩; replace hW := step_low hW hB; clear hB) | (go_at_call 14; refine (lives_any _ (hE.below hW)).mono ?_; rintro e w2 ⟨rfl, hB⟩; replace hW := step_low hW hB; clear hB))
  go_ret
  exact ⟨rfl, hW⟩
end Go.Proofs.YtpmndopcemdniaaDoor
