/- The walk of LexerCovers. Conditions: the table of symbols as the program lays it. -/
import Derived.Test.YtpmndopcemdniaaDoorTCov
namespace Go.Proofs.YtpmndopcemdniaaDoor
open Go.RowKit

set_option maxHeartbeats 4000000 in
theorem covers_walk (sv : Value) (zs : List Int) (s : ByteArray) (w : World) (hI : IntsIn w sv zs) (hs : s.size ≤ 140737488351232) (hE : LEnv w) : Calls Tryd.prog 6 #[sv, .string s] w fun e w' => e = .returned (.bool true) ∧ Below w.heap.size w w' := by
  have hW := Below.refl w.heap.size w
  have S := Lib.hid (fun W => short_any s 100 W hs (by omega) (by omega))
  obtain ⟨⟨a0, c0, hsv, -⟩, -⟩ := id hI
  subst hsv
  go_enter Tryd.func6, Tryd.ntmps6
  go_wp2_with (first | (go_at_call 12; refine (source_any _ _ _ (hI.below hW)).mono ?_; rintro e w1 ⟨s1, rfl, hs1, hB⟩; replace hW := step_low hW hB; clear hB) | (go_at_call 13; refine (clean_any _ _ _ (hI.below hW)).mono ?_; rintro e w1 ⟨s2, rfl, hs2, hB⟩; replace hW := step_low hW hB; clear hB) | (go_at_call 15; refine (S.out _).mono ?_; rintro e w1 ⟨⟨f, rfl, hf⟩, rfl⟩) | (go_at_call 19; refine (covers_any _ _ (by omega) (hE.below hW)).mono ?_; rintro e w2 ⟨rfl, hB⟩; replace hW := step_low hW hB; clear hB) | (go_at_call 14; refine (lives_any _ (hE.below hW)).mono ?_; rintro e w2 ⟨rfl, hB⟩; replace hW := step_low hW hB; clear hB))
  go_ret
  exact ⟨rfl, hW⟩
end Go.Proofs.YtpmndopcemdniaaDoor
