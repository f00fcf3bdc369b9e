/- The walk of LexerRaw. Conditions: the table of symbols as the program lays it. -/
import Derived.Test.YtpmndopcemdniaaDoorTGen
namespace Go.Proofs.YtpmndopcemdniaaDoor
open Go.RowKit

set_option maxHeartbeats 4000000 in
theorem raw_walk (s : ByteArray) (w : World) (hs : s.size ≤ 140737488351232) (hE : LEnv w) : Calls Tryd.prog 4 #[.string s] w fun e w' => e = .returned (.bool true) ∧ Below w.heap.size w w' := by
  have S := Lib.hid (fun W => short_any s 200 W hs (by omega) (by omega))
  have hW := Below.refl w.heap.size w
  go_enter Tryd.func4, Tryd.ntmps4
  go_wp2_with (first
    | (go_at_call 15; refine (S.out _).mono ?_; rintro e w1 ⟨⟨f, rfl, hf⟩, rfl⟩)
    | (go_at_call 11; (refine (agrees_any _ _ (by first | omega | (have q1 : (⟨#[34]⟩ : ByteArray).size = 1 := rfl; have q2 : (⟨#[97, 123, 98, 61]⟩ : ByteArray).size = 4 := rfl; have q3 : (⟨#[125]⟩ : ByteArray).size = 1 := rfl; have q4 : (⟨#[115, 117, 109, 40]⟩ : ByteArray).size = 4 := rfl; simp only [ByteArray.size_append]; omega)) (hE.below hW)).mono ?_); rintro e w2 ⟨rfl, hB⟩; replace hW := step_low hW hB; clear hB)
    | (go_at_call 14; refine (lives_any _ (hE.below hW)).mono ?_; rintro e w2 ⟨rfl, hB⟩; replace hW := step_low hW hB; clear hB))
  go_ret
  exact ⟨rfl, hW⟩
end Go.Proofs.YtpmndopcemdniaaDoor
