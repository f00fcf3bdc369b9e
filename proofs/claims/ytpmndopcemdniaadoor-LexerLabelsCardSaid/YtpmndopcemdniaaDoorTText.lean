/- Contract of package lexer's text. Conditions: the string begins with a quotation mark. -/
import Derived.Test.YtpmndopcemdniaaDoorTFirst
namespace Go.Proofs.YtpmndopcemdniaaDoor
open Go.RowKit

set_option maxHeartbeats 2000000 in
theorem xtext_any (s : ByteArray) (w : World) (hs : s.size ≤ 140737488351232) {r : List UInt8} (hl : s.data.toList = 34 :: r) :
    Calls Tryd.prog 71 #[.string s] w fun e w' => e = .returned (TV (firstL s.data.toList)) ∧ Below w.heap.size w w' := by
  have hA : Blk (w.alloc (.cells #[.int .i64 0, .string ⟨#[]⟩, .int .i64 0, .int .i64 0] 37)) w.heap.size 37 #[.int .i64 0, .string ⟨#[]⟩, .int .i64 0, .int .i64 0] := Blk.new w _ _
  have hW : Below w.heap.size w (w.alloc (.cells #[.int .i64 0, .string ⟨#[]⟩, .int .i64 0, .int .i64 0] 37)) := (Below.refl _ w).alloc (Nat.le_refl _) _
  have hsz : s.size = r.length + 1 := by rw [← list_len s, hl, List.length_cons]
  have b1 : (1 : Int) ≤ (s.size : Int) := by omega
  have hx : s.extract 1 s.size = ba r := by rw [ba_drop, hl]; rfl
  have hc := cutQ_is r
  obtain ⟨⟨a, b, f⟩, hr⟩ : ∃ x, cutQ r = x := ⟨_, rfl⟩
  rw [hr] at hc
  obtain ⟨ha, hf⟩ := hc
  dsimp only at ha hf
  have Cu := Lib.hid (fun (W : World) => show Calls Tryd.prog 86 #[.string (s.extract 1 s.size), .string ⟨#[34]⟩] W fun e w' => e = .returned (.tuple #[.string (ba a), .string (ba b), .bool f]) ∧ Below W.heap.size W w' from by
    have h := qcut_any (s.extract 1 s.size) (by rw [hx, ba_len]; omega) W
    rw [show (s.extract 1 s.size).data.toList = r by rw [hx]; rfl, hr] at h
    exact h)
  have Co := Lib.hid (fun (W : World) => xcontains_any (ba a) W)
  rw [ba_list] at Co
  have hfst : firstL s.data.toList = if f = true ∧ a.all vaB = true then if a.length ≤ 16 then (⟨2, a, 0, 0⟩, 0) else (tk0, 4) else (tk0, 2) := by
    rw [hl, first_cons, if_neg (by decide), if_neg (by decide), if_pos rfl, ha, hf]
    simp only [decide_eq_true_eq]
  have hz := ba_len a
  clear hx hr ha hf hl hsz
  cases f with
  | false =>
    rw [if_neg (by simp)] at hfst
    have HF := Lib.hid hfst
    clear hfst
    go_enter Tryd.func71, Tryd.ntmps71
    go_wp2_with (first | (go_at_call 86; refine (Cu.out _).mono ?_; rintro e w1 ⟨rfl, hB⟩; replace hA := hA.below hB hA.lt; replace hW := step_below hW hB; clear hB; have fz := hA.frozen; have c0 := hA.cell 0; have c1 := hA.cell 1; have c2 := hA.cell 2; have c3 := hA.cell 3) | (go_at_call 87; refine (Co.out _).mono ?_; rintro e w1 ⟨rfl, hB⟩; replace hA := hA.below hB hA.lt; replace hW := step_below hW hB; clear hB fz c0 c1 c2 c3; have fz := hA.frozen; have c0 := hA.cell 0; have c1 := hA.cell 1; have c2 := hA.cell 2; have c3 := hA.cell 3))
    exact ret_tok (x := (tk0, 2)) (p := 2) (q := 3) (by kernel_rfl) rfl rfl (putT hA hW (Nat.le_refl _) _ _ _ _).1 ⟨by rw [HF.out], (putT hA hW (Nat.le_refl _) _ _ _ _).2⟩
  | true =>
    cases hv : a.all vaB with
    | false =>
      rw [hv, if_neg (by simp)] at hfst
      have HF := Lib.hid hfst
      rw [hv] at Co
      clear hfst hv
      go_enter Tryd.func71, Tryd.ntmps71
      go_wp2_with (first | (go_at_call 86; refine (Cu.out _).mono ?_; rintro e w1 ⟨rfl, hB⟩; replace hA := hA.below hB hA.lt; replace hW := step_below hW hB; clear hB; have fz := hA.frozen; have c0 := hA.cell 0; have c1 := hA.cell 1; have c2 := hA.cell 2; have c3 := hA.cell 3) | (go_at_call 87; refine (Co.out _).mono ?_; rintro e w1 ⟨rfl, hB⟩; replace hA := hA.below hB hA.lt; replace hW := step_below hW hB; clear hB fz c0 c1 c2 c3; have fz := hA.frozen; have c0 := hA.cell 0; have c1 := hA.cell 1; have c2 := hA.cell 2; have c3 := hA.cell 3))
      exact ret_tok (x := (tk0, 2)) (p := 2) (q := 3) (by kernel_rfl) rfl rfl (putT hA hW (Nat.le_refl _) _ _ _ _).1 ⟨by rw [HF.out], (putT hA hW (Nat.le_refl _) _ _ _ _).2⟩
    | true =>
      rw [hv, if_pos ⟨rfl, rfl⟩] at hfst
      rw [hv] at Co
      by_cases h16 : a.length ≤ 16
      · rw [if_pos h16] at hfst
        have HF := Lib.hid hfst
        have h17 : (ba a).size ≤ 16 := by omega
        clear hfst hv hz h16
        go_enter Tryd.func71, Tryd.ntmps71
        go_wp2_with (first | (go_at_call 86; refine (Cu.out _).mono ?_; rintro e w1 ⟨rfl, hB⟩; replace hA := hA.below hB hA.lt; replace hW := step_below hW hB; clear hB; have fz := hA.frozen; have c0 := hA.cell 0; have c1 := hA.cell 1; have c2 := hA.cell 2; have c3 := hA.cell 3) | (go_at_call 87; refine (Co.out _).mono ?_; rintro e w1 ⟨rfl, hB⟩; replace hA := hA.below hB hA.lt; replace hW := step_below hW hB; clear hB fz c0 c1 c2 c3; have fz := hA.frozen; have c0 := hA.cell 0; have c1 := hA.cell 1; have c2 := hA.cell 2; have c3 := hA.cell 3))
        exact ret_tok (x := (⟨2, a, 0, 0⟩, 0)) (p := 2) (q := 3) (by kernel_rfl) rfl rfl (putT hA hW (Nat.le_refl _) _ _ _ _).1 ⟨by rw [HF.out], (putT hA hW (Nat.le_refl _) _ _ _ _).2⟩
      · rw [if_neg h16] at hfst
        have HF := Lib.hid hfst
        have h17 : ¬ (ba a).size ≤ 16 := by omega
        clear hfst hv hz h16
        go_enter Tryd.func71, Tryd.ntmps71
        go_wp2_with (first | (go_at_call 86; refine (Cu.out _).mono ?_; rintro e w1 ⟨rfl, hB⟩; replace hA := hA.below hB hA.lt; replace hW := step_below hW hB; clear hB; have fz := hA.frozen; have c0 := hA.cell 0; have c1 := hA.cell 1; have c2 := hA.cell 2; have c3 := hA.cell 3) | (go_at_call 87; refine (Co.out _).mono ?_; rintro e w1 ⟨rfl, hB⟩; replace hA := hA.below hB hA.lt; replace hW := step_below hW hB; clear hB fz c0 c1 c2 c3; have fz := hA.frozen; have c0 := hA.cell 0; have c1 := hA.cell 1; have c2 := hA.cell 2; have c3 := hA.cell 3))
        exact ret_tok (x := (tk0, 4)) (p := 2) (q := 3) (by kernel_rfl) rfl rfl (putT hA hW (Nat.le_refl _) _ _ _ _).1 ⟨by rw [HF.out], (putT hA hW (Nat.le_refl _) _ _ _ _).2⟩
end Go.Proofs.YtpmndopcemdniaaDoor
