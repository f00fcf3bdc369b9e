/- The walk of LexerNumbers. Conditions: the listed variables as the program lays them. -/
import Derived.Test.YtpmndopcemdniaaDoorTNumM
import Derived.Test.YtpmndopcemdniaaDoorTGen
import Derived.Test.YtpmndopcemdniaaDoorTSame
namespace Go.Proofs.YtpmndopcemdniaaDoor
open Go.RowKit

theorem num_at {W : World} {v : Value} {t : Tk} (h : TsAt W v [t]) : ∃ g cap, v = .slice (some ⟨g, 0, none⟩) 1 cap ∧ g < W.heap.size ∧ W.cell? ⟨g, 0, none⟩ = some (.int .i64 (t.kind : Int)) ∧ W.cell? ⟨g, 1, none⟩ = some (.string (ba t.text)) ∧ W.cell? ⟨g, 2, none⟩ = some (.int .i64 (t.n : Int)) := by
  rcases h with ⟨_, h0⟩ | ⟨g, cap, rfl, hg, hc⟩
  · cases h0
  · obtain ⟨a, b, c, _⟩ := hc 0 t rfl
    exact ⟨g, cap, rfl, hg, a, b, c⟩

set_option maxRecDepth 100000 in
set_option maxHeartbeats 16000000 in
theorem nums_walk (n zeros : Int) (w : World) (n1 : -9223372036854775808 ≤ n) (n2 : n ≤ 9223372036854775807) (z1 : -9223372036854775808 ≤ zeros) (z2 : zeros ≤ 9223372036854775807) (hE : LEnv w) :
    Calls Tryd.prog 10 #[.int .i64 n, .int .i64 zeros] w fun e w' => e = .returned (.bool true) ∧ Below w.heap.size w w' := by
  obtain ⟨m, hm⟩ : ∃ k : Nat, aroundI n 1073741825 = (k : Int) := ⟨(aroundI n 1073741825).toNat, by have := aroundI_lo n 1073741825 (by omega); omega⟩
  have hml : m ≤ 1073741824 := by have := aroundI_hi n 1073741825 (by omega); omega
  obtain ⟨z, hz⟩ : ∃ k : Nat, aroundI zeros 6 = (k : Int) := ⟨(aroundI zeros 6).toNat, by have := aroundI_lo zeros 6 (by omega); omega⟩
  have hzl : z ≤ 5 := by have := aroundI_hi zeros 6 (by omega); omega
  have A1 := Lib.hid (fun W => around_any n 1073741825 W n1 n2 (by omega) (by omega))
  have A2 := Lib.hid (fun W => around_any zeros 6 W z1 z2 (by omega) (by omega))
  rw [hm] at A1
  rw [hz] at A2
  have N1 := Lib.hid (fun W => new_any (m : Int) 1 W (by omega) (by omega) (by omega) (by omega))
  rw [new_one m hml, show RV ((m : Int), 1, 0) = .tuple #[.agg #[.int .i64 (m : Int), .int .i64 1], .int .i64 0] from rfl] at N1
  have T1 := Lib.hid (fun W h => text_any (m : Int) 1 W (by omega) (by omega) (by omega) (by omega) h)
  rw [text_one m hml, show str (zerL 0 m) = .string (ba (zerL 0 m)) from rfl] at T1
  have hsz : ∀ j, j ≤ 5 → (ba (zerL j m)).size ≤ 26 := fun j hj => by
    rw [ba_len]
    have := zerL_len m hml j
    omega
  have K1 := Lib.hid (fun W (h : LEnv W) => tokens_any (ba (zerL z m)) W (by have := hsz z hzl; omega) h)
  rw [show (ba (zerL z m)).data.toList = zerL z m from ba_list _, num_tok m hml z hzl] at K1
  have HS := Lib.hid hsz
  have hW := Below.refl w.heap.size w
  clear hm hz n1 n2 z1 z2 hsz
  go_enter Tryd.func10, Tryd.ntmps10
  go_wp2_with (first
    | (go_at_call 16; first
       | (have _h := hB2; refine (A2.out _).mono ?_; rintro e w' ⟨rfl, rfl⟩)
       | (refine (A1.out _).mono ?_; rintro e w' ⟨rfl, rfl⟩))
    | (go_at_call 25; refine (N1.out _).mono ?_; rintro e w1 ⟨rfl, hB1⟩; replace hW := step_low hW hB1)
    | (go_at_call 26; replace hW := hW.alloc hW.size (.cells #[.int .i64 (m : Int), .int .i64 1] 45); refine (T1.out _ (hE.below hW).env).mono ?_; rintro e w2 ⟨rfl, hB2⟩; replace hW := step_low hW hB2))
  go_loop [8, 9] (fun sv iv => ∃ i : Nat, i ≤ z ∧ iv = .int .i64 (i : Int) ∧ sv = .string (ba (zerL (z - i) m))) (fun _ iv => (intOf iv).toNat)
  case atStart => exact ⟨z, Nat.le_refl _, rfl, by rw [Nat.sub_self]⟩
  case round =>
    obtain ⟨i, hi, rfl, hsv⟩ := hrel
    by_cases h0 : i = 0
    · subst h0
      rw [Nat.sub_zero] at hsv
      subst hsv
      have b1 : ¬ (0 : Int) < ((0 : Nat) : Int) := by omega
      obtain ⟨B, hB⟩ : ∃ B, ba (zerL z m) = B := ⟨_, rfl⟩
      obtain ⟨tz, htz⟩ : ∃ t, zerL z m = t := ⟨_, rfl⟩
      rw [htz] at K1 hB
      rw [hB] at K1
      rw [htz, hB]
      have HB := Lib.hid hB
      clear hB htz HS
      go_wp2_with (first
        | (go_at_call 20; refine (K1.out _ (hE.below hW)).mono ?_; rintro e w3 ⟨v3, rfl, ho3, hB3⟩; have hT3 := tsAt_of ho3; clear ho3; replace hW := step_low hW hB3; obtain ⟨g, cp, rfl, hg, y0, y1, y2⟩ := num_at hT3; clear hT3; replace y1 := y1.trans (congrArg (fun x => some (Value.string x)) HB.out))
        | (go_at_call 14; refine (lives_any _ (hE.below hW)).mono ?_; rintro e w5 ⟨rfl, hB5⟩; replace hW := step_low hW hB5))
      go_ret
      exact ⟨rfl, hW⟩
    · obtain ⟨j, rfl⟩ : ∃ j, i = j + 1 := ⟨i - 1, by omega⟩
      have hBs := HS.out (z - (j + 1)) (by omega)
      have hcat : ⟨#[48]⟩ ++ ba (zerL (z - (j + 1)) m) = ba (zerL (z - j) m) := by
        rw [show z - j = (z - (j + 1)) + 1 by omega, ← zerL_succ]
        rfl
      obtain ⟨B, hB⟩ : ∃ B, ba (zerL (z - (j + 1)) m) = B := ⟨_, rfl⟩
      rw [hB] at hsv hBs hcat
      subst hsv
      have b1 : (0 : Int) < ((j + 1 : Nat) : Int) := by omega
      have b2 : IntKind.i64.wrap (((j + 1 : Nat) : Int) - 1) = (j : Int) := by rw [IntKind.wrap_i64]; omega
      have HC := Lib.hid hcat
      clear hcat hB h0
      go_wp2
      go_round
      case measure => simp [intOf]
      exact ⟨j, by omega, rfl, by rw [HC.out]⟩
end Go.Proofs.YtpmndopcemdniaaDoor
