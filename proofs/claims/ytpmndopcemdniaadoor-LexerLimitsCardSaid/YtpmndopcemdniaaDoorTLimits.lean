/- The walk of LexerLimits. Conditions: the table of symbols as the program lays it. -/
import Derived.Test.YtpmndopcemdniaaDoorTGen
namespace Go.Proofs.YtpmndopcemdniaaDoor
open Go.RowKit

theorem one_digit (k : Nat) (hk : k < 10) : ∃ x : ByteArray, (∀ W : World, (Instr.slice 9 (.string ⟨#[48, 49, 50, 51, 52, 53, 54, 55, 56, 57]⟩) (some (.int .i64 (k : Int))) (some (.int .i64 ((k : Int) + 1))) none).run Tryd.prog W = .ok (.string x) W) ∧ x.size = 1 := by
  refine ⟨(⟨#[48, 49, 50, 51, 52, 53, 54, 55, 56, 57]⟩ : ByteArray).extract k (k + 1), fun W => ?_, ?_⟩
  · have h := run_slice_string (P := Tryd.prog) W 9 ⟨#[48, 49, 50, 51, 52, 53, 54, 55, 56, 57]⟩ .i64 .i64 k (k + 1) Tryd.underlying9 (by omega) (by omega) (by show (k : Int) + 1 ≤ 10; omega)
    rw [show ((k : Int)).toNat = k by omega, show ((k : Int) + 1).toNat = k + 1 by omega] at h
    exact h
  · rw [ByteArray.size_extract]
    have : (⟨#[48, 49, 50, 51, 52, 53, 54, 55, 56, 57]⟩ : ByteArray).size = 10 := rfl
    omega

set_option maxRecDepth 100000 in
set_option maxHeartbeats 4000000 in
theorem decimal_some (n : Nat) (w : World) (h0 : 1 ≤ n) (h1 : n ≤ 2000000000) :
    Calls Tryd.prog 17 #[.int .i64 (n : Int)] w fun e w' => (∃ b : ByteArray, e = .returned (.string b) ∧ b.size ≤ 2000000000) ∧ w = w' := by
  have e0 : ((n : Int) == 0) = false := by simp; omega
  have e1 : ¬ (n : Int) < 0 := by omega
  go_enter Tryd.func17, Tryd.ntmps17
  go_wp2
  go_loop [4, 5] (fun s v => ∃ (b : ByteArray) (m : Nat), s = .string b ∧ v = .int .i64 (m : Int) ∧ b.size + m ≤ 2000000000) (fun _ v => (intOf v).toNat)
  case atStart => exact ⟨⟨#[]⟩, n, rfl, rfl, by show 0 + n ≤ _; omega⟩
  case round =>
    obtain ⟨b, m, hb, rfl, hs⟩ := hrel
    subst hb
    by_cases hm : m = 0
    · subst hm
      go_wp2
      go_ret
      exact ⟨⟨_, rfl, by omega⟩, rfl⟩
    · have e2 : ((m : Int) != 0) = true := by simp; omega
      obtain ⟨k, hk⟩ : ∃ k, m % 10 = k := ⟨_, rfl⟩
      obtain ⟨q, hq⟩ : ∃ q, m / 10 = q := ⟨_, rfl⟩
      have d1 : (m : Int) % 10 = (k : Int) := by omega
      have d2 : (m : Int) / 10 = (q : Int) := by omega
      have d3 : ¬ (k : Int) < 0 := by omega
      have hq2 : q < m := by omega
      obtain ⟨x, hx, hx2⟩ := one_digit k (by omega)
      have hz1 : x.size ≤ 1 := by omega
      clear hx2 hk hq hm
      go_wp2
      go_round
      case measure => simp [intOf]; omega
      case rel => exact ⟨_, q, rfl, by go_num, by simp only [ByteArray.size_append]; omega⟩

set_option maxHeartbeats 1000000 in
theorem bound3_any (n : Int) (w : World) (h1 : -9223372036854775808 ≤ n) (h2 : n ≤ 9223372036854775807) :
    Calls Tryd.prog 18 #[.int .i64 n, .int .i64 3] w fun e w' => e = .returned (.int .i64 (aroundI n 7 - 3)) ∧ w = w' := by
  have a1 := aroundI_lo n 7 (by omega)
  have a2 := aroundI_hi n 7 (by omega)
  have AR := Lib.hid (fun W => around_any n 7 W h1 h2 (by omega) (by omega))
  obtain ⟨z, hz⟩ : ∃ z, aroundI n 7 = z := ⟨_, rfl⟩
  rw [hz] at AR a1 a2 ⊢
  clear hz
  go_enter Tryd.func18, Tryd.ntmps18
  go_wp2_with (go_at_call 16; refine (AR.out _).mono ?_; rintro e w' ⟨rfl, rfl⟩)
  go_ret
  exact ⟨ret_i64 (by first | rfl | omega), rfl⟩

set_option maxRecDepth 100000 in
set_option maxHeartbeats 8000000 in
theorem limits_walk (n near size : Int) (w : World) (n1 : -9223372036854775808 ≤ n) (n2 : n ≤ 9223372036854775807) (m1 : -9223372036854775808 ≤ near) (m2 : near ≤ 9223372036854775807) (z1 : -9223372036854775808 ≤ size) (z2 : size ≤ 9223372036854775807) (hE : LEnv w) :
    Calls Tryd.prog 5 #[.int .i64 n, .int .i64 near, .int .i64 size] w fun e w' => e = .returned (.bool true) ∧ Below w.heap.size w w' := by
  have P0 := Lib.hid (show (⟨#[43]⟩ : ByteArray).size = 1 ∧ (⟨#[43, 32, 34]⟩ : ByteArray).size = 3 ∧ (⟨#[34]⟩ : ByteArray).size = 1 ∧ (⟨#[97]⟩ : ByteArray).size = 1 ∧ (⟨#[48]⟩ : ByteArray).size = 1 from ⟨rfl, rfl, rfl, rfl, rfl⟩)
  obtain ⟨k, hk⟩ : ∃ k : Nat, aroundI n 26 = (k : Int) := ⟨(aroundI n 26).toNat, by have := aroundI_lo n 26 (by omega); omega⟩
  have hk2 : k < 26 := by have := aroundI_hi n 26 (by omega); omega
  obtain ⟨d, hd⟩ : ∃ d : Nat, 1073741824 + (aroundI near 7 - 3) = (d : Int) := ⟨(1073741824 + (aroundI near 7 - 3)).toNat, by have := aroundI_lo near 7 (by omega); omega⟩
  have hd2 : 1 ≤ d ∧ d ≤ 2000000000 := by have := aroundI_lo near 7 (by omega); have := aroundI_hi near 7 (by omega); omega
  obtain ⟨r, hr⟩ : ∃ r : Nat, aroundI size 20 = (r : Int) := ⟨(aroundI size 20).toNat, by have := aroundI_lo size 20 (by omega); omega⟩
  have hr2 : r < 20 := by have := aroundI_hi size 20 (by omega); omega
  have A1 := Lib.hid (fun W => around_any n 26 W n1 n2 (by omega) (by omega))
  have A2 := Lib.hid (fun W => bound3_any near W m1 m2)
  have A3 := Lib.hid (fun W => around_any size 20 W z1 z2 (by omega) (by omega))
  have A4 := Lib.hid (fun W => decimal_some d W hd2.1 hd2.2)
  obtain ⟨u, hu⟩ : ∃ u, aroundI near 7 - 3 = u := ⟨_, rfl⟩
  rw [hk] at A1
  rw [hu] at A2 hd
  rw [hr] at A3
  have bd : IntKind.i64.wrap (1073741824 + u) = (d : Int) := by rw [IntKind.wrap_i64]; omega
  have br : IntKind.i64.wrap (1990 + (r : Int)) = ((1990 + r : Nat) : Int) := by rw [IntKind.wrap_i64]; omega
  obtain ⟨R, hR⟩ : ∃ R, 1990 + r = R := ⟨_, rfl⟩
  rw [hR] at br
  have hR2 : R ≤ 2010 := by omega
  have hW := Below.refl w.heap.size w
  clear hk hd hr hu hR
  go_enter Tryd.func5, Tryd.ntmps5
  go_wp2_with (go_at_call 16; refine (A1.out _).mono ?_; rintro e w' ⟨rfl, rfl⟩)
  go_loop [8, 9, 10] (fun s z v => ∃ (a b : ByteArray) (i : Nat), s = .string a ∧ z = .string b ∧ v = .int .i64 (i : Int) ∧ i ≤ k ∧ a.size ≤ i ∧ b.size ≤ i) (fun _ _ v => k - (intOf v).toNat)
  case atStart => exact ⟨⟨#[]⟩, ⟨#[]⟩, 0, rfl, rfl, rfl, Nat.zero_le _, Nat.le_refl _, Nat.le_refl _⟩
  case round =>
    obtain ⟨a, b, i, ha, hb, rfl, hi, hsa, hsb⟩ := hrel
    subst ha hb
    by_cases hlt : i < k
    · have b1 : (i : Int) < (k : Int) := by omega
      go_wp2
      go_round
      case measure => simp [intOf]; omega
      case rel => exact ⟨_, _, i + 1, rfl, rfl, by go_num, by omega, by have p0 := P0.out; simp only [ByteArray.size_append]; omega, by have p0 := P0.out; simp only [ByteArray.size_append]; omega⟩
    · have b1 : ¬ (i : Int) < (k : Int) := by omega
      go_wp2_with (first
        | (go_at_call 18; refine (A2.out _).mono ?_; rintro e w' ⟨rfl, rfl⟩)
        | (go_at_call 17; refine (A4.out _).mono ?_; rintro e w' ⟨⟨num, rfl, hnum⟩, rfl⟩)
        | (go_at_call 16; refine (A3.out _).mono ?_; rintro e w' ⟨rfl, rfl⟩))
      go_loop [12, 13] (fun s v => ∃ (l : ByteArray) (j : Nat), s = .string l ∧ v = .int .i64 (j : Int) ∧ l.size + j ≤ 3000) (fun _ v => (intOf v).toNat)
      case atStart => exact ⟨⟨#[]⟩, R, rfl, rfl, by show 0 + R ≤ 3000; omega⟩
      case round =>
        obtain ⟨l, j, hl, rfl, hs⟩ := hrel
        subst hl
        by_cases hj : 0 < j
        · have b2 : (0 : Int) < (j : Int) := by omega
          have b3 : IntKind.i64.wrap ((j : Int) - 1) = ((j - 1 : Nat) : Int) := by rw [IntKind.wrap_i64]; omega
          go_wp2
          go_round
          case measure => simp [intOf]; omega
          case rel => exact ⟨_, j - 1, rfl, by go_num, by have p0 := P0.out; simp only [ByteArray.size_append]; omega⟩
        · have b2 : ¬ (0 : Int) < (j : Int) := by omega
          go_wp2_with (first | (go_at_call 11; refine (agrees_any _ _ (by first | omega | (have p0 := P0.out; simp only [ByteArray.size_append]; omega)) (hE.below hW)).mono ?_; rintro e w2 ⟨rfl, hB⟩; replace hW := step_low hW hB; clear hB) | (go_at_call 14; refine (lives_any _ (hE.below hW)).mono ?_; rintro e w2 ⟨rfl, hB⟩; replace hW := step_low hW hB; clear hB))
          go_ret
          exact ⟨rfl, hW⟩
end Go.Proofs.YtpmndopcemdniaaDoor
