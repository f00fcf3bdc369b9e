/- The small functions of package frac: abs, size, gcd, Valid. Conditions: numbers of 64 bits, but abs and size not of the least. -/
import Derived.Test.YteppamchbgnlfaaRefS
namespace Go.Proofs.Yteppamchbgnlfaa
open Go.RowKit

theorem abs_any (n : Int) (w : World) (h0 : -9223372036854775808 < n) (h1 : n ≤ 9223372036854775807) :
    Calls Try.prog 75 #[.int .i64 n] w fun e w' => e = .returned (.int .i64 (n.natAbs : Nat)) ∧ w = w' := by
  by_cases h : n < 0
  · have e1 : (n.natAbs : Int) = -n := by omega
    have E := Lib.hid e1
    clear e1
    go_enter Try.func75, Try.ntmps75
    go_wp2
    go_ret
    exact ⟨ret_int (by rw [E.out]), rfl⟩
  · have e1 : (n.natAbs : Int) = n := by omega
    have E := Lib.hid e1
    clear e1
    go_enter Try.func75, Try.ntmps75
    go_wp2
    go_ret
    exact ⟨ret_int (by rw [E.out]), rfl⟩
theorem size_any (n : Int) (w : World) (h0 : -9223372036854775808 < n) (h1 : n ≤ 9223372036854775807) :
    Calls Try.prog 70 #[.int .i64 n] w fun e w' => e = .returned (.int .u64 (n.natAbs : Nat)) ∧ w = w' := by
  go_enter Try.func70, Try.ntmps70
  go_wp2_with fail
  refine (abs_any n _ h0 h1).mono ?_
  rintro e w' ⟨rfl, rfl⟩
  have hb : n.natAbs ≤ 9223372036854775807 := by omega
  obtain ⟨N, hN⟩ : ∃ N, n.natAbs = N := ⟨_, rfl⟩
  rw [hN] at hb ⊢
  have HN := Lib.hid hN
  clear hN
  go_wp2
  go_ret
  exact ⟨ret_int (by rw [HN.out]), rfl⟩

theorem gcdu_any (a b : Nat) (w : World) (ha : a < 18446744073709551616) (hb : b < 18446744073709551616) :
    Calls Try.prog 69 #[.int .u64 a, .int .u64 b] w fun e w' => e = .returned (.int .u64 (Nat.gcd a b : Nat)) ∧ ∃ n, w' = w.drewN n := by
  go_enter Try.func69, Try.ntmps69
  go_wp2
  go_loopw [0, 1] (fun s t wr => ∃ x y : Nat, s = .int .u64 x ∧ t = .int .u64 y ∧ x < 18446744073709551616 ∧ y < 18446744073709551616 ∧ Nat.gcd x y = Nat.gcd a b ∧ ∃ n, wr = w.drewN n) (fun _ t _ => (intOf t).toNat)
  case atStart => exact ⟨a, b, rfl, rfl, ha, hb, rfl, 0, rfl⟩
  case round =>
    obtain ⟨x, y, rfl, rfl, hx, hy, hg, n, rfl⟩ := hrel
    have HG := Lib.hid hg
    clear hg
    by_cases h : 0 < y
    · have hm : x % y < y := Nat.mod_lt _ h
      go_wp2
      go_quiet (fail)
      go_wp2
      go_roundw
      case rel => exact ⟨y, x % y, rfl, by go_num, hy, by omega, gcd_round h HG.out, n + nq, by simp [World.drewN, Nat.add_assoc]⟩
      case measure => simp [intOf]; omega
    · obtain rfl : y = 0 := by omega
      go_wp2
      go_ret
      exact ⟨ret_int (by rw [← HG.out, Nat.gcd_zero_right]), n, rfl⟩
theorem gcdi_any (a b : Nat) (w : World) (ha : a < 9223372036854775808) (hb : b < 9223372036854775808) :
    Calls Try.prog 74 #[.int .i64 a, .int .i64 b] w fun e w' => e = .returned (.int .i64 (Nat.gcd a b : Nat)) ∧ ∃ n, w' = w.drewN n := by
  go_enter Try.func74, Try.ntmps74
  go_wp2
  go_loopw [0, 1] (fun s t wr => ∃ x y : Nat, s = .int .i64 x ∧ t = .int .i64 y ∧ x < 9223372036854775808 ∧ y < 9223372036854775808 ∧ Nat.gcd x y = Nat.gcd a b ∧ ∃ n, wr = w.drewN n) (fun _ t _ => (intOf t).toNat)
  case atStart => exact ⟨a, b, rfl, rfl, ha, hb, rfl, 0, rfl⟩
  case round =>
    obtain ⟨x, y, rfl, rfl, hx, hy, hg, n, rfl⟩ := hrel
    have HG := Lib.hid hg
    clear hg
    by_cases h : 0 < y
    · have hm : x % y < y := Nat.mod_lt _ h
      go_wp2
      go_quiet (fail)
      go_wp2
      go_roundw
      case rel => exact ⟨y, x % y, rfl, by go_num, hy, by omega, gcd_round h HG.out, n + nq, by simp [World.drewN, Nat.add_assoc]⟩
      case measure => simp [intOf]; omega
    · obtain rfl : y = 0 := by omega
      go_wp2
      go_ret
      exact ⟨ret_int (by rw [← HG.out, Nat.gcd_zero_right]), n, rfl⟩

theorem vB_false {n d : Int} (h : ¬ vP n d) : vB n d = false := decide_eq_false h

set_option maxRecDepth 100000 in
theorem valid_any (n d : Int) (w : World) (n0 : -9223372036854775808 ≤ n) (n1 : n ≤ 9223372036854775807) (d0 : -9223372036854775808 ≤ d) (d1 : d ≤ 9223372036854775807) :
    Calls Try.prog 48 #[.agg #[.int .i64 n, .int .i64 d]] w fun e w' => e = .returned (.bool (vB n d)) ∧ Below w.heap.size w w' := by
  by_cases h1 : 1 ≤ d
  · by_cases h2 : d ≤ 4611686018427387904
    · by_cases h3 : -4611686018427387904 ≤ n
      · by_cases h4 : n ≤ 4611686018427387904
        · have t1 : decide (1 ≤ d) = true := decide_eq_true h1
          have t2 : decide (d ≤ 4611686018427387904) = true := decide_eq_true h2
          have t3 : decide (-4611686018427387904 ≤ n) = true := decide_eq_true h3
          have t4 : decide (n ≤ 4611686018427387904) = true := decide_eq_true h4
          have HV := Lib.hid (show vB n d = (((Nat.gcd n.natAbs d.natAbs : Nat) : Int) == 1) by
            rw [Bool.eq_iff_iff]
            simp only [vB, decide_eq_true_eq, beq_iff_eq]
            exact ⟨fun h => by have := h.2.2.2.2; omega, fun h => ⟨h1, h2, h3, h4, by omega⟩⟩)
          go_enter Try.func48, Try.ntmps48
          go_wp2
          go_quiet ((first | (go_at_call 70; exact Calls.quiet_of_same ((size_any _ _ (by omega) (by omega)).mono fun _ _ ⟨he, hw⟩ => ⟨he, hw.symm⟩)) | (go_at_call 69; exact Calls.quiet_of (gcdu_any _ _ _ (by omega) (by omega)))))
          go_wp2
          go_ret
          exact ⟨ret_bool (by rw [HV.out]), below_draw ((Below.refl _ w).alloc (Nat.le_refl _) _) nq⟩
        · have t1 : decide (1 ≤ d) = true := decide_eq_true h1
          have t2 : decide (d ≤ 4611686018427387904) = true := decide_eq_true h2
          have t3 : decide (-4611686018427387904 ≤ n) = true := decide_eq_true h3
          have t4 : decide (n ≤ 4611686018427387904) = false := decide_eq_false h4
          have HV := Lib.hid (vB_false (n := n) (d := d) fun h => h4 h.2.2.2.1)
          clear h4
          go_enter Try.func48, Try.ntmps48
          go_wp2
          go_quiet (fail)
          go_wp2
          go_ret
          exact ⟨ret_bool (by rw [HV.out]), below_draw ((Below.refl _ w).alloc (Nat.le_refl _) _) _⟩
      · have t1 : decide (1 ≤ d) = true := decide_eq_true h1
        have t2 : decide (d ≤ 4611686018427387904) = true := decide_eq_true h2
        have t3 : decide (-4611686018427387904 ≤ n) = false := decide_eq_false h3
        have HV := Lib.hid (vB_false (n := n) (d := d) fun h => h3 h.2.2.1)
        clear h3
        go_enter Try.func48, Try.ntmps48
        go_wp2
        go_quiet (fail)
        go_wp2
        go_ret
        exact ⟨ret_bool (by rw [HV.out]), below_draw ((Below.refl _ w).alloc (Nat.le_refl _) _) _⟩
    · have t1 : decide (1 ≤ d) = true := decide_eq_true h1
      have t2 : decide (d ≤ 4611686018427387904) = false := decide_eq_false h2
      have HV := Lib.hid (vB_false (n := n) (d := d) fun h => h2 h.2.1)
      clear h2
      go_enter Try.func48, Try.ntmps48
      go_wp2
      go_quiet (fail)
      go_wp2
      go_ret
      exact ⟨ret_bool (by rw [HV.out]), below_draw ((Below.refl _ w).alloc (Nat.le_refl _) _) _⟩
  · have t1 : decide (1 ≤ d) = false := decide_eq_false h1
    have HV := Lib.hid (vB_false (n := n) (d := d) fun h => h1 h.1)
    clear h1
    go_enter Try.func48, Try.ntmps48
    go_wp2
    go_quiet (fail)
    go_wp2
    go_ret
    exact ⟨ret_bool (by rw [HV.out]), below_draw ((Below.refl _ w).alloc (Nat.le_refl _) _) _⟩
end Go.Proofs.Yteppamchbgnlfaa
