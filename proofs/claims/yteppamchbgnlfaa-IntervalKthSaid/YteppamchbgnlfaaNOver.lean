/- The reference's quotient of two numbers below 2^250, the second not 0. Conditions: as said. -/
import Derived.Test.YteppamchbgnlfaaGcd
namespace Go.Proofs.Yteppamchbgnlfaa
open Go.RowKit

/-- The blocks of a call of over: the number, what it is divided by, the step. -/
def OS (w W : World) (z a b s : Nat) : Prop :=
  NB W w.heap.size (limbs a) ∧ NB W (w.heap.size + 1) (limbs b) ∧ NB W z (limbs s) ∧ w.heap.size + 1 < z ∧ z < W.heap.size ∧ Below w.heap.size w W
section
variable {w W W' : World} {z a b s : Nat}
theorem OS.call (h : OS w W z a b s) (hb : Below W.heap.size W W') : OS w W' z a b s := by
  obtain ⟨h1, h2, h4, h5, h6, h7⟩ := h
  exact ⟨h1.below hb (by omega), h2.below hb (by omega), h4.below hb h6, h5, Nat.lt_of_lt_of_le h6 hb.size, h7.trans (hb.mono h7.size)⟩
theorem OS.setA (h : OS w W z a b s) (n : Nat) : OS w (set8 W w.heap.size n) z n b s := by
  obtain ⟨h1, h2, h4, h5, h6, h7⟩ := h
  exact ⟨h1.store8 n, h2.far8 (by omega) n, h4.far8 (by omega) n, h5, by rw [size_set8]; exact h6, below_set8 h7 (Nat.le_refl _) n⟩
theorem OS.setS (h : OS w W z a b s) (n : Nat) : OS w (set8 W z n) z a b n := by
  obtain ⟨h1, h2, h4, h5, h6, h7⟩ := h
  exact ⟨h1.far8 (by omega) n, h2.far8 (by omega) n, h4.store8 n, h5, by rw [size_set8]; exact h6, below_set8 h7 (by omega) n⟩
end
theorem pow_step {b i : Nat} : b * 2 ^ (i + 1) = b * 2 ^ i + b * 2 ^ i := by rw [Nat.pow_succ, ← Nat.mul_assoc]; omega
/-- What lies below 2^250 can be doubled. -/
def W250 : Nat := 2 ^ 250
theorem w250 : W250 + W250 < W8 := by decide

set_option maxRecDepth 100000 in
set_option maxHeartbeats 4000000 in
theorem nover_any (a b : Nat) (w : World) (ha : a < W250) (hb : b < W250) (hb0 : 0 < b) :
    Calls Try.prog 88 #[NV a, NV b] w fun e w' => (∃ n : Nat, ∃ t : Bool, e = .returned (.tuple #[.int .u64 n, .bool t]) ∧ (t = true ∧ n = a / b ∧ n < 18446744073709551616 ∨ t = false ∧ 18446744073709551616 ≤ a / b)) ∧ Below w.heap.size w w' := by
  have Ha := Lib.hid ha
  have Hb := Lib.hid hb
  have H8 := Lib.hid w250
  clear ha hb
  unfold NV
  go_enter Try.func88, Try.ntmps88
  go_wp2
  go_loopw [7] (fun t wr => ∃ i : Nat, i ≤ 65 ∧ t = .int .i64 i ∧ OS w wr (w.heap.size + 1 + 1) a b (b * 2 ^ i) ∧ (∀ j, j < i → b * 2 ^ j ≤ a)) (fun t _ => 65 - (intOf t).toNat)
  case atStart =>
    refine ⟨0, by omega, rfl, ?_, fun j hj => by omega⟩
    rw [Nat.pow_zero, Nat.mul_one]
    refine ⟨((NB.new w a).alloc _).alloc _, ?_, ?_, by omega, by simp, (((Below.refl _ w).alloc (Nat.le_refl _) _).alloc (by simp) _).alloc (by simp; omega) _⟩
    · have := ((NB.new (w.alloc (.cells (nats (limbs a)).toArray 66)) b).alloc (.cells (nats (limbs b)).toArray 66))
      rw [World.size_alloc] at this
      exact this
    · have := (NB.new ((w.alloc (.cells (nats (limbs a)).toArray 66)).alloc (.cells (nats (limbs b)).toArray 66)) b)
      rw [World.size_alloc, World.size_alloc] at this
      exact this
  case round =>
    obtain ⟨i, hi, rfl, hG, hall⟩ := hrel
    have HALL := Lib.hid hall
    have HG := Lib.hid hG
    obtain ⟨a0, a1, a2, a3, a4, a5, a6, a7⟩ := hG.1.cells
    obtain ⟨s0, s1, s2, s3, s4, s5, s6, s7⟩ := hG.2.2.1.cells
    have hbd : b * 2 ^ i < W8 := by
      rcases i with _ | i
      · have := Hb.out; have := H8.out; simp; omega
      · have := hall i (by omega)
        rw [pow_step]
        have := Ha.out; have := H8.out; omega
    obtain ⟨x, hx⟩ : ∃ x, b * 2 ^ i = x := ⟨_, rfl⟩
    rw [hx] at s0 s1 s2 s3 s4 s5 s6 s7 hbd
    have HX := Lib.hid hx
    have HBD := Lib.hid hbd
    clear hG hall hx hbd
    by_cases hle : x ≤ a
    · go_wp2_with fail
      refine (nless_any x a _ HBD.out (by have := Ha.out; have := H8.out; omega)).mono ?_
      rintro e W1 ⟨rfl, hB⟩
      have hc := cmpN_le.2 hle
      generalize cmpN x a = c at hc
      have hG := HG.out.call hB
      have HG1 := Lib.hid hG
      obtain ⟨s0, s1, s2, s3, s4, s5, s6, s7⟩ := hG.2.2.1.cells
      have hfs := hG.2.2.1.frozen
      rw [HX.out] at s0 s1 s2 s3 s4 s5 s6 s7
      clear hG hB
      by_cases h65 : i < 65
      · go_wp2_with fail
        refine (nplus_any x x _ HBD.out HBD.out (by have := Ha.out; have := H8.out; omega)).mono ?_
        rintro e W2 ⟨rfl, hB⟩
        unfold NV
        have hG := HG1.out.call hB
        obtain ⟨s0, s1, s2, s3, s4, s5, s6, s7⟩ := hG.2.2.1.cells
        have hfs := hG.2.2.1.frozen
        have HG2 := Lib.hid (hG.setS (x + x))
        clear hG hB
        go_wp2
        go_roundw
        case rel =>
          refine ⟨i + 1, by omega, by go_num, by rw [pow_step, HX.out]; exact HG2.out, fun j hj => ?_⟩
          rcases Nat.lt_or_ge j i with h | h
          · exact HALL.out j h
          · obtain rfl : j = i := by omega
            rw [HX.out]; exact hle
        case measure => simp [intOf]; omega
      · obtain rfl : i = 65 := by omega
        have hlim : 18446744073709551616 ≤ a / b := by
          have := HALL.out 64 (by omega)
          rw [Nat.le_div_iff_mul_le hb0, Nat.mul_comm]
          exact this
        have HL := Lib.hid hlim
        clear hlim
        go_wp2
        go_ret2
        exact ⟨⟨0, false, rfl, .inr ⟨rfl, HL.out⟩⟩, HG1.out.2.2.2.2.2⟩
    · have hc := cmpN_gt (a := x) (b := a) (by omega)
      have HGT := Lib.hid (show a < x by omega)
      go_wp2_with fail
      refine (nless_any x a _ HBD.out (by have := Ha.out; have := H8.out; omega)).mono ?_
      rintro e W1 ⟨rfl, hB⟩
      rw [hc]
      have HG1 := Lib.hid (HG.out.call hB)
      clear hB hc hle s0 s1 s2 s3 s4 s5 s6 s7 a0 a1 a2 a3 a4 a5 a6 a7
      by_cases h65 : i = 65
      · have hlim : 18446744073709551616 ≤ a / b := by
          have := HALL.out 64 (by omega)
          rw [Nat.le_div_iff_mul_le hb0, Nat.mul_comm]
          exact this
        have HL := Lib.hid hlim
        have hi2 : 64 < i := by omega
        clear hlim h65
        go_wp2
        go_ret2
        exact ⟨⟨0, false, rfl, .inr ⟨rfl, HL.out⟩⟩, HG1.out.2.2.2.2.2⟩
      · have hi2 : i ≤ 64 := by omega
        clear h65
        go_wp2
        go_loopw [8, 9] (fun u t wr => ∃ j m n r : Nat, j + m = i ∧ t = .int .i64 j ∧ u = .int .u64 n ∧ OS w wr (w.heap.size + 1 + 1) r b (b * 2 ^ m) ∧ r < b * 2 ^ m ∧ n * (b * 2 ^ m) + r = a ∧ n < 2 ^ j) (fun _ t _ => i - (intOf t).toNat)
        case atStart => exact ⟨0, i, 0, a, by omega, rfl, rfl, HG1.out, by rw [HX.out]; exact HGT.out, by omega, by omega⟩
        case round =>
          obtain ⟨j, m, n, r, hjm, rfl, rfl, hG, hr, hn, hnj⟩ := hrel
          have HG := Lib.hid hG
          have HN := Lib.hid hn
          have HNJ := Lib.hid hnj
          have HJM := Lib.hid hjm
          have HRB := Lib.hid hr
          rcases m with _ | m
          · have HB0 := Lib.hid hr
            have hij : ¬ j < i := by omega
            clear hG hn hnj hjm hr
            have hnb : n * b + r = a ∧ r < b := by
              have h1 := HN.out
              have h2 := HB0.out
              rw [Nat.pow_zero, Nat.mul_one] at h1 h2
              exact ⟨h1, h2⟩
            have hq : n = a / b := by
              rw [← hnb.1, Nat.add_comm, Nat.add_mul_div_right _ _ hb0, Nat.div_eq_of_lt hnb.2, Nat.zero_add]
            have HQ := Lib.hid hq
            clear hnb hq
            go_wp2
            go_ret2
            refine ⟨⟨n, true, rfl, .inl ⟨rfl, HQ.out, ?_⟩⟩, HG.out.2.2.2.2.2⟩
            have h1 := HNJ.out
            have h2 : 2 ^ j ≤ 2 ^ 64 := Nat.pow_le_pow_right (by omega) (by have := HJM.out; omega)
            omega
          · obtain ⟨y, hy⟩ : ∃ y, b * 2 ^ m = y := ⟨_, rfl⟩
            have hyy : b * 2 ^ (m + 1) = y + y := by rw [pow_step, hy]
            have HY := Lib.hid hy
            obtain ⟨z0, z1, z2, z3, z4, z5, z6, z7⟩ := hG.2.2.1.cells
            have hfz := hG.2.2.1.frozen
            rw [hyy] at z0 z1 z2 z3 z4 z5 z6 z7 hr hn
            have hij : j < i := by omega
            have hra : r ≤ a := by omega
            have hjj : 2 ^ (j + 1) ≤ 2 ^ 64 := Nat.pow_le_pow_right (by omega) (by omega)
            have hpj : 2 ^ (j + 1) = 2 ^ j + 2 ^ j := by rw [Nat.pow_succ]; omega
            have hn2 : n < 9223372036854775808 := by omega
            have hy0 : y + y ≤ x := by
              rw [← hyy, ← HX.out]
              exact Nat.mul_le_mul_left _ (Nat.pow_le_pow_right (by omega) (by omega))
            have hyb : y + y < W8 := by have := HBD.out; omega
            have HYB := Lib.hid hyb
            have HYY := Lib.hid hyy
            have HR := Lib.hid hr
            have HN2 := Lib.hid hn
            have HJJ := Lib.hid hpj
            clear hG hn hnj hjm hr hy hyy hyb hy0 hpj hjj
            have hra2 := Lib.hid hra
            clear hra
            go_wp2_with fail
            refine (nhalf_any (y + y) _ HYB.out).mono ?_
            rintro e W2 ⟨rfl, hB⟩
            rw [show (y + y) / 2 = y by omega]
            unfold NV
            have hG := HG.out.call hB
            obtain ⟨z0, z1, z2, z3, z4, z5, z6, z7⟩ := hG.2.2.1.cells
            have hfz := hG.2.2.1.frozen
            have hG3 := hG.setS y
            obtain ⟨r0, r1, r2, r3, r4, r5, r6, r7⟩ := hG.1.cells
            have HG3 := Lib.hid hG3
            have hlt2 : w.heap.size ≠ w.heap.size + 1 + 1 := by omega
            clear hG hG3 hB
            go_wp2_with fail
            refine (nless_any y r _ (by have := HYB.out; omega) (by have := Ha.out; have := H8.out; have := hra2.out; omega)).mono ?_
            rintro e W3 ⟨rfl, hB⟩
            have hG4 := HG3.out.call hB
            have HG4 := Lib.hid hG4
            by_cases hle : y ≤ r
            · have hc := cmpN_le.2 hle
              generalize cmpN y r = c at hc
              obtain ⟨r0, r1, r2, r3, r4, r5, r6, r7⟩ := hG4.1.cells
              have hfr := hG4.1.frozen
              obtain ⟨z0, z1, z2, z3, z4, z5, z6, z7⟩ := hG4.2.2.1.cells
              clear hG4 hB
              go_wp2_with fail
              refine (nminus_any r y _ (by have := Ha.out; have := H8.out; have := hra2.out; omega) (by have := HYB.out; omega) hle).mono ?_
              rintro e W4 ⟨rfl, hB⟩
              unfold NV
              have hG5 := HG4.out.call hB
              obtain ⟨r0, r1, r2, r3, r4, r5, r6, r7⟩ := hG5.1.cells
              have hfr := hG5.1.frozen
              have HG6 := Lib.hid (hG5.setA (r - y))
              clear hG5 hB
              go_wp2
              go_roundw
              case rel =>
                refine ⟨j + 1, m, 2 * n + 1, r - y, by have := HJM.out; omega, by go_num, by go_num, by rw [HY.out]; exact HG6.out, by rw [HY.out]; have := HR.out; omega, ?_, by have := HNJ.out; have := HJJ.out; omega⟩
                rw [HY.out]
                have h1 := HN2.out
                rw [Nat.mul_add] at h1
                rw [Nat.add_mul, Nat.mul_assoc]
                omega
              case measure => simp [intOf]; omega
            · have hc := cmpN_gt (a := y) (b := r) (by omega)
              rw [hc]
              clear hc hG4 hB
              go_wp2
              go_roundw
              case rel =>
                refine ⟨j + 1, m, 2 * n, r, by have := HJM.out; omega, by go_num, by go_num, by rw [HY.out]; exact HG4.out, by rw [HY.out]; omega, ?_, by have := HNJ.out; have := HJJ.out; omega⟩
                rw [HY.out]
                have h1 := HN2.out
                rw [Nat.mul_add] at h1
                rw [Nat.mul_assoc]
                omega
              case measure => simp [intOf]; omega
end Go.Proofs.Yteppamchbgnlfaa
