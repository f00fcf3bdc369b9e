/- The reference's Inner: a fraction in a small interval. Conditions: ends of bounded size; numbers of 64 bits. -/
import Derived.Test.YtkdbffhmnkkbcaaSmall
namespace Go.Proofs.Ytkdbffhmnkkbcaa
open Go.RowKit

theorem eighth_sm : Sm 1 8 1 8 := ⟨by decide, by decide, by decide⟩
theorem rv_eighth : rv 1 8 = 1 / 8 := by unfold rv; rfl
theorem whole_sm {n : Int} (h0 : 0 ≤ n) (h1 : n ≤ 8) : Sm 8 1 n 1 := ⟨⟨by omega, by omega, by omega, by omega, Nat.gcd_one_right _⟩, by omega, by decide⟩
theorem rv_whole (n : Int) : rv n 1 = (n : Rat) := by unfold rv; rw [Rat.intCast_one]; grind
theorem eighths {lo hi z : Rat} {n : Int} (h : lo ≤ hi) (h0 : 0 ≤ n) (h1 : n ≤ 8) (hz : z = lo + (hi - lo) * (1 / 8) * (n : Rat)) : lo ≤ z ∧ z ≤ hi := by
  have hn : n = 0 ∨ n = 1 ∨ n = 2 ∨ n = 3 ∨ n = 4 ∨ n = 5 ∨ n = 6 ∨ n = 7 ∨ n = 8 := by omega
  rcases hn with rfl | rfl | rfl | rfl | rfl | rfl | rfl | rfl | rfl <;> (simp at hz; grind)
theorem inner_vals {A B : Nat} {a b c d n : Int} (hx : SmI A B a b c d) (h0 : 0 ≤ n) (h1 : n ≤ 8) (k1 : A * B + A * B ≤ 4611686018427387904) (k2 : B * B ≤ 4611686018427387904) (k3 : (A * B + A * B) * 1 ≤ 4611686018427387904) (k4 : B * B * 8 ≤ 4611686018427387904) (k5 : (A * B + A * B) * 1 * 8 ≤ 4611686018427387904) (k6 : B * B * 8 * 1 ≤ 4611686018427387904)
    (k7 : A * (B * B * 8 * 1) + (A * B + A * B) * 1 * 8 * B ≤ 4611686018427387904) (k8 : B * (B * B * 8 * 1) ≤ 4611686018427387904) :
    ∃ w1 w2 p1 p2 q1 q2 z1 z2, subR c d a b = (w1, w2, 0) ∧ vP w1 w2 ∧ mulR w1 w2 1 8 = (p1, p2, 0) ∧ vP p1 p2 ∧ mulR p1 p2 n 1 = (q1, q2, 0) ∧ vP q1 q2 ∧ addR a b q1 q2 = (z1, z2, 0) ∧
      Sm (A * (B * B * 8 * 1) + (A * B + A * B) * 1 * 8 * B) (B * (B * B * 8 * 1)) z1 z2 ∧ rv a b ≤ rv z1 z2 ∧ rv z1 z2 ≤ rv c d := by
  obtain ⟨w1, w2, e1, s1, v1⟩ := sub_sm hx.2.1 hx.1 k1 k2
  obtain ⟨p1, p2, e2, s2, v2⟩ := mul_sm s1 eighth_sm k3 k4
  obtain ⟨q1, q2, e3, s3, v3⟩ := mul_sm s2 (whole_sm h0 h1) k5 k6
  obtain ⟨z1, z2, e4, s4, v4⟩ := add_sm hx.1 s3 k7 k8
  rw [v3, v2, v1, rv_eighth, rv_whole] at v4
  exact ⟨w1, w2, p1, p2, q1, q2, z1, z2, e1, s1.1, e2, s2.1, e3, s3.1, e4, s4, eighths hx.2.2 h0 h1 v4⟩

set_option maxRecDepth 100000 in
set_option maxHeartbeats 8000000 in
theorem inner_any {A B : Nat} {a b c d : Int} (t : Int) (hx : SmI A B a b c d) (t0 : -9223372036854775808 ≤ t ∧ t ≤ 9223372036854775807) (k1 : A * B + A * B ≤ 4611686018427387904) (k2 : B * B ≤ 4611686018427387904) (k3 : (A * B + A * B) * 1 ≤ 4611686018427387904) (k4 : B * B * 8 ≤ 4611686018427387904) (k5 : (A * B + A * B) * 1 * 8 ≤ 4611686018427387904) (k6 : B * B * 8 * 1 ≤ 4611686018427387904)
    (k7 : A * (B * B * 8 * 1) + (A * B + A * B) * 1 * 8 * B ≤ 4611686018427387904) (k8 : B * (B * B * 8 * 1) ≤ 4611686018427387904) :
    ∃ z1 z2 : Int, (Sm (A * (B * B * 8 * 1) + (A * B + A * B) * 1 * 8 * B) (B * (B * B * 8 * 1)) z1 z2 ∧ rv a b ≤ rv z1 z2 ∧ rv z1 z2 ≤ rv c d) ∧
      ∀ w, Calls Try.prog 43 #[.agg #[.int .i64 a, .int .i64 b, .int .i64 c, .int .i64 d], .int .i64 t] w fun e w' => e = .returned (.agg #[.int .i64 z1, .int .i64 z2]) ∧ Below w.heap.size w w' := by
  have AR := Lib.hid (fun W => around_any t 9 W t0.1 t0.2 (by decide) (by decide))
  have n0 := aroundI_lo t 9 (by decide)
  have n1 := aroundI_hi t 9 (by decide)
  obtain ⟨n, hn⟩ : ∃ n, aroundI t 9 = n := ⟨_, rfl⟩
  rw [hn] at AR n0 n1
  obtain ⟨w1, w2, p1, p2, q1, q2, z1, z2, e1, v1, e2, v2, e3, v3, e4, hz⟩ := inner_vals hx n0 (by omega) k1 k2 k3 k4 k5 k6 k7 k8
  have SU := rsub_w hx.2.1.1.w2 hx.1.1.w2
  have MU := rmul_w v1.w2 (show W2 1 8 by unfold W2; decide)
  have MV := rmul_w v2.w2 (show W2 n 1 by unfold W2; omega)
  have AD := radd_w hx.1.1.w2 v3.w2
  rw [e1] at SU
  rw [e2] at MU
  rw [e3] at MV
  rw [e4] at AD
  unfold RV at SU MU MV AD
  simp only at SU MU MV AD
  replace SU := Lib.hid SU
  replace MU := Lib.hid MU
  replace MV := Lib.hid MV
  replace AD := Lib.hid AD
  refine ⟨z1, z2, hz, fun w => ?_⟩
  obtain ⟨hA, hR, hW⟩ := start2 w 25 #[.int .i64 a, .int .i64 b, .int .i64 c, .int .i64 d] 23 #[.int .i64 0, .int .i64 0]
  clear hx k1 k2 k3 k4 k5 k6 k7 k8 e1 e2 e3 e4 v1 v2 v3 hz hn t0
  go_enter Try.func43, Try.ntmps43
  go_wp2_with fail
  (with_reducible refine (SU.out _).mono ?_)
  rintro e u1 ⟨rfl, hb⟩
  replace hA := hA.below hb hA.lt
  replace hR := hR.below hb hR.lt
  replace hW := below_st hW hb
  have l1 := hA.lt
  have hP := Blk.new u1 23 #[.int .i64 w1, .int .i64 w2]
  replace hA := hA.alloc (.cells #[.int .i64 w1, .int .i64 w2] 23)
  replace hR := hR.alloc (.cells #[.int .i64 w1, .int .i64 w2] 23)
  replace hW := hW.alloc hW.size (.cells #[.int .i64 w1, .int .i64 w2] 23)
  clear hb SU
  go_wp2_with fail
  (with_reducible refine (MU.out _).mono ?_)
  rintro e u2 ⟨rfl, hb⟩
  replace hA := hA.below hb hA.lt
  replace hR := hR.below hb hR.lt
  replace hW := below_st hW hb
  have l2 := hA.lt
  have hP2 := Blk.new u2 23 #[.int .i64 p1, .int .i64 p2]
  replace hA := hA.alloc (.cells #[.int .i64 p1, .int .i64 p2] 23)
  replace hR := hR.alloc (.cells #[.int .i64 p1, .int .i64 p2] 23)
  replace hW := hW.alloc hW.size (.cells #[.int .i64 p1, .int .i64 p2] 23)
  clear hb MU hP
  go_wp2_with fail
  (with_reducible refine (AR.out _).mono ?_)
  rintro e u3 ⟨rfl, hu⟩
  rw [hu] at hA hR hW hP2
  have g1 := hP2.cell 0
  have g2 := hP2.cell 1
  have l3 := hP2.lt
  clear AR hu
  go_wp2_with fail
  (with_reducible refine (MV.out _).mono ?_)
  rintro e u4 ⟨rfl, hb⟩
  replace hA := hA.below hb hA.lt
  replace hR := hR.below hb hR.lt
  replace hW := below_st hW hb
  have a0 := hA.cell 0
  have a1 := hA.cell 1
  have l4 := hA.lt
  have hP3 := Blk.new u4 23 #[.int .i64 q1, .int .i64 q2]
  replace hA := hA.alloc (.cells #[.int .i64 q1, .int .i64 q2] 23)
  replace hR := hR.alloc (.cells #[.int .i64 q1, .int .i64 q2] 23)
  replace hW := hW.alloc hW.size (.cells #[.int .i64 q1, .int .i64 q2] 23)
  clear hb MV hP2 g1 g2 l3
  go_wp2_with fail
  (with_reducible refine (AD.out _).mono ?_)
  rintro e u5 ⟨rfl, hb⟩
  replace hR := hR.below hb hR.lt
  replace hW := below_st hW hb
  have r0 := hR.cell 0
  have r1 := hR.cell 1
  have fr := hR.frozen
  have l5 := hR.lt
  have hne : ¬ u5.heap.size = w.heap.size + 1 := by omega
  have HR := Lib.hid (And.intro hR hW)
  clear hb AD hP3 hA a0 a1 hR hW
  go_wp2
  have hfin := put2 HR.out.1 HR.out.2 (by omega) z1 z2
  exact ret_one (p := 4) (by kernel_rfl) rfl (hfin.1.alloc _) ⟨rfl, hfin.2.alloc hfin.2.size _⟩
end Go.Proofs.Ytkdbffhmnkkbcaa
