/- The reference's lowest: a fraction of two numbers below 2^250 with a sign. Conditions: the denominator is not 0. -/
import Derived.Test.YteppamchbgnlfaaGcd0
import Derived.Test.YteppamchbgnlfaaNOver
import Derived.Test.YteppamchbgnlfaaRefS
namespace Go.Proofs.Yteppamchbgnlfaa
open Go.RowKit

set_option maxRecDepth 100000 in
set_option maxHeartbeats 2000000 in
theorem rlowest_any (s : Bool) (N D : Nat) (w : World) (hN : N < W250) (hD : D < W250) (hD0 : 0 < D) :
    Calls Try.prog 66 #[.bool s, NV N, NV D] w fun e w' => e = .returned (RV (lowR s N D)) ∧ Below w.heap.size w w' := by
  have HN := Lib.hid hN
  have HD := Lib.hid hD
  have H8 := Lib.hid w250
  clear hN hD
  unfold NV
  go_enter Try.func66, Try.ntmps66
  go_wp2_with fail
  refine (ngcd_any N D _ (by have := HN.out; have := H8.out; omega) (by have := HD.out; have := H8.out; omega) hD0).mono ?_
  rintro e w1 ⟨rfl, hB1⟩
  unfold NV
  obtain ⟨g, hg⟩ : ∃ g, Nat.gcd N D = g := ⟨_, rfl⟩
  have hg0 : 0 < g := by rw [← hg]; exact Nat.gcd_pos_of_pos_right _ hD0
  have hgD : g ≤ D := by rw [← hg]; exact Nat.gcd_le_right _ hD0
  rw [hg]
  have HG := Lib.hid hg
  clear hg
  have hs1 : w.heap.size + 1 + 1 + 1 ≤ w1.heap.size := by have := hB1.size; simpa using this
  have hz0 : w.heap.size < w1.heap.size := by omega
  have hz1 : w.heap.size + 1 < w1.heap.size := by omega
  have hz2 : w.heap.size + 1 + 1 < w1.heap.size := by omega
  have hcN : NB w1 w.heap.size (limbs N) := ((((NB.new w N).alloc _).alloc _)).below hB1 (by simp; omega)
  have hcD : NB w1 (w.heap.size + 1) (limbs D) := by
    have := ((NB.new (w.alloc (.cells (nats (limbs N)).toArray 66)) D).alloc (.cells #[.int .i64 0, .int .i64 0] 23))
    rw [World.size_alloc] at this
    exact this.below hB1 (by simp)
  have hcr : Blk w1 (w.heap.size + 1 + 1) 23 #[.int .i64 0, .int .i64 0] := by
    have := (Blk.new ((w.alloc (.cells (nats (limbs N)).toArray 66)).alloc (.cells (nats (limbs D)).toArray 66)) 23 #[.int .i64 0, .int .i64 0])
    rw [World.size_alloc, World.size_alloc] at this
    exact this.below hB1 (by simp)
  have hB2 : Below w.heap.size w w1 := ((((Below.refl _ w).alloc (Nat.le_refl _) _).alloc (by simp) _).alloc (by simp; omega) _).trans (hB1.mono (by simp; omega))
  obtain ⟨c0, c1, c2, c3, c4, c5, c6, c7⟩ := hcN.cells
  have HCN := Lib.hid hcN
  have HCD := Lib.hid hcD
  have HCR := Lib.hid hcr
  clear hcN hcD hcr hB1
  go_wp2_with fail
  refine (nover_any N g _ HN.out (by have := HD.out; omega) hg0).mono ?_
  rintro e w2 ⟨⟨n, t, rfl, hnt⟩, hB⟩
  have HNT := Lib.hid hnt
  clear hnt
  have hs2 : w1.heap.size + 1 ≤ w2.heap.size := by have := hB.size; simpa using this
  have hcD2 := (HCD.out.alloc _).below hB (by simp; omega)
  have hcG2 := (NB.new w1 g).below hB (by simp)
  have HR2 := Lib.hid ((HCR.out.alloc _).below hB (by simp; omega))
  have hB3 := (hB2.alloc (by omega) _).trans (hB.mono (by simp; omega))
  obtain ⟨d0, d1, d2, d3, d4, d5, d6, d7⟩ := hcD2.cells
  obtain ⟨g0, g1, g2, g3, g4, g5, g6, g7⟩ := hcG2.cells
  clear c0 c1 c2 c3 c4 c5 c6 c7 hB hB2 hcD2 hcG2
  go_wp2_with fail
  refine (nover_any D g _ HD.out (by have := HD.out; omega) hg0).mono ?_
  rintro e w3 ⟨⟨m, u, rfl, hmu⟩, hB⟩
  have HMU := Lib.hid hmu
  clear hmu
  have hR3 := HR2.out.below hB (by omega)
  have hB4 := hB3.trans (hB.mono hB3.size)
  have q0 := hR3.cell 0
  have q1 := hR3.cell 1
  have qf := hR3.frozen
  simp at q0 q1
  have HR3 := Lib.hid hR3
  clear hB hR3 hB3 d0 d1 d2 d3 d4 d5 d6 d7 g0 g1 g2 g3 g4 g5 g6 g7
  have hlow : lowR s N D = if t = true ∧ u = true ∧ n ≤ 4611686018427387904 ∧ m ≤ 4611686018427387904 then ((if s then -(n : Int) else (n : Int)), (m : Int), 0) else (0, 0, 5) := by
    unfold lowR
    rw [HG.out]
    rcases HNT.out with ⟨h1, h2, h3⟩ | ⟨h1, h2⟩
    · rcases HMU.out with ⟨k1, k2, k3⟩ | ⟨k1, k2⟩
      · rw [h1, k1, h2, k2]
        simp
      · rw [k1, if_neg (by omega)]
        simp
    · rw [h1, if_neg (by omega)]
      simp
  have HL := Lib.hid hlow
  clear hlow
  have hend : ∀ (W : World) (a b e : Int), lowR s N D = (a, b, e) → W = W → True := fun _ _ _ _ _ _ => trivial
  clear hend
  by_cases hok : t = true ∧ u = true ∧ n ≤ 4611686018427387904 ∧ m ≤ 4611686018427387904
  · have HL2 := Lib.hid (HL.out.trans (if_pos hok))
    obtain ⟨rfl, rfl, hn, hm⟩ := hok
    have hn2 : decide ((4611686018427387904 : Int) < (n : Int)) = false := decide_eq_false (by omega)
    have hm2 : decide ((4611686018427387904 : Int) < (m : Int)) = false := decide_eq_false (by omega)
    cases s
    · go_wp2
      exact ret_frac (p := 6) (q := 7) (by kernel_rfl) rfl rfl ((HR3.out.put 0 _).put 1 _) ⟨by rw [HL2.out]; rfl, (hB4.setCell (by simp; omega) _).setCell (by simp; omega) _⟩
    · go_wp2
      exact ret_frac (p := 6) (q := 7) (by kernel_rfl) rfl rfl ((HR3.out.put 0 _).put 1 _) ⟨by rw [HL2.out]; rfl, (hB4.setCell (by simp; omega) _).setCell (by simp; omega) _⟩
  · have HL2 := Lib.hid (HL.out.trans (if_neg hok))
    have hway : t = false ∨ (t = true ∧ u = false) ∨ (t = true ∧ u = true ∧ decide ((4611686018427387904 : Int) < (n : Int)) = true) ∨ (t = true ∧ u = true ∧ decide ((4611686018427387904 : Int) < (n : Int)) = false ∧ decide ((4611686018427387904 : Int) < (m : Int)) = true) := by
      cases t
      · exact .inl rfl
      · cases u
        · exact .inr (.inl ⟨rfl, rfl⟩)
        · rcases Nat.lt_or_ge 4611686018427387904 n with h | h
          · exact .inr (.inr (.inl ⟨rfl, rfl, decide_eq_true (by omega)⟩))
          · exact .inr (.inr (.inr ⟨rfl, rfl, decide_eq_false (by omega), decide_eq_true (by
              rcases Nat.lt_or_ge 4611686018427387904 m with h' | h'
              · omega
              · exact absurd ⟨rfl, rfl, h, h'⟩ hok)⟩))
    clear hok HL
    rcases hway with rfl | ⟨rfl, rfl⟩ | ⟨rfl, rfl, hn2⟩ | ⟨rfl, rfl, hn2, hm2⟩
    all_goals
      go_wp2
      exact ret_frac (p := 6) (q := 7) (by kernel_rfl) rfl rfl ((HR3.out.put 0 _).put 1 _) ⟨by rw [HL2.out], (hB4.setCell (by simp; omega) _).setCell (by simp; omega) _⟩
end Go.Proofs.Yteppamchbgnlfaa
