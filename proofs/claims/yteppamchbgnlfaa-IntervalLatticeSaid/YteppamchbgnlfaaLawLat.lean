/- The walk of IntervalLattice. Conditions: numbers of 64 bits. -/
import Derived.Test.YteppamchbgnlfaaIMeet
import Derived.Test.YteppamchbgnlfaaIMeet0
import Derived.Test.YteppamchbgnlfaaRMeet
import Derived.Test.YteppamchbgnlfaaRMeet0
import Derived.Test.YteppamchbgnlfaaRMin
import Derived.Test.YteppamchbgnlfaaRMax
import Derived.Test.YteppamchbgnlfaaLat0
import Derived.Test.YteppamchbgnlfaaMeetI
import Derived.Test.YteppamchbgnlfaaRin
import Derived.Test.YteppamchbgnlfaaLives4
namespace Go.Proofs.Yteppamchbgnlfaa
open Go.RowKit

theorem not_both {a b c d a' b' c' d' : Int} (hv : ¬ (vI a b c d ∧ vI a' b' c' d')) : (vIB a b c d && vIB a' b' c' d') = false := by
  unfold vIB
  by_cases p : vI a b c d
  · have q : ¬ vI a' b' c' d' := fun q => hv ⟨p, q⟩
    simp [q]
  · simp [p]
theorem lat_min {a b c d a' b' c' d' : Int} (h : W2 a b) (k : W2 c d) (h' : W2 a' b') (k' : W2 c' d') : ∃ m1 m2 m3 m4 : Int,
    (∀ w, Calls Try.prog 8 #[.agg #[.int .i64 a, .int .i64 b, .int .i64 c, .int .i64 d], .agg #[.int .i64 a', .int .i64 b', .int .i64 c', .int .i64 d']] w fun r w' => r = .returned (.agg #[.int .i64 m1, .int .i64 m2, .int .i64 m3, .int .i64 m4]) ∧ Below w.heap.size w w') ∧
    (∀ w, Calls Try.prog 9 #[.agg #[.int .i64 a, .int .i64 b, .int .i64 c, .int .i64 d], .agg #[.int .i64 a', .int .i64 b', .int .i64 c', .int .i64 d']] w fun r w' => r = .returned (.agg #[.int .i64 m1, .int .i64 m2, .int .i64 m3, .int .i64 m4]) ∧ Below w.heap.size w w') := by
  by_cases hv : vI a b c d ∧ vI a' b' c' d'
  · exact ⟨(minL [(a, b), (a', b')]).1, (minL [(a, b), (a', b')]).2, (minL [(c, d), (c', d')]).1, (minL [(c, d), (c', d')]).2, fun w => imin_w hv.1 hv.2 w, fun w => rmin_w hv.1 hv.2 w⟩
  · exact ⟨0, 0, 0, 0, fun w => imin_inv h k h' k' hv w, fun w => rmin_inv h k h' k' (not_both hv) w⟩
theorem lat_max {a b c d a' b' c' d' : Int} (h : W2 a b) (k : W2 c d) (h' : W2 a' b') (k' : W2 c' d') : ∃ m1 m2 m3 m4 : Int,
    (∀ w, Calls Try.prog 10 #[.agg #[.int .i64 a, .int .i64 b, .int .i64 c, .int .i64 d], .agg #[.int .i64 a', .int .i64 b', .int .i64 c', .int .i64 d']] w fun r w' => r = .returned (.agg #[.int .i64 m1, .int .i64 m2, .int .i64 m3, .int .i64 m4]) ∧ Below w.heap.size w w') ∧
    (∀ w, Calls Try.prog 11 #[.agg #[.int .i64 a, .int .i64 b, .int .i64 c, .int .i64 d], .agg #[.int .i64 a', .int .i64 b', .int .i64 c', .int .i64 d']] w fun r w' => r = .returned (.agg #[.int .i64 m1, .int .i64 m2, .int .i64 m3, .int .i64 m4]) ∧ Below w.heap.size w w') := by
  by_cases hv : vI a b c d ∧ vI a' b' c' d'
  · exact ⟨(maxL [(a, b), (a', b')]).1, (maxL [(a, b), (a', b')]).2, (maxL [(c, d), (c', d')]).1, (maxL [(c, d), (c', d')]).2, fun w => imax_w hv.1 hv.2 w, fun w => rmax_w hv.1 hv.2 w⟩
  · exact ⟨0, 0, 0, 0, fun w => imax_inv h k h' k' hv w, fun w => rmax_inv h k h' k' (not_both hv) w⟩
theorem hull_ends {a b c d a' b' c' d' : Int} (hx : vI a b c d) (hy : vI a' b' c' d') : minL [(a, b), (c, d), (a', b'), (c', d')] = minL [(a, b), (a', b')] ∧ maxL [(a, b), (c, d), (a', b'), (c', d')] = maxL [(c, d), (c', d')] := by
  have v4 : VL [(a, b), (c, d), (a', b'), (c', d')] := by
    intro x hm
    simp only [List.mem_cons, List.not_mem_nil, or_false] at hm
    rcases hm with rfl | rfl | rfl | rfl
    · exact hx.1.1
    · exact hx.1.2
    · exact hy.1.1
    · exact hy.1.2
  have vl : VL [(a, b), (a', b')] := vl_two hx.1.1 hy.1.1
  have vh : VL [(c, d), (c', d')] := vl_two hx.1.2 hy.1.2
  have m1 := minL_is (by simp) vl
  have m2 := maxL_is (by simp) vh
  have e1 : leF (a, b) (c, d) := hx.2
  have e2 : leF (a', b') (c', d') := hy.2
  constructor
  · refine IsMin.eq v4 (minL_is (by simp) v4) ⟨?_, fun y hm => ?_⟩
    · have := m1.1
      simp only [List.mem_cons, List.not_mem_nil, or_false] at this ⊢
      rcases this with q | q <;> simp [q]
    · have ha := m1.2 (a, b) (by simp)
      have ha' := m1.2 (a', b') (by simp)
      have hvm := vl _ m1.1
      simp only [List.mem_cons, List.not_mem_nil, or_false] at hm
      rcases hm with rfl | rfl | rfl | rfl
      · exact ha
      · exact leF_trans hvm hx.1.1 hx.1.2 ha e1
      · exact ha'
      · exact leF_trans hvm hy.1.1 hy.1.2 ha' e2
  · refine IsMax.eq v4 (maxL_is (by simp) v4) ⟨?_, fun y hm => ?_⟩
    · have := m2.1
      simp only [List.mem_cons, List.not_mem_nil, or_false] at this ⊢
      rcases this with q | q <;> simp [q]
    · have hc := m2.2 (c, d) (by simp)
      have hc' := m2.2 (c', d') (by simp)
      have hvm := vh _ m2.1
      simp only [List.mem_cons, List.not_mem_nil, or_false] at hm
      rcases hm with rfl | rfl | rfl | rfl
      · exact leF_trans hx.1.1 hx.1.2 hvm e1 hc
      · exact hc
      · exact leF_trans hy.1.1 hy.1.2 hvm e2 hc'
      · exact hc'
theorem lat_hull {a b c d a' b' c' d' : Int} (h : W2 a b) (k : W2 c d) (h' : W2 a' b') (k' : W2 c' d') : ∃ m1 m2 m3 m4 : Int,
    (∀ w, Calls Try.prog 12 #[.agg #[.int .i64 a, .int .i64 b, .int .i64 c, .int .i64 d], .agg #[.int .i64 a', .int .i64 b', .int .i64 c', .int .i64 d']] w fun r w' => r = .returned (.agg #[.int .i64 m1, .int .i64 m2, .int .i64 m3, .int .i64 m4]) ∧ Below w.heap.size w w') ∧
    (∀ w, Calls Try.prog 13 #[.agg #[.int .i64 a, .int .i64 b, .int .i64 c, .int .i64 d], .agg #[.int .i64 a', .int .i64 b', .int .i64 c', .int .i64 d']] w fun r w' => r = .returned (.agg #[.int .i64 m1, .int .i64 m2, .int .i64 m3, .int .i64 m4]) ∧ Below w.heap.size w w') := by
  by_cases hv : vI a b c d ∧ vI a' b' c' d'
  · refine ⟨(minL [(a, b), (a', b')]).1, (minL [(a, b), (a', b')]).2, (maxL [(c, d), (c', d')]).1, (maxL [(c, d), (c', d')]).2, fun w => ihull_w hv.1 hv.2 w, fun w => ?_⟩
    have j := rhull_w hv.1 hv.2 w
    rw [(hull_ends hv.1 hv.2).1, (hull_ends hv.1 hv.2).2] at j
    exact j
  · exact ⟨0, 0, 0, 0, fun w => ihull_inv h k h' k' hv w, fun w => rhull_inv h k h' k' (not_both hv) w⟩
theorem lat_meet {a b c d a' b' c' d' : Int} (h : W2 a b) (k : W2 c d) (h' : W2 a' b') (k' : W2 c' d') : ∃ m1 m2 m3 m4 e : Int,
    (∀ w, Calls Try.prog 6 #[.agg #[.int .i64 a, .int .i64 b, .int .i64 c, .int .i64 d], .agg #[.int .i64 a', .int .i64 b', .int .i64 c', .int .i64 d']] w fun r w' => r = .returned (.tuple #[.agg #[.int .i64 m1, .int .i64 m2, .int .i64 m3, .int .i64 m4], .int .i64 e]) ∧ Below w.heap.size w w') ∧
    (∀ w, Calls Try.prog 7 #[.agg #[.int .i64 a, .int .i64 b, .int .i64 c, .int .i64 d], .agg #[.int .i64 a', .int .i64 b', .int .i64 c', .int .i64 d']] w fun r w' => r = .returned (.tuple #[.agg #[.int .i64 m1, .int .i64 m2, .int .i64 m3, .int .i64 m4], .int .i64 e]) ∧ Below w.heap.size w w') := by
  by_cases hv : vI a b c d ∧ vI a' b' c' d'
  · obtain ⟨⟨m1, m2, m3, m4, e⟩, hm⟩ : ∃ r, meetR (maxL [(a, b), (a', b')]) (minL [(c, d), (c', d')]) = r := ⟨_, rfl⟩
    by_cases hg : vI (maxL [(a, b), (a', b')]).1 (maxL [(a, b), (a', b')]).2 (minL [(c, d), (c', d')]).1 (minL [(c, d), (c', d')]).2
    · refine ⟨m1, m2, m3, m4, e, fun w => ?_, fun w => ?_⟩
      · have j := imeet_good hv.1 hv.2 hg w
        rw [hm] at j
        exact j
      · have j := rmeet_good hv.1 hv.2 hg w
        rw [hm] at j
        exact j
    · refine ⟨m1, m2, m3, m4, e, fun w => ?_, fun w => ?_⟩
      · have j := imeet_none hv.1 hv.2 hg w
        rw [hm] at j
        exact j
      · have j := rmeet_none hv.1 hv.2 hg w
        rw [hm] at j
        exact j
  · exact ⟨0, 0, 0, 0, 1, fun w => imeet_inv h k h' k' hv w, fun w => rmeet_inv h k h' k' (not_both hv) w⟩

set_option maxRecDepth 100000 in
set_option maxHeartbeats 16000000 in
theorem law_lat {a b c d a' b' c' d' : Int} (h : W2 a b) (k : W2 c d) (h' : W2 a' b') (k' : W2 c' d') (w : World) :
    Calls Try.prog 3 #[.agg #[.int .i64 a, .int .i64 b, .int .i64 c, .int .i64 d], .agg #[.int .i64 a', .int .i64 b', .int .i64 c', .int .i64 d']] w fun e w' => e = .returned (.bool true) ∧ Below w.heap.size w w' := by
  obtain ⟨m1, m2, m3, m4, e, M1, M2⟩ := lat_meet h k h' k'
  obtain ⟨i1, i2, i3, i4, I1, I2⟩ := lat_min h k h' k'
  obtain ⟨j1, j2, j3, j4, J1, J2⟩ := lat_max h k h' k'
  obtain ⟨k1, k2, k3, k4, K1, K2⟩ := lat_hull h k h' k'
  have WI := iwithin_w h k h' k'
  have RI0 := rin_w h k h' k'
  rw [rin_eq] at RI0
  have CL := icon_w h k h'
  have RL := rcon_w h k h'
  rw [rcon_eq] at RL
  have CH := icon_w h k k'
  have RH := rcon_w h k k'
  rw [rcon_eq] at RH
  obtain ⟨p, hp⟩ : ∃ p, inB a b c d a' b' c' d' = p := ⟨_, rfl⟩
  obtain ⟨q, hq⟩ : ∃ q, conB a b c d a' b' = q := ⟨_, rfl⟩
  obtain ⟨s, hs⟩ : ∃ s, conB a b c d c' d' = s := ⟨_, rfl⟩
  rw [hp] at WI RI0
  rw [hq] at CL RL
  rw [hs] at CH RH
  replace M1 := Lib.hid M1
  replace M2 := Lib.hid M2
  obtain ⟨hA, hE, hW⟩ := start2 w 25 #[.int .i64 a, .int .i64 b, .int .i64 c, .int .i64 d] 25 #[.int .i64 a', .int .i64 b', .int .i64 c', .int .i64 d']
  clear h k h' k' hp hq hs
  have cA0 := hA.cell 0
  have cA1 := hA.cell 1
  have cA2 := hA.cell 2
  have cA3 := hA.cell 3
  have zA := hA.lt
  have cE0 := hE.cell 0
  have cE1 := hE.cell 1
  have cE2 := hE.cell 2
  have cE3 := hE.cell 3
  have zE := hE.lt
  go_enter Try.func3, Try.ntmps3
  go_wp2_with fail
  (with_reducible refine (M1.out _).mono ?_)
  rintro r u1 ⟨rfl, hb⟩
  clear cA0 cA1 cA2 cA3 cE0 cE1 cE2 cE3 zA zE
  replace hA := hA.below hb hA.lt
  replace hE := hE.below hb hE.lt
  replace hW := below_st hW hb
  have hM := Blk.new u1 25 #[.int .i64 m1, .int .i64 m2, .int .i64 m3, .int .i64 m4]
  replace hA := hA.alloc (.cells #[.int .i64 m1, .int .i64 m2, .int .i64 m3, .int .i64 m4] 25)
  replace hE := hE.alloc (.cells #[.int .i64 m1, .int .i64 m2, .int .i64 m3, .int .i64 m4] 25)
  replace hW := hW.alloc hW.size (.cells #[.int .i64 m1, .int .i64 m2, .int .i64 m3, .int .i64 m4] 25)
  clear hb
  have cA0 := hA.cell 0
  have cA1 := hA.cell 1
  have cA2 := hA.cell 2
  have cA3 := hA.cell 3
  have zA := hA.lt
  have cE0 := hE.cell 0
  have cE1 := hE.cell 1
  have cE2 := hE.cell 2
  have cE3 := hE.cell 3
  have zE := hE.lt
  have cM0 := hM.cell 0
  have cM1 := hM.cell 1
  have cM2 := hM.cell 2
  have cM3 := hM.cell 3
  have zM := hM.lt
  go_wp2_with fail
  (with_reducible refine (M2.out _).mono ?_)
  rintro r u2 ⟨rfl, hb⟩
  clear cA0 cA1 cA2 cA3 cE0 cE1 cE2 cE3 cM0 cM1 cM2 cM3 zA zE zM
  replace hA := hA.below hb hA.lt
  replace hE := hE.below hb hE.lt
  replace hM := hM.below hb hM.lt
  replace hW := below_st hW hb
  have hN := Blk.new u2 25 #[.int .i64 m1, .int .i64 m2, .int .i64 m3, .int .i64 m4]
  replace hA := hA.alloc (.cells #[.int .i64 m1, .int .i64 m2, .int .i64 m3, .int .i64 m4] 25)
  replace hE := hE.alloc (.cells #[.int .i64 m1, .int .i64 m2, .int .i64 m3, .int .i64 m4] 25)
  replace hM := hM.alloc (.cells #[.int .i64 m1, .int .i64 m2, .int .i64 m3, .int .i64 m4] 25)
  replace hW := hW.alloc hW.size (.cells #[.int .i64 m1, .int .i64 m2, .int .i64 m3, .int .i64 m4] 25)
  clear hb
  have cA0 := hA.cell 0
  have cA1 := hA.cell 1
  have cA2 := hA.cell 2
  have cA3 := hA.cell 3
  have zA := hA.lt
  have cE0 := hE.cell 0
  have cE1 := hE.cell 1
  have cE2 := hE.cell 2
  have cE3 := hE.cell 3
  have zE := hE.lt
  have cM0 := hM.cell 0
  have cM1 := hM.cell 1
  have cM2 := hM.cell 2
  have cM3 := hM.cell 3
  have zM := hM.lt
  have cN0 := hN.cell 0
  have cN1 := hN.cell 1
  have cN2 := hN.cell 2
  have cN3 := hN.cell 3
  have zN := hN.lt
  go_wp2_with fail
  obtain ⟨wo, hwo⟩ : ∃ wo : World, u2.alloc (.cells #[.int .i64 m1, .int .i64 m2, .int .i64 m3, .int .i64 m4] 25) = wo := ⟨_, rfl⟩
  obtain ⟨gM, hgM⟩ : ∃ g, u1.heap.size = g := ⟨_, rfl⟩
  obtain ⟨gN, hgN⟩ : ∃ g, u2.heap.size = g := ⟨_, rfl⟩
  rw [hwo] at hA hE hM hN hW ⊢
  rw [hgM] at hM ⊢
  rw [hgN] at hN ⊢
  clear cA0 cA1 cA2 cA3 cE0 cE1 cE2 cE3 cM0 cM1 cM2 cM3 cN0 cN1 cN2 cN3 zA zE zM zN hwo hgM hgN M1 M2
  have keep : ∀ W : World, Below wo.heap.size wo W → W.cell? ⟨w.heap.size, 0, none⟩ = some (.int .i64 a) ∧ W.cell? ⟨w.heap.size, 1, none⟩ = some (.int .i64 b) ∧ W.cell? ⟨w.heap.size, 2, none⟩ = some (.int .i64 c) ∧ W.cell? ⟨w.heap.size, 3, none⟩ = some (.int .i64 d) ∧ W.cell? ⟨w.heap.size + 1, 0, none⟩ = some (.int .i64 a') ∧ W.cell? ⟨w.heap.size + 1, 1, none⟩ = some (.int .i64 b') ∧ W.cell? ⟨w.heap.size + 1, 2, none⟩ = some (.int .i64 c') ∧ W.cell? ⟨w.heap.size + 1, 3, none⟩ = some (.int .i64 d') ∧ W.cell? ⟨gM, 0, none⟩ = some (.int .i64 m1) ∧ W.cell? ⟨gM, 1, none⟩ = some (.int .i64 m2) ∧ W.cell? ⟨gM, 2, none⟩ = some (.int .i64 m3) ∧ W.cell? ⟨gM, 3, none⟩ = some (.int .i64 m4) ∧ W.cell? ⟨gN, 0, none⟩ = some (.int .i64 m1) ∧ W.cell? ⟨gN, 1, none⟩ = some (.int .i64 m2) ∧ W.cell? ⟨gN, 2, none⟩ = some (.int .i64 m3) ∧ W.cell? ⟨gN, 3, none⟩ = some (.int .i64 m4) := fun W hB =>
    ⟨(hA.below hB hA.lt).cell 0, (hA.below hB hA.lt).cell 1, (hA.below hB hA.lt).cell 2, (hA.below hB hA.lt).cell 3, (hE.below hB hE.lt).cell 0, (hE.below hB hE.lt).cell 1, (hE.below hB hE.lt).cell 2, (hE.below hB hE.lt).cell 3, (hM.below hB hM.lt).cell 0, (hM.below hB hM.lt).cell 1, (hM.below hB hM.lt).cell 2, (hM.below hB hM.lt).cell 3, (hN.below hB hN.lt).cell 0, (hN.below hB hN.lt).cell 1, (hN.below hB hN.lt).cell 2, (hN.below hB hN.lt).cell 3⟩
  have Keep := Lib.hid keep
  have h00 := Below.refl wo.heap.size wo
  have h0d : Below wo.heap.size wo wo.drew := h00.drew
  obtain ⟨c0, c1, c2, c3, c4, c5, c6, c7, c8, c9, c10, c11, c12, c13, c14, c15⟩ := keep wo h00
  have A1 := Lib.hid (fun (W : World) (hb : Below wo.heap.size wo W) => calls_step hb (I1 W))
  have A2 := Lib.hid (fun (W : World) (hb : Below wo.heap.size wo W) => calls_step hb (I2 W))
  have B1 := Lib.hid (fun (W : World) (hb : Below wo.heap.size wo W) => calls_step hb (J1 W))
  have B2 := Lib.hid (fun (W : World) (hb : Below wo.heap.size wo W) => calls_step hb (J2 W))
  have C1 := Lib.hid (fun (W : World) (hb : Below wo.heap.size wo W) => calls_step hb (K1 W))
  have C2 := Lib.hid (fun (W : World) (hb : Below wo.heap.size wo W) => calls_step hb (K2 W))
  have D1 := Lib.hid (fun (W : World) (hb : Below wo.heap.size wo W) => calls_step hb (WI W))
  have D2 := Lib.hid (fun (W : World) (hb : Below wo.heap.size wo W) => calls_step hb (RI0 W))
  have E1 := Lib.hid (fun (W : World) (hb : Below wo.heap.size wo W) => calls_step hb (CL W))
  have E2 := Lib.hid (fun (W : World) (hb : Below wo.heap.size wo W) => calls_step hb (RL W))
  have F1 := Lib.hid (fun (W : World) (hb : Below wo.heap.size wo W) => calls_step hb (CH W))
  have F2 := Lib.hid (fun (W : World) (hb : Below wo.heap.size wo W) => calls_step hb (RH W))
  have G1 := Lib.hid (fun (W : World) (hb : Below wo.heap.size wo W) => calls_step hb (lives_any W))
  have HW := Lib.hid hW
  clear keep hA hE hM hN hW I1 I2 J1 J2 K1 K2 WI RI0 CL RL CH RH
  go_region_held3 (fun W => W.cell? ⟨w.heap.size, 0, none⟩ = some (.int .i64 a) ∧ W.cell? ⟨w.heap.size, 1, none⟩ = some (.int .i64 b) ∧ W.cell? ⟨w.heap.size, 2, none⟩ = some (.int .i64 c) ∧ W.cell? ⟨w.heap.size, 3, none⟩ = some (.int .i64 d) ∧ W.cell? ⟨w.heap.size + 1, 0, none⟩ = some (.int .i64 a') ∧ W.cell? ⟨w.heap.size + 1, 1, none⟩ = some (.int .i64 b') ∧ W.cell? ⟨w.heap.size + 1, 2, none⟩ = some (.int .i64 c') ∧ W.cell? ⟨w.heap.size + 1, 3, none⟩ = some (.int .i64 d') ∧ W.cell? ⟨gM, 0, none⟩ = some (.int .i64 m1) ∧ W.cell? ⟨gM, 1, none⟩ = some (.int .i64 m2) ∧ W.cell? ⟨gM, 2, none⟩ = some (.int .i64 m3) ∧ W.cell? ⟨gM, 3, none⟩ = some (.int .i64 m4) ∧ W.cell? ⟨gN, 0, none⟩ = some (.int .i64 m1) ∧ W.cell? ⟨gN, 1, none⟩ = some (.int .i64 m2) ∧ W.cell? ⟨gN, 2, none⟩ = some (.int .i64 m3) ∧ W.cell? ⟨gN, 3, none⟩ = some (.int .i64 m4))
    (first | (with_reducible exact Keep.out _ (by with_reducible assumption)))
    (first | (go_at_call 8; ((with_reducible refine (A1.out _ (by with_reducible assumption)).mono ?_); rintro r w' ⟨rfl, hb⟩; obtain ⟨c0, c1, c2, c3, c4, c5, c6, c7, c8, c9, c10, c11, c12, c13, c14, c15⟩ := Keep.out _ hb)) | (go_at_call 9; ((with_reducible refine (A2.out _ (by with_reducible assumption)).mono ?_); rintro r w' ⟨rfl, hb⟩; obtain ⟨c0, c1, c2, c3, c4, c5, c6, c7, c8, c9, c10, c11, c12, c13, c14, c15⟩ := Keep.out _ hb)) | (go_at_call 10; ((with_reducible refine (B1.out _ (by with_reducible assumption)).mono ?_); rintro r w' ⟨rfl, hb⟩; obtain ⟨c0, c1, c2, c3, c4, c5, c6, c7, c8, c9, c10, c11, c12, c13, c14, c15⟩ := Keep.out _ hb)) | (go_at_call 11; ((with_reducible refine (B2.out _ (by with_reducible assumption)).mono ?_); rintro r w' ⟨rfl, hb⟩; obtain ⟨c0, c1, c2, c3, c4, c5, c6, c7, c8, c9, c10, c11, c12, c13, c14, c15⟩ := Keep.out _ hb)) | (go_at_call 12; ((with_reducible refine (C1.out _ (by with_reducible assumption)).mono ?_); rintro r w' ⟨rfl, hb⟩; obtain ⟨c0, c1, c2, c3, c4, c5, c6, c7, c8, c9, c10, c11, c12, c13, c14, c15⟩ := Keep.out _ hb)) | (go_at_call 13; ((with_reducible refine (C2.out _ (by with_reducible assumption)).mono ?_); rintro r w' ⟨rfl, hb⟩; obtain ⟨c0, c1, c2, c3, c4, c5, c6, c7, c8, c9, c10, c11, c12, c13, c14, c15⟩ := Keep.out _ hb)) | fail)
  go_wp2_with fail
  go_region_held3 (fun W => W.cell? ⟨w.heap.size, 0, none⟩ = some (.int .i64 a) ∧ W.cell? ⟨w.heap.size, 1, none⟩ = some (.int .i64 b) ∧ W.cell? ⟨w.heap.size, 2, none⟩ = some (.int .i64 c) ∧ W.cell? ⟨w.heap.size, 3, none⟩ = some (.int .i64 d) ∧ W.cell? ⟨w.heap.size + 1, 0, none⟩ = some (.int .i64 a') ∧ W.cell? ⟨w.heap.size + 1, 1, none⟩ = some (.int .i64 b') ∧ W.cell? ⟨w.heap.size + 1, 2, none⟩ = some (.int .i64 c') ∧ W.cell? ⟨w.heap.size + 1, 3, none⟩ = some (.int .i64 d') ∧ W.cell? ⟨gM, 0, none⟩ = some (.int .i64 m1) ∧ W.cell? ⟨gM, 1, none⟩ = some (.int .i64 m2) ∧ W.cell? ⟨gM, 2, none⟩ = some (.int .i64 m3) ∧ W.cell? ⟨gM, 3, none⟩ = some (.int .i64 m4) ∧ W.cell? ⟨gN, 0, none⟩ = some (.int .i64 m1) ∧ W.cell? ⟨gN, 1, none⟩ = some (.int .i64 m2) ∧ W.cell? ⟨gN, 2, none⟩ = some (.int .i64 m3) ∧ W.cell? ⟨gN, 3, none⟩ = some (.int .i64 m4))
    (first | (with_reducible exact Keep.out _ (by with_reducible assumption)) | (with_reducible exact Keep.out _ (lat_dr (by with_reducible assumption))))
    (first | (go_at_call 14; ((with_reducible refine (D1.out _ (by first | with_reducible assumption | exact lat_dr (by with_reducible assumption))).mono ?_); rintro r w' ⟨rfl, hb⟩; obtain ⟨c0, c1, c2, c3, c4, c5, c6, c7, c8, c9, c10, c11, c12, c13, c14, c15⟩ := Keep.out _ hb)) | (go_at_call 15; ((with_reducible refine (D2.out _ (by first | with_reducible assumption | exact lat_dr (by with_reducible assumption))).mono ?_); rintro r w' ⟨rfl, hb⟩; obtain ⟨c0, c1, c2, c3, c4, c5, c6, c7, c8, c9, c10, c11, c12, c13, c14, c15⟩ := Keep.out _ hb)) | (go_at_call 16; first | ((with_reducible refine (E1.out _ (by first | with_reducible assumption | exact lat_dr (by with_reducible assumption))).mono ?_); rintro r w' ⟨rfl, hb⟩; obtain ⟨c0, c1, c2, c3, c4, c5, c6, c7, c8, c9, c10, c11, c12, c13, c14, c15⟩ := Keep.out _ hb) | ((with_reducible refine (F1.out _ (by first | with_reducible assumption | exact lat_dr (by with_reducible assumption))).mono ?_); rintro r w' ⟨rfl, hb⟩; obtain ⟨c0, c1, c2, c3, c4, c5, c6, c7, c8, c9, c10, c11, c12, c13, c14, c15⟩ := Keep.out _ hb) | fail) | (go_at_call 17; first | ((with_reducible refine (E2.out _ (by first | with_reducible assumption | exact lat_dr (by with_reducible assumption))).mono ?_); rintro r w' ⟨rfl, hb⟩; obtain ⟨c0, c1, c2, c3, c4, c5, c6, c7, c8, c9, c10, c11, c12, c13, c14, c15⟩ := Keep.out _ hb) | ((with_reducible refine (F2.out _ (by first | with_reducible assumption | exact lat_dr (by with_reducible assumption))).mono ?_); rintro r w' ⟨rfl, hb⟩; obtain ⟨c0, c1, c2, c3, c4, c5, c6, c7, c8, c9, c10, c11, c12, c13, c14, c15⟩ := Keep.out _ hb) | fail) | (go_at_call 18; ((with_reducible refine (G1.out _ (by first | with_reducible assumption | exact lat_dr (by with_reducible assumption))).mono ?_); rintro r w' ⟨rfl, hb⟩; obtain ⟨c0, c1, c2, c3, c4, c5, c6, c7, c8, c9, c10, c11, c12, c13, c14, c15⟩ := Keep.out _ hb)) | fail)
  all_goals
    go_wp2
    go_ret
    exact ⟨rfl, below_st HW.out (by with_reducible assumption)⟩
end Go.Proofs.Yteppamchbgnlfaa
