/- Meet of the package at valid intervals, where they do not meet. Conditions: valid intervals. -/
import Derived.Test.YteppamchbgnlfaaGrow
namespace Go.Proofs.Yteppamchbgnlfaa
open Go.RowKit

set_option linter.unusedSimpArgs false in
set_option maxRecDepth 100000 in
set_option maxHeartbeats 16000000 in
theorem imeet_none {a b c d a' b' c' d' : Int} (hx : vI a b c d) (hy : vI a' b' c' d') (hg : ¬ vI (maxL [(a, b), (a', b')]).1 (maxL [(a, b), (a', b')]).2 (minL [(c, d), (c', d')]).1 (minL [(c, d), (c', d')]).2) (w : World) :
    Calls Try.prog 6 #[.agg #[.int .i64 a, .int .i64 b, .int .i64 c, .int .i64 d], .agg #[.int .i64 a', .int .i64 b', .int .i64 c', .int .i64 d']] w fun e w' => e = .returned (RI (meetR (maxL [(a, b), (a', b')]) (minL [(c, d), (c', d')]))) ∧ Below w.heap.size w w' := by
  have V1 := ivalid_w hx.1.1.w2 hx.1.2.w2
  have V2 := ivalid_w hy.1.1.w2 hy.1.2.w2
  rw [show vIB a b c d = true from decide_eq_true hx] at V1
  rw [show vIB a' b' c' d' = true from decide_eq_true hy] at V2
  replace V1 := Lib.hid V1
  replace V2 := Lib.hid V2
  have hv1 : VL [(a, b), (a', b')] := vl_two hx.1.1 hy.1.1
  have hv2 : VL [(c, d), (c', d')] := vl_two hx.1.2 hy.1.2
  obtain ⟨⟨x1, x2⟩, hl1⟩ : ∃ x, minL [(a, b), (a', b')] = x := ⟨_, rfl⟩
  obtain ⟨⟨x3, x4⟩, hl2⟩ : ∃ x, maxL [(a, b), (a', b')] = x := ⟨_, rfl⟩
  obtain ⟨⟨y1, y2⟩, hh1⟩ : ∃ x, minL [(c, d), (c', d')] = x := ⟨_, rfl⟩
  obtain ⟨⟨y3, y4⟩, hh2⟩ : ∃ x, maxL [(c, d), (c', d')] = x := ⟨_, rfl⟩
  have hm1 := maxL_is (by simp) hv1
  have hm2 := minL_is (by simp) hv2
  have hw1 : vP (maxL [(a, b), (a', b')]).1 (maxL [(a, b), (a', b')]).2 := hv1 _ hm1.1
  have hw2 : vP (minL [(c, d), (c', d')]).1 (minL [(c, d), (c', d')]).2 := hv2 _ hm2.1
  unfold meetR
  rw [if_neg hg]
  rw [hl2] at hg hw1
  rw [hh1] at hg hw2
  skip
  simp only at hg hw1 hw2
  clear hm1 hm2
  have NW := inew_w hw1.w2 hw2.w2
  rw [show newI x3 x4 y1 y2 = (0, 0, 0, 0, 1) from by unfold newI; rw [if_neg hg]] at NW
  unfold RI at NW ⊢
  simp only at NW ⊢
  replace NW := Lib.hid NW
  clear hg hw1 hw2
  obtain ⟨hA, hE, hR, hW⟩ := start3 w 25 #[.int .i64 a, .int .i64 b, .int .i64 c, .int .i64 d] 25 #[.int .i64 a', .int .i64 b', .int .i64 c', .int .i64 d'] 25 #[.int .i64 0, .int .i64 0, .int .i64 0, .int .i64 0]
  clear hx hy
  have cA0 := hA.cell 0
  have cA1 := hA.cell 1
  have cA2 := hA.cell 2
  have cA3 := hA.cell 3
  have zA := hA.lt
  have cE0 := hE.cell 0
  have cE1 := hE.cell 1
  have cE2 := hE.cell 2
  have cE3 := hE.cell 3
  have zE := hE.lt
  go_enter Try.func6, Try.ntmps6
  go_wp2_with fail
  (with_reducible refine (V1.out _).mono ?_)
  rintro e w1 ⟨rfl, hB⟩
  replace hA := hA.below hB hA.lt
  replace hE := hE.below hB hE.lt
  replace hR := hR.below hB hR.lt
  replace hW := below_st hW hB
  clear hB cA0 cA1 cA2 cA3 zA cE0 cE1 cE2 cE3 zE V1
  have cA0 := hA.cell 0
  have cA1 := hA.cell 1
  have cA2 := hA.cell 2
  have cA3 := hA.cell 3
  have zA := hA.lt
  have cE0 := hE.cell 0
  have cE1 := hE.cell 1
  have cE2 := hE.cell 2
  have cE3 := hE.cell 3
  have zE := hE.lt
  go_wp2_with fail
  (with_reducible refine (V2.out _).mono ?_)
  rintro e w1 ⟨rfl, hB⟩
  replace hA := hA.below hB hA.lt
  replace hE := hE.below hB hE.lt
  replace hR := hR.below hB hR.lt
  replace hW := below_st hW hB
  clear hB cA0 cA1 cA2 cA3 zA cE0 cE1 cE2 cE3 zE V2
  obtain ⟨w0, hw0⟩ : ∃ w0 : World, w1 = w0 := ⟨_, rfl⟩
  rw [hw0] at hA hE hR hW ⊢
  clear hw0
  have keep : ∀ W : World, Below w0.heap.size w0 W → W.cell? ⟨w.heap.size, 0, none⟩ = some (.int .i64 a) ∧ W.cell? ⟨w.heap.size, 1, none⟩ = some (.int .i64 b) ∧ W.cell? ⟨w.heap.size, 2, none⟩ = some (.int .i64 c) ∧ W.cell? ⟨w.heap.size, 3, none⟩ = some (.int .i64 d) ∧ W.cell? ⟨w.heap.size + 1, 0, none⟩ = some (.int .i64 a') ∧ W.cell? ⟨w.heap.size + 1, 1, none⟩ = some (.int .i64 b') ∧ W.cell? ⟨w.heap.size + 1, 2, none⟩ = some (.int .i64 c') ∧ W.cell? ⟨w.heap.size + 1, 3, none⟩ = some (.int .i64 d') := fun W hB =>
    ⟨(hA.below hB hA.lt).cell 0, (hA.below hB hA.lt).cell 1, (hA.below hB hA.lt).cell 2, (hA.below hB hA.lt).cell 3, (hE.below hB hE.lt).cell 0, (hE.below hB hE.lt).cell 1, (hE.below hB hE.lt).cell 2, (hE.below hB hE.lt).cell 3⟩
  have fin := fun (W : World) (hB : Below w0.heap.size w0 W) => put4 (hR.below hB hR.lt) (below_st hW hB) (by omega) 0 0 0 0
  have frz := fun (W : World) (hB : Below w0.heap.size w0 W) => (show (∀ i, W.frozen? ⟨w.heap.size + 1 + 1, i, none⟩ = false) ∧ W.cell? ⟨w.heap.size + 1 + 1, 0, none⟩ = some (.int .i64 0) ∧ W.cell? ⟨w.heap.size + 1 + 1, 1, none⟩ = some (.int .i64 0) ∧ W.cell? ⟨w.heap.size + 1 + 1, 2, none⟩ = some (.int .i64 0) ∧ W.cell? ⟨w.heap.size + 1 + 1, 3, none⟩ = some (.int .i64 0) from ⟨(hR.below hB hR.lt).frozen, (hR.below hB hR.lt).cell 0, (hR.below hB hR.lt).cell 1, (hR.below hB hR.lt).cell 2, (hR.below hB hR.lt).cell 3⟩)
  have zR := hR.lt
  have Keep := Lib.hid keep
  have Fin := Lib.hid fin
  have Frz := Lib.hid frz
  have h00 := Below.refl w0.heap.size w0
  have h0d : Below w0.heap.size w0 w0.drew := h00.drew
  obtain ⟨fR, r0, r1, r2, r3⟩ := frz w0 h00
  obtain ⟨c0, c1, c2, c3, c4, c5, c6, c7⟩ := keep w0 h00
  have GA := Lib.hid (fun (X : World) (g : Nat) (hg : Blk X g 23 (flat [(a, b), (a', b')])) => show Calls Try.prog 28 #[.slice (some ⟨g, 0, none⟩) 2 2] X fun e w' => e = .returned (.agg #[.int .i64 x3, .int .i64 x4]) ∧ Below X.heap.size X w' from by have k := great_any [(a, b), (a', b')] (by simp) hv1 g 23 2 2 rfl X hg (by decide); rw [hl2] at k; exact k)
  have LA := Lib.hid (fun (X : World) (g : Nat) (hg : Blk X g 23 (flat [(c, d), (c', d')])) => show Calls Try.prog 29 #[.slice (some ⟨g, 0, none⟩) 2 2] X fun e w' => e = .returned (.agg #[.int .i64 y1, .int .i64 y2]) ∧ Below X.heap.size X w' from by have k := least_any [(c, d), (c', d')] (by simp) hv2 g 23 2 2 rfl X hg (by decide); rw [hh1] at k; exact k)
  clear keep fin frz hA hE hR hW hl1 hl2 hh1 hh2 hv1 hv2
  go_wp2_with fail
  refine wp_region_noPanic ?_
  refine wp_region_held_drew (S := fun W => W.cell? ⟨w.heap.size, 0, none⟩ = some (.int .i64 a) ∧ W.cell? ⟨w.heap.size, 1, none⟩ = some (.int .i64 b) ∧ W.cell? ⟨w.heap.size, 2, none⟩ = some (.int .i64 c) ∧ W.cell? ⟨w.heap.size, 3, none⟩ = some (.int .i64 d) ∧ W.cell? ⟨w.heap.size + 1, 0, none⟩ = some (.int .i64 a') ∧ W.cell? ⟨w.heap.size + 1, 1, none⟩ = some (.int .i64 b') ∧ W.cell? ⟨w.heap.size + 1, 2, none⟩ = some (.int .i64 c') ∧ W.cell? ⟨w.heap.size + 1, 3, none⟩ = some (.int .i64 d')) (by kernel_rfl) ?_ (fun hHeld => ?_)
  · exact Keep.out _ h0d
  refine wpAnyH_take (i := 0) (v := ?_) rfl (by kernel_rfl) (by kernel_rfl) (by kernel_rfl) (fun _ _ _ h => h) (Or.inl ⟨by rfl, ?_⟩) hHeld ?_
  rotate_left
  · intro W hSw; (try dsimp only at hSw); go_simp; (try with_reducible rfl)
  (try simp only [Act.put, List.setIfInBounds_toArray, List.set_cons_zero, List.set_cons_succ])
  refine wpAnyH_take (i := 1) (v := ?_) rfl (by kernel_rfl) (by kernel_rfl) (by kernel_rfl) (fun _ _ _ h => h) (Or.inl ⟨by rfl, ?_⟩) hHeld ?_
  rotate_left
  · intro W hSw; (try dsimp only at hSw); go_simp; (try with_reducible rfl)
  (try simp only [Act.put, List.setIfInBounds_toArray, List.set_cons_zero, List.set_cons_succ])
  refine wpAnyH_take (i := 2) (v := ?_) rfl (by kernel_rfl) (by kernel_rfl) (by kernel_rfl) (fun _ _ _ h => h) (Or.inl ⟨by rfl, ?_⟩) hHeld ?_
  rotate_left
  · intro W hSw; (try dsimp only at hSw); go_simp; (try with_reducible rfl)
  (try simp only [Act.put, List.setIfInBounds_toArray, List.set_cons_zero, List.set_cons_succ])
  refine wpAnyH_take (i := 3) (v := ?_) rfl (by kernel_rfl) (by kernel_rfl) (by kernel_rfl) (fun _ _ _ h => h) (Or.inl ⟨by rfl, ?_⟩) hHeld ?_
  rotate_left
  · intro W hSw; (try dsimp only at hSw); go_simp; (try with_reducible rfl)
  (try simp only [Act.put, List.setIfInBounds_toArray, List.set_cons_zero, List.set_cons_succ])
  refine wpAnyH_take (i := 6) (v := ?_) rfl (by kernel_rfl) (by kernel_rfl) (by kernel_rfl) (fun _ _ _ h => h) (Or.inl ⟨by rfl, ?_⟩) hHeld ?_
  rotate_left
  · intro W hSw; (try dsimp only at hSw); go_simp; (try with_reducible rfl)
  (try simp only [Act.put, List.setIfInBounds_toArray, List.set_cons_zero, List.set_cons_succ])
  refine wpAnyH_take (i := 7) (v := ?_) rfl (by kernel_rfl) (by kernel_rfl) (by kernel_rfl) (fun _ _ _ h => h) (Or.inl ⟨by rfl, ?_⟩) hHeld ?_
  rotate_left
  · intro W hSw; (try dsimp only at hSw); go_simp; (try with_reducible rfl)
  (try simp only [Act.put, List.setIfInBounds_toArray, List.set_cons_zero, List.set_cons_succ])
  refine wpAnyH_take (i := 8) (v := ?_) rfl (by kernel_rfl) (by kernel_rfl) (by kernel_rfl) (fun _ _ _ h => h) (Or.inl ⟨by rfl, ?_⟩) hHeld ?_
  rotate_left
  · intro W hSw; (try dsimp only at hSw); go_simp; (try with_reducible rfl)
  (try simp only [Act.put, List.setIfInBounds_toArray, List.set_cons_zero, List.set_cons_succ])
  refine wpAnyH_take (i := 9) (v := ?_) rfl (by kernel_rfl) (by kernel_rfl) (by kernel_rfl) (fun _ _ _ h => h) (Or.inl ⟨by rfl, ?_⟩) hHeld ?_
  rotate_left
  · intro W hSw; (try dsimp only at hSw); go_simp; (try with_reducible rfl)
  (try simp only [Act.put, List.setIfInBounds_toArray, List.set_cons_zero, List.set_cons_succ])
  refine wpAnyH_ready (rs := [4, 10, 16]) (by kernel_rfl) (by simp) ?_
  refine AllReadyH.cons rfl (fun KK hK => ?_) ?_
  · go_simp
    refine hK.out _ _ ?_ (fun hHeld => ?_)
    · exact Keep.out _ (by (repeat (first | with_reducible assumption | with_reducible refine lat_al ?_ _ | with_reducible refine lat_dr ?_ | (refine lat_set ?_ (by omega) _ _))); done)
    clear hK KK
    (try simp only [Act.put, List.setIfInBounds_toArray, List.set_cons_zero, List.set_cons_succ])
    refine wpAnyH_ready (rs := [5, 10, 16]) (by kernel_rfl) (by simp) ?_
    refine AllReadyH.cons rfl (fun KK hK => ?_) ?_
    · go_simp
      go_at_call 28
      (with_reducible refine (GA.out _ _ (by (repeat (first | with_reducible assumption | with_reducible exact blk_two_at (by simp) | with_reducible refine Blk.alloc ?_ _ | with_reducible refine Blk.drew ?_)); done)).mono ?_)
      rintro e v1 ⟨rfl, hB⟩
      have hb1 : Below w0.heap.size w0 v1 := below_step (by (repeat (first | with_reducible assumption | with_reducible refine lat_al ?_ _ | with_reducible refine lat_dr ?_ | (refine lat_set ?_ (by omega) _ _))); done) hB
      have sz1 := hb1.size
      clear hB
      (try go_wp2_with fail)
      refine hK.out _ _ ?_ (fun hHeld => ?_)
      · exact Keep.out _ (by (repeat (first | with_reducible assumption | with_reducible refine lat_al ?_ _ | with_reducible refine lat_dr ?_ | (refine lat_set ?_ (by omega) _ _))); done)
      clear hK KK
      (try simp only [Act.put, List.setIfInBounds_toArray, List.set_cons_zero, List.set_cons_succ])
      refine wpAnyH_ready (rs := [10, 16]) (by kernel_rfl) (by simp) ?_
      refine AllReadyH.cons rfl (fun KK hK => ?_) ?_
      · go_simp
        refine hK.out _ _ ?_ (fun hHeld => ?_)
        · exact Keep.out _ (by (repeat (first | with_reducible assumption | with_reducible refine lat_al ?_ _ | with_reducible refine lat_dr ?_ | (refine lat_set ?_ (by omega) _ _))); done)
        clear hK KK
        (try simp only [Act.put, List.setIfInBounds_toArray, List.set_cons_zero, List.set_cons_succ])
        refine wpAnyH_ready (rs := [11, 16]) (by kernel_rfl) (by simp) ?_
        refine AllReadyH.cons rfl (fun KK hK => ?_) ?_
        · go_simp
          go_at_call 29
          (with_reducible refine (LA.out _ _ (by (repeat (first | with_reducible assumption | with_reducible exact blk_two_at (by simp) | with_reducible refine Blk.alloc ?_ _ | with_reducible refine Blk.drew ?_)); done)).mono ?_)
          rintro e v2 ⟨rfl, hB⟩
          have hb2 : Below w0.heap.size w0 v2 := below_step (by (repeat (first | with_reducible assumption | with_reducible refine lat_al ?_ _ | with_reducible refine lat_dr ?_ | (refine lat_set ?_ (by omega) _ _))); done) hB
          have sz2 := hb2.size
          clear hB
          (try go_wp2_with fail)
          refine hK.out _ _ ?_ (fun hHeld => ?_)
          · exact Keep.out _ (by (repeat (first | with_reducible assumption | with_reducible refine lat_al ?_ _ | with_reducible refine lat_dr ?_ | (refine lat_set ?_ (by omega) _ _))); done)
          clear hK KK
          (try simp only [Act.put, List.setIfInBounds_toArray, List.set_cons_zero, List.set_cons_succ])
          refine wpAnyH_ready (rs := [12, 16]) (by kernel_rfl) (by simp) ?_
          refine AllReadyH.cons rfl (fun KK hK => ?_) ?_
          · go_simp
            go_at_call 27
            (with_reducible refine (NW.out _).mono ?_)
            rintro e v3 ⟨rfl, hB⟩
            have hb3 : Below w0.heap.size w0 v3 := below_step (by (repeat (first | with_reducible assumption | with_reducible refine lat_al ?_ _ | with_reducible refine lat_dr ?_ | (refine lat_set ?_ (by omega) _ _))); done) hB
            have sz3 := hb3.size
            clear hB
            (try go_wp2_with fail)
            refine hK.out _ _ ?_ (fun hHeld => ?_)
            · exact Keep.out _ (by (repeat (first | with_reducible assumption | with_reducible refine lat_al ?_ _ | with_reducible refine lat_dr ?_ | (refine lat_set ?_ (by omega) _ _))); done)
            clear hK KK
            (try simp only [Act.put, List.setIfInBounds_toArray, List.set_cons_zero, List.set_cons_succ])
            refine wpAnyH_take (i := 13) (v := ?_) rfl (by kernel_rfl) (by kernel_rfl) (by kernel_rfl) (fun _ _ _ h => h) (Or.inl ⟨by rfl, ?_⟩) hHeld ?_
            rotate_left
            · intro W hSw; (try dsimp only at hSw); go_simp; (try with_reducible rfl)
            (try simp only [Act.put, List.setIfInBounds_toArray, List.set_cons_zero, List.set_cons_succ])
            refine wpAnyH_take (i := 14) (v := ?_) rfl (by kernel_rfl) (by kernel_rfl) (by kernel_rfl) (fun _ _ _ h => h) (Or.inl ⟨by rfl, ?_⟩) hHeld ?_
            rotate_left
            · intro W hSw; (try dsimp only at hSw); go_simp; (try with_reducible rfl)
            (try simp only [Act.put, List.setIfInBounds_toArray, List.set_cons_zero, List.set_cons_succ])
            refine wpAnyH_take (i := 15) (v := ?_) rfl (by kernel_rfl) (by kernel_rfl) (by kernel_rfl) (fun _ _ _ h => h) (Or.inl ⟨by rfl, ?_⟩) hHeld ?_
            rotate_left
            · intro W hSw; (try dsimp only at hSw); go_simp; (try with_reducible rfl)
            (try simp only [Act.put, List.setIfInBounds_toArray, List.set_cons_zero, List.set_cons_succ])
            refine wpAnyH_ready (rs := [16]) (by kernel_rfl) (by simp) ?_
            refine AllReadyH.cons rfl (fun KK hK => ?_) ?_
            · go_simp
              refine hK.out _ _ ?_ (fun hHeld => ?_)
              · exact Keep.out _ (by (repeat (first | with_reducible assumption | with_reducible refine lat_al ?_ _ | with_reducible refine lat_dr ?_ | (refine lat_set ?_ (by omega) _ _))); done)
              clear hK KK
              (try simp only [Act.put, List.setIfInBounds_toArray, List.set_cons_zero, List.set_cons_succ])
              refine wpAnyH_ready (rs := [17]) (by kernel_rfl) (by simp) ?_
              refine AllReadyH.cons rfl (fun KK hK => ?_) ?_
              · go_simp
                refine hK.out _ _ ?_ (fun hHeld => ?_)
                · exact Keep.out _ (by (repeat (first | with_reducible assumption | with_reducible refine lat_al ?_ _ | with_reducible refine lat_dr ?_ | (refine lat_set ?_ (by omega) _ _))); done)
                clear hK KK
                (try simp only [Act.put, List.setIfInBounds_toArray, List.set_cons_zero, List.set_cons_succ])
                refine wpAnyH_take (i := 18) (v := ?_) rfl (by kernel_rfl) (by kernel_rfl) (by kernel_rfl) (fun _ _ _ h => h) (Or.inl ⟨by rfl, ?_⟩) hHeld ?_
                rotate_left
                · intro W hSw; (try dsimp only at hSw); go_simp; (try with_reducible rfl)
                (try simp only [Act.put, List.setIfInBounds_toArray, List.set_cons_zero, List.set_cons_succ])
                refine wpAnyH_done (by kernel_rfl) ?_ _
                refine NoPanic.normal ?_
                (try simp only [Act.put, List.getElem_toArray, List.getElem_cons_zero, List.getElem_cons_succ, List.setIfInBounds_toArray, List.set_cons_zero, List.set_cons_succ])
                have zne : w0.heap.size ≤ v3.heap.size := by omega
                clear hHeld
                obtain ⟨fR, r0, r1, r2, r3⟩ := Frz.out v3 hb3
                have zRn : w.heap.size + 1 + 1 < v3.heap.size := by omega
                go_wp2
                exact ret_iv (p := 4) (q := 5) (by kernel_rfl) rfl rfl ((Fin.out v3 hb3).1.alloc _) ⟨rfl, (Fin.out v3 hb3).2.alloc (Fin.out v3 hb3).2.size _⟩
              exact AllReadyH.nil
            exact AllReadyH.nil
          refine AllReadyH.cons rfl (fun KK hK => ?_) ?_
          · go_simp
            refine hK.out _ _ ?_ (fun hHeld => ?_)
            · exact Keep.out _ (by (repeat (first | with_reducible assumption | with_reducible refine lat_al ?_ _ | with_reducible refine lat_dr ?_ | (refine lat_set ?_ (by omega) _ _))); done)
            clear hK KK
            (try simp only [Act.put, List.setIfInBounds_toArray, List.set_cons_zero, List.set_cons_succ])
            refine wpAnyH_ready (rs := [12]) (by kernel_rfl) (by simp) ?_
            refine AllReadyH.cons rfl (fun KK hK => ?_) ?_
            · go_simp
              go_at_call 27
              (with_reducible refine (NW.out _).mono ?_)
              rintro e v3 ⟨rfl, hB⟩
              have hb3 : Below w0.heap.size w0 v3 := below_step (by (repeat (first | with_reducible assumption | with_reducible refine lat_al ?_ _ | with_reducible refine lat_dr ?_ | (refine lat_set ?_ (by omega) _ _))); done) hB
              have sz3 := hb3.size
              have kz : Blk v3 (v2.heap.size) 25 #[.int .i64 0, .int .i64 0, .int .i64 0, .int .i64 0] := Blk.below (show Blk _ (v2.heap.size) 25 #[.int .i64 0, .int .i64 0, .int .i64 0, .int .i64 0] from (by (repeat (first | with_reducible assumption | with_reducible exact blk_at (by simp) | with_reducible refine Blk.alloc ?_ _ | with_reducible refine Blk.drew ?_)); done)) hB (Blk.lt (show Blk _ (v2.heap.size) 25 #[.int .i64 0, .int .i64 0, .int .i64 0, .int .i64 0] from (by (repeat (first | with_reducible assumption | with_reducible exact blk_at (by simp) | with_reducible refine Blk.alloc ?_ _ | with_reducible refine Blk.drew ?_)); done)))
              have fz := kz.frozen
              have z0 := kz.cell 0
              have z1 := kz.cell 1
              have z2 := kz.cell 2
              have z3 := kz.cell 3
              have zl := kz.lt
              clear hB
              (try go_wp2_with fail)
              refine hK.out _ _ ?_ (fun hHeld => ?_)
              · exact Keep.out _ (by (repeat (first | with_reducible assumption | with_reducible refine lat_al ?_ _ | with_reducible refine lat_dr ?_ | (refine lat_set ?_ (by omega) _ _))); done)
              clear hK KK
              (try simp only [Act.put, List.setIfInBounds_toArray, List.set_cons_zero, List.set_cons_succ])
              refine wpAnyH_take (i := 13) (v := ?_) rfl (by kernel_rfl) (by kernel_rfl) (by kernel_rfl) (fun _ _ _ h => h) (Or.inl ⟨by rfl, ?_⟩) hHeld ?_
              rotate_left
              · intro W hSw; (try dsimp only at hSw); go_simp; (try with_reducible rfl)
              (try simp only [Act.put, List.setIfInBounds_toArray, List.set_cons_zero, List.set_cons_succ])
              refine wpAnyH_take (i := 14) (v := ?_) rfl (by kernel_rfl) (by kernel_rfl) (by kernel_rfl) (fun _ _ _ h => h) (Or.inl ⟨by rfl, ?_⟩) hHeld ?_
              rotate_left
              · intro W hSw; (try dsimp only at hSw); go_simp; (try with_reducible rfl)
              (try simp only [Act.put, List.setIfInBounds_toArray, List.set_cons_zero, List.set_cons_succ])
              refine wpAnyH_take (i := 15) (v := ?_) rfl (by kernel_rfl) (by kernel_rfl) (by kernel_rfl) (fun _ _ _ h => h) (Or.inl ⟨by rfl, ?_⟩) hHeld ?_
              rotate_left
              · intro W hSw; (try dsimp only at hSw); go_simp; (try with_reducible rfl)
              (try simp only [Act.put, List.setIfInBounds_toArray, List.set_cons_zero, List.set_cons_succ])
              refine wpAnyH_ready (rs := [17]) (by kernel_rfl) (by simp) ?_
              refine AllReadyH.cons rfl (fun KK hK => ?_) ?_
              · go_simp
                refine hK.out _ _ ?_ (fun hHeld => ?_)
                · exact Keep.out _ (by (repeat (first | with_reducible assumption | with_reducible refine lat_al ?_ _ | with_reducible refine lat_dr ?_ | (refine lat_set ?_ (by omega) _ _))); done)
                clear hK KK
                (try simp only [Act.put, List.setIfInBounds_toArray, List.set_cons_zero, List.set_cons_succ])
                refine wpAnyH_take (i := 18) (v := ?_) rfl (by kernel_rfl) (by kernel_rfl) (by kernel_rfl) (fun _ _ _ h => h) (Or.inl ⟨by rfl, ?_⟩) hHeld ?_
                rotate_left
                · intro W hSw; (try dsimp only at hSw); go_simp; (try with_reducible rfl)
                (try simp only [Act.put, List.setIfInBounds_toArray, List.set_cons_zero, List.set_cons_succ])
                refine wpAnyH_done (by kernel_rfl) ?_ _
                refine NoPanic.normal ?_
                (try simp only [Act.put, List.getElem_toArray, List.getElem_cons_zero, List.getElem_cons_succ, List.setIfInBounds_toArray, List.set_cons_zero, List.set_cons_succ])
                have zne : w0.heap.size ≤ v2.heap.size := by omega
                clear hHeld
                obtain ⟨fR, r0, r1, r2, r3⟩ := Frz.out v3 hb3
                have zRn : w.heap.size + 1 + 1 < v3.heap.size := by omega
                go_wp2
                refine ret_iv (p := 4) (q := 5) (by kernel_rfl) rfl rfl (Fin.out _ ?_).1 ⟨rfl, (Fin.out _ ?_).2⟩ <;> exact (by (repeat (first | with_reducible assumption | with_reducible refine lat_al ?_ _ | with_reducible refine lat_dr ?_ | (refine lat_set ?_ (by omega) _ _))); done)
              exact AllReadyH.nil
            exact AllReadyH.nil
          exact AllReadyH.nil
        refine AllReadyH.cons rfl (fun KK hK => ?_) ?_
        · go_simp
          refine hK.out _ _ ?_ (fun hHeld => ?_)
          · exact Keep.out _ (by (repeat (first | with_reducible assumption | with_reducible refine lat_al ?_ _ | with_reducible refine lat_dr ?_ | (refine lat_set ?_ (by omega) _ _))); done)
          clear hK KK
          (try simp only [Act.put, List.setIfInBounds_toArray, List.set_cons_zero, List.set_cons_succ])
          refine wpAnyH_ready (rs := [11]) (by kernel_rfl) (by simp) ?_
          refine AllReadyH.cons rfl (fun KK hK => ?_) ?_
          · go_simp
            go_at_call 29
            (with_reducible refine (LA.out _ _ (by (repeat (first | with_reducible assumption | with_reducible exact blk_two_at (by simp) | with_reducible refine Blk.alloc ?_ _ | with_reducible refine Blk.drew ?_)); done)).mono ?_)
            rintro e v2 ⟨rfl, hB⟩
            have hb2 : Below w0.heap.size w0 v2 := below_step (by (repeat (first | with_reducible assumption | with_reducible refine lat_al ?_ _ | with_reducible refine lat_dr ?_ | (refine lat_set ?_ (by omega) _ _))); done) hB
            have sz2 := hb2.size
            have kz : Blk v2 (v1.heap.size + 1) 25 #[.int .i64 0, .int .i64 0, .int .i64 0, .int .i64 0] := Blk.below (show Blk _ (v1.heap.size + 1) 25 #[.int .i64 0, .int .i64 0, .int .i64 0, .int .i64 0] from (by (repeat (first | with_reducible assumption | with_reducible exact blk_at (by simp) | with_reducible refine Blk.alloc ?_ _ | with_reducible refine Blk.drew ?_)); done)) hB (Blk.lt (show Blk _ (v1.heap.size + 1) 25 #[.int .i64 0, .int .i64 0, .int .i64 0, .int .i64 0] from (by (repeat (first | with_reducible assumption | with_reducible exact blk_at (by simp) | with_reducible refine Blk.alloc ?_ _ | with_reducible refine Blk.drew ?_)); done)))
            have fz := kz.frozen
            have z0 := kz.cell 0
            have z1 := kz.cell 1
            have z2 := kz.cell 2
            have z3 := kz.cell 3
            have zl := kz.lt
            clear hB
            (try go_wp2_with fail)
            refine hK.out _ _ ?_ (fun hHeld => ?_)
            · exact Keep.out _ (by (repeat (first | with_reducible assumption | with_reducible refine lat_al ?_ _ | with_reducible refine lat_dr ?_ | (refine lat_set ?_ (by omega) _ _))); done)
            clear hK KK
            (try simp only [Act.put, List.setIfInBounds_toArray, List.set_cons_zero, List.set_cons_succ])
            refine wpAnyH_ready (rs := [12]) (by kernel_rfl) (by simp) ?_
            refine AllReadyH.cons rfl (fun KK hK => ?_) ?_
            · go_simp
              go_at_call 27
              (with_reducible refine (NW.out _).mono ?_)
              rintro e v3 ⟨rfl, hB⟩
              have hb3 : Below w0.heap.size w0 v3 := below_step (by (repeat (first | with_reducible assumption | with_reducible refine lat_al ?_ _ | with_reducible refine lat_dr ?_ | (refine lat_set ?_ (by omega) _ _))); done) hB
              have sz3 := hb3.size
              have kz : Blk v3 (v1.heap.size + 1) 25 #[.int .i64 0, .int .i64 0, .int .i64 0, .int .i64 0] := Blk.below (show Blk _ (v1.heap.size + 1) 25 #[.int .i64 0, .int .i64 0, .int .i64 0, .int .i64 0] from (by (repeat (first | with_reducible assumption | with_reducible exact blk_at (by simp) | with_reducible refine Blk.alloc ?_ _ | with_reducible refine Blk.drew ?_)); done)) hB (Blk.lt (show Blk _ (v1.heap.size + 1) 25 #[.int .i64 0, .int .i64 0, .int .i64 0, .int .i64 0] from (by (repeat (first | with_reducible assumption | with_reducible exact blk_at (by simp) | with_reducible refine Blk.alloc ?_ _ | with_reducible refine Blk.drew ?_)); done)))
              have fz := kz.frozen
              have z0 := kz.cell 0
              have z1 := kz.cell 1
              have z2 := kz.cell 2
              have z3 := kz.cell 3
              have zl := kz.lt
              clear hB
              (try go_wp2_with fail)
              refine hK.out _ _ ?_ (fun hHeld => ?_)
              · exact Keep.out _ (by (repeat (first | with_reducible assumption | with_reducible refine lat_al ?_ _ | with_reducible refine lat_dr ?_ | (refine lat_set ?_ (by omega) _ _))); done)
              clear hK KK
              (try simp only [Act.put, List.setIfInBounds_toArray, List.set_cons_zero, List.set_cons_succ])
              refine wpAnyH_take (i := 13) (v := ?_) rfl (by kernel_rfl) (by kernel_rfl) (by kernel_rfl) (fun _ _ _ h => h) (Or.inl ⟨by rfl, ?_⟩) hHeld ?_
              rotate_left
              · intro W hSw; (try dsimp only at hSw); go_simp; (try with_reducible rfl)
              (try simp only [Act.put, List.setIfInBounds_toArray, List.set_cons_zero, List.set_cons_succ])
              refine wpAnyH_take (i := 14) (v := ?_) rfl (by kernel_rfl) (by kernel_rfl) (by kernel_rfl) (fun _ _ _ h => h) (Or.inl ⟨by rfl, ?_⟩) hHeld ?_
              rotate_left
              · intro W hSw; (try dsimp only at hSw); go_simp; (try with_reducible rfl)
              (try simp only [Act.put, List.setIfInBounds_toArray, List.set_cons_zero, List.set_cons_succ])
              refine wpAnyH_take (i := 15) (v := ?_) rfl (by kernel_rfl) (by kernel_rfl) (by kernel_rfl) (fun _ _ _ h => h) (Or.inl ⟨by rfl, ?_⟩) hHeld ?_
              rotate_left
              · intro W hSw; (try dsimp only at hSw); go_simp; (try with_reducible rfl)
              (try simp only [Act.put, List.setIfInBounds_toArray, List.set_cons_zero, List.set_cons_succ])
              refine wpAnyH_ready (rs := [17]) (by kernel_rfl) (by simp) ?_
              refine AllReadyH.cons rfl (fun KK hK => ?_) ?_
              · go_simp
                refine hK.out _ _ ?_ (fun hHeld => ?_)
                · exact Keep.out _ (by (repeat (first | with_reducible assumption | with_reducible refine lat_al ?_ _ | with_reducible refine lat_dr ?_ | (refine lat_set ?_ (by omega) _ _))); done)
                clear hK KK
                (try simp only [Act.put, List.setIfInBounds_toArray, List.set_cons_zero, List.set_cons_succ])
                refine wpAnyH_take (i := 18) (v := ?_) rfl (by kernel_rfl) (by kernel_rfl) (by kernel_rfl) (fun _ _ _ h => h) (Or.inl ⟨by rfl, ?_⟩) hHeld ?_
                rotate_left
                · intro W hSw; (try dsimp only at hSw); go_simp; (try with_reducible rfl)
                (try simp only [Act.put, List.setIfInBounds_toArray, List.set_cons_zero, List.set_cons_succ])
                refine wpAnyH_done (by kernel_rfl) ?_ _
                refine NoPanic.normal ?_
                (try simp only [Act.put, List.getElem_toArray, List.getElem_cons_zero, List.getElem_cons_succ, List.setIfInBounds_toArray, List.set_cons_zero, List.set_cons_succ])
                have zne : w0.heap.size ≤ v1.heap.size + 1 := by omega
                clear hHeld
                obtain ⟨fR, r0, r1, r2, r3⟩ := Frz.out v3 hb3
                have zRn : w.heap.size + 1 + 1 < v3.heap.size := by omega
                go_wp2
                refine ret_iv (p := 4) (q := 5) (by kernel_rfl) rfl rfl (Fin.out _ ?_).1 ⟨rfl, (Fin.out _ ?_).2⟩ <;> exact (by (repeat (first | with_reducible assumption | with_reducible refine lat_al ?_ _ | with_reducible refine lat_dr ?_ | (refine lat_set ?_ (by omega) _ _))); done)
              exact AllReadyH.nil
            exact AllReadyH.nil
          exact AllReadyH.nil
        exact AllReadyH.nil
      refine AllReadyH.cons rfl (fun KK hK => ?_) ?_
      · go_simp
        refine hK.out _ _ ?_ (fun hHeld => ?_)
        · exact Keep.out _ (by (repeat (first | with_reducible assumption | with_reducible refine lat_al ?_ _ | with_reducible refine lat_dr ?_ | (refine lat_set ?_ (by omega) _ _))); done)
        clear hK KK
        (try simp only [Act.put, List.setIfInBounds_toArray, List.set_cons_zero, List.set_cons_succ])
        refine wpAnyH_ready (rs := [10]) (by kernel_rfl) (by simp) ?_
        refine AllReadyH.cons rfl (fun KK hK => ?_) ?_
        · go_simp
          refine hK.out _ _ ?_ (fun hHeld => ?_)
          · exact Keep.out _ (by (repeat (first | with_reducible assumption | with_reducible refine lat_al ?_ _ | with_reducible refine lat_dr ?_ | (refine lat_set ?_ (by omega) _ _))); done)
          clear hK KK
          (try simp only [Act.put, List.setIfInBounds_toArray, List.set_cons_zero, List.set_cons_succ])
          refine wpAnyH_ready (rs := [11]) (by kernel_rfl) (by simp) ?_
          refine AllReadyH.cons rfl (fun KK hK => ?_) ?_
          · go_simp
            go_at_call 29
            (with_reducible refine (LA.out _ _ (by (repeat (first | with_reducible assumption | with_reducible exact blk_two_at (by simp) | with_reducible refine Blk.alloc ?_ _ | with_reducible refine Blk.drew ?_)); done)).mono ?_)
            rintro e v2 ⟨rfl, hB⟩
            have hb2 : Below w0.heap.size w0 v2 := below_step (by (repeat (first | with_reducible assumption | with_reducible refine lat_al ?_ _ | with_reducible refine lat_dr ?_ | (refine lat_set ?_ (by omega) _ _))); done) hB
            have sz2 := hb2.size
            have kz : Blk v2 (v1.heap.size) 25 #[.int .i64 0, .int .i64 0, .int .i64 0, .int .i64 0] := Blk.below (show Blk _ (v1.heap.size) 25 #[.int .i64 0, .int .i64 0, .int .i64 0, .int .i64 0] from (by (repeat (first | with_reducible assumption | with_reducible exact blk_at (by simp) | with_reducible refine Blk.alloc ?_ _ | with_reducible refine Blk.drew ?_)); done)) hB (Blk.lt (show Blk _ (v1.heap.size) 25 #[.int .i64 0, .int .i64 0, .int .i64 0, .int .i64 0] from (by (repeat (first | with_reducible assumption | with_reducible exact blk_at (by simp) | with_reducible refine Blk.alloc ?_ _ | with_reducible refine Blk.drew ?_)); done)))
            have fz := kz.frozen
            have z0 := kz.cell 0
            have z1 := kz.cell 1
            have z2 := kz.cell 2
            have z3 := kz.cell 3
            have zl := kz.lt
            clear hB
            (try go_wp2_with fail)
            refine hK.out _ _ ?_ (fun hHeld => ?_)
            · exact Keep.out _ (by (repeat (first | with_reducible assumption | with_reducible refine lat_al ?_ _ | with_reducible refine lat_dr ?_ | (refine lat_set ?_ (by omega) _ _))); done)
            clear hK KK
            (try simp only [Act.put, List.setIfInBounds_toArray, List.set_cons_zero, List.set_cons_succ])
            refine wpAnyH_ready (rs := [12]) (by kernel_rfl) (by simp) ?_
            refine AllReadyH.cons rfl (fun KK hK => ?_) ?_
            · go_simp
              go_at_call 27
              (with_reducible refine (NW.out _).mono ?_)
              rintro e v3 ⟨rfl, hB⟩
              have hb3 : Below w0.heap.size w0 v3 := below_step (by (repeat (first | with_reducible assumption | with_reducible refine lat_al ?_ _ | with_reducible refine lat_dr ?_ | (refine lat_set ?_ (by omega) _ _))); done) hB
              have sz3 := hb3.size
              have kz : Blk v3 (v1.heap.size) 25 #[.int .i64 0, .int .i64 0, .int .i64 0, .int .i64 0] := Blk.below (show Blk _ (v1.heap.size) 25 #[.int .i64 0, .int .i64 0, .int .i64 0, .int .i64 0] from (by (repeat (first | with_reducible assumption | with_reducible exact blk_at (by simp) | with_reducible refine Blk.alloc ?_ _ | with_reducible refine Blk.drew ?_)); done)) hB (Blk.lt (show Blk _ (v1.heap.size) 25 #[.int .i64 0, .int .i64 0, .int .i64 0, .int .i64 0] from (by (repeat (first | with_reducible assumption | with_reducible exact blk_at (by simp) | with_reducible refine Blk.alloc ?_ _ | with_reducible refine Blk.drew ?_)); done)))
              have fz := kz.frozen
              have z0 := kz.cell 0
              have z1 := kz.cell 1
              have z2 := kz.cell 2
              have z3 := kz.cell 3
              have zl := kz.lt
              clear hB
              (try go_wp2_with fail)
              refine hK.out _ _ ?_ (fun hHeld => ?_)
              · exact Keep.out _ (by (repeat (first | with_reducible assumption | with_reducible refine lat_al ?_ _ | with_reducible refine lat_dr ?_ | (refine lat_set ?_ (by omega) _ _))); done)
              clear hK KK
              (try simp only [Act.put, List.setIfInBounds_toArray, List.set_cons_zero, List.set_cons_succ])
              refine wpAnyH_take (i := 13) (v := ?_) rfl (by kernel_rfl) (by kernel_rfl) (by kernel_rfl) (fun _ _ _ h => h) (Or.inl ⟨by rfl, ?_⟩) hHeld ?_
              rotate_left
              · intro W hSw; (try dsimp only at hSw); go_simp; (try with_reducible rfl)
              (try simp only [Act.put, List.setIfInBounds_toArray, List.set_cons_zero, List.set_cons_succ])
              refine wpAnyH_take (i := 14) (v := ?_) rfl (by kernel_rfl) (by kernel_rfl) (by kernel_rfl) (fun _ _ _ h => h) (Or.inl ⟨by rfl, ?_⟩) hHeld ?_
              rotate_left
              · intro W hSw; (try dsimp only at hSw); go_simp; (try with_reducible rfl)
              (try simp only [Act.put, List.setIfInBounds_toArray, List.set_cons_zero, List.set_cons_succ])
              refine wpAnyH_take (i := 15) (v := ?_) rfl (by kernel_rfl) (by kernel_rfl) (by kernel_rfl) (fun _ _ _ h => h) (Or.inl ⟨by rfl, ?_⟩) hHeld ?_
              rotate_left
              · intro W hSw; (try dsimp only at hSw); go_simp; (try with_reducible rfl)
              (try simp only [Act.put, List.setIfInBounds_toArray, List.set_cons_zero, List.set_cons_succ])
              refine wpAnyH_ready (rs := [17]) (by kernel_rfl) (by simp) ?_
              refine AllReadyH.cons rfl (fun KK hK => ?_) ?_
              · go_simp
                refine hK.out _ _ ?_ (fun hHeld => ?_)
                · exact Keep.out _ (by (repeat (first | with_reducible assumption | with_reducible refine lat_al ?_ _ | with_reducible refine lat_dr ?_ | (refine lat_set ?_ (by omega) _ _))); done)
                clear hK KK
                (try simp only [Act.put, List.setIfInBounds_toArray, List.set_cons_zero, List.set_cons_succ])
                refine wpAnyH_take (i := 18) (v := ?_) rfl (by kernel_rfl) (by kernel_rfl) (by kernel_rfl) (fun _ _ _ h => h) (Or.inl ⟨by rfl, ?_⟩) hHeld ?_
                rotate_left
                · intro W hSw; (try dsimp only at hSw); go_simp; (try with_reducible rfl)
                (try simp only [Act.put, List.setIfInBounds_toArray, List.set_cons_zero, List.set_cons_succ])
                refine wpAnyH_done (by kernel_rfl) ?_ _
                refine NoPanic.normal ?_
                (try simp only [Act.put, List.getElem_toArray, List.getElem_cons_zero, List.getElem_cons_succ, List.setIfInBounds_toArray, List.set_cons_zero, List.set_cons_succ])
                have zne : w0.heap.size ≤ v1.heap.size := by omega
                clear hHeld
                obtain ⟨fR, r0, r1, r2, r3⟩ := Frz.out v3 hb3
                have zRn : w.heap.size + 1 + 1 < v3.heap.size := by omega
                go_wp2
                refine ret_iv (p := 4) (q := 5) (by kernel_rfl) rfl rfl (Fin.out _ ?_).1 ⟨rfl, (Fin.out _ ?_).2⟩ <;> exact (by (repeat (first | with_reducible assumption | with_reducible refine lat_al ?_ _ | with_reducible refine lat_dr ?_ | (refine lat_set ?_ (by omega) _ _))); done)
              exact AllReadyH.nil
            exact AllReadyH.nil
          exact AllReadyH.nil
        exact AllReadyH.nil
      exact AllReadyH.nil
    refine AllReadyH.cons rfl (fun KK hK => ?_) ?_
    · go_simp
      refine hK.out _ _ ?_ (fun hHeld => ?_)
      · exact Keep.out _ (by (repeat (first | with_reducible assumption | with_reducible refine lat_al ?_ _ | with_reducible refine lat_dr ?_ | (refine lat_set ?_ (by omega) _ _))); done)
      clear hK KK
      (try simp only [Act.put, List.setIfInBounds_toArray, List.set_cons_zero, List.set_cons_succ])
      refine wpAnyH_ready (rs := [5, 16]) (by kernel_rfl) (by simp) ?_
      refine AllReadyH.cons rfl (fun KK hK => ?_) ?_
      · go_simp
        go_at_call 28
        (with_reducible refine (GA.out _ _ (by (repeat (first | with_reducible assumption | with_reducible exact blk_two_at (by simp) | with_reducible refine Blk.alloc ?_ _ | with_reducible refine Blk.drew ?_)); done)).mono ?_)
        rintro e v1 ⟨rfl, hB⟩
        have hb1 : Below w0.heap.size w0 v1 := below_step (by (repeat (first | with_reducible assumption | with_reducible refine lat_al ?_ _ | with_reducible refine lat_dr ?_ | (refine lat_set ?_ (by omega) _ _))); done) hB
        have sz1 := hb1.size
        have kh : Blk v1 (w0.heap.size + 1) 23 (flat [(c, d), (c', d')]) := Blk.below (show Blk _ (w0.heap.size + 1) 23 (flat [(c, d), (c', d')]) from (by (repeat (first | with_reducible assumption | with_reducible exact blk_two_at (by simp) | with_reducible refine Blk.alloc ?_ _ | with_reducible refine Blk.drew ?_)); done)) hB (Blk.lt (show Blk _ (w0.heap.size + 1) 23 (flat [(c, d), (c', d')]) from (by (repeat (first | with_reducible assumption | with_reducible exact blk_two_at (by simp) | with_reducible refine Blk.alloc ?_ _ | with_reducible refine Blk.drew ?_)); done)))
        clear hB
        (try go_wp2_with fail)
        refine hK.out _ _ ?_ (fun hHeld => ?_)
        · exact Keep.out _ (by (repeat (first | with_reducible assumption | with_reducible refine lat_al ?_ _ | with_reducible refine lat_dr ?_ | (refine lat_set ?_ (by omega) _ _))); done)
        clear hK KK
        (try simp only [Act.put, List.setIfInBounds_toArray, List.set_cons_zero, List.set_cons_succ])
        refine wpAnyH_ready (rs := [11, 16]) (by kernel_rfl) (by simp) ?_
        refine AllReadyH.cons rfl (fun KK hK => ?_) ?_
        · go_simp
          go_at_call 29
          (with_reducible refine (LA.out _ _ (by (repeat (first | with_reducible assumption | with_reducible exact blk_two_at (by simp) | with_reducible refine Blk.alloc ?_ _ | with_reducible refine Blk.drew ?_)); done)).mono ?_)
          rintro e v2 ⟨rfl, hB⟩
          have hb2 : Below w0.heap.size w0 v2 := below_step (by (repeat (first | with_reducible assumption | with_reducible refine lat_al ?_ _ | with_reducible refine lat_dr ?_ | (refine lat_set ?_ (by omega) _ _))); done) hB
          have sz2 := hb2.size
          clear hB
          (try go_wp2_with fail)
          refine hK.out _ _ ?_ (fun hHeld => ?_)
          · exact Keep.out _ (by (repeat (first | with_reducible assumption | with_reducible refine lat_al ?_ _ | with_reducible refine lat_dr ?_ | (refine lat_set ?_ (by omega) _ _))); done)
          clear hK KK
          (try simp only [Act.put, List.setIfInBounds_toArray, List.set_cons_zero, List.set_cons_succ])
          refine wpAnyH_ready (rs := [12, 16]) (by kernel_rfl) (by simp) ?_
          refine AllReadyH.cons rfl (fun KK hK => ?_) ?_
          · go_simp
            go_at_call 27
            (with_reducible refine (NW.out _).mono ?_)
            rintro e v3 ⟨rfl, hB⟩
            have hb3 : Below w0.heap.size w0 v3 := below_step (by (repeat (first | with_reducible assumption | with_reducible refine lat_al ?_ _ | with_reducible refine lat_dr ?_ | (refine lat_set ?_ (by omega) _ _))); done) hB
            have sz3 := hb3.size
            clear hB
            (try go_wp2_with fail)
            refine hK.out _ _ ?_ (fun hHeld => ?_)
            · exact Keep.out _ (by (repeat (first | with_reducible assumption | with_reducible refine lat_al ?_ _ | with_reducible refine lat_dr ?_ | (refine lat_set ?_ (by omega) _ _))); done)
            clear hK KK
            (try simp only [Act.put, List.setIfInBounds_toArray, List.set_cons_zero, List.set_cons_succ])
            refine wpAnyH_take (i := 13) (v := ?_) rfl (by kernel_rfl) (by kernel_rfl) (by kernel_rfl) (fun _ _ _ h => h) (Or.inl ⟨by rfl, ?_⟩) hHeld ?_
            rotate_left
            · intro W hSw; (try dsimp only at hSw); go_simp; (try with_reducible rfl)
            (try simp only [Act.put, List.setIfInBounds_toArray, List.set_cons_zero, List.set_cons_succ])
            refine wpAnyH_take (i := 14) (v := ?_) rfl (by kernel_rfl) (by kernel_rfl) (by kernel_rfl) (fun _ _ _ h => h) (Or.inl ⟨by rfl, ?_⟩) hHeld ?_
            rotate_left
            · intro W hSw; (try dsimp only at hSw); go_simp; (try with_reducible rfl)
            (try simp only [Act.put, List.setIfInBounds_toArray, List.set_cons_zero, List.set_cons_succ])
            refine wpAnyH_take (i := 15) (v := ?_) rfl (by kernel_rfl) (by kernel_rfl) (by kernel_rfl) (fun _ _ _ h => h) (Or.inl ⟨by rfl, ?_⟩) hHeld ?_
            rotate_left
            · intro W hSw; (try dsimp only at hSw); go_simp; (try with_reducible rfl)
            (try simp only [Act.put, List.setIfInBounds_toArray, List.set_cons_zero, List.set_cons_succ])
            refine wpAnyH_ready (rs := [16]) (by kernel_rfl) (by simp) ?_
            refine AllReadyH.cons rfl (fun KK hK => ?_) ?_
            · go_simp
              refine hK.out _ _ ?_ (fun hHeld => ?_)
              · exact Keep.out _ (by (repeat (first | with_reducible assumption | with_reducible refine lat_al ?_ _ | with_reducible refine lat_dr ?_ | (refine lat_set ?_ (by omega) _ _))); done)
              clear hK KK
              (try simp only [Act.put, List.setIfInBounds_toArray, List.set_cons_zero, List.set_cons_succ])
              refine wpAnyH_ready (rs := [17]) (by kernel_rfl) (by simp) ?_
              refine AllReadyH.cons rfl (fun KK hK => ?_) ?_
              · go_simp
                refine hK.out _ _ ?_ (fun hHeld => ?_)
                · exact Keep.out _ (by (repeat (first | with_reducible assumption | with_reducible refine lat_al ?_ _ | with_reducible refine lat_dr ?_ | (refine lat_set ?_ (by omega) _ _))); done)
                clear hK KK
                (try simp only [Act.put, List.setIfInBounds_toArray, List.set_cons_zero, List.set_cons_succ])
                refine wpAnyH_take (i := 18) (v := ?_) rfl (by kernel_rfl) (by kernel_rfl) (by kernel_rfl) (fun _ _ _ h => h) (Or.inl ⟨by rfl, ?_⟩) hHeld ?_
                rotate_left
                · intro W hSw; (try dsimp only at hSw); go_simp; (try with_reducible rfl)
                (try simp only [Act.put, List.setIfInBounds_toArray, List.set_cons_zero, List.set_cons_succ])
                refine wpAnyH_done (by kernel_rfl) ?_ _
                refine NoPanic.normal ?_
                (try simp only [Act.put, List.getElem_toArray, List.getElem_cons_zero, List.getElem_cons_succ, List.setIfInBounds_toArray, List.set_cons_zero, List.set_cons_succ])
                have zne : w0.heap.size ≤ v3.heap.size := by omega
                clear hHeld
                obtain ⟨fR, r0, r1, r2, r3⟩ := Frz.out v3 hb3
                have zRn : w.heap.size + 1 + 1 < v3.heap.size := by omega
                go_wp2
                exact ret_iv (p := 4) (q := 5) (by kernel_rfl) rfl rfl ((Fin.out v3 hb3).1.alloc _) ⟨rfl, (Fin.out v3 hb3).2.alloc (Fin.out v3 hb3).2.size _⟩
              exact AllReadyH.nil
            exact AllReadyH.nil
          refine AllReadyH.cons rfl (fun KK hK => ?_) ?_
          · go_simp
            refine hK.out _ _ ?_ (fun hHeld => ?_)
            · exact Keep.out _ (by (repeat (first | with_reducible assumption | with_reducible refine lat_al ?_ _ | with_reducible refine lat_dr ?_ | (refine lat_set ?_ (by omega) _ _))); done)
            clear hK KK
            (try simp only [Act.put, List.setIfInBounds_toArray, List.set_cons_zero, List.set_cons_succ])
            refine wpAnyH_ready (rs := [12]) (by kernel_rfl) (by simp) ?_
            refine AllReadyH.cons rfl (fun KK hK => ?_) ?_
            · go_simp
              go_at_call 27
              (with_reducible refine (NW.out _).mono ?_)
              rintro e v3 ⟨rfl, hB⟩
              have hb3 : Below w0.heap.size w0 v3 := below_step (by (repeat (first | with_reducible assumption | with_reducible refine lat_al ?_ _ | with_reducible refine lat_dr ?_ | (refine lat_set ?_ (by omega) _ _))); done) hB
              have sz3 := hb3.size
              have kz : Blk v3 (v2.heap.size) 25 #[.int .i64 0, .int .i64 0, .int .i64 0, .int .i64 0] := Blk.below (show Blk _ (v2.heap.size) 25 #[.int .i64 0, .int .i64 0, .int .i64 0, .int .i64 0] from (by (repeat (first | with_reducible assumption | with_reducible exact blk_at (by simp) | with_reducible refine Blk.alloc ?_ _ | with_reducible refine Blk.drew ?_)); done)) hB (Blk.lt (show Blk _ (v2.heap.size) 25 #[.int .i64 0, .int .i64 0, .int .i64 0, .int .i64 0] from (by (repeat (first | with_reducible assumption | with_reducible exact blk_at (by simp) | with_reducible refine Blk.alloc ?_ _ | with_reducible refine Blk.drew ?_)); done)))
              have fz := kz.frozen
              have z0 := kz.cell 0
              have z1 := kz.cell 1
              have z2 := kz.cell 2
              have z3 := kz.cell 3
              have zl := kz.lt
              clear hB
              (try go_wp2_with fail)
              refine hK.out _ _ ?_ (fun hHeld => ?_)
              · exact Keep.out _ (by (repeat (first | with_reducible assumption | with_reducible refine lat_al ?_ _ | with_reducible refine lat_dr ?_ | (refine lat_set ?_ (by omega) _ _))); done)
              clear hK KK
              (try simp only [Act.put, List.setIfInBounds_toArray, List.set_cons_zero, List.set_cons_succ])
              refine wpAnyH_take (i := 13) (v := ?_) rfl (by kernel_rfl) (by kernel_rfl) (by kernel_rfl) (fun _ _ _ h => h) (Or.inl ⟨by rfl, ?_⟩) hHeld ?_
              rotate_left
              · intro W hSw; (try dsimp only at hSw); go_simp; (try with_reducible rfl)
              (try simp only [Act.put, List.setIfInBounds_toArray, List.set_cons_zero, List.set_cons_succ])
              refine wpAnyH_take (i := 14) (v := ?_) rfl (by kernel_rfl) (by kernel_rfl) (by kernel_rfl) (fun _ _ _ h => h) (Or.inl ⟨by rfl, ?_⟩) hHeld ?_
              rotate_left
              · intro W hSw; (try dsimp only at hSw); go_simp; (try with_reducible rfl)
              (try simp only [Act.put, List.setIfInBounds_toArray, List.set_cons_zero, List.set_cons_succ])
              refine wpAnyH_take (i := 15) (v := ?_) rfl (by kernel_rfl) (by kernel_rfl) (by kernel_rfl) (fun _ _ _ h => h) (Or.inl ⟨by rfl, ?_⟩) hHeld ?_
              rotate_left
              · intro W hSw; (try dsimp only at hSw); go_simp; (try with_reducible rfl)
              (try simp only [Act.put, List.setIfInBounds_toArray, List.set_cons_zero, List.set_cons_succ])
              refine wpAnyH_ready (rs := [17]) (by kernel_rfl) (by simp) ?_
              refine AllReadyH.cons rfl (fun KK hK => ?_) ?_
              · go_simp
                refine hK.out _ _ ?_ (fun hHeld => ?_)
                · exact Keep.out _ (by (repeat (first | with_reducible assumption | with_reducible refine lat_al ?_ _ | with_reducible refine lat_dr ?_ | (refine lat_set ?_ (by omega) _ _))); done)
                clear hK KK
                (try simp only [Act.put, List.setIfInBounds_toArray, List.set_cons_zero, List.set_cons_succ])
                refine wpAnyH_take (i := 18) (v := ?_) rfl (by kernel_rfl) (by kernel_rfl) (by kernel_rfl) (fun _ _ _ h => h) (Or.inl ⟨by rfl, ?_⟩) hHeld ?_
                rotate_left
                · intro W hSw; (try dsimp only at hSw); go_simp; (try with_reducible rfl)
                (try simp only [Act.put, List.setIfInBounds_toArray, List.set_cons_zero, List.set_cons_succ])
                refine wpAnyH_done (by kernel_rfl) ?_ _
                refine NoPanic.normal ?_
                (try simp only [Act.put, List.getElem_toArray, List.getElem_cons_zero, List.getElem_cons_succ, List.setIfInBounds_toArray, List.set_cons_zero, List.set_cons_succ])
                have zne : w0.heap.size ≤ v2.heap.size := by omega
                clear hHeld
                obtain ⟨fR, r0, r1, r2, r3⟩ := Frz.out v3 hb3
                have zRn : w.heap.size + 1 + 1 < v3.heap.size := by omega
                go_wp2
                refine ret_iv (p := 4) (q := 5) (by kernel_rfl) rfl rfl (Fin.out _ ?_).1 ⟨rfl, (Fin.out _ ?_).2⟩ <;> exact (by (repeat (first | with_reducible assumption | with_reducible refine lat_al ?_ _ | with_reducible refine lat_dr ?_ | (refine lat_set ?_ (by omega) _ _))); done)
              exact AllReadyH.nil
            exact AllReadyH.nil
          exact AllReadyH.nil
        refine AllReadyH.cons rfl (fun KK hK => ?_) ?_
        · go_simp
          refine hK.out _ _ ?_ (fun hHeld => ?_)
          · exact Keep.out _ (by (repeat (first | with_reducible assumption | with_reducible refine lat_al ?_ _ | with_reducible refine lat_dr ?_ | (refine lat_set ?_ (by omega) _ _))); done)
          clear hK KK
          (try simp only [Act.put, List.setIfInBounds_toArray, List.set_cons_zero, List.set_cons_succ])
          refine wpAnyH_ready (rs := [11]) (by kernel_rfl) (by simp) ?_
          refine AllReadyH.cons rfl (fun KK hK => ?_) ?_
          · go_simp
            go_at_call 29
            (with_reducible refine (LA.out _ _ (by (repeat (first | with_reducible assumption | with_reducible exact blk_two_at (by simp) | with_reducible refine Blk.alloc ?_ _ | with_reducible refine Blk.drew ?_)); done)).mono ?_)
            rintro e v2 ⟨rfl, hB⟩
            have hb2 : Below w0.heap.size w0 v2 := below_step (by (repeat (first | with_reducible assumption | with_reducible refine lat_al ?_ _ | with_reducible refine lat_dr ?_ | (refine lat_set ?_ (by omega) _ _))); done) hB
            have sz2 := hb2.size
            have kz : Blk v2 (v1.heap.size) 25 #[.int .i64 0, .int .i64 0, .int .i64 0, .int .i64 0] := Blk.below (show Blk _ (v1.heap.size) 25 #[.int .i64 0, .int .i64 0, .int .i64 0, .int .i64 0] from (by (repeat (first | with_reducible assumption | with_reducible exact blk_at (by simp) | with_reducible refine Blk.alloc ?_ _ | with_reducible refine Blk.drew ?_)); done)) hB (Blk.lt (show Blk _ (v1.heap.size) 25 #[.int .i64 0, .int .i64 0, .int .i64 0, .int .i64 0] from (by (repeat (first | with_reducible assumption | with_reducible exact blk_at (by simp) | with_reducible refine Blk.alloc ?_ _ | with_reducible refine Blk.drew ?_)); done)))
            have fz := kz.frozen
            have z0 := kz.cell 0
            have z1 := kz.cell 1
            have z2 := kz.cell 2
            have z3 := kz.cell 3
            have zl := kz.lt
            clear hB
            (try go_wp2_with fail)
            refine hK.out _ _ ?_ (fun hHeld => ?_)
            · exact Keep.out _ (by (repeat (first | with_reducible assumption | with_reducible refine lat_al ?_ _ | with_reducible refine lat_dr ?_ | (refine lat_set ?_ (by omega) _ _))); done)
            clear hK KK
            (try simp only [Act.put, List.setIfInBounds_toArray, List.set_cons_zero, List.set_cons_succ])
            refine wpAnyH_ready (rs := [12]) (by kernel_rfl) (by simp) ?_
            refine AllReadyH.cons rfl (fun KK hK => ?_) ?_
            · go_simp
              go_at_call 27
              (with_reducible refine (NW.out _).mono ?_)
              rintro e v3 ⟨rfl, hB⟩
              have hb3 : Below w0.heap.size w0 v3 := below_step (by (repeat (first | with_reducible assumption | with_reducible refine lat_al ?_ _ | with_reducible refine lat_dr ?_ | (refine lat_set ?_ (by omega) _ _))); done) hB
              have sz3 := hb3.size
              have kz : Blk v3 (v1.heap.size) 25 #[.int .i64 0, .int .i64 0, .int .i64 0, .int .i64 0] := Blk.below (show Blk _ (v1.heap.size) 25 #[.int .i64 0, .int .i64 0, .int .i64 0, .int .i64 0] from (by (repeat (first | with_reducible assumption | with_reducible exact blk_at (by simp) | with_reducible refine Blk.alloc ?_ _ | with_reducible refine Blk.drew ?_)); done)) hB (Blk.lt (show Blk _ (v1.heap.size) 25 #[.int .i64 0, .int .i64 0, .int .i64 0, .int .i64 0] from (by (repeat (first | with_reducible assumption | with_reducible exact blk_at (by simp) | with_reducible refine Blk.alloc ?_ _ | with_reducible refine Blk.drew ?_)); done)))
              have fz := kz.frozen
              have z0 := kz.cell 0
              have z1 := kz.cell 1
              have z2 := kz.cell 2
              have z3 := kz.cell 3
              have zl := kz.lt
              clear hB
              (try go_wp2_with fail)
              refine hK.out _ _ ?_ (fun hHeld => ?_)
              · exact Keep.out _ (by (repeat (first | with_reducible assumption | with_reducible refine lat_al ?_ _ | with_reducible refine lat_dr ?_ | (refine lat_set ?_ (by omega) _ _))); done)
              clear hK KK
              (try simp only [Act.put, List.setIfInBounds_toArray, List.set_cons_zero, List.set_cons_succ])
              refine wpAnyH_take (i := 13) (v := ?_) rfl (by kernel_rfl) (by kernel_rfl) (by kernel_rfl) (fun _ _ _ h => h) (Or.inl ⟨by rfl, ?_⟩) hHeld ?_
              rotate_left
              · intro W hSw; (try dsimp only at hSw); go_simp; (try with_reducible rfl)
              (try simp only [Act.put, List.setIfInBounds_toArray, List.set_cons_zero, List.set_cons_succ])
              refine wpAnyH_take (i := 14) (v := ?_) rfl (by kernel_rfl) (by kernel_rfl) (by kernel_rfl) (fun _ _ _ h => h) (Or.inl ⟨by rfl, ?_⟩) hHeld ?_
              rotate_left
              · intro W hSw; (try dsimp only at hSw); go_simp; (try with_reducible rfl)
              (try simp only [Act.put, List.setIfInBounds_toArray, List.set_cons_zero, List.set_cons_succ])
              refine wpAnyH_take (i := 15) (v := ?_) rfl (by kernel_rfl) (by kernel_rfl) (by kernel_rfl) (fun _ _ _ h => h) (Or.inl ⟨by rfl, ?_⟩) hHeld ?_
              rotate_left
              · intro W hSw; (try dsimp only at hSw); go_simp; (try with_reducible rfl)
              (try simp only [Act.put, List.setIfInBounds_toArray, List.set_cons_zero, List.set_cons_succ])
              refine wpAnyH_ready (rs := [17]) (by kernel_rfl) (by simp) ?_
              refine AllReadyH.cons rfl (fun KK hK => ?_) ?_
              · go_simp
                refine hK.out _ _ ?_ (fun hHeld => ?_)
                · exact Keep.out _ (by (repeat (first | with_reducible assumption | with_reducible refine lat_al ?_ _ | with_reducible refine lat_dr ?_ | (refine lat_set ?_ (by omega) _ _))); done)
                clear hK KK
                (try simp only [Act.put, List.setIfInBounds_toArray, List.set_cons_zero, List.set_cons_succ])
                refine wpAnyH_take (i := 18) (v := ?_) rfl (by kernel_rfl) (by kernel_rfl) (by kernel_rfl) (fun _ _ _ h => h) (Or.inl ⟨by rfl, ?_⟩) hHeld ?_
                rotate_left
                · intro W hSw; (try dsimp only at hSw); go_simp; (try with_reducible rfl)
                (try simp only [Act.put, List.setIfInBounds_toArray, List.set_cons_zero, List.set_cons_succ])
                refine wpAnyH_done (by kernel_rfl) ?_ _
                refine NoPanic.normal ?_
                (try simp only [Act.put, List.getElem_toArray, List.getElem_cons_zero, List.getElem_cons_succ, List.setIfInBounds_toArray, List.set_cons_zero, List.set_cons_succ])
                have zne : w0.heap.size ≤ v1.heap.size := by omega
                clear hHeld
                obtain ⟨fR, r0, r1, r2, r3⟩ := Frz.out v3 hb3
                have zRn : w.heap.size + 1 + 1 < v3.heap.size := by omega
                go_wp2
                refine ret_iv (p := 4) (q := 5) (by kernel_rfl) rfl rfl (Fin.out _ ?_).1 ⟨rfl, (Fin.out _ ?_).2⟩ <;> exact (by (repeat (first | with_reducible assumption | with_reducible refine lat_al ?_ _ | with_reducible refine lat_dr ?_ | (refine lat_set ?_ (by omega) _ _))); done)
              exact AllReadyH.nil
            exact AllReadyH.nil
          exact AllReadyH.nil
        exact AllReadyH.nil
      refine AllReadyH.cons rfl (fun KK hK => ?_) ?_
      · go_simp
        refine hK.out _ _ ?_ (fun hHeld => ?_)
        · exact Keep.out _ (by (repeat (first | with_reducible assumption | with_reducible refine lat_al ?_ _ | with_reducible refine lat_dr ?_ | (refine lat_set ?_ (by omega) _ _))); done)
        clear hK KK
        (try simp only [Act.put, List.setIfInBounds_toArray, List.set_cons_zero, List.set_cons_succ])
        refine wpAnyH_ready (rs := [5]) (by kernel_rfl) (by simp) ?_
        refine AllReadyH.cons rfl (fun KK hK => ?_) ?_
        · go_simp
          go_at_call 28
          (with_reducible refine (GA.out _ _ (by (repeat (first | with_reducible assumption | with_reducible exact blk_two_at (by simp) | with_reducible refine Blk.alloc ?_ _ | with_reducible refine Blk.drew ?_)); done)).mono ?_)
          rintro e v1 ⟨rfl, hB⟩
          have hb1 : Below w0.heap.size w0 v1 := below_step (by (repeat (first | with_reducible assumption | with_reducible refine lat_al ?_ _ | with_reducible refine lat_dr ?_ | (refine lat_set ?_ (by omega) _ _))); done) hB
          have sz1 := hb1.size
          have kh : Blk v1 (w0.heap.size + 1) 23 (flat [(c, d), (c', d')]) := Blk.below (show Blk _ (w0.heap.size + 1) 23 (flat [(c, d), (c', d')]) from (by (repeat (first | with_reducible assumption | with_reducible exact blk_two_at (by simp) | with_reducible refine Blk.alloc ?_ _ | with_reducible refine Blk.drew ?_)); done)) hB (Blk.lt (show Blk _ (w0.heap.size + 1) 23 (flat [(c, d), (c', d')]) from (by (repeat (first | with_reducible assumption | with_reducible exact blk_two_at (by simp) | with_reducible refine Blk.alloc ?_ _ | with_reducible refine Blk.drew ?_)); done)))
          have kz : Blk v1 (w0.heap.size + 1 + 1) 25 #[.int .i64 0, .int .i64 0, .int .i64 0, .int .i64 0] := Blk.below (show Blk _ (w0.heap.size + 1 + 1) 25 #[.int .i64 0, .int .i64 0, .int .i64 0, .int .i64 0] from (by (repeat (first | with_reducible assumption | with_reducible exact blk_at (by simp) | with_reducible refine Blk.alloc ?_ _ | with_reducible refine Blk.drew ?_)); done)) hB (Blk.lt (show Blk _ (w0.heap.size + 1 + 1) 25 #[.int .i64 0, .int .i64 0, .int .i64 0, .int .i64 0] from (by (repeat (first | with_reducible assumption | with_reducible exact blk_at (by simp) | with_reducible refine Blk.alloc ?_ _ | with_reducible refine Blk.drew ?_)); done)))
          have fz := kz.frozen
          have z0 := kz.cell 0
          have z1 := kz.cell 1
          have z2 := kz.cell 2
          have z3 := kz.cell 3
          have zl := kz.lt
          clear hB
          (try go_wp2_with fail)
          refine hK.out _ _ ?_ (fun hHeld => ?_)
          · exact Keep.out _ (by (repeat (first | with_reducible assumption | with_reducible refine lat_al ?_ _ | with_reducible refine lat_dr ?_ | (refine lat_set ?_ (by omega) _ _))); done)
          clear hK KK
          (try simp only [Act.put, List.setIfInBounds_toArray, List.set_cons_zero, List.set_cons_succ])
          refine wpAnyH_ready (rs := [11]) (by kernel_rfl) (by simp) ?_
          refine AllReadyH.cons rfl (fun KK hK => ?_) ?_
          · go_simp
            go_at_call 29
            (with_reducible refine (LA.out _ _ (by (repeat (first | with_reducible assumption | with_reducible exact blk_two_at (by simp) | with_reducible refine Blk.alloc ?_ _ | with_reducible refine Blk.drew ?_)); done)).mono ?_)
            rintro e v2 ⟨rfl, hB⟩
            have hb2 : Below w0.heap.size w0 v2 := below_step (by (repeat (first | with_reducible assumption | with_reducible refine lat_al ?_ _ | with_reducible refine lat_dr ?_ | (refine lat_set ?_ (by omega) _ _))); done) hB
            have sz2 := hb2.size
            have kz : Blk v2 (w0.heap.size + 1 + 1) 25 #[.int .i64 0, .int .i64 0, .int .i64 0, .int .i64 0] := Blk.below (show Blk _ (w0.heap.size + 1 + 1) 25 #[.int .i64 0, .int .i64 0, .int .i64 0, .int .i64 0] from (by (repeat (first | with_reducible assumption | with_reducible exact blk_at (by simp) | with_reducible refine Blk.alloc ?_ _ | with_reducible refine Blk.drew ?_)); done)) hB (Blk.lt (show Blk _ (w0.heap.size + 1 + 1) 25 #[.int .i64 0, .int .i64 0, .int .i64 0, .int .i64 0] from (by (repeat (first | with_reducible assumption | with_reducible exact blk_at (by simp) | with_reducible refine Blk.alloc ?_ _ | with_reducible refine Blk.drew ?_)); done)))
            have fz := kz.frozen
            have z0 := kz.cell 0
            have z1 := kz.cell 1
            have z2 := kz.cell 2
            have z3 := kz.cell 3
            have zl := kz.lt
            clear hB
            (try go_wp2_with fail)
            refine hK.out _ _ ?_ (fun hHeld => ?_)
            · exact Keep.out _ (by (repeat (first | with_reducible assumption | with_reducible refine lat_al ?_ _ | with_reducible refine lat_dr ?_ | (refine lat_set ?_ (by omega) _ _))); done)
            clear hK KK
            (try simp only [Act.put, List.setIfInBounds_toArray, List.set_cons_zero, List.set_cons_succ])
            refine wpAnyH_ready (rs := [12]) (by kernel_rfl) (by simp) ?_
            refine AllReadyH.cons rfl (fun KK hK => ?_) ?_
            · go_simp
              go_at_call 27
              (with_reducible refine (NW.out _).mono ?_)
              rintro e v3 ⟨rfl, hB⟩
              have hb3 : Below w0.heap.size w0 v3 := below_step (by (repeat (first | with_reducible assumption | with_reducible refine lat_al ?_ _ | with_reducible refine lat_dr ?_ | (refine lat_set ?_ (by omega) _ _))); done) hB
              have sz3 := hb3.size
              have kz : Blk v3 (w0.heap.size + 1 + 1) 25 #[.int .i64 0, .int .i64 0, .int .i64 0, .int .i64 0] := Blk.below (show Blk _ (w0.heap.size + 1 + 1) 25 #[.int .i64 0, .int .i64 0, .int .i64 0, .int .i64 0] from (by (repeat (first | with_reducible assumption | with_reducible exact blk_at (by simp) | with_reducible refine Blk.alloc ?_ _ | with_reducible refine Blk.drew ?_)); done)) hB (Blk.lt (show Blk _ (w0.heap.size + 1 + 1) 25 #[.int .i64 0, .int .i64 0, .int .i64 0, .int .i64 0] from (by (repeat (first | with_reducible assumption | with_reducible exact blk_at (by simp) | with_reducible refine Blk.alloc ?_ _ | with_reducible refine Blk.drew ?_)); done)))
              have fz := kz.frozen
              have z0 := kz.cell 0
              have z1 := kz.cell 1
              have z2 := kz.cell 2
              have z3 := kz.cell 3
              have zl := kz.lt
              clear hB
              (try go_wp2_with fail)
              refine hK.out _ _ ?_ (fun hHeld => ?_)
              · exact Keep.out _ (by (repeat (first | with_reducible assumption | with_reducible refine lat_al ?_ _ | with_reducible refine lat_dr ?_ | (refine lat_set ?_ (by omega) _ _))); done)
              clear hK KK
              (try simp only [Act.put, List.setIfInBounds_toArray, List.set_cons_zero, List.set_cons_succ])
              refine wpAnyH_take (i := 13) (v := ?_) rfl (by kernel_rfl) (by kernel_rfl) (by kernel_rfl) (fun _ _ _ h => h) (Or.inl ⟨by rfl, ?_⟩) hHeld ?_
              rotate_left
              · intro W hSw; (try dsimp only at hSw); go_simp; (try with_reducible rfl)
              (try simp only [Act.put, List.setIfInBounds_toArray, List.set_cons_zero, List.set_cons_succ])
              refine wpAnyH_take (i := 14) (v := ?_) rfl (by kernel_rfl) (by kernel_rfl) (by kernel_rfl) (fun _ _ _ h => h) (Or.inl ⟨by rfl, ?_⟩) hHeld ?_
              rotate_left
              · intro W hSw; (try dsimp only at hSw); go_simp; (try with_reducible rfl)
              (try simp only [Act.put, List.setIfInBounds_toArray, List.set_cons_zero, List.set_cons_succ])
              refine wpAnyH_take (i := 15) (v := ?_) rfl (by kernel_rfl) (by kernel_rfl) (by kernel_rfl) (fun _ _ _ h => h) (Or.inl ⟨by rfl, ?_⟩) hHeld ?_
              rotate_left
              · intro W hSw; (try dsimp only at hSw); go_simp; (try with_reducible rfl)
              (try simp only [Act.put, List.setIfInBounds_toArray, List.set_cons_zero, List.set_cons_succ])
              refine wpAnyH_ready (rs := [17]) (by kernel_rfl) (by simp) ?_
              refine AllReadyH.cons rfl (fun KK hK => ?_) ?_
              · go_simp
                refine hK.out _ _ ?_ (fun hHeld => ?_)
                · exact Keep.out _ (by (repeat (first | with_reducible assumption | with_reducible refine lat_al ?_ _ | with_reducible refine lat_dr ?_ | (refine lat_set ?_ (by omega) _ _))); done)
                clear hK KK
                (try simp only [Act.put, List.setIfInBounds_toArray, List.set_cons_zero, List.set_cons_succ])
                refine wpAnyH_take (i := 18) (v := ?_) rfl (by kernel_rfl) (by kernel_rfl) (by kernel_rfl) (fun _ _ _ h => h) (Or.inl ⟨by rfl, ?_⟩) hHeld ?_
                rotate_left
                · intro W hSw; (try dsimp only at hSw); go_simp; (try with_reducible rfl)
                (try simp only [Act.put, List.setIfInBounds_toArray, List.set_cons_zero, List.set_cons_succ])
                refine wpAnyH_done (by kernel_rfl) ?_ _
                refine NoPanic.normal ?_
                (try simp only [Act.put, List.getElem_toArray, List.getElem_cons_zero, List.getElem_cons_succ, List.setIfInBounds_toArray, List.set_cons_zero, List.set_cons_succ])
                have zne : w0.heap.size ≤ w0.heap.size + 1 + 1 := by omega
                clear hHeld
                obtain ⟨fR, r0, r1, r2, r3⟩ := Frz.out v3 hb3
                have zRn : w.heap.size + 1 + 1 < v3.heap.size := by omega
                go_wp2
                refine ret_iv (p := 4) (q := 5) (by kernel_rfl) rfl rfl (Fin.out _ ?_).1 ⟨rfl, (Fin.out _ ?_).2⟩ <;> exact (by (repeat (first | with_reducible assumption | with_reducible refine lat_al ?_ _ | with_reducible refine lat_dr ?_ | (refine lat_set ?_ (by omega) _ _))); done)
              exact AllReadyH.nil
            exact AllReadyH.nil
          exact AllReadyH.nil
        exact AllReadyH.nil
      exact AllReadyH.nil
    refine AllReadyH.cons rfl (fun KK hK => ?_) ?_
    · go_simp
      refine hK.out _ _ ?_ (fun hHeld => ?_)
      · exact Keep.out _ (by (repeat (first | with_reducible assumption | with_reducible refine lat_al ?_ _ | with_reducible refine lat_dr ?_ | (refine lat_set ?_ (by omega) _ _))); done)
      clear hK KK
      (try simp only [Act.put, List.setIfInBounds_toArray, List.set_cons_zero, List.set_cons_succ])
      refine wpAnyH_ready (rs := [5, 10]) (by kernel_rfl) (by simp) ?_
      refine AllReadyH.cons rfl (fun KK hK => ?_) ?_
      · go_simp
        go_at_call 28
        (with_reducible refine (GA.out _ _ (by (repeat (first | with_reducible assumption | with_reducible exact blk_two_at (by simp) | with_reducible refine Blk.alloc ?_ _ | with_reducible refine Blk.drew ?_)); done)).mono ?_)
        rintro e v1 ⟨rfl, hB⟩
        have hb1 : Below w0.heap.size w0 v1 := below_step (by (repeat (first | with_reducible assumption | with_reducible refine lat_al ?_ _ | with_reducible refine lat_dr ?_ | (refine lat_set ?_ (by omega) _ _))); done) hB
        have sz1 := hb1.size
        have kz : Blk v1 (w0.heap.size + 1) 25 #[.int .i64 0, .int .i64 0, .int .i64 0, .int .i64 0] := Blk.below (show Blk _ (w0.heap.size + 1) 25 #[.int .i64 0, .int .i64 0, .int .i64 0, .int .i64 0] from (by (repeat (first | with_reducible assumption | with_reducible exact blk_at (by simp) | with_reducible refine Blk.alloc ?_ _ | with_reducible refine Blk.drew ?_)); done)) hB (Blk.lt (show Blk _ (w0.heap.size + 1) 25 #[.int .i64 0, .int .i64 0, .int .i64 0, .int .i64 0] from (by (repeat (first | with_reducible assumption | with_reducible exact blk_at (by simp) | with_reducible refine Blk.alloc ?_ _ | with_reducible refine Blk.drew ?_)); done)))
        have fz := kz.frozen
        have z0 := kz.cell 0
        have z1 := kz.cell 1
        have z2 := kz.cell 2
        have z3 := kz.cell 3
        have zl := kz.lt
        clear hB
        (try go_wp2_with fail)
        refine hK.out _ _ ?_ (fun hHeld => ?_)
        · exact Keep.out _ (by (repeat (first | with_reducible assumption | with_reducible refine lat_al ?_ _ | with_reducible refine lat_dr ?_ | (refine lat_set ?_ (by omega) _ _))); done)
        clear hK KK
        (try simp only [Act.put, List.setIfInBounds_toArray, List.set_cons_zero, List.set_cons_succ])
        refine wpAnyH_ready (rs := [10]) (by kernel_rfl) (by simp) ?_
        refine AllReadyH.cons rfl (fun KK hK => ?_) ?_
        · go_simp
          refine hK.out _ _ ?_ (fun hHeld => ?_)
          · exact Keep.out _ (by (repeat (first | with_reducible assumption | with_reducible refine lat_al ?_ _ | with_reducible refine lat_dr ?_ | (refine lat_set ?_ (by omega) _ _))); done)
          clear hK KK
          (try simp only [Act.put, List.setIfInBounds_toArray, List.set_cons_zero, List.set_cons_succ])
          refine wpAnyH_ready (rs := [11]) (by kernel_rfl) (by simp) ?_
          refine AllReadyH.cons rfl (fun KK hK => ?_) ?_
          · go_simp
            go_at_call 29
            (with_reducible refine (LA.out _ _ (by (repeat (first | with_reducible assumption | with_reducible exact blk_two_at (by simp) | with_reducible refine Blk.alloc ?_ _ | with_reducible refine Blk.drew ?_)); done)).mono ?_)
            rintro e v2 ⟨rfl, hB⟩
            have hb2 : Below w0.heap.size w0 v2 := below_step (by (repeat (first | with_reducible assumption | with_reducible refine lat_al ?_ _ | with_reducible refine lat_dr ?_ | (refine lat_set ?_ (by omega) _ _))); done) hB
            have sz2 := hb2.size
            have kz : Blk v2 (w0.heap.size + 1) 25 #[.int .i64 0, .int .i64 0, .int .i64 0, .int .i64 0] := Blk.below (show Blk _ (w0.heap.size + 1) 25 #[.int .i64 0, .int .i64 0, .int .i64 0, .int .i64 0] from (by (repeat (first | with_reducible assumption | with_reducible exact blk_at (by simp) | with_reducible refine Blk.alloc ?_ _ | with_reducible refine Blk.drew ?_)); done)) hB (Blk.lt (show Blk _ (w0.heap.size + 1) 25 #[.int .i64 0, .int .i64 0, .int .i64 0, .int .i64 0] from (by (repeat (first | with_reducible assumption | with_reducible exact blk_at (by simp) | with_reducible refine Blk.alloc ?_ _ | with_reducible refine Blk.drew ?_)); done)))
            have fz := kz.frozen
            have z0 := kz.cell 0
            have z1 := kz.cell 1
            have z2 := kz.cell 2
            have z3 := kz.cell 3
            have zl := kz.lt
            clear hB
            (try go_wp2_with fail)
            refine hK.out _ _ ?_ (fun hHeld => ?_)
            · exact Keep.out _ (by (repeat (first | with_reducible assumption | with_reducible refine lat_al ?_ _ | with_reducible refine lat_dr ?_ | (refine lat_set ?_ (by omega) _ _))); done)
            clear hK KK
            (try simp only [Act.put, List.setIfInBounds_toArray, List.set_cons_zero, List.set_cons_succ])
            refine wpAnyH_ready (rs := [12]) (by kernel_rfl) (by simp) ?_
            refine AllReadyH.cons rfl (fun KK hK => ?_) ?_
            · go_simp
              go_at_call 27
              (with_reducible refine (NW.out _).mono ?_)
              rintro e v3 ⟨rfl, hB⟩
              have hb3 : Below w0.heap.size w0 v3 := below_step (by (repeat (first | with_reducible assumption | with_reducible refine lat_al ?_ _ | with_reducible refine lat_dr ?_ | (refine lat_set ?_ (by omega) _ _))); done) hB
              have sz3 := hb3.size
              have kz : Blk v3 (w0.heap.size + 1) 25 #[.int .i64 0, .int .i64 0, .int .i64 0, .int .i64 0] := Blk.below (show Blk _ (w0.heap.size + 1) 25 #[.int .i64 0, .int .i64 0, .int .i64 0, .int .i64 0] from (by (repeat (first | with_reducible assumption | with_reducible exact blk_at (by simp) | with_reducible refine Blk.alloc ?_ _ | with_reducible refine Blk.drew ?_)); done)) hB (Blk.lt (show Blk _ (w0.heap.size + 1) 25 #[.int .i64 0, .int .i64 0, .int .i64 0, .int .i64 0] from (by (repeat (first | with_reducible assumption | with_reducible exact blk_at (by simp) | with_reducible refine Blk.alloc ?_ _ | with_reducible refine Blk.drew ?_)); done)))
              have fz := kz.frozen
              have z0 := kz.cell 0
              have z1 := kz.cell 1
              have z2 := kz.cell 2
              have z3 := kz.cell 3
              have zl := kz.lt
              clear hB
              (try go_wp2_with fail)
              refine hK.out _ _ ?_ (fun hHeld => ?_)
              · exact Keep.out _ (by (repeat (first | with_reducible assumption | with_reducible refine lat_al ?_ _ | with_reducible refine lat_dr ?_ | (refine lat_set ?_ (by omega) _ _))); done)
              clear hK KK
              (try simp only [Act.put, List.setIfInBounds_toArray, List.set_cons_zero, List.set_cons_succ])
              refine wpAnyH_take (i := 13) (v := ?_) rfl (by kernel_rfl) (by kernel_rfl) (by kernel_rfl) (fun _ _ _ h => h) (Or.inl ⟨by rfl, ?_⟩) hHeld ?_
              rotate_left
              · intro W hSw; (try dsimp only at hSw); go_simp; (try with_reducible rfl)
              (try simp only [Act.put, List.setIfInBounds_toArray, List.set_cons_zero, List.set_cons_succ])
              refine wpAnyH_take (i := 14) (v := ?_) rfl (by kernel_rfl) (by kernel_rfl) (by kernel_rfl) (fun _ _ _ h => h) (Or.inl ⟨by rfl, ?_⟩) hHeld ?_
              rotate_left
              · intro W hSw; (try dsimp only at hSw); go_simp; (try with_reducible rfl)
              (try simp only [Act.put, List.setIfInBounds_toArray, List.set_cons_zero, List.set_cons_succ])
              refine wpAnyH_take (i := 15) (v := ?_) rfl (by kernel_rfl) (by kernel_rfl) (by kernel_rfl) (fun _ _ _ h => h) (Or.inl ⟨by rfl, ?_⟩) hHeld ?_
              rotate_left
              · intro W hSw; (try dsimp only at hSw); go_simp; (try with_reducible rfl)
              (try simp only [Act.put, List.setIfInBounds_toArray, List.set_cons_zero, List.set_cons_succ])
              refine wpAnyH_ready (rs := [17]) (by kernel_rfl) (by simp) ?_
              refine AllReadyH.cons rfl (fun KK hK => ?_) ?_
              · go_simp
                refine hK.out _ _ ?_ (fun hHeld => ?_)
                · exact Keep.out _ (by (repeat (first | with_reducible assumption | with_reducible refine lat_al ?_ _ | with_reducible refine lat_dr ?_ | (refine lat_set ?_ (by omega) _ _))); done)
                clear hK KK
                (try simp only [Act.put, List.setIfInBounds_toArray, List.set_cons_zero, List.set_cons_succ])
                refine wpAnyH_take (i := 18) (v := ?_) rfl (by kernel_rfl) (by kernel_rfl) (by kernel_rfl) (fun _ _ _ h => h) (Or.inl ⟨by rfl, ?_⟩) hHeld ?_
                rotate_left
                · intro W hSw; (try dsimp only at hSw); go_simp; (try with_reducible rfl)
                (try simp only [Act.put, List.setIfInBounds_toArray, List.set_cons_zero, List.set_cons_succ])
                refine wpAnyH_done (by kernel_rfl) ?_ _
                refine NoPanic.normal ?_
                (try simp only [Act.put, List.getElem_toArray, List.getElem_cons_zero, List.getElem_cons_succ, List.setIfInBounds_toArray, List.set_cons_zero, List.set_cons_succ])
                have zne : w0.heap.size ≤ w0.heap.size + 1 := by omega
                clear hHeld
                obtain ⟨fR, r0, r1, r2, r3⟩ := Frz.out v3 hb3
                have zRn : w.heap.size + 1 + 1 < v3.heap.size := by omega
                go_wp2
                refine ret_iv (p := 4) (q := 5) (by kernel_rfl) rfl rfl (Fin.out _ ?_).1 ⟨rfl, (Fin.out _ ?_).2⟩ <;> exact (by (repeat (first | with_reducible assumption | with_reducible refine lat_al ?_ _ | with_reducible refine lat_dr ?_ | (refine lat_set ?_ (by omega) _ _))); done)
              exact AllReadyH.nil
            exact AllReadyH.nil
          exact AllReadyH.nil
        exact AllReadyH.nil
      refine AllReadyH.cons rfl (fun KK hK => ?_) ?_
      · go_simp
        refine hK.out _ _ ?_ (fun hHeld => ?_)
        · exact Keep.out _ (by (repeat (first | with_reducible assumption | with_reducible refine lat_al ?_ _ | with_reducible refine lat_dr ?_ | (refine lat_set ?_ (by omega) _ _))); done)
        clear hK KK
        (try simp only [Act.put, List.setIfInBounds_toArray, List.set_cons_zero, List.set_cons_succ])
        refine wpAnyH_ready (rs := [5]) (by kernel_rfl) (by simp) ?_
        refine AllReadyH.cons rfl (fun KK hK => ?_) ?_
        · go_simp
          go_at_call 28
          (with_reducible refine (GA.out _ _ (by (repeat (first | with_reducible assumption | with_reducible exact blk_two_at (by simp) | with_reducible refine Blk.alloc ?_ _ | with_reducible refine Blk.drew ?_)); done)).mono ?_)
          rintro e v1 ⟨rfl, hB⟩
          have hb1 : Below w0.heap.size w0 v1 := below_step (by (repeat (first | with_reducible assumption | with_reducible refine lat_al ?_ _ | with_reducible refine lat_dr ?_ | (refine lat_set ?_ (by omega) _ _))); done) hB
          have sz1 := hb1.size
          have kh : Blk v1 (w0.heap.size + 1 + 1) 23 (flat [(c, d), (c', d')]) := Blk.below (show Blk _ (w0.heap.size + 1 + 1) 23 (flat [(c, d), (c', d')]) from (by (repeat (first | with_reducible assumption | with_reducible exact blk_two_at (by simp) | with_reducible refine Blk.alloc ?_ _ | with_reducible refine Blk.drew ?_)); done)) hB (Blk.lt (show Blk _ (w0.heap.size + 1 + 1) 23 (flat [(c, d), (c', d')]) from (by (repeat (first | with_reducible assumption | with_reducible exact blk_two_at (by simp) | with_reducible refine Blk.alloc ?_ _ | with_reducible refine Blk.drew ?_)); done)))
          have kz : Blk v1 (w0.heap.size + 1) 25 #[.int .i64 0, .int .i64 0, .int .i64 0, .int .i64 0] := Blk.below (show Blk _ (w0.heap.size + 1) 25 #[.int .i64 0, .int .i64 0, .int .i64 0, .int .i64 0] from (by (repeat (first | with_reducible assumption | with_reducible exact blk_at (by simp) | with_reducible refine Blk.alloc ?_ _ | with_reducible refine Blk.drew ?_)); done)) hB (Blk.lt (show Blk _ (w0.heap.size + 1) 25 #[.int .i64 0, .int .i64 0, .int .i64 0, .int .i64 0] from (by (repeat (first | with_reducible assumption | with_reducible exact blk_at (by simp) | with_reducible refine Blk.alloc ?_ _ | with_reducible refine Blk.drew ?_)); done)))
          have fz := kz.frozen
          have z0 := kz.cell 0
          have z1 := kz.cell 1
          have z2 := kz.cell 2
          have z3 := kz.cell 3
          have zl := kz.lt
          clear hB
          (try go_wp2_with fail)
          refine hK.out _ _ ?_ (fun hHeld => ?_)
          · exact Keep.out _ (by (repeat (first | with_reducible assumption | with_reducible refine lat_al ?_ _ | with_reducible refine lat_dr ?_ | (refine lat_set ?_ (by omega) _ _))); done)
          clear hK KK
          (try simp only [Act.put, List.setIfInBounds_toArray, List.set_cons_zero, List.set_cons_succ])
          refine wpAnyH_ready (rs := [11]) (by kernel_rfl) (by simp) ?_
          refine AllReadyH.cons rfl (fun KK hK => ?_) ?_
          · go_simp
            go_at_call 29
            (with_reducible refine (LA.out _ _ (by (repeat (first | with_reducible assumption | with_reducible exact blk_two_at (by simp) | with_reducible refine Blk.alloc ?_ _ | with_reducible refine Blk.drew ?_)); done)).mono ?_)
            rintro e v2 ⟨rfl, hB⟩
            have hb2 : Below w0.heap.size w0 v2 := below_step (by (repeat (first | with_reducible assumption | with_reducible refine lat_al ?_ _ | with_reducible refine lat_dr ?_ | (refine lat_set ?_ (by omega) _ _))); done) hB
            have sz2 := hb2.size
            have kz : Blk v2 (w0.heap.size + 1) 25 #[.int .i64 0, .int .i64 0, .int .i64 0, .int .i64 0] := Blk.below (show Blk _ (w0.heap.size + 1) 25 #[.int .i64 0, .int .i64 0, .int .i64 0, .int .i64 0] from (by (repeat (first | with_reducible assumption | with_reducible exact blk_at (by simp) | with_reducible refine Blk.alloc ?_ _ | with_reducible refine Blk.drew ?_)); done)) hB (Blk.lt (show Blk _ (w0.heap.size + 1) 25 #[.int .i64 0, .int .i64 0, .int .i64 0, .int .i64 0] from (by (repeat (first | with_reducible assumption | with_reducible exact blk_at (by simp) | with_reducible refine Blk.alloc ?_ _ | with_reducible refine Blk.drew ?_)); done)))
            have fz := kz.frozen
            have z0 := kz.cell 0
            have z1 := kz.cell 1
            have z2 := kz.cell 2
            have z3 := kz.cell 3
            have zl := kz.lt
            clear hB
            (try go_wp2_with fail)
            refine hK.out _ _ ?_ (fun hHeld => ?_)
            · exact Keep.out _ (by (repeat (first | with_reducible assumption | with_reducible refine lat_al ?_ _ | with_reducible refine lat_dr ?_ | (refine lat_set ?_ (by omega) _ _))); done)
            clear hK KK
            (try simp only [Act.put, List.setIfInBounds_toArray, List.set_cons_zero, List.set_cons_succ])
            refine wpAnyH_ready (rs := [12]) (by kernel_rfl) (by simp) ?_
            refine AllReadyH.cons rfl (fun KK hK => ?_) ?_
            · go_simp
              go_at_call 27
              (with_reducible refine (NW.out _).mono ?_)
              rintro e v3 ⟨rfl, hB⟩
              have hb3 : Below w0.heap.size w0 v3 := below_step (by (repeat (first | with_reducible assumption | with_reducible refine lat_al ?_ _ | with_reducible refine lat_dr ?_ | (refine lat_set ?_ (by omega) _ _))); done) hB
              have sz3 := hb3.size
              have kz : Blk v3 (w0.heap.size + 1) 25 #[.int .i64 0, .int .i64 0, .int .i64 0, .int .i64 0] := Blk.below (show Blk _ (w0.heap.size + 1) 25 #[.int .i64 0, .int .i64 0, .int .i64 0, .int .i64 0] from (by (repeat (first | with_reducible assumption | with_reducible exact blk_at (by simp) | with_reducible refine Blk.alloc ?_ _ | with_reducible refine Blk.drew ?_)); done)) hB (Blk.lt (show Blk _ (w0.heap.size + 1) 25 #[.int .i64 0, .int .i64 0, .int .i64 0, .int .i64 0] from (by (repeat (first | with_reducible assumption | with_reducible exact blk_at (by simp) | with_reducible refine Blk.alloc ?_ _ | with_reducible refine Blk.drew ?_)); done)))
              have fz := kz.frozen
              have z0 := kz.cell 0
              have z1 := kz.cell 1
              have z2 := kz.cell 2
              have z3 := kz.cell 3
              have zl := kz.lt
              clear hB
              (try go_wp2_with fail)
              refine hK.out _ _ ?_ (fun hHeld => ?_)
              · exact Keep.out _ (by (repeat (first | with_reducible assumption | with_reducible refine lat_al ?_ _ | with_reducible refine lat_dr ?_ | (refine lat_set ?_ (by omega) _ _))); done)
              clear hK KK
              (try simp only [Act.put, List.setIfInBounds_toArray, List.set_cons_zero, List.set_cons_succ])
              refine wpAnyH_take (i := 13) (v := ?_) rfl (by kernel_rfl) (by kernel_rfl) (by kernel_rfl) (fun _ _ _ h => h) (Or.inl ⟨by rfl, ?_⟩) hHeld ?_
              rotate_left
              · intro W hSw; (try dsimp only at hSw); go_simp; (try with_reducible rfl)
              (try simp only [Act.put, List.setIfInBounds_toArray, List.set_cons_zero, List.set_cons_succ])
              refine wpAnyH_take (i := 14) (v := ?_) rfl (by kernel_rfl) (by kernel_rfl) (by kernel_rfl) (fun _ _ _ h => h) (Or.inl ⟨by rfl, ?_⟩) hHeld ?_
              rotate_left
              · intro W hSw; (try dsimp only at hSw); go_simp; (try with_reducible rfl)
              (try simp only [Act.put, List.setIfInBounds_toArray, List.set_cons_zero, List.set_cons_succ])
              refine wpAnyH_take (i := 15) (v := ?_) rfl (by kernel_rfl) (by kernel_rfl) (by kernel_rfl) (fun _ _ _ h => h) (Or.inl ⟨by rfl, ?_⟩) hHeld ?_
              rotate_left
              · intro W hSw; (try dsimp only at hSw); go_simp; (try with_reducible rfl)
              (try simp only [Act.put, List.setIfInBounds_toArray, List.set_cons_zero, List.set_cons_succ])
              refine wpAnyH_ready (rs := [17]) (by kernel_rfl) (by simp) ?_
              refine AllReadyH.cons rfl (fun KK hK => ?_) ?_
              · go_simp
                refine hK.out _ _ ?_ (fun hHeld => ?_)
                · exact Keep.out _ (by (repeat (first | with_reducible assumption | with_reducible refine lat_al ?_ _ | with_reducible refine lat_dr ?_ | (refine lat_set ?_ (by omega) _ _))); done)
                clear hK KK
                (try simp only [Act.put, List.setIfInBounds_toArray, List.set_cons_zero, List.set_cons_succ])
                refine wpAnyH_take (i := 18) (v := ?_) rfl (by kernel_rfl) (by kernel_rfl) (by kernel_rfl) (fun _ _ _ h => h) (Or.inl ⟨by rfl, ?_⟩) hHeld ?_
                rotate_left
                · intro W hSw; (try dsimp only at hSw); go_simp; (try with_reducible rfl)
                (try simp only [Act.put, List.setIfInBounds_toArray, List.set_cons_zero, List.set_cons_succ])
                refine wpAnyH_done (by kernel_rfl) ?_ _
                refine NoPanic.normal ?_
                (try simp only [Act.put, List.getElem_toArray, List.getElem_cons_zero, List.getElem_cons_succ, List.setIfInBounds_toArray, List.set_cons_zero, List.set_cons_succ])
                have zne : w0.heap.size ≤ w0.heap.size + 1 := by omega
                clear hHeld
                obtain ⟨fR, r0, r1, r2, r3⟩ := Frz.out v3 hb3
                have zRn : w.heap.size + 1 + 1 < v3.heap.size := by omega
                go_wp2
                refine ret_iv (p := 4) (q := 5) (by kernel_rfl) rfl rfl (Fin.out _ ?_).1 ⟨rfl, (Fin.out _ ?_).2⟩ <;> exact (by (repeat (first | with_reducible assumption | with_reducible refine lat_al ?_ _ | with_reducible refine lat_dr ?_ | (refine lat_set ?_ (by omega) _ _))); done)
              exact AllReadyH.nil
            exact AllReadyH.nil
          exact AllReadyH.nil
        exact AllReadyH.nil
      exact AllReadyH.nil
    exact AllReadyH.nil
  refine AllReadyH.cons rfl (fun KK hK => ?_) ?_
  · go_simp
    refine hK.out _ _ ?_ (fun hHeld => ?_)
    · exact Keep.out _ (by (repeat (first | with_reducible assumption | with_reducible refine lat_al ?_ _ | with_reducible refine lat_dr ?_ | (refine lat_set ?_ (by omega) _ _))); done)
    clear hK KK
    (try simp only [Act.put, List.setIfInBounds_toArray, List.set_cons_zero, List.set_cons_succ])
    refine wpAnyH_ready (rs := [4, 16]) (by kernel_rfl) (by simp) ?_
    refine AllReadyH.cons rfl (fun KK hK => ?_) ?_
    · go_simp
      refine hK.out _ _ ?_ (fun hHeld => ?_)
      · exact Keep.out _ (by (repeat (first | with_reducible assumption | with_reducible refine lat_al ?_ _ | with_reducible refine lat_dr ?_ | (refine lat_set ?_ (by omega) _ _))); done)
      clear hK KK
      (try simp only [Act.put, List.setIfInBounds_toArray, List.set_cons_zero, List.set_cons_succ])
      refine wpAnyH_ready (rs := [5, 16]) (by kernel_rfl) (by simp) ?_
      refine AllReadyH.cons rfl (fun KK hK => ?_) ?_
      · go_simp
        go_at_call 28
        (with_reducible refine (GA.out _ _ (by (repeat (first | with_reducible assumption | with_reducible exact blk_two_at (by simp) | with_reducible refine Blk.alloc ?_ _ | with_reducible refine Blk.drew ?_)); done)).mono ?_)
        rintro e v1 ⟨rfl, hB⟩
        have hb1 : Below w0.heap.size w0 v1 := below_step (by (repeat (first | with_reducible assumption | with_reducible refine lat_al ?_ _ | with_reducible refine lat_dr ?_ | (refine lat_set ?_ (by omega) _ _))); done) hB
        have sz1 := hb1.size
        have kh : Blk v1 (w0.heap.size) 23 (flat [(c, d), (c', d')]) := Blk.below (show Blk _ (w0.heap.size) 23 (flat [(c, d), (c', d')]) from (by (repeat (first | with_reducible assumption | with_reducible exact blk_two_at (by simp) | with_reducible refine Blk.alloc ?_ _ | with_reducible refine Blk.drew ?_)); done)) hB (Blk.lt (show Blk _ (w0.heap.size) 23 (flat [(c, d), (c', d')]) from (by (repeat (first | with_reducible assumption | with_reducible exact blk_two_at (by simp) | with_reducible refine Blk.alloc ?_ _ | with_reducible refine Blk.drew ?_)); done)))
        clear hB
        (try go_wp2_with fail)
        refine hK.out _ _ ?_ (fun hHeld => ?_)
        · exact Keep.out _ (by (repeat (first | with_reducible assumption | with_reducible refine lat_al ?_ _ | with_reducible refine lat_dr ?_ | (refine lat_set ?_ (by omega) _ _))); done)
        clear hK KK
        (try simp only [Act.put, List.setIfInBounds_toArray, List.set_cons_zero, List.set_cons_succ])
        refine wpAnyH_ready (rs := [11, 16]) (by kernel_rfl) (by simp) ?_
        refine AllReadyH.cons rfl (fun KK hK => ?_) ?_
        · go_simp
          go_at_call 29
          (with_reducible refine (LA.out _ _ (by (repeat (first | with_reducible assumption | with_reducible exact blk_two_at (by simp) | with_reducible refine Blk.alloc ?_ _ | with_reducible refine Blk.drew ?_)); done)).mono ?_)
          rintro e v2 ⟨rfl, hB⟩
          have hb2 : Below w0.heap.size w0 v2 := below_step (by (repeat (first | with_reducible assumption | with_reducible refine lat_al ?_ _ | with_reducible refine lat_dr ?_ | (refine lat_set ?_ (by omega) _ _))); done) hB
          have sz2 := hb2.size
          clear hB
          (try go_wp2_with fail)
          refine hK.out _ _ ?_ (fun hHeld => ?_)
          · exact Keep.out _ (by (repeat (first | with_reducible assumption | with_reducible refine lat_al ?_ _ | with_reducible refine lat_dr ?_ | (refine lat_set ?_ (by omega) _ _))); done)
          clear hK KK
          (try simp only [Act.put, List.setIfInBounds_toArray, List.set_cons_zero, List.set_cons_succ])
          refine wpAnyH_ready (rs := [12, 16]) (by kernel_rfl) (by simp) ?_
          refine AllReadyH.cons rfl (fun KK hK => ?_) ?_
          · go_simp
            go_at_call 27
            (with_reducible refine (NW.out _).mono ?_)
            rintro e v3 ⟨rfl, hB⟩
            have hb3 : Below w0.heap.size w0 v3 := below_step (by (repeat (first | with_reducible assumption | with_reducible refine lat_al ?_ _ | with_reducible refine lat_dr ?_ | (refine lat_set ?_ (by omega) _ _))); done) hB
            have sz3 := hb3.size
            clear hB
            (try go_wp2_with fail)
            refine hK.out _ _ ?_ (fun hHeld => ?_)
            · exact Keep.out _ (by (repeat (first | with_reducible assumption | with_reducible refine lat_al ?_ _ | with_reducible refine lat_dr ?_ | (refine lat_set ?_ (by omega) _ _))); done)
            clear hK KK
            (try simp only [Act.put, List.setIfInBounds_toArray, List.set_cons_zero, List.set_cons_succ])
            refine wpAnyH_take (i := 13) (v := ?_) rfl (by kernel_rfl) (by kernel_rfl) (by kernel_rfl) (fun _ _ _ h => h) (Or.inl ⟨by rfl, ?_⟩) hHeld ?_
            rotate_left
            · intro W hSw; (try dsimp only at hSw); go_simp; (try with_reducible rfl)
            (try simp only [Act.put, List.setIfInBounds_toArray, List.set_cons_zero, List.set_cons_succ])
            refine wpAnyH_take (i := 14) (v := ?_) rfl (by kernel_rfl) (by kernel_rfl) (by kernel_rfl) (fun _ _ _ h => h) (Or.inl ⟨by rfl, ?_⟩) hHeld ?_
            rotate_left
            · intro W hSw; (try dsimp only at hSw); go_simp; (try with_reducible rfl)
            (try simp only [Act.put, List.setIfInBounds_toArray, List.set_cons_zero, List.set_cons_succ])
            refine wpAnyH_take (i := 15) (v := ?_) rfl (by kernel_rfl) (by kernel_rfl) (by kernel_rfl) (fun _ _ _ h => h) (Or.inl ⟨by rfl, ?_⟩) hHeld ?_
            rotate_left
            · intro W hSw; (try dsimp only at hSw); go_simp; (try with_reducible rfl)
            (try simp only [Act.put, List.setIfInBounds_toArray, List.set_cons_zero, List.set_cons_succ])
            refine wpAnyH_ready (rs := [16]) (by kernel_rfl) (by simp) ?_
            refine AllReadyH.cons rfl (fun KK hK => ?_) ?_
            · go_simp
              refine hK.out _ _ ?_ (fun hHeld => ?_)
              · exact Keep.out _ (by (repeat (first | with_reducible assumption | with_reducible refine lat_al ?_ _ | with_reducible refine lat_dr ?_ | (refine lat_set ?_ (by omega) _ _))); done)
              clear hK KK
              (try simp only [Act.put, List.setIfInBounds_toArray, List.set_cons_zero, List.set_cons_succ])
              refine wpAnyH_ready (rs := [17]) (by kernel_rfl) (by simp) ?_
              refine AllReadyH.cons rfl (fun KK hK => ?_) ?_
              · go_simp
                refine hK.out _ _ ?_ (fun hHeld => ?_)
                · exact Keep.out _ (by (repeat (first | with_reducible assumption | with_reducible refine lat_al ?_ _ | with_reducible refine lat_dr ?_ | (refine lat_set ?_ (by omega) _ _))); done)
                clear hK KK
                (try simp only [Act.put, List.setIfInBounds_toArray, List.set_cons_zero, List.set_cons_succ])
                refine wpAnyH_take (i := 18) (v := ?_) rfl (by kernel_rfl) (by kernel_rfl) (by kernel_rfl) (fun _ _ _ h => h) (Or.inl ⟨by rfl, ?_⟩) hHeld ?_
                rotate_left
                · intro W hSw; (try dsimp only at hSw); go_simp; (try with_reducible rfl)
                (try simp only [Act.put, List.setIfInBounds_toArray, List.set_cons_zero, List.set_cons_succ])
                refine wpAnyH_done (by kernel_rfl) ?_ _
                refine NoPanic.normal ?_
                (try simp only [Act.put, List.getElem_toArray, List.getElem_cons_zero, List.getElem_cons_succ, List.setIfInBounds_toArray, List.set_cons_zero, List.set_cons_succ])
                have zne : w0.heap.size ≤ v3.heap.size := by omega
                clear hHeld
                obtain ⟨fR, r0, r1, r2, r3⟩ := Frz.out v3 hb3
                have zRn : w.heap.size + 1 + 1 < v3.heap.size := by omega
                go_wp2
                exact ret_iv (p := 4) (q := 5) (by kernel_rfl) rfl rfl ((Fin.out v3 hb3).1.alloc _) ⟨rfl, (Fin.out v3 hb3).2.alloc (Fin.out v3 hb3).2.size _⟩
              exact AllReadyH.nil
            exact AllReadyH.nil
          refine AllReadyH.cons rfl (fun KK hK => ?_) ?_
          · go_simp
            refine hK.out _ _ ?_ (fun hHeld => ?_)
            · exact Keep.out _ (by (repeat (first | with_reducible assumption | with_reducible refine lat_al ?_ _ | with_reducible refine lat_dr ?_ | (refine lat_set ?_ (by omega) _ _))); done)
            clear hK KK
            (try simp only [Act.put, List.setIfInBounds_toArray, List.set_cons_zero, List.set_cons_succ])
            refine wpAnyH_ready (rs := [12]) (by kernel_rfl) (by simp) ?_
            refine AllReadyH.cons rfl (fun KK hK => ?_) ?_
            · go_simp
              go_at_call 27
              (with_reducible refine (NW.out _).mono ?_)
              rintro e v3 ⟨rfl, hB⟩
              have hb3 : Below w0.heap.size w0 v3 := below_step (by (repeat (first | with_reducible assumption | with_reducible refine lat_al ?_ _ | with_reducible refine lat_dr ?_ | (refine lat_set ?_ (by omega) _ _))); done) hB
              have sz3 := hb3.size
              have kz : Blk v3 (v2.heap.size) 25 #[.int .i64 0, .int .i64 0, .int .i64 0, .int .i64 0] := Blk.below (show Blk _ (v2.heap.size) 25 #[.int .i64 0, .int .i64 0, .int .i64 0, .int .i64 0] from (by (repeat (first | with_reducible assumption | with_reducible exact blk_at (by simp) | with_reducible refine Blk.alloc ?_ _ | with_reducible refine Blk.drew ?_)); done)) hB (Blk.lt (show Blk _ (v2.heap.size) 25 #[.int .i64 0, .int .i64 0, .int .i64 0, .int .i64 0] from (by (repeat (first | with_reducible assumption | with_reducible exact blk_at (by simp) | with_reducible refine Blk.alloc ?_ _ | with_reducible refine Blk.drew ?_)); done)))
              have fz := kz.frozen
              have z0 := kz.cell 0
              have z1 := kz.cell 1
              have z2 := kz.cell 2
              have z3 := kz.cell 3
              have zl := kz.lt
              clear hB
              (try go_wp2_with fail)
              refine hK.out _ _ ?_ (fun hHeld => ?_)
              · exact Keep.out _ (by (repeat (first | with_reducible assumption | with_reducible refine lat_al ?_ _ | with_reducible refine lat_dr ?_ | (refine lat_set ?_ (by omega) _ _))); done)
              clear hK KK
              (try simp only [Act.put, List.setIfInBounds_toArray, List.set_cons_zero, List.set_cons_succ])
              refine wpAnyH_take (i := 13) (v := ?_) rfl (by kernel_rfl) (by kernel_rfl) (by kernel_rfl) (fun _ _ _ h => h) (Or.inl ⟨by rfl, ?_⟩) hHeld ?_
              rotate_left
              · intro W hSw; (try dsimp only at hSw); go_simp; (try with_reducible rfl)
              (try simp only [Act.put, List.setIfInBounds_toArray, List.set_cons_zero, List.set_cons_succ])
              refine wpAnyH_take (i := 14) (v := ?_) rfl (by kernel_rfl) (by kernel_rfl) (by kernel_rfl) (fun _ _ _ h => h) (Or.inl ⟨by rfl, ?_⟩) hHeld ?_
              rotate_left
              · intro W hSw; (try dsimp only at hSw); go_simp; (try with_reducible rfl)
              (try simp only [Act.put, List.setIfInBounds_toArray, List.set_cons_zero, List.set_cons_succ])
              refine wpAnyH_take (i := 15) (v := ?_) rfl (by kernel_rfl) (by kernel_rfl) (by kernel_rfl) (fun _ _ _ h => h) (Or.inl ⟨by rfl, ?_⟩) hHeld ?_
              rotate_left
              · intro W hSw; (try dsimp only at hSw); go_simp; (try with_reducible rfl)
              (try simp only [Act.put, List.setIfInBounds_toArray, List.set_cons_zero, List.set_cons_succ])
              refine wpAnyH_ready (rs := [17]) (by kernel_rfl) (by simp) ?_
              refine AllReadyH.cons rfl (fun KK hK => ?_) ?_
              · go_simp
                refine hK.out _ _ ?_ (fun hHeld => ?_)
                · exact Keep.out _ (by (repeat (first | with_reducible assumption | with_reducible refine lat_al ?_ _ | with_reducible refine lat_dr ?_ | (refine lat_set ?_ (by omega) _ _))); done)
                clear hK KK
                (try simp only [Act.put, List.setIfInBounds_toArray, List.set_cons_zero, List.set_cons_succ])
                refine wpAnyH_take (i := 18) (v := ?_) rfl (by kernel_rfl) (by kernel_rfl) (by kernel_rfl) (fun _ _ _ h => h) (Or.inl ⟨by rfl, ?_⟩) hHeld ?_
                rotate_left
                · intro W hSw; (try dsimp only at hSw); go_simp; (try with_reducible rfl)
                (try simp only [Act.put, List.setIfInBounds_toArray, List.set_cons_zero, List.set_cons_succ])
                refine wpAnyH_done (by kernel_rfl) ?_ _
                refine NoPanic.normal ?_
                (try simp only [Act.put, List.getElem_toArray, List.getElem_cons_zero, List.getElem_cons_succ, List.setIfInBounds_toArray, List.set_cons_zero, List.set_cons_succ])
                have zne : w0.heap.size ≤ v2.heap.size := by omega
                clear hHeld
                obtain ⟨fR, r0, r1, r2, r3⟩ := Frz.out v3 hb3
                have zRn : w.heap.size + 1 + 1 < v3.heap.size := by omega
                go_wp2
                refine ret_iv (p := 4) (q := 5) (by kernel_rfl) rfl rfl (Fin.out _ ?_).1 ⟨rfl, (Fin.out _ ?_).2⟩ <;> exact (by (repeat (first | with_reducible assumption | with_reducible refine lat_al ?_ _ | with_reducible refine lat_dr ?_ | (refine lat_set ?_ (by omega) _ _))); done)
              exact AllReadyH.nil
            exact AllReadyH.nil
          exact AllReadyH.nil
        refine AllReadyH.cons rfl (fun KK hK => ?_) ?_
        · go_simp
          refine hK.out _ _ ?_ (fun hHeld => ?_)
          · exact Keep.out _ (by (repeat (first | with_reducible assumption | with_reducible refine lat_al ?_ _ | with_reducible refine lat_dr ?_ | (refine lat_set ?_ (by omega) _ _))); done)
          clear hK KK
          (try simp only [Act.put, List.setIfInBounds_toArray, List.set_cons_zero, List.set_cons_succ])
          refine wpAnyH_ready (rs := [11]) (by kernel_rfl) (by simp) ?_
          refine AllReadyH.cons rfl (fun KK hK => ?_) ?_
          · go_simp
            go_at_call 29
            (with_reducible refine (LA.out _ _ (by (repeat (first | with_reducible assumption | with_reducible exact blk_two_at (by simp) | with_reducible refine Blk.alloc ?_ _ | with_reducible refine Blk.drew ?_)); done)).mono ?_)
            rintro e v2 ⟨rfl, hB⟩
            have hb2 : Below w0.heap.size w0 v2 := below_step (by (repeat (first | with_reducible assumption | with_reducible refine lat_al ?_ _ | with_reducible refine lat_dr ?_ | (refine lat_set ?_ (by omega) _ _))); done) hB
            have sz2 := hb2.size
            have kz : Blk v2 (v1.heap.size) 25 #[.int .i64 0, .int .i64 0, .int .i64 0, .int .i64 0] := Blk.below (show Blk _ (v1.heap.size) 25 #[.int .i64 0, .int .i64 0, .int .i64 0, .int .i64 0] from (by (repeat (first | with_reducible assumption | with_reducible exact blk_at (by simp) | with_reducible refine Blk.alloc ?_ _ | with_reducible refine Blk.drew ?_)); done)) hB (Blk.lt (show Blk _ (v1.heap.size) 25 #[.int .i64 0, .int .i64 0, .int .i64 0, .int .i64 0] from (by (repeat (first | with_reducible assumption | with_reducible exact blk_at (by simp) | with_reducible refine Blk.alloc ?_ _ | with_reducible refine Blk.drew ?_)); done)))
            have fz := kz.frozen
            have z0 := kz.cell 0
            have z1 := kz.cell 1
            have z2 := kz.cell 2
            have z3 := kz.cell 3
            have zl := kz.lt
            clear hB
            (try go_wp2_with fail)
            refine hK.out _ _ ?_ (fun hHeld => ?_)
            · exact Keep.out _ (by (repeat (first | with_reducible assumption | with_reducible refine lat_al ?_ _ | with_reducible refine lat_dr ?_ | (refine lat_set ?_ (by omega) _ _))); done)
            clear hK KK
            (try simp only [Act.put, List.setIfInBounds_toArray, List.set_cons_zero, List.set_cons_succ])
            refine wpAnyH_ready (rs := [12]) (by kernel_rfl) (by simp) ?_
            refine AllReadyH.cons rfl (fun KK hK => ?_) ?_
            · go_simp
              go_at_call 27
              (with_reducible refine (NW.out _).mono ?_)
              rintro e v3 ⟨rfl, hB⟩
              have hb3 : Below w0.heap.size w0 v3 := below_step (by (repeat (first | with_reducible assumption | with_reducible refine lat_al ?_ _ | with_reducible refine lat_dr ?_ | (refine lat_set ?_ (by omega) _ _))); done) hB
              have sz3 := hb3.size
              have kz : Blk v3 (v1.heap.size) 25 #[.int .i64 0, .int .i64 0, .int .i64 0, .int .i64 0] := Blk.below (show Blk _ (v1.heap.size) 25 #[.int .i64 0, .int .i64 0, .int .i64 0, .int .i64 0] from (by (repeat (first | with_reducible assumption | with_reducible exact blk_at (by simp) | with_reducible refine Blk.alloc ?_ _ | with_reducible refine Blk.drew ?_)); done)) hB (Blk.lt (show Blk _ (v1.heap.size) 25 #[.int .i64 0, .int .i64 0, .int .i64 0, .int .i64 0] from (by (repeat (first | with_reducible assumption | with_reducible exact blk_at (by simp) | with_reducible refine Blk.alloc ?_ _ | with_reducible refine Blk.drew ?_)); done)))
              have fz := kz.frozen
              have z0 := kz.cell 0
              have z1 := kz.cell 1
              have z2 := kz.cell 2
              have z3 := kz.cell 3
              have zl := kz.lt
              clear hB
              (try go_wp2_with fail)
              refine hK.out _ _ ?_ (fun hHeld => ?_)
              · exact Keep.out _ (by (repeat (first | with_reducible assumption | with_reducible refine lat_al ?_ _ | with_reducible refine lat_dr ?_ | (refine lat_set ?_ (by omega) _ _))); done)
              clear hK KK
              (try simp only [Act.put, List.setIfInBounds_toArray, List.set_cons_zero, List.set_cons_succ])
              refine wpAnyH_take (i := 13) (v := ?_) rfl (by kernel_rfl) (by kernel_rfl) (by kernel_rfl) (fun _ _ _ h => h) (Or.inl ⟨by rfl, ?_⟩) hHeld ?_
              rotate_left
              · intro W hSw; (try dsimp only at hSw); go_simp; (try with_reducible rfl)
              (try simp only [Act.put, List.setIfInBounds_toArray, List.set_cons_zero, List.set_cons_succ])
              refine wpAnyH_take (i := 14) (v := ?_) rfl (by kernel_rfl) (by kernel_rfl) (by kernel_rfl) (fun _ _ _ h => h) (Or.inl ⟨by rfl, ?_⟩) hHeld ?_
              rotate_left
              · intro W hSw; (try dsimp only at hSw); go_simp; (try with_reducible rfl)
              (try simp only [Act.put, List.setIfInBounds_toArray, List.set_cons_zero, List.set_cons_succ])
              refine wpAnyH_take (i := 15) (v := ?_) rfl (by kernel_rfl) (by kernel_rfl) (by kernel_rfl) (fun _ _ _ h => h) (Or.inl ⟨by rfl, ?_⟩) hHeld ?_
              rotate_left
              · intro W hSw; (try dsimp only at hSw); go_simp; (try with_reducible rfl)
              (try simp only [Act.put, List.setIfInBounds_toArray, List.set_cons_zero, List.set_cons_succ])
              refine wpAnyH_ready (rs := [17]) (by kernel_rfl) (by simp) ?_
              refine AllReadyH.cons rfl (fun KK hK => ?_) ?_
              · go_simp
                refine hK.out _ _ ?_ (fun hHeld => ?_)
                · exact Keep.out _ (by (repeat (first | with_reducible assumption | with_reducible refine lat_al ?_ _ | with_reducible refine lat_dr ?_ | (refine lat_set ?_ (by omega) _ _))); done)
                clear hK KK
                (try simp only [Act.put, List.setIfInBounds_toArray, List.set_cons_zero, List.set_cons_succ])
                refine wpAnyH_take (i := 18) (v := ?_) rfl (by kernel_rfl) (by kernel_rfl) (by kernel_rfl) (fun _ _ _ h => h) (Or.inl ⟨by rfl, ?_⟩) hHeld ?_
                rotate_left
                · intro W hSw; (try dsimp only at hSw); go_simp; (try with_reducible rfl)
                (try simp only [Act.put, List.setIfInBounds_toArray, List.set_cons_zero, List.set_cons_succ])
                refine wpAnyH_done (by kernel_rfl) ?_ _
                refine NoPanic.normal ?_
                (try simp only [Act.put, List.getElem_toArray, List.getElem_cons_zero, List.getElem_cons_succ, List.setIfInBounds_toArray, List.set_cons_zero, List.set_cons_succ])
                have zne : w0.heap.size ≤ v1.heap.size := by omega
                clear hHeld
                obtain ⟨fR, r0, r1, r2, r3⟩ := Frz.out v3 hb3
                have zRn : w.heap.size + 1 + 1 < v3.heap.size := by omega
                go_wp2
                refine ret_iv (p := 4) (q := 5) (by kernel_rfl) rfl rfl (Fin.out _ ?_).1 ⟨rfl, (Fin.out _ ?_).2⟩ <;> exact (by (repeat (first | with_reducible assumption | with_reducible refine lat_al ?_ _ | with_reducible refine lat_dr ?_ | (refine lat_set ?_ (by omega) _ _))); done)
              exact AllReadyH.nil
            exact AllReadyH.nil
          exact AllReadyH.nil
        exact AllReadyH.nil
      refine AllReadyH.cons rfl (fun KK hK => ?_) ?_
      · go_simp
        refine hK.out _ _ ?_ (fun hHeld => ?_)
        · exact Keep.out _ (by (repeat (first | with_reducible assumption | with_reducible refine lat_al ?_ _ | with_reducible refine lat_dr ?_ | (refine lat_set ?_ (by omega) _ _))); done)
        clear hK KK
        (try simp only [Act.put, List.setIfInBounds_toArray, List.set_cons_zero, List.set_cons_succ])
        refine wpAnyH_ready (rs := [5]) (by kernel_rfl) (by simp) ?_
        refine AllReadyH.cons rfl (fun KK hK => ?_) ?_
        · go_simp
          go_at_call 28
          (with_reducible refine (GA.out _ _ (by (repeat (first | with_reducible assumption | with_reducible exact blk_two_at (by simp) | with_reducible refine Blk.alloc ?_ _ | with_reducible refine Blk.drew ?_)); done)).mono ?_)
          rintro e v1 ⟨rfl, hB⟩
          have hb1 : Below w0.heap.size w0 v1 := below_step (by (repeat (first | with_reducible assumption | with_reducible refine lat_al ?_ _ | with_reducible refine lat_dr ?_ | (refine lat_set ?_ (by omega) _ _))); done) hB
          have sz1 := hb1.size
          have kh : Blk v1 (w0.heap.size) 23 (flat [(c, d), (c', d')]) := Blk.below (show Blk _ (w0.heap.size) 23 (flat [(c, d), (c', d')]) from (by (repeat (first | with_reducible assumption | with_reducible exact blk_two_at (by simp) | with_reducible refine Blk.alloc ?_ _ | with_reducible refine Blk.drew ?_)); done)) hB (Blk.lt (show Blk _ (w0.heap.size) 23 (flat [(c, d), (c', d')]) from (by (repeat (first | with_reducible assumption | with_reducible exact blk_two_at (by simp) | with_reducible refine Blk.alloc ?_ _ | with_reducible refine Blk.drew ?_)); done)))
          have kz : Blk v1 (w0.heap.size + 1 + 1) 25 #[.int .i64 0, .int .i64 0, .int .i64 0, .int .i64 0] := Blk.below (show Blk _ (w0.heap.size + 1 + 1) 25 #[.int .i64 0, .int .i64 0, .int .i64 0, .int .i64 0] from (by (repeat (first | with_reducible assumption | with_reducible exact blk_at (by simp) | with_reducible refine Blk.alloc ?_ _ | with_reducible refine Blk.drew ?_)); done)) hB (Blk.lt (show Blk _ (w0.heap.size + 1 + 1) 25 #[.int .i64 0, .int .i64 0, .int .i64 0, .int .i64 0] from (by (repeat (first | with_reducible assumption | with_reducible exact blk_at (by simp) | with_reducible refine Blk.alloc ?_ _ | with_reducible refine Blk.drew ?_)); done)))
          have fz := kz.frozen
          have z0 := kz.cell 0
          have z1 := kz.cell 1
          have z2 := kz.cell 2
          have z3 := kz.cell 3
          have zl := kz.lt
          clear hB
          (try go_wp2_with fail)
          refine hK.out _ _ ?_ (fun hHeld => ?_)
          · exact Keep.out _ (by (repeat (first | with_reducible assumption | with_reducible refine lat_al ?_ _ | with_reducible refine lat_dr ?_ | (refine lat_set ?_ (by omega) _ _))); done)
          clear hK KK
          (try simp only [Act.put, List.setIfInBounds_toArray, List.set_cons_zero, List.set_cons_succ])
          refine wpAnyH_ready (rs := [11]) (by kernel_rfl) (by simp) ?_
          refine AllReadyH.cons rfl (fun KK hK => ?_) ?_
          · go_simp
            go_at_call 29
            (with_reducible refine (LA.out _ _ (by (repeat (first | with_reducible assumption | with_reducible exact blk_two_at (by simp) | with_reducible refine Blk.alloc ?_ _ | with_reducible refine Blk.drew ?_)); done)).mono ?_)
            rintro e v2 ⟨rfl, hB⟩
            have hb2 : Below w0.heap.size w0 v2 := below_step (by (repeat (first | with_reducible assumption | with_reducible refine lat_al ?_ _ | with_reducible refine lat_dr ?_ | (refine lat_set ?_ (by omega) _ _))); done) hB
            have sz2 := hb2.size
            have kz : Blk v2 (w0.heap.size + 1 + 1) 25 #[.int .i64 0, .int .i64 0, .int .i64 0, .int .i64 0] := Blk.below (show Blk _ (w0.heap.size + 1 + 1) 25 #[.int .i64 0, .int .i64 0, .int .i64 0, .int .i64 0] from (by (repeat (first | with_reducible assumption | with_reducible exact blk_at (by simp) | with_reducible refine Blk.alloc ?_ _ | with_reducible refine Blk.drew ?_)); done)) hB (Blk.lt (show Blk _ (w0.heap.size + 1 + 1) 25 #[.int .i64 0, .int .i64 0, .int .i64 0, .int .i64 0] from (by (repeat (first | with_reducible assumption | with_reducible exact blk_at (by simp) | with_reducible refine Blk.alloc ?_ _ | with_reducible refine Blk.drew ?_)); done)))
            have fz := kz.frozen
            have z0 := kz.cell 0
            have z1 := kz.cell 1
            have z2 := kz.cell 2
            have z3 := kz.cell 3
            have zl := kz.lt
            clear hB
            (try go_wp2_with fail)
            refine hK.out _ _ ?_ (fun hHeld => ?_)
            · exact Keep.out _ (by (repeat (first | with_reducible assumption | with_reducible refine lat_al ?_ _ | with_reducible refine lat_dr ?_ | (refine lat_set ?_ (by omega) _ _))); done)
            clear hK KK
            (try simp only [Act.put, List.setIfInBounds_toArray, List.set_cons_zero, List.set_cons_succ])
            refine wpAnyH_ready (rs := [12]) (by kernel_rfl) (by simp) ?_
            refine AllReadyH.cons rfl (fun KK hK => ?_) ?_
            · go_simp
              go_at_call 27
              (with_reducible refine (NW.out _).mono ?_)
              rintro e v3 ⟨rfl, hB⟩
              have hb3 : Below w0.heap.size w0 v3 := below_step (by (repeat (first | with_reducible assumption | with_reducible refine lat_al ?_ _ | with_reducible refine lat_dr ?_ | (refine lat_set ?_ (by omega) _ _))); done) hB
              have sz3 := hb3.size
              have kz : Blk v3 (w0.heap.size + 1 + 1) 25 #[.int .i64 0, .int .i64 0, .int .i64 0, .int .i64 0] := Blk.below (show Blk _ (w0.heap.size + 1 + 1) 25 #[.int .i64 0, .int .i64 0, .int .i64 0, .int .i64 0] from (by (repeat (first | with_reducible assumption | with_reducible exact blk_at (by simp) | with_reducible refine Blk.alloc ?_ _ | with_reducible refine Blk.drew ?_)); done)) hB (Blk.lt (show Blk _ (w0.heap.size + 1 + 1) 25 #[.int .i64 0, .int .i64 0, .int .i64 0, .int .i64 0] from (by (repeat (first | with_reducible assumption | with_reducible exact blk_at (by simp) | with_reducible refine Blk.alloc ?_ _ | with_reducible refine Blk.drew ?_)); done)))
              have fz := kz.frozen
              have z0 := kz.cell 0
              have z1 := kz.cell 1
              have z2 := kz.cell 2
              have z3 := kz.cell 3
              have zl := kz.lt
              clear hB
              (try go_wp2_with fail)
              refine hK.out _ _ ?_ (fun hHeld => ?_)
              · exact Keep.out _ (by (repeat (first | with_reducible assumption | with_reducible refine lat_al ?_ _ | with_reducible refine lat_dr ?_ | (refine lat_set ?_ (by omega) _ _))); done)
              clear hK KK
              (try simp only [Act.put, List.setIfInBounds_toArray, List.set_cons_zero, List.set_cons_succ])
              refine wpAnyH_take (i := 13) (v := ?_) rfl (by kernel_rfl) (by kernel_rfl) (by kernel_rfl) (fun _ _ _ h => h) (Or.inl ⟨by rfl, ?_⟩) hHeld ?_
              rotate_left
              · intro W hSw; (try dsimp only at hSw); go_simp; (try with_reducible rfl)
              (try simp only [Act.put, List.setIfInBounds_toArray, List.set_cons_zero, List.set_cons_succ])
              refine wpAnyH_take (i := 14) (v := ?_) rfl (by kernel_rfl) (by kernel_rfl) (by kernel_rfl) (fun _ _ _ h => h) (Or.inl ⟨by rfl, ?_⟩) hHeld ?_
              rotate_left
              · intro W hSw; (try dsimp only at hSw); go_simp; (try with_reducible rfl)
              (try simp only [Act.put, List.setIfInBounds_toArray, List.set_cons_zero, List.set_cons_succ])
              refine wpAnyH_take (i := 15) (v := ?_) rfl (by kernel_rfl) (by kernel_rfl) (by kernel_rfl) (fun _ _ _ h => h) (Or.inl ⟨by rfl, ?_⟩) hHeld ?_
              rotate_left
              · intro W hSw; (try dsimp only at hSw); go_simp; (try with_reducible rfl)
              (try simp only [Act.put, List.setIfInBounds_toArray, List.set_cons_zero, List.set_cons_succ])
              refine wpAnyH_ready (rs := [17]) (by kernel_rfl) (by simp) ?_
              refine AllReadyH.cons rfl (fun KK hK => ?_) ?_
              · go_simp
                refine hK.out _ _ ?_ (fun hHeld => ?_)
                · exact Keep.out _ (by (repeat (first | with_reducible assumption | with_reducible refine lat_al ?_ _ | with_reducible refine lat_dr ?_ | (refine lat_set ?_ (by omega) _ _))); done)
                clear hK KK
                (try simp only [Act.put, List.setIfInBounds_toArray, List.set_cons_zero, List.set_cons_succ])
                refine wpAnyH_take (i := 18) (v := ?_) rfl (by kernel_rfl) (by kernel_rfl) (by kernel_rfl) (fun _ _ _ h => h) (Or.inl ⟨by rfl, ?_⟩) hHeld ?_
                rotate_left
                · intro W hSw; (try dsimp only at hSw); go_simp; (try with_reducible rfl)
                (try simp only [Act.put, List.setIfInBounds_toArray, List.set_cons_zero, List.set_cons_succ])
                refine wpAnyH_done (by kernel_rfl) ?_ _
                refine NoPanic.normal ?_
                (try simp only [Act.put, List.getElem_toArray, List.getElem_cons_zero, List.getElem_cons_succ, List.setIfInBounds_toArray, List.set_cons_zero, List.set_cons_succ])
                have zne : w0.heap.size ≤ w0.heap.size + 1 + 1 := by omega
                clear hHeld
                obtain ⟨fR, r0, r1, r2, r3⟩ := Frz.out v3 hb3
                have zRn : w.heap.size + 1 + 1 < v3.heap.size := by omega
                go_wp2
                refine ret_iv (p := 4) (q := 5) (by kernel_rfl) rfl rfl (Fin.out _ ?_).1 ⟨rfl, (Fin.out _ ?_).2⟩ <;> exact (by (repeat (first | with_reducible assumption | with_reducible refine lat_al ?_ _ | with_reducible refine lat_dr ?_ | (refine lat_set ?_ (by omega) _ _))); done)
              exact AllReadyH.nil
            exact AllReadyH.nil
          exact AllReadyH.nil
        exact AllReadyH.nil
      exact AllReadyH.nil
    refine AllReadyH.cons rfl (fun KK hK => ?_) ?_
    · go_simp
      refine hK.out _ _ ?_ (fun hHeld => ?_)
      · exact Keep.out _ (by (repeat (first | with_reducible assumption | with_reducible refine lat_al ?_ _ | with_reducible refine lat_dr ?_ | (refine lat_set ?_ (by omega) _ _))); done)
      clear hK KK
      (try simp only [Act.put, List.setIfInBounds_toArray, List.set_cons_zero, List.set_cons_succ])
      refine wpAnyH_ready (rs := [4]) (by kernel_rfl) (by simp) ?_
      refine AllReadyH.cons rfl (fun KK hK => ?_) ?_
      · go_simp
        refine hK.out _ _ ?_ (fun hHeld => ?_)
        · exact Keep.out _ (by (repeat (first | with_reducible assumption | with_reducible refine lat_al ?_ _ | with_reducible refine lat_dr ?_ | (refine lat_set ?_ (by omega) _ _))); done)
        clear hK KK
        (try simp only [Act.put, List.setIfInBounds_toArray, List.set_cons_zero, List.set_cons_succ])
        refine wpAnyH_ready (rs := [5]) (by kernel_rfl) (by simp) ?_
        refine AllReadyH.cons rfl (fun KK hK => ?_) ?_
        · go_simp
          go_at_call 28
          (with_reducible refine (GA.out _ _ (by (repeat (first | with_reducible assumption | with_reducible exact blk_two_at (by simp) | with_reducible refine Blk.alloc ?_ _ | with_reducible refine Blk.drew ?_)); done)).mono ?_)
          rintro e v1 ⟨rfl, hB⟩
          have hb1 : Below w0.heap.size w0 v1 := below_step (by (repeat (first | with_reducible assumption | with_reducible refine lat_al ?_ _ | with_reducible refine lat_dr ?_ | (refine lat_set ?_ (by omega) _ _))); done) hB
          have sz1 := hb1.size
          have kh : Blk v1 (w0.heap.size) 23 (flat [(c, d), (c', d')]) := Blk.below (show Blk _ (w0.heap.size) 23 (flat [(c, d), (c', d')]) from (by (repeat (first | with_reducible assumption | with_reducible exact blk_two_at (by simp) | with_reducible refine Blk.alloc ?_ _ | with_reducible refine Blk.drew ?_)); done)) hB (Blk.lt (show Blk _ (w0.heap.size) 23 (flat [(c, d), (c', d')]) from (by (repeat (first | with_reducible assumption | with_reducible exact blk_two_at (by simp) | with_reducible refine Blk.alloc ?_ _ | with_reducible refine Blk.drew ?_)); done)))
          have kz : Blk v1 (w0.heap.size + 1) 25 #[.int .i64 0, .int .i64 0, .int .i64 0, .int .i64 0] := Blk.below (show Blk _ (w0.heap.size + 1) 25 #[.int .i64 0, .int .i64 0, .int .i64 0, .int .i64 0] from (by (repeat (first | with_reducible assumption | with_reducible exact blk_at (by simp) | with_reducible refine Blk.alloc ?_ _ | with_reducible refine Blk.drew ?_)); done)) hB (Blk.lt (show Blk _ (w0.heap.size + 1) 25 #[.int .i64 0, .int .i64 0, .int .i64 0, .int .i64 0] from (by (repeat (first | with_reducible assumption | with_reducible exact blk_at (by simp) | with_reducible refine Blk.alloc ?_ _ | with_reducible refine Blk.drew ?_)); done)))
          have fz := kz.frozen
          have z0 := kz.cell 0
          have z1 := kz.cell 1
          have z2 := kz.cell 2
          have z3 := kz.cell 3
          have zl := kz.lt
          clear hB
          (try go_wp2_with fail)
          refine hK.out _ _ ?_ (fun hHeld => ?_)
          · exact Keep.out _ (by (repeat (first | with_reducible assumption | with_reducible refine lat_al ?_ _ | with_reducible refine lat_dr ?_ | (refine lat_set ?_ (by omega) _ _))); done)
          clear hK KK
          (try simp only [Act.put, List.setIfInBounds_toArray, List.set_cons_zero, List.set_cons_succ])
          refine wpAnyH_ready (rs := [11]) (by kernel_rfl) (by simp) ?_
          refine AllReadyH.cons rfl (fun KK hK => ?_) ?_
          · go_simp
            go_at_call 29
            (with_reducible refine (LA.out _ _ (by (repeat (first | with_reducible assumption | with_reducible exact blk_two_at (by simp) | with_reducible refine Blk.alloc ?_ _ | with_reducible refine Blk.drew ?_)); done)).mono ?_)
            rintro e v2 ⟨rfl, hB⟩
            have hb2 : Below w0.heap.size w0 v2 := below_step (by (repeat (first | with_reducible assumption | with_reducible refine lat_al ?_ _ | with_reducible refine lat_dr ?_ | (refine lat_set ?_ (by omega) _ _))); done) hB
            have sz2 := hb2.size
            have kz : Blk v2 (w0.heap.size + 1) 25 #[.int .i64 0, .int .i64 0, .int .i64 0, .int .i64 0] := Blk.below (show Blk _ (w0.heap.size + 1) 25 #[.int .i64 0, .int .i64 0, .int .i64 0, .int .i64 0] from (by (repeat (first | with_reducible assumption | with_reducible exact blk_at (by simp) | with_reducible refine Blk.alloc ?_ _ | with_reducible refine Blk.drew ?_)); done)) hB (Blk.lt (show Blk _ (w0.heap.size + 1) 25 #[.int .i64 0, .int .i64 0, .int .i64 0, .int .i64 0] from (by (repeat (first | with_reducible assumption | with_reducible exact blk_at (by simp) | with_reducible refine Blk.alloc ?_ _ | with_reducible refine Blk.drew ?_)); done)))
            have fz := kz.frozen
            have z0 := kz.cell 0
            have z1 := kz.cell 1
            have z2 := kz.cell 2
            have z3 := kz.cell 3
            have zl := kz.lt
            clear hB
            (try go_wp2_with fail)
            refine hK.out _ _ ?_ (fun hHeld => ?_)
            · exact Keep.out _ (by (repeat (first | with_reducible assumption | with_reducible refine lat_al ?_ _ | with_reducible refine lat_dr ?_ | (refine lat_set ?_ (by omega) _ _))); done)
            clear hK KK
            (try simp only [Act.put, List.setIfInBounds_toArray, List.set_cons_zero, List.set_cons_succ])
            refine wpAnyH_ready (rs := [12]) (by kernel_rfl) (by simp) ?_
            refine AllReadyH.cons rfl (fun KK hK => ?_) ?_
            · go_simp
              go_at_call 27
              (with_reducible refine (NW.out _).mono ?_)
              rintro e v3 ⟨rfl, hB⟩
              have hb3 : Below w0.heap.size w0 v3 := below_step (by (repeat (first | with_reducible assumption | with_reducible refine lat_al ?_ _ | with_reducible refine lat_dr ?_ | (refine lat_set ?_ (by omega) _ _))); done) hB
              have sz3 := hb3.size
              have kz : Blk v3 (w0.heap.size + 1) 25 #[.int .i64 0, .int .i64 0, .int .i64 0, .int .i64 0] := Blk.below (show Blk _ (w0.heap.size + 1) 25 #[.int .i64 0, .int .i64 0, .int .i64 0, .int .i64 0] from (by (repeat (first | with_reducible assumption | with_reducible exact blk_at (by simp) | with_reducible refine Blk.alloc ?_ _ | with_reducible refine Blk.drew ?_)); done)) hB (Blk.lt (show Blk _ (w0.heap.size + 1) 25 #[.int .i64 0, .int .i64 0, .int .i64 0, .int .i64 0] from (by (repeat (first | with_reducible assumption | with_reducible exact blk_at (by simp) | with_reducible refine Blk.alloc ?_ _ | with_reducible refine Blk.drew ?_)); done)))
              have fz := kz.frozen
              have z0 := kz.cell 0
              have z1 := kz.cell 1
              have z2 := kz.cell 2
              have z3 := kz.cell 3
              have zl := kz.lt
              clear hB
              (try go_wp2_with fail)
              refine hK.out _ _ ?_ (fun hHeld => ?_)
              · exact Keep.out _ (by (repeat (first | with_reducible assumption | with_reducible refine lat_al ?_ _ | with_reducible refine lat_dr ?_ | (refine lat_set ?_ (by omega) _ _))); done)
              clear hK KK
              (try simp only [Act.put, List.setIfInBounds_toArray, List.set_cons_zero, List.set_cons_succ])
              refine wpAnyH_take (i := 13) (v := ?_) rfl (by kernel_rfl) (by kernel_rfl) (by kernel_rfl) (fun _ _ _ h => h) (Or.inl ⟨by rfl, ?_⟩) hHeld ?_
              rotate_left
              · intro W hSw; (try dsimp only at hSw); go_simp; (try with_reducible rfl)
              (try simp only [Act.put, List.setIfInBounds_toArray, List.set_cons_zero, List.set_cons_succ])
              refine wpAnyH_take (i := 14) (v := ?_) rfl (by kernel_rfl) (by kernel_rfl) (by kernel_rfl) (fun _ _ _ h => h) (Or.inl ⟨by rfl, ?_⟩) hHeld ?_
              rotate_left
              · intro W hSw; (try dsimp only at hSw); go_simp; (try with_reducible rfl)
              (try simp only [Act.put, List.setIfInBounds_toArray, List.set_cons_zero, List.set_cons_succ])
              refine wpAnyH_take (i := 15) (v := ?_) rfl (by kernel_rfl) (by kernel_rfl) (by kernel_rfl) (fun _ _ _ h => h) (Or.inl ⟨by rfl, ?_⟩) hHeld ?_
              rotate_left
              · intro W hSw; (try dsimp only at hSw); go_simp; (try with_reducible rfl)
              (try simp only [Act.put, List.setIfInBounds_toArray, List.set_cons_zero, List.set_cons_succ])
              refine wpAnyH_ready (rs := [17]) (by kernel_rfl) (by simp) ?_
              refine AllReadyH.cons rfl (fun KK hK => ?_) ?_
              · go_simp
                refine hK.out _ _ ?_ (fun hHeld => ?_)
                · exact Keep.out _ (by (repeat (first | with_reducible assumption | with_reducible refine lat_al ?_ _ | with_reducible refine lat_dr ?_ | (refine lat_set ?_ (by omega) _ _))); done)
                clear hK KK
                (try simp only [Act.put, List.setIfInBounds_toArray, List.set_cons_zero, List.set_cons_succ])
                refine wpAnyH_take (i := 18) (v := ?_) rfl (by kernel_rfl) (by kernel_rfl) (by kernel_rfl) (fun _ _ _ h => h) (Or.inl ⟨by rfl, ?_⟩) hHeld ?_
                rotate_left
                · intro W hSw; (try dsimp only at hSw); go_simp; (try with_reducible rfl)
                (try simp only [Act.put, List.setIfInBounds_toArray, List.set_cons_zero, List.set_cons_succ])
                refine wpAnyH_done (by kernel_rfl) ?_ _
                refine NoPanic.normal ?_
                (try simp only [Act.put, List.getElem_toArray, List.getElem_cons_zero, List.getElem_cons_succ, List.setIfInBounds_toArray, List.set_cons_zero, List.set_cons_succ])
                have zne : w0.heap.size ≤ w0.heap.size + 1 := by omega
                clear hHeld
                obtain ⟨fR, r0, r1, r2, r3⟩ := Frz.out v3 hb3
                have zRn : w.heap.size + 1 + 1 < v3.heap.size := by omega
                go_wp2
                refine ret_iv (p := 4) (q := 5) (by kernel_rfl) rfl rfl (Fin.out _ ?_).1 ⟨rfl, (Fin.out _ ?_).2⟩ <;> exact (by (repeat (first | with_reducible assumption | with_reducible refine lat_al ?_ _ | with_reducible refine lat_dr ?_ | (refine lat_set ?_ (by omega) _ _))); done)
              exact AllReadyH.nil
            exact AllReadyH.nil
          exact AllReadyH.nil
        exact AllReadyH.nil
      exact AllReadyH.nil
    exact AllReadyH.nil
  refine AllReadyH.cons rfl (fun KK hK => ?_) ?_
  · go_simp
    refine hK.out _ _ ?_ (fun hHeld => ?_)
    · exact Keep.out _ (by (repeat (first | with_reducible assumption | with_reducible refine lat_al ?_ _ | with_reducible refine lat_dr ?_ | (refine lat_set ?_ (by omega) _ _))); done)
    clear hK KK
    (try simp only [Act.put, List.setIfInBounds_toArray, List.set_cons_zero, List.set_cons_succ])
    refine wpAnyH_ready (rs := [4, 10]) (by kernel_rfl) (by simp) ?_
    refine AllReadyH.cons rfl (fun KK hK => ?_) ?_
    · go_simp
      refine hK.out _ _ ?_ (fun hHeld => ?_)
      · exact Keep.out _ (by (repeat (first | with_reducible assumption | with_reducible refine lat_al ?_ _ | with_reducible refine lat_dr ?_ | (refine lat_set ?_ (by omega) _ _))); done)
      clear hK KK
      (try simp only [Act.put, List.setIfInBounds_toArray, List.set_cons_zero, List.set_cons_succ])
      refine wpAnyH_ready (rs := [5, 10]) (by kernel_rfl) (by simp) ?_
      refine AllReadyH.cons rfl (fun KK hK => ?_) ?_
      · go_simp
        go_at_call 28
        (with_reducible refine (GA.out _ _ (by (repeat (first | with_reducible assumption | with_reducible exact blk_two_at (by simp) | with_reducible refine Blk.alloc ?_ _ | with_reducible refine Blk.drew ?_)); done)).mono ?_)
        rintro e v1 ⟨rfl, hB⟩
        have hb1 : Below w0.heap.size w0 v1 := below_step (by (repeat (first | with_reducible assumption | with_reducible refine lat_al ?_ _ | with_reducible refine lat_dr ?_ | (refine lat_set ?_ (by omega) _ _))); done) hB
        have sz1 := hb1.size
        have kz : Blk v1 (w0.heap.size) 25 #[.int .i64 0, .int .i64 0, .int .i64 0, .int .i64 0] := Blk.below (show Blk _ (w0.heap.size) 25 #[.int .i64 0, .int .i64 0, .int .i64 0, .int .i64 0] from (by (repeat (first | with_reducible assumption | with_reducible exact blk_at (by simp) | with_reducible refine Blk.alloc ?_ _ | with_reducible refine Blk.drew ?_)); done)) hB (Blk.lt (show Blk _ (w0.heap.size) 25 #[.int .i64 0, .int .i64 0, .int .i64 0, .int .i64 0] from (by (repeat (first | with_reducible assumption | with_reducible exact blk_at (by simp) | with_reducible refine Blk.alloc ?_ _ | with_reducible refine Blk.drew ?_)); done)))
        have fz := kz.frozen
        have z0 := kz.cell 0
        have z1 := kz.cell 1
        have z2 := kz.cell 2
        have z3 := kz.cell 3
        have zl := kz.lt
        clear hB
        (try go_wp2_with fail)
        refine hK.out _ _ ?_ (fun hHeld => ?_)
        · exact Keep.out _ (by (repeat (first | with_reducible assumption | with_reducible refine lat_al ?_ _ | with_reducible refine lat_dr ?_ | (refine lat_set ?_ (by omega) _ _))); done)
        clear hK KK
        (try simp only [Act.put, List.setIfInBounds_toArray, List.set_cons_zero, List.set_cons_succ])
        refine wpAnyH_ready (rs := [10]) (by kernel_rfl) (by simp) ?_
        refine AllReadyH.cons rfl (fun KK hK => ?_) ?_
        · go_simp
          refine hK.out _ _ ?_ (fun hHeld => ?_)
          · exact Keep.out _ (by (repeat (first | with_reducible assumption | with_reducible refine lat_al ?_ _ | with_reducible refine lat_dr ?_ | (refine lat_set ?_ (by omega) _ _))); done)
          clear hK KK
          (try simp only [Act.put, List.setIfInBounds_toArray, List.set_cons_zero, List.set_cons_succ])
          refine wpAnyH_ready (rs := [11]) (by kernel_rfl) (by simp) ?_
          refine AllReadyH.cons rfl (fun KK hK => ?_) ?_
          · go_simp
            go_at_call 29
            (with_reducible refine (LA.out _ _ (by (repeat (first | with_reducible assumption | with_reducible exact blk_two_at (by simp) | with_reducible refine Blk.alloc ?_ _ | with_reducible refine Blk.drew ?_)); done)).mono ?_)
            rintro e v2 ⟨rfl, hB⟩
            have hb2 : Below w0.heap.size w0 v2 := below_step (by (repeat (first | with_reducible assumption | with_reducible refine lat_al ?_ _ | with_reducible refine lat_dr ?_ | (refine lat_set ?_ (by omega) _ _))); done) hB
            have sz2 := hb2.size
            have kz : Blk v2 (w0.heap.size) 25 #[.int .i64 0, .int .i64 0, .int .i64 0, .int .i64 0] := Blk.below (show Blk _ (w0.heap.size) 25 #[.int .i64 0, .int .i64 0, .int .i64 0, .int .i64 0] from (by (repeat (first | with_reducible assumption | with_reducible exact blk_at (by simp) | with_reducible refine Blk.alloc ?_ _ | with_reducible refine Blk.drew ?_)); done)) hB (Blk.lt (show Blk _ (w0.heap.size) 25 #[.int .i64 0, .int .i64 0, .int .i64 0, .int .i64 0] from (by (repeat (first | with_reducible assumption | with_reducible exact blk_at (by simp) | with_reducible refine Blk.alloc ?_ _ | with_reducible refine Blk.drew ?_)); done)))
            have fz := kz.frozen
            have z0 := kz.cell 0
            have z1 := kz.cell 1
            have z2 := kz.cell 2
            have z3 := kz.cell 3
            have zl := kz.lt
            clear hB
            (try go_wp2_with fail)
            refine hK.out _ _ ?_ (fun hHeld => ?_)
            · exact Keep.out _ (by (repeat (first | with_reducible assumption | with_reducible refine lat_al ?_ _ | with_reducible refine lat_dr ?_ | (refine lat_set ?_ (by omega) _ _))); done)
            clear hK KK
            (try simp only [Act.put, List.setIfInBounds_toArray, List.set_cons_zero, List.set_cons_succ])
            refine wpAnyH_ready (rs := [12]) (by kernel_rfl) (by simp) ?_
            refine AllReadyH.cons rfl (fun KK hK => ?_) ?_
            · go_simp
              go_at_call 27
              (with_reducible refine (NW.out _).mono ?_)
              rintro e v3 ⟨rfl, hB⟩
              have hb3 : Below w0.heap.size w0 v3 := below_step (by (repeat (first | with_reducible assumption | with_reducible refine lat_al ?_ _ | with_reducible refine lat_dr ?_ | (refine lat_set ?_ (by omega) _ _))); done) hB
              have sz3 := hb3.size
              have kz : Blk v3 (w0.heap.size) 25 #[.int .i64 0, .int .i64 0, .int .i64 0, .int .i64 0] := Blk.below (show Blk _ (w0.heap.size) 25 #[.int .i64 0, .int .i64 0, .int .i64 0, .int .i64 0] from (by (repeat (first | with_reducible assumption | with_reducible exact blk_at (by simp) | with_reducible refine Blk.alloc ?_ _ | with_reducible refine Blk.drew ?_)); done)) hB (Blk.lt (show Blk _ (w0.heap.size) 25 #[.int .i64 0, .int .i64 0, .int .i64 0, .int .i64 0] from (by (repeat (first | with_reducible assumption | with_reducible exact blk_at (by simp) | with_reducible refine Blk.alloc ?_ _ | with_reducible refine Blk.drew ?_)); done)))
              have fz := kz.frozen
              have z0 := kz.cell 0
              have z1 := kz.cell 1
              have z2 := kz.cell 2
              have z3 := kz.cell 3
              have zl := kz.lt
              clear hB
              (try go_wp2_with fail)
              refine hK.out _ _ ?_ (fun hHeld => ?_)
              · exact Keep.out _ (by (repeat (first | with_reducible assumption | with_reducible refine lat_al ?_ _ | with_reducible refine lat_dr ?_ | (refine lat_set ?_ (by omega) _ _))); done)
              clear hK KK
              (try simp only [Act.put, List.setIfInBounds_toArray, List.set_cons_zero, List.set_cons_succ])
              refine wpAnyH_take (i := 13) (v := ?_) rfl (by kernel_rfl) (by kernel_rfl) (by kernel_rfl) (fun _ _ _ h => h) (Or.inl ⟨by rfl, ?_⟩) hHeld ?_
              rotate_left
              · intro W hSw; (try dsimp only at hSw); go_simp; (try with_reducible rfl)
              (try simp only [Act.put, List.setIfInBounds_toArray, List.set_cons_zero, List.set_cons_succ])
              refine wpAnyH_take (i := 14) (v := ?_) rfl (by kernel_rfl) (by kernel_rfl) (by kernel_rfl) (fun _ _ _ h => h) (Or.inl ⟨by rfl, ?_⟩) hHeld ?_
              rotate_left
              · intro W hSw; (try dsimp only at hSw); go_simp; (try with_reducible rfl)
              (try simp only [Act.put, List.setIfInBounds_toArray, List.set_cons_zero, List.set_cons_succ])
              refine wpAnyH_take (i := 15) (v := ?_) rfl (by kernel_rfl) (by kernel_rfl) (by kernel_rfl) (fun _ _ _ h => h) (Or.inl ⟨by rfl, ?_⟩) hHeld ?_
              rotate_left
              · intro W hSw; (try dsimp only at hSw); go_simp; (try with_reducible rfl)
              (try simp only [Act.put, List.setIfInBounds_toArray, List.set_cons_zero, List.set_cons_succ])
              refine wpAnyH_ready (rs := [17]) (by kernel_rfl) (by simp) ?_
              refine AllReadyH.cons rfl (fun KK hK => ?_) ?_
              · go_simp
                refine hK.out _ _ ?_ (fun hHeld => ?_)
                · exact Keep.out _ (by (repeat (first | with_reducible assumption | with_reducible refine lat_al ?_ _ | with_reducible refine lat_dr ?_ | (refine lat_set ?_ (by omega) _ _))); done)
                clear hK KK
                (try simp only [Act.put, List.setIfInBounds_toArray, List.set_cons_zero, List.set_cons_succ])
                refine wpAnyH_take (i := 18) (v := ?_) rfl (by kernel_rfl) (by kernel_rfl) (by kernel_rfl) (fun _ _ _ h => h) (Or.inl ⟨by rfl, ?_⟩) hHeld ?_
                rotate_left
                · intro W hSw; (try dsimp only at hSw); go_simp; (try with_reducible rfl)
                (try simp only [Act.put, List.setIfInBounds_toArray, List.set_cons_zero, List.set_cons_succ])
                refine wpAnyH_done (by kernel_rfl) ?_ _
                refine NoPanic.normal ?_
                (try simp only [Act.put, List.getElem_toArray, List.getElem_cons_zero, List.getElem_cons_succ, List.setIfInBounds_toArray, List.set_cons_zero, List.set_cons_succ])
                have zne : w0.heap.size ≤ w0.heap.size := by omega
                clear hHeld
                obtain ⟨fR, r0, r1, r2, r3⟩ := Frz.out v3 hb3
                have zRn : w.heap.size + 1 + 1 < v3.heap.size := by omega
                go_wp2
                refine ret_iv (p := 4) (q := 5) (by kernel_rfl) rfl rfl (Fin.out _ ?_).1 ⟨rfl, (Fin.out _ ?_).2⟩ <;> exact (by (repeat (first | with_reducible assumption | with_reducible refine lat_al ?_ _ | with_reducible refine lat_dr ?_ | (refine lat_set ?_ (by omega) _ _))); done)
              exact AllReadyH.nil
            exact AllReadyH.nil
          exact AllReadyH.nil
        exact AllReadyH.nil
      refine AllReadyH.cons rfl (fun KK hK => ?_) ?_
      · go_simp
        refine hK.out _ _ ?_ (fun hHeld => ?_)
        · exact Keep.out _ (by (repeat (first | with_reducible assumption | with_reducible refine lat_al ?_ _ | with_reducible refine lat_dr ?_ | (refine lat_set ?_ (by omega) _ _))); done)
        clear hK KK
        (try simp only [Act.put, List.setIfInBounds_toArray, List.set_cons_zero, List.set_cons_succ])
        refine wpAnyH_ready (rs := [5]) (by kernel_rfl) (by simp) ?_
        refine AllReadyH.cons rfl (fun KK hK => ?_) ?_
        · go_simp
          go_at_call 28
          (with_reducible refine (GA.out _ _ (by (repeat (first | with_reducible assumption | with_reducible exact blk_two_at (by simp) | with_reducible refine Blk.alloc ?_ _ | with_reducible refine Blk.drew ?_)); done)).mono ?_)
          rintro e v1 ⟨rfl, hB⟩
          have hb1 : Below w0.heap.size w0 v1 := below_step (by (repeat (first | with_reducible assumption | with_reducible refine lat_al ?_ _ | with_reducible refine lat_dr ?_ | (refine lat_set ?_ (by omega) _ _))); done) hB
          have sz1 := hb1.size
          have kh : Blk v1 (w0.heap.size + 1 + 1) 23 (flat [(c, d), (c', d')]) := Blk.below (show Blk _ (w0.heap.size + 1 + 1) 23 (flat [(c, d), (c', d')]) from (by (repeat (first | with_reducible assumption | with_reducible exact blk_two_at (by simp) | with_reducible refine Blk.alloc ?_ _ | with_reducible refine Blk.drew ?_)); done)) hB (Blk.lt (show Blk _ (w0.heap.size + 1 + 1) 23 (flat [(c, d), (c', d')]) from (by (repeat (first | with_reducible assumption | with_reducible exact blk_two_at (by simp) | with_reducible refine Blk.alloc ?_ _ | with_reducible refine Blk.drew ?_)); done)))
          have kz : Blk v1 (w0.heap.size) 25 #[.int .i64 0, .int .i64 0, .int .i64 0, .int .i64 0] := Blk.below (show Blk _ (w0.heap.size) 25 #[.int .i64 0, .int .i64 0, .int .i64 0, .int .i64 0] from (by (repeat (first | with_reducible assumption | with_reducible exact blk_at (by simp) | with_reducible refine Blk.alloc ?_ _ | with_reducible refine Blk.drew ?_)); done)) hB (Blk.lt (show Blk _ (w0.heap.size) 25 #[.int .i64 0, .int .i64 0, .int .i64 0, .int .i64 0] from (by (repeat (first | with_reducible assumption | with_reducible exact blk_at (by simp) | with_reducible refine Blk.alloc ?_ _ | with_reducible refine Blk.drew ?_)); done)))
          have fz := kz.frozen
          have z0 := kz.cell 0
          have z1 := kz.cell 1
          have z2 := kz.cell 2
          have z3 := kz.cell 3
          have zl := kz.lt
          clear hB
          (try go_wp2_with fail)
          refine hK.out _ _ ?_ (fun hHeld => ?_)
          · exact Keep.out _ (by (repeat (first | with_reducible assumption | with_reducible refine lat_al ?_ _ | with_reducible refine lat_dr ?_ | (refine lat_set ?_ (by omega) _ _))); done)
          clear hK KK
          (try simp only [Act.put, List.setIfInBounds_toArray, List.set_cons_zero, List.set_cons_succ])
          refine wpAnyH_ready (rs := [11]) (by kernel_rfl) (by simp) ?_
          refine AllReadyH.cons rfl (fun KK hK => ?_) ?_
          · go_simp
            go_at_call 29
            (with_reducible refine (LA.out _ _ (by (repeat (first | with_reducible assumption | with_reducible exact blk_two_at (by simp) | with_reducible refine Blk.alloc ?_ _ | with_reducible refine Blk.drew ?_)); done)).mono ?_)
            rintro e v2 ⟨rfl, hB⟩
            have hb2 : Below w0.heap.size w0 v2 := below_step (by (repeat (first | with_reducible assumption | with_reducible refine lat_al ?_ _ | with_reducible refine lat_dr ?_ | (refine lat_set ?_ (by omega) _ _))); done) hB
            have sz2 := hb2.size
            have kz : Blk v2 (w0.heap.size) 25 #[.int .i64 0, .int .i64 0, .int .i64 0, .int .i64 0] := Blk.below (show Blk _ (w0.heap.size) 25 #[.int .i64 0, .int .i64 0, .int .i64 0, .int .i64 0] from (by (repeat (first | with_reducible assumption | with_reducible exact blk_at (by simp) | with_reducible refine Blk.alloc ?_ _ | with_reducible refine Blk.drew ?_)); done)) hB (Blk.lt (show Blk _ (w0.heap.size) 25 #[.int .i64 0, .int .i64 0, .int .i64 0, .int .i64 0] from (by (repeat (first | with_reducible assumption | with_reducible exact blk_at (by simp) | with_reducible refine Blk.alloc ?_ _ | with_reducible refine Blk.drew ?_)); done)))
            have fz := kz.frozen
            have z0 := kz.cell 0
            have z1 := kz.cell 1
            have z2 := kz.cell 2
            have z3 := kz.cell 3
            have zl := kz.lt
            clear hB
            (try go_wp2_with fail)
            refine hK.out _ _ ?_ (fun hHeld => ?_)
            · exact Keep.out _ (by (repeat (first | with_reducible assumption | with_reducible refine lat_al ?_ _ | with_reducible refine lat_dr ?_ | (refine lat_set ?_ (by omega) _ _))); done)
            clear hK KK
            (try simp only [Act.put, List.setIfInBounds_toArray, List.set_cons_zero, List.set_cons_succ])
            refine wpAnyH_ready (rs := [12]) (by kernel_rfl) (by simp) ?_
            refine AllReadyH.cons rfl (fun KK hK => ?_) ?_
            · go_simp
              go_at_call 27
              (with_reducible refine (NW.out _).mono ?_)
              rintro e v3 ⟨rfl, hB⟩
              have hb3 : Below w0.heap.size w0 v3 := below_step (by (repeat (first | with_reducible assumption | with_reducible refine lat_al ?_ _ | with_reducible refine lat_dr ?_ | (refine lat_set ?_ (by omega) _ _))); done) hB
              have sz3 := hb3.size
              have kz : Blk v3 (w0.heap.size) 25 #[.int .i64 0, .int .i64 0, .int .i64 0, .int .i64 0] := Blk.below (show Blk _ (w0.heap.size) 25 #[.int .i64 0, .int .i64 0, .int .i64 0, .int .i64 0] from (by (repeat (first | with_reducible assumption | with_reducible exact blk_at (by simp) | with_reducible refine Blk.alloc ?_ _ | with_reducible refine Blk.drew ?_)); done)) hB (Blk.lt (show Blk _ (w0.heap.size) 25 #[.int .i64 0, .int .i64 0, .int .i64 0, .int .i64 0] from (by (repeat (first | with_reducible assumption | with_reducible exact blk_at (by simp) | with_reducible refine Blk.alloc ?_ _ | with_reducible refine Blk.drew ?_)); done)))
              have fz := kz.frozen
              have z0 := kz.cell 0
              have z1 := kz.cell 1
              have z2 := kz.cell 2
              have z3 := kz.cell 3
              have zl := kz.lt
              clear hB
              (try go_wp2_with fail)
              refine hK.out _ _ ?_ (fun hHeld => ?_)
              · exact Keep.out _ (by (repeat (first | with_reducible assumption | with_reducible refine lat_al ?_ _ | with_reducible refine lat_dr ?_ | (refine lat_set ?_ (by omega) _ _))); done)
              clear hK KK
              (try simp only [Act.put, List.setIfInBounds_toArray, List.set_cons_zero, List.set_cons_succ])
              refine wpAnyH_take (i := 13) (v := ?_) rfl (by kernel_rfl) (by kernel_rfl) (by kernel_rfl) (fun _ _ _ h => h) (Or.inl ⟨by rfl, ?_⟩) hHeld ?_
              rotate_left
              · intro W hSw; (try dsimp only at hSw); go_simp; (try with_reducible rfl)
              (try simp only [Act.put, List.setIfInBounds_toArray, List.set_cons_zero, List.set_cons_succ])
              refine wpAnyH_take (i := 14) (v := ?_) rfl (by kernel_rfl) (by kernel_rfl) (by kernel_rfl) (fun _ _ _ h => h) (Or.inl ⟨by rfl, ?_⟩) hHeld ?_
              rotate_left
              · intro W hSw; (try dsimp only at hSw); go_simp; (try with_reducible rfl)
              (try simp only [Act.put, List.setIfInBounds_toArray, List.set_cons_zero, List.set_cons_succ])
              refine wpAnyH_take (i := 15) (v := ?_) rfl (by kernel_rfl) (by kernel_rfl) (by kernel_rfl) (fun _ _ _ h => h) (Or.inl ⟨by rfl, ?_⟩) hHeld ?_
              rotate_left
              · intro W hSw; (try dsimp only at hSw); go_simp; (try with_reducible rfl)
              (try simp only [Act.put, List.setIfInBounds_toArray, List.set_cons_zero, List.set_cons_succ])
              refine wpAnyH_ready (rs := [17]) (by kernel_rfl) (by simp) ?_
              refine AllReadyH.cons rfl (fun KK hK => ?_) ?_
              · go_simp
                refine hK.out _ _ ?_ (fun hHeld => ?_)
                · exact Keep.out _ (by (repeat (first | with_reducible assumption | with_reducible refine lat_al ?_ _ | with_reducible refine lat_dr ?_ | (refine lat_set ?_ (by omega) _ _))); done)
                clear hK KK
                (try simp only [Act.put, List.setIfInBounds_toArray, List.set_cons_zero, List.set_cons_succ])
                refine wpAnyH_take (i := 18) (v := ?_) rfl (by kernel_rfl) (by kernel_rfl) (by kernel_rfl) (fun _ _ _ h => h) (Or.inl ⟨by rfl, ?_⟩) hHeld ?_
                rotate_left
                · intro W hSw; (try dsimp only at hSw); go_simp; (try with_reducible rfl)
                (try simp only [Act.put, List.setIfInBounds_toArray, List.set_cons_zero, List.set_cons_succ])
                refine wpAnyH_done (by kernel_rfl) ?_ _
                refine NoPanic.normal ?_
                (try simp only [Act.put, List.getElem_toArray, List.getElem_cons_zero, List.getElem_cons_succ, List.setIfInBounds_toArray, List.set_cons_zero, List.set_cons_succ])
                have zne : w0.heap.size ≤ w0.heap.size := by omega
                clear hHeld
                obtain ⟨fR, r0, r1, r2, r3⟩ := Frz.out v3 hb3
                have zRn : w.heap.size + 1 + 1 < v3.heap.size := by omega
                go_wp2
                refine ret_iv (p := 4) (q := 5) (by kernel_rfl) rfl rfl (Fin.out _ ?_).1 ⟨rfl, (Fin.out _ ?_).2⟩ <;> exact (by (repeat (first | with_reducible assumption | with_reducible refine lat_al ?_ _ | with_reducible refine lat_dr ?_ | (refine lat_set ?_ (by omega) _ _))); done)
              exact AllReadyH.nil
            exact AllReadyH.nil
          exact AllReadyH.nil
        exact AllReadyH.nil
      exact AllReadyH.nil
    refine AllReadyH.cons rfl (fun KK hK => ?_) ?_
    · go_simp
      refine hK.out _ _ ?_ (fun hHeld => ?_)
      · exact Keep.out _ (by (repeat (first | with_reducible assumption | with_reducible refine lat_al ?_ _ | with_reducible refine lat_dr ?_ | (refine lat_set ?_ (by omega) _ _))); done)
      clear hK KK
      (try simp only [Act.put, List.setIfInBounds_toArray, List.set_cons_zero, List.set_cons_succ])
      refine wpAnyH_ready (rs := [4]) (by kernel_rfl) (by simp) ?_
      refine AllReadyH.cons rfl (fun KK hK => ?_) ?_
      · go_simp
        refine hK.out _ _ ?_ (fun hHeld => ?_)
        · exact Keep.out _ (by (repeat (first | with_reducible assumption | with_reducible refine lat_al ?_ _ | with_reducible refine lat_dr ?_ | (refine lat_set ?_ (by omega) _ _))); done)
        clear hK KK
        (try simp only [Act.put, List.setIfInBounds_toArray, List.set_cons_zero, List.set_cons_succ])
        refine wpAnyH_ready (rs := [5]) (by kernel_rfl) (by simp) ?_
        refine AllReadyH.cons rfl (fun KK hK => ?_) ?_
        · go_simp
          go_at_call 28
          (with_reducible refine (GA.out _ _ (by (repeat (first | with_reducible assumption | with_reducible exact blk_two_at (by simp) | with_reducible refine Blk.alloc ?_ _ | with_reducible refine Blk.drew ?_)); done)).mono ?_)
          rintro e v1 ⟨rfl, hB⟩
          have hb1 : Below w0.heap.size w0 v1 := below_step (by (repeat (first | with_reducible assumption | with_reducible refine lat_al ?_ _ | with_reducible refine lat_dr ?_ | (refine lat_set ?_ (by omega) _ _))); done) hB
          have sz1 := hb1.size
          have kh : Blk v1 (w0.heap.size + 1) 23 (flat [(c, d), (c', d')]) := Blk.below (show Blk _ (w0.heap.size + 1) 23 (flat [(c, d), (c', d')]) from (by (repeat (first | with_reducible assumption | with_reducible exact blk_two_at (by simp) | with_reducible refine Blk.alloc ?_ _ | with_reducible refine Blk.drew ?_)); done)) hB (Blk.lt (show Blk _ (w0.heap.size + 1) 23 (flat [(c, d), (c', d')]) from (by (repeat (first | with_reducible assumption | with_reducible exact blk_two_at (by simp) | with_reducible refine Blk.alloc ?_ _ | with_reducible refine Blk.drew ?_)); done)))
          have kz : Blk v1 (w0.heap.size) 25 #[.int .i64 0, .int .i64 0, .int .i64 0, .int .i64 0] := Blk.below (show Blk _ (w0.heap.size) 25 #[.int .i64 0, .int .i64 0, .int .i64 0, .int .i64 0] from (by (repeat (first | with_reducible assumption | with_reducible exact blk_at (by simp) | with_reducible refine Blk.alloc ?_ _ | with_reducible refine Blk.drew ?_)); done)) hB (Blk.lt (show Blk _ (w0.heap.size) 25 #[.int .i64 0, .int .i64 0, .int .i64 0, .int .i64 0] from (by (repeat (first | with_reducible assumption | with_reducible exact blk_at (by simp) | with_reducible refine Blk.alloc ?_ _ | with_reducible refine Blk.drew ?_)); done)))
          have fz := kz.frozen
          have z0 := kz.cell 0
          have z1 := kz.cell 1
          have z2 := kz.cell 2
          have z3 := kz.cell 3
          have zl := kz.lt
          clear hB
          (try go_wp2_with fail)
          refine hK.out _ _ ?_ (fun hHeld => ?_)
          · exact Keep.out _ (by (repeat (first | with_reducible assumption | with_reducible refine lat_al ?_ _ | with_reducible refine lat_dr ?_ | (refine lat_set ?_ (by omega) _ _))); done)
          clear hK KK
          (try simp only [Act.put, List.setIfInBounds_toArray, List.set_cons_zero, List.set_cons_succ])
          refine wpAnyH_ready (rs := [11]) (by kernel_rfl) (by simp) ?_
          refine AllReadyH.cons rfl (fun KK hK => ?_) ?_
          · go_simp
            go_at_call 29
            (with_reducible refine (LA.out _ _ (by (repeat (first | with_reducible assumption | with_reducible exact blk_two_at (by simp) | with_reducible refine Blk.alloc ?_ _ | with_reducible refine Blk.drew ?_)); done)).mono ?_)
            rintro e v2 ⟨rfl, hB⟩
            have hb2 : Below w0.heap.size w0 v2 := below_step (by (repeat (first | with_reducible assumption | with_reducible refine lat_al ?_ _ | with_reducible refine lat_dr ?_ | (refine lat_set ?_ (by omega) _ _))); done) hB
            have sz2 := hb2.size
            have kz : Blk v2 (w0.heap.size) 25 #[.int .i64 0, .int .i64 0, .int .i64 0, .int .i64 0] := Blk.below (show Blk _ (w0.heap.size) 25 #[.int .i64 0, .int .i64 0, .int .i64 0, .int .i64 0] from (by (repeat (first | with_reducible assumption | with_reducible exact blk_at (by simp) | with_reducible refine Blk.alloc ?_ _ | with_reducible refine Blk.drew ?_)); done)) hB (Blk.lt (show Blk _ (w0.heap.size) 25 #[.int .i64 0, .int .i64 0, .int .i64 0, .int .i64 0] from (by (repeat (first | with_reducible assumption | with_reducible exact blk_at (by simp) | with_reducible refine Blk.alloc ?_ _ | with_reducible refine Blk.drew ?_)); done)))
            have fz := kz.frozen
            have z0 := kz.cell 0
            have z1 := kz.cell 1
            have z2 := kz.cell 2
            have z3 := kz.cell 3
            have zl := kz.lt
            clear hB
            (try go_wp2_with fail)
            refine hK.out _ _ ?_ (fun hHeld => ?_)
            · exact Keep.out _ (by (repeat (first | with_reducible assumption | with_reducible refine lat_al ?_ _ | with_reducible refine lat_dr ?_ | (refine lat_set ?_ (by omega) _ _))); done)
            clear hK KK
            (try simp only [Act.put, List.setIfInBounds_toArray, List.set_cons_zero, List.set_cons_succ])
            refine wpAnyH_ready (rs := [12]) (by kernel_rfl) (by simp) ?_
            refine AllReadyH.cons rfl (fun KK hK => ?_) ?_
            · go_simp
              go_at_call 27
              (with_reducible refine (NW.out _).mono ?_)
              rintro e v3 ⟨rfl, hB⟩
              have hb3 : Below w0.heap.size w0 v3 := below_step (by (repeat (first | with_reducible assumption | with_reducible refine lat_al ?_ _ | with_reducible refine lat_dr ?_ | (refine lat_set ?_ (by omega) _ _))); done) hB
              have sz3 := hb3.size
              have kz : Blk v3 (w0.heap.size) 25 #[.int .i64 0, .int .i64 0, .int .i64 0, .int .i64 0] := Blk.below (show Blk _ (w0.heap.size) 25 #[.int .i64 0, .int .i64 0, .int .i64 0, .int .i64 0] from (by (repeat (first | with_reducible assumption | with_reducible exact blk_at (by simp) | with_reducible refine Blk.alloc ?_ _ | with_reducible refine Blk.drew ?_)); done)) hB (Blk.lt (show Blk _ (w0.heap.size) 25 #[.int .i64 0, .int .i64 0, .int .i64 0, .int .i64 0] from (by (repeat (first | with_reducible assumption | with_reducible exact blk_at (by simp) | with_reducible refine Blk.alloc ?_ _ | with_reducible refine Blk.drew ?_)); done)))
              have fz := kz.frozen
              have z0 := kz.cell 0
              have z1 := kz.cell 1
              have z2 := kz.cell 2
              have z3 := kz.cell 3
              have zl := kz.lt
              clear hB
              (try go_wp2_with fail)
              refine hK.out _ _ ?_ (fun hHeld => ?_)
              · exact Keep.out _ (by (repeat (first | with_reducible assumption | with_reducible refine lat_al ?_ _ | with_reducible refine lat_dr ?_ | (refine lat_set ?_ (by omega) _ _))); done)
              clear hK KK
              (try simp only [Act.put, List.setIfInBounds_toArray, List.set_cons_zero, List.set_cons_succ])
              refine wpAnyH_take (i := 13) (v := ?_) rfl (by kernel_rfl) (by kernel_rfl) (by kernel_rfl) (fun _ _ _ h => h) (Or.inl ⟨by rfl, ?_⟩) hHeld ?_
              rotate_left
              · intro W hSw; (try dsimp only at hSw); go_simp; (try with_reducible rfl)
              (try simp only [Act.put, List.setIfInBounds_toArray, List.set_cons_zero, List.set_cons_succ])
              refine wpAnyH_take (i := 14) (v := ?_) rfl (by kernel_rfl) (by kernel_rfl) (by kernel_rfl) (fun _ _ _ h => h) (Or.inl ⟨by rfl, ?_⟩) hHeld ?_
              rotate_left
              · intro W hSw; (try dsimp only at hSw); go_simp; (try with_reducible rfl)
              (try simp only [Act.put, List.setIfInBounds_toArray, List.set_cons_zero, List.set_cons_succ])
              refine wpAnyH_take (i := 15) (v := ?_) rfl (by kernel_rfl) (by kernel_rfl) (by kernel_rfl) (fun _ _ _ h => h) (Or.inl ⟨by rfl, ?_⟩) hHeld ?_
              rotate_left
              · intro W hSw; (try dsimp only at hSw); go_simp; (try with_reducible rfl)
              (try simp only [Act.put, List.setIfInBounds_toArray, List.set_cons_zero, List.set_cons_succ])
              refine wpAnyH_ready (rs := [17]) (by kernel_rfl) (by simp) ?_
              refine AllReadyH.cons rfl (fun KK hK => ?_) ?_
              · go_simp
                refine hK.out _ _ ?_ (fun hHeld => ?_)
                · exact Keep.out _ (by (repeat (first | with_reducible assumption | with_reducible refine lat_al ?_ _ | with_reducible refine lat_dr ?_ | (refine lat_set ?_ (by omega) _ _))); done)
                clear hK KK
                (try simp only [Act.put, List.setIfInBounds_toArray, List.set_cons_zero, List.set_cons_succ])
                refine wpAnyH_take (i := 18) (v := ?_) rfl (by kernel_rfl) (by kernel_rfl) (by kernel_rfl) (fun _ _ _ h => h) (Or.inl ⟨by rfl, ?_⟩) hHeld ?_
                rotate_left
                · intro W hSw; (try dsimp only at hSw); go_simp; (try with_reducible rfl)
                (try simp only [Act.put, List.setIfInBounds_toArray, List.set_cons_zero, List.set_cons_succ])
                refine wpAnyH_done (by kernel_rfl) ?_ _
                refine NoPanic.normal ?_
                (try simp only [Act.put, List.getElem_toArray, List.getElem_cons_zero, List.getElem_cons_succ, List.setIfInBounds_toArray, List.set_cons_zero, List.set_cons_succ])
                have zne : w0.heap.size ≤ w0.heap.size := by omega
                clear hHeld
                obtain ⟨fR, r0, r1, r2, r3⟩ := Frz.out v3 hb3
                have zRn : w.heap.size + 1 + 1 < v3.heap.size := by omega
                go_wp2
                refine ret_iv (p := 4) (q := 5) (by kernel_rfl) rfl rfl (Fin.out _ ?_).1 ⟨rfl, (Fin.out _ ?_).2⟩ <;> exact (by (repeat (first | with_reducible assumption | with_reducible refine lat_al ?_ _ | with_reducible refine lat_dr ?_ | (refine lat_set ?_ (by omega) _ _))); done)
              exact AllReadyH.nil
            exact AllReadyH.nil
          exact AllReadyH.nil
        exact AllReadyH.nil
      exact AllReadyH.nil
    exact AllReadyH.nil
  exact AllReadyH.nil
end Go.Proofs.Yteppamchbgnlfaa
