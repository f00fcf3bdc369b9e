/- The reference's Min at valid intervals. Conditions: valid intervals. -/
import Derived.Test.YteppamchbgnlfaaGrow
namespace Go.Proofs.Yteppamchbgnlfaa
open Go.RowKit

set_option linter.unusedSimpArgs false in
set_option maxRecDepth 100000 in
set_option maxHeartbeats 16000000 in
theorem rmin_w {a b c d a' b' c' d' : Int} (hx : vI a b c d) (hy : vI a' b' c' d') (w : World) :
    Calls Try.prog 9 #[.agg #[.int .i64 a, .int .i64 b, .int .i64 c, .int .i64 d], .agg #[.int .i64 a', .int .i64 b', .int .i64 c', .int .i64 d']] w fun e w' => e = .returned (.agg #[.int .i64 (minL [(a, b), (a', b')]).1, .int .i64 (minL [(a, b), (a', b')]).2, .int .i64 (minL [(c, d), (c', d')]).1, .int .i64 (minL [(c, d), (c', d')]).2]) ∧ Below w.heap.size w w' := by
  have BW := both_w hx.1.1.w2 hx.1.2.w2 hy.1.1.w2 hy.1.2.w2
  rw [show vIB a b c d = true from decide_eq_true hx, show vIB a' b' c' d' = true from decide_eq_true hy] at BW
  replace BW := Lib.hid BW
  have hv1 : VL [(a, b), (a', b')] := vl_two hx.1.1 hy.1.1
  have hv2 : VL [(c, d), (c', d')] := vl_two hx.1.2 hy.1.2
  obtain ⟨⟨x1, x2⟩, hl1⟩ : ∃ x, minL [(a, b), (a', b')] = x := ⟨_, rfl⟩
  obtain ⟨⟨x3, x4⟩, hl2⟩ : ∃ x, maxL [(a, b), (a', b')] = x := ⟨_, rfl⟩
  obtain ⟨⟨y1, y2⟩, hh1⟩ : ∃ x, minL [(c, d), (c', d')] = x := ⟨_, rfl⟩
  obtain ⟨⟨y3, y4⟩, hh2⟩ : ∃ x, maxL [(c, d), (c', d')] = x := ⟨_, rfl⟩
  rw [hl1, hh1]
  simp only
  obtain ⟨hA, hE, hR, hW⟩ := start3 w 25 #[.int .i64 a, .int .i64 b, .int .i64 c, .int .i64 d] 25 #[.int .i64 a', .int .i64 b', .int .i64 c', .int .i64 d'] 25 #[.int .i64 0, .int .i64 0, .int .i64 0, .int .i64 0]
  clear hx hy
  have cA0 := hA.cell 0
  have cA1 := hA.cell 1
  have cA2 := hA.cell 2
  have cA3 := hA.cell 3
  have zA := hA.lt
  have cE0 := hE.cell 0
  have cE1 := hE.cell 1
  have cE2 := hE.cell 2
  have cE3 := hE.cell 3
  have zE := hE.lt
  go_enter Try.func9, Try.ntmps9
  go_wp2_with fail
  (with_reducible refine (BW.out _).mono ?_)
  rintro e w1 ⟨rfl, hB⟩
  replace hA := hA.below hB hA.lt
  replace hE := hE.below hB hE.lt
  replace hR := hR.below hB hR.lt
  replace hW := below_st hW hB
  clear hB cA0 cA1 cA2 cA3 zA cE0 cE1 cE2 cE3 zE BW
  obtain ⟨w0, hw0⟩ : ∃ w0 : World, w1 = w0 := ⟨_, rfl⟩
  rw [hw0] at hA hE hR hW ⊢
  clear hw0
  have keep : ∀ W : World, Below w0.heap.size w0 W → W.cell? ⟨w.heap.size, 0, none⟩ = some (.int .i64 a) ∧ W.cell? ⟨w.heap.size, 1, none⟩ = some (.int .i64 b) ∧ W.cell? ⟨w.heap.size, 2, none⟩ = some (.int .i64 c) ∧ W.cell? ⟨w.heap.size, 3, none⟩ = some (.int .i64 d) ∧ W.cell? ⟨w.heap.size + 1, 0, none⟩ = some (.int .i64 a') ∧ W.cell? ⟨w.heap.size + 1, 1, none⟩ = some (.int .i64 b') ∧ W.cell? ⟨w.heap.size + 1, 2, none⟩ = some (.int .i64 c') ∧ W.cell? ⟨w.heap.size + 1, 3, none⟩ = some (.int .i64 d') := fun W hB =>
    ⟨(hA.below hB hA.lt).cell 0, (hA.below hB hA.lt).cell 1, (hA.below hB hA.lt).cell 2, (hA.below hB hA.lt).cell 3, (hE.below hB hE.lt).cell 0, (hE.below hB hE.lt).cell 1, (hE.below hB hE.lt).cell 2, (hE.below hB hE.lt).cell 3⟩
  have fin := fun (W : World) (hB : Below w0.heap.size w0 W) => put4 (hR.below hB hR.lt) (below_st hW hB) (by omega) x1 x2 y1 y2
  have frz := fun (W : World) (hB : Below w0.heap.size w0 W) => (show (∀ i, W.frozen? ⟨w.heap.size + 1 + 1, i, none⟩ = false) ∧ W.cell? ⟨w.heap.size + 1 + 1, 0, none⟩ = some (.int .i64 0) ∧ W.cell? ⟨w.heap.size + 1 + 1, 1, none⟩ = some (.int .i64 0) ∧ W.cell? ⟨w.heap.size + 1 + 1, 2, none⟩ = some (.int .i64 0) ∧ W.cell? ⟨w.heap.size + 1 + 1, 3, none⟩ = some (.int .i64 0) from ⟨(hR.below hB hR.lt).frozen, (hR.below hB hR.lt).cell 0, (hR.below hB hR.lt).cell 1, (hR.below hB hR.lt).cell 2, (hR.below hB hR.lt).cell 3⟩)
  have zR := hR.lt
  have Keep := Lib.hid keep
  have Fin := Lib.hid fin
  have Frz := Lib.hid frz
  have h00 := Below.refl w0.heap.size w0
  have h0d : Below w0.heap.size w0 w0.drew := h00.drew
  obtain ⟨fR, r0, r1, r2, r3⟩ := frz w0 h00
  obtain ⟨c0, c1, c2, c3, c4, c5, c6, c7⟩ := keep w0 h00
  have SL := Lib.hid (fun (X : World) (g : Nat) (hg : Blk X g 23 (flat [(a, b), (a', b')])) => rsorted2 hv1 hl1 hl2 g 23 X hg)
  have SH := Lib.hid (fun (X : World) (g : Nat) (hg : Blk X g 23 (flat [(c, d), (c', d')])) => rsorted2 hv2 hh1 hh2 g 23 X hg)
  have farr : ∀ W : World, Below w0.heap.size w0 W → (fun W : World => W.cell? ⟨w.heap.size, 0, none⟩ = some (.int .i64 a) ∧ W.cell? ⟨w.heap.size, 1, none⟩ = some (.int .i64 b) ∧ W.cell? ⟨w.heap.size, 2, none⟩ = some (.int .i64 c) ∧ W.cell? ⟨w.heap.size, 3, none⟩ = some (.int .i64 d) ∧ W.cell? ⟨w.heap.size + 1, 0, none⟩ = some (.int .i64 a') ∧ W.cell? ⟨w.heap.size + 1, 1, none⟩ = some (.int .i64 b') ∧ W.cell? ⟨w.heap.size + 1, 2, none⟩ = some (.int .i64 c') ∧ W.cell? ⟨w.heap.size + 1, 3, none⟩ = some (.int .i64 d')) ((((W.setCell ⟨w.heap.size + 1 + 1, 0, none⟩ (.int .i64 x1)).setCell ⟨w.heap.size + 1 + 1, 1, none⟩ (.int .i64 x2)).setCell ⟨w.heap.size + 1 + 1, 2, none⟩ (.int .i64 y1)).setCell ⟨w.heap.size + 1 + 1, 3, none⟩ (.int .i64 y2)) := fun W hB =>
    have k := (((((hA.below hB hA.lt).far (p := ⟨w.heap.size + 1 + 1, 0, none⟩) (by show ¬ w.heap.size = w.heap.size + 1 + 1; omega) (.int .i64 x1)).far (p := ⟨w.heap.size + 1 + 1, 1, none⟩) (by show ¬ w.heap.size = w.heap.size + 1 + 1; omega) (.int .i64 x2)).far (p := ⟨w.heap.size + 1 + 1, 2, none⟩) (by show ¬ w.heap.size = w.heap.size + 1 + 1; omega) (.int .i64 y1)).far (p := ⟨w.heap.size + 1 + 1, 3, none⟩) (by show ¬ w.heap.size = w.heap.size + 1 + 1; omega) (.int .i64 y2))
    have j := (((((hE.below hB hE.lt).far (p := ⟨w.heap.size + 1 + 1, 0, none⟩) (by show ¬ w.heap.size + 1 = w.heap.size + 1 + 1; omega) (.int .i64 x1)).far (p := ⟨w.heap.size + 1 + 1, 1, none⟩) (by show ¬ w.heap.size + 1 = w.heap.size + 1 + 1; omega) (.int .i64 x2)).far (p := ⟨w.heap.size + 1 + 1, 2, none⟩) (by show ¬ w.heap.size + 1 = w.heap.size + 1 + 1; omega) (.int .i64 y1)).far (p := ⟨w.heap.size + 1 + 1, 3, none⟩) (by show ¬ w.heap.size + 1 = w.heap.size + 1 + 1; omega) (.int .i64 y2))
    ⟨k.cell 0, k.cell 1, k.cell 2, k.cell 3, j.cell 0, j.cell 1, j.cell 2, j.cell 3⟩
  simp only at farr
  have Far := Lib.hid farr
  clear farr
  clear keep fin frz hA hE hR hW hl1 hl2 hh1 hh2 hv1 hv2
  go_wp2_with fail
  refine wp_region_noPanic ?_
  refine wp_region_held_drew (S := fun W => W.cell? ⟨w.heap.size, 0, none⟩ = some (.int .i64 a) ∧ W.cell? ⟨w.heap.size, 1, none⟩ = some (.int .i64 b) ∧ W.cell? ⟨w.heap.size, 2, none⟩ = some (.int .i64 c) ∧ W.cell? ⟨w.heap.size, 3, none⟩ = some (.int .i64 d) ∧ W.cell? ⟨w.heap.size + 1, 0, none⟩ = some (.int .i64 a') ∧ W.cell? ⟨w.heap.size + 1, 1, none⟩ = some (.int .i64 b') ∧ W.cell? ⟨w.heap.size + 1, 2, none⟩ = some (.int .i64 c') ∧ W.cell? ⟨w.heap.size + 1, 3, none⟩ = some (.int .i64 d')) (by kernel_rfl) ?_ (fun hHeld => ?_)
  · exact Keep.out _ h0d
  refine wpAnyH_take (i := 0) (v := ?_) rfl (by kernel_rfl) (by kernel_rfl) (by kernel_rfl) (fun _ _ _ h => h) (Or.inl ⟨by rfl, ?_⟩) hHeld ?_
  rotate_left
  · intro W hSw; (try dsimp only at hSw); go_simp; (try with_reducible rfl)
  (try simp only [Act.put, List.setIfInBounds_toArray, List.set_cons_zero, List.set_cons_succ])
  refine wpAnyH_take (i := 1) (v := ?_) rfl (by kernel_rfl) (by kernel_rfl) (by kernel_rfl) (fun _ _ _ h => h) (Or.inl ⟨by rfl, ?_⟩) hHeld ?_
  rotate_left
  · intro W hSw; (try dsimp only at hSw); go_simp; (try with_reducible rfl)
  (try simp only [Act.put, List.setIfInBounds_toArray, List.set_cons_zero, List.set_cons_succ])
  refine wpAnyH_take (i := 2) (v := ?_) rfl (by kernel_rfl) (by kernel_rfl) (by kernel_rfl) (fun _ _ _ h => h) (Or.inl ⟨by rfl, ?_⟩) hHeld ?_
  rotate_left
  · intro W hSw; (try dsimp only at hSw); go_simp; (try with_reducible rfl)
  (try simp only [Act.put, List.setIfInBounds_toArray, List.set_cons_zero, List.set_cons_succ])
  refine wpAnyH_take (i := 3) (v := ?_) rfl (by kernel_rfl) (by kernel_rfl) (by kernel_rfl) (fun _ _ _ h => h) (Or.inl ⟨by rfl, ?_⟩) hHeld ?_
  rotate_left
  · intro W hSw; (try dsimp only at hSw); go_simp; (try with_reducible rfl)
  (try simp only [Act.put, List.setIfInBounds_toArray, List.set_cons_zero, List.set_cons_succ])
  refine wpAnyH_take (i := 8) (v := ?_) rfl (by kernel_rfl) (by kernel_rfl) (by kernel_rfl) (fun _ _ _ h => h) (Or.inl ⟨by rfl, ?_⟩) hHeld ?_
  rotate_left
  · intro W hSw; (try dsimp only at hSw); go_simp; (try with_reducible rfl)
  (try simp only [Act.put, List.setIfInBounds_toArray, List.set_cons_zero, List.set_cons_succ])
  refine wpAnyH_take (i := 9) (v := ?_) rfl (by kernel_rfl) (by kernel_rfl) (by kernel_rfl) (fun _ _ _ h => h) (Or.inl ⟨by rfl, ?_⟩) hHeld ?_
  rotate_left
  · intro W hSw; (try dsimp only at hSw); go_simp; (try with_reducible rfl)
  (try simp only [Act.put, List.setIfInBounds_toArray, List.set_cons_zero, List.set_cons_succ])
  refine wpAnyH_take (i := 10) (v := ?_) rfl (by kernel_rfl) (by kernel_rfl) (by kernel_rfl) (fun _ _ _ h => h) (Or.inl ⟨by rfl, ?_⟩) hHeld ?_
  rotate_left
  · intro W hSw; (try dsimp only at hSw); go_simp; (try with_reducible rfl)
  (try simp only [Act.put, List.setIfInBounds_toArray, List.set_cons_zero, List.set_cons_succ])
  refine wpAnyH_take (i := 11) (v := ?_) rfl (by kernel_rfl) (by kernel_rfl) (by kernel_rfl) (fun _ _ _ h => h) (Or.inl ⟨by rfl, ?_⟩) hHeld ?_
  rotate_left
  · intro W hSw; (try dsimp only at hSw); go_simp; (try with_reducible rfl)
  (try simp only [Act.put, List.setIfInBounds_toArray, List.set_cons_zero, List.set_cons_succ])
  refine wpAnyH_ready (rs := [4, 12]) (by kernel_rfl) (by simp) ?_
  refine AllReadyH.cons rfl (fun KK hK => ?_) ?_
  · go_simp
    refine hK.out _ _ ?_ (fun hHeld => ?_)
    · exact Keep.out _ (by (repeat (first | with_reducible assumption | with_reducible refine lat_al ?_ _ | with_reducible refine lat_dr ?_ | (refine lat_set ?_ (by omega) _ _))); done)
    clear hK KK
    (try simp only [Act.put, List.setIfInBounds_toArray, List.set_cons_zero, List.set_cons_succ])
    refine wpAnyH_ready (rs := [5, 12]) (by kernel_rfl) (by simp) ?_
    refine AllReadyH.cons rfl (fun KK hK => ?_) ?_
    · go_simp
      go_at_call 25
      (with_reducible refine (SL.out _ _ (by (repeat (first | with_reducible assumption | with_reducible exact blk_two_at (by simp) | with_reducible refine Blk.alloc ?_ _ | with_reducible refine Blk.drew ?_)); done)).mono ?_)
      rintro e v1 ⟨gl, capl, rfl, hcl, hgl, tl, hB⟩
      have hb1 : Below w0.heap.size w0 v1 := below_step (by (repeat (first | with_reducible assumption | with_reducible refine lat_al ?_ _ | with_reducible refine lat_dr ?_ | (refine lat_set ?_ (by omega) _ _))); done) hB
      have sz1 := hb1.size
      have nl : w0.heap.size ≤ gl := Nat.le_trans (Below.size (w := w0) (B := w0.heap.size) (by (repeat (first | with_reducible assumption | with_reducible refine lat_al ?_ _ | with_reducible refine lat_dr ?_ | (refine lat_set ?_ (by omega) _ _))); done)) hgl
      (try simp at hgl)
      have sB1 := hB.size
      (try simp at sB1)
      have ltl := tl.1
      clear hB
      (try go_wp2_with fail)
      refine hK.out _ _ ?_ (fun hHeld => ?_)
      · exact Keep.out _ (by (repeat (first | with_reducible assumption | with_reducible refine lat_al ?_ _ | with_reducible refine lat_dr ?_ | (refine lat_set ?_ (by omega) _ _))); done)
      clear hK KK
      refine wpAnyH_grow (T := fun W => W.cell? ⟨gl, 0, none⟩ = some (.int .i64 x1) ∧ W.cell? ⟨gl, 1, none⟩ = some (.int .i64 x2) ∧ W.cell? ⟨gl, 2, none⟩ = some (.int .i64 x3) ∧ W.cell? ⟨gl, 3, none⟩ = some (.int .i64 x4)) ?_
      replace hHeld := And.intro hHeld tl.2
      (try simp only [Act.put, List.setIfInBounds_toArray, List.set_cons_zero, List.set_cons_succ])
      refine wpAnyH_take (i := 6) (v := ?_) rfl (by kernel_rfl) (by kernel_rfl) (by kernel_rfl) (fun _ _ _ h => h) (Or.inl ⟨by rfl, ?_⟩) hHeld ?_
      rotate_left
      · intro W hSw; (try dsimp only at hSw); go_simp; (try with_reducible rfl)
      (try simp only [Act.put, List.setIfInBounds_toArray, List.set_cons_zero, List.set_cons_succ])
      refine wpAnyH_take (i := 7) (v := ?_) rfl (by kernel_rfl) (by kernel_rfl) (by kernel_rfl) (fun _ _ _ h => h) (Or.inl ⟨by rfl, ?_⟩) hHeld ?_
      rotate_left
      · intro W hSw; (try dsimp only at hSw); go_simp; (try with_reducible rfl)
      (try simp only [Act.put, List.setIfInBounds_toArray, List.set_cons_zero, List.set_cons_succ])
      refine wpAnyH_ready (rs := [12]) (by kernel_rfl) (by simp) ?_
      refine AllReadyH.cons rfl (fun KK hK => ?_) ?_
      · go_simp
        refine hK.out _ _ ?_ (fun hHeld => ?_)
        · exact ⟨Keep.out _ (by (repeat (first | with_reducible assumption | with_reducible refine lat_al ?_ _ | with_reducible refine lat_dr ?_ | (refine lat_set ?_ (by omega) _ _))); done), (show TwoC _ gl x1 x2 x3 x4 from (by (repeat (first | with_reducible assumption | with_reducible refine TwoC.alloc ?_ _ | with_reducible refine TwoC.drew ?_ | (refine TwoC.far ?_ (by show ¬ 0 = _; omega) _))); done)).2⟩
        clear hK KK
        (try simp only [Act.put, List.setIfInBounds_toArray, List.set_cons_zero, List.set_cons_succ])
        refine wpAnyH_ready (rs := [13]) (by kernel_rfl) (by simp) ?_
        refine AllReadyH.cons rfl (fun KK hK => ?_) ?_
        · go_simp
          go_at_call 25
          (with_reducible refine (SH.out _ _ (by (repeat (first | with_reducible assumption | with_reducible exact blk_two_at (by simp) | with_reducible refine Blk.alloc ?_ _ | with_reducible refine Blk.drew ?_)); done)).mono ?_)
          rintro e v2 ⟨gh, caph, rfl, hch, hgh, th, hB⟩
          have hb2 : Below w0.heap.size w0 v2 := below_step (by (repeat (first | with_reducible assumption | with_reducible refine lat_al ?_ _ | with_reducible refine lat_dr ?_ | (refine lat_set ?_ (by omega) _ _))); done) hB
          have sz2 := hb2.size
          replace tl : TwoC v2 gl x1 x2 x3 x4 := TwoC.below (by (repeat (first | with_reducible assumption | with_reducible refine TwoC.alloc ?_ _ | with_reducible refine TwoC.drew ?_ | (refine TwoC.far ?_ (by show ¬ 0 = _; omega) _))); done) hB
          have nh : w0.heap.size ≤ gh := Nat.le_trans (Below.size (w := w0) (B := w0.heap.size) (by (repeat (first | with_reducible assumption | with_reducible refine lat_al ?_ _ | with_reducible refine lat_dr ?_ | (refine lat_set ?_ (by omega) _ _))); done)) hgh
          (try simp at hgh)
          have sB2 := hB.size
          (try simp at sB2)
          have lth := th.1
          clear hB
          (try go_wp2_with fail)
          refine hK.out _ _ ?_ (fun hHeld => ?_)
          · exact ⟨Keep.out _ (by (repeat (first | with_reducible assumption | with_reducible refine lat_al ?_ _ | with_reducible refine lat_dr ?_ | (refine lat_set ?_ (by omega) _ _))); done), (show TwoC _ gl x1 x2 x3 x4 from (by (repeat (first | with_reducible assumption | with_reducible refine TwoC.alloc ?_ _ | with_reducible refine TwoC.drew ?_ | (refine TwoC.far ?_ (by show ¬ 0 = _; omega) _))); done)).2⟩
          clear hK KK
          refine wpAnyH_grow (T := fun W => W.cell? ⟨gh, 0, none⟩ = some (.int .i64 y1) ∧ W.cell? ⟨gh, 1, none⟩ = some (.int .i64 y2) ∧ W.cell? ⟨gh, 2, none⟩ = some (.int .i64 y3) ∧ W.cell? ⟨gh, 3, none⟩ = some (.int .i64 y4)) ?_
          replace hHeld := And.intro hHeld th.2
          (try simp only [Act.put, List.setIfInBounds_toArray, List.set_cons_zero, List.set_cons_succ])
          refine wpAnyH_take (i := 14) (v := ?_) rfl (by kernel_rfl) (by kernel_rfl) (by kernel_rfl) (fun _ _ _ h => h) (Or.inl ⟨by rfl, ?_⟩) hHeld ?_
          rotate_left
          · intro W hSw; (try dsimp only at hSw); go_simp; (try with_reducible rfl)
          (try simp only [Act.put, List.setIfInBounds_toArray, List.set_cons_zero, List.set_cons_succ])
          refine wpAnyH_take (i := 15) (v := ?_) rfl (by kernel_rfl) (by kernel_rfl) (by kernel_rfl) (fun _ _ _ h => h) (Or.inl ⟨by rfl, ?_⟩) hHeld ?_
          rotate_left
          · intro W hSw; (try dsimp only at hSw); go_simp; (try with_reducible rfl)
          (try simp only [Act.put, List.setIfInBounds_toArray, List.set_cons_zero, List.set_cons_succ])
          refine wpAnyH_take (i := 16) (v := ?_) rfl (by kernel_rfl) (by kernel_rfl) (by kernel_rfl) (fun _ _ _ h => h) (Or.inl ⟨by rfl, ?_⟩) hHeld ?_
          rotate_left
          · intro W hSw; (try dsimp only at hSw); go_simp; (try with_reducible rfl)
          (try simp only [Act.put, List.setIfInBounds_toArray, List.set_cons_zero, List.set_cons_succ])
          refine wpAnyH_ready (rs := [17]) (by kernel_rfl) (by simp) ?_
          refine AllReadyH.cons rfl (fun KK hK => ?_) ?_
          · obtain ⟨fR, r0, r1, r2, r3⟩ := Frz.out v2 hb2
            go_simp
            refine hK.out _ _ ?_ (fun hHeld => ?_)
            · exact ⟨⟨Far.out _ (by (repeat (first | with_reducible assumption | with_reducible refine lat_al ?_ _ | with_reducible refine lat_dr ?_ | (refine lat_set ?_ (by omega) _ _))); done), (show TwoC _ gl x1 x2 x3 x4 from (by (repeat (first | with_reducible assumption | with_reducible refine TwoC.alloc ?_ _ | with_reducible refine TwoC.drew ?_ | (refine TwoC.far ?_ (by show ¬ w.heap.size + 1 + 1 = _; omega) _))); done)).2⟩, (show TwoC _ gh y1 y2 y3 y4 from (by (repeat (first | with_reducible assumption | with_reducible refine TwoC.alloc ?_ _ | with_reducible refine TwoC.drew ?_ | (refine TwoC.far ?_ (by show ¬ w.heap.size + 1 + 1 = _; omega) _))); done)).2⟩
            clear hK KK
            (try simp only [Act.put, List.setIfInBounds_toArray, List.set_cons_zero, List.set_cons_succ])
            refine wpAnyH_done (by kernel_rfl) ?_ _
            refine NoPanic.normal ?_
            go_wp2
            refine ret_iv1 (p := 4) (by kernel_rfl) rfl (Fin.out _ ?_).1 ⟨rfl, (Fin.out _ ?_).2⟩ <;> exact (by (repeat (first | with_reducible assumption | with_reducible refine lat_al ?_ _ | with_reducible refine lat_dr ?_ | (refine lat_set ?_ (by omega) _ _))); done)
          exact AllReadyH.nil
        exact AllReadyH.nil
      exact AllReadyH.nil
    refine AllReadyH.cons rfl (fun KK hK => ?_) ?_
    · go_simp
      refine hK.out _ _ ?_ (fun hHeld => ?_)
      · exact Keep.out _ (by (repeat (first | with_reducible assumption | with_reducible refine lat_al ?_ _ | with_reducible refine lat_dr ?_ | (refine lat_set ?_ (by omega) _ _))); done)
      clear hK KK
      (try simp only [Act.put, List.setIfInBounds_toArray, List.set_cons_zero, List.set_cons_succ])
      refine wpAnyH_ready (rs := [5]) (by kernel_rfl) (by simp) ?_
      refine AllReadyH.cons rfl (fun KK hK => ?_) ?_
      · go_simp
        go_at_call 25
        (with_reducible refine (SL.out _ _ (by (repeat (first | with_reducible assumption | with_reducible exact blk_two_at (by simp) | with_reducible refine Blk.alloc ?_ _ | with_reducible refine Blk.drew ?_)); done)).mono ?_)
        rintro e v1 ⟨gl, capl, rfl, hcl, hgl, tl, hB⟩
        have hb1 : Below w0.heap.size w0 v1 := below_step (by (repeat (first | with_reducible assumption | with_reducible refine lat_al ?_ _ | with_reducible refine lat_dr ?_ | (refine lat_set ?_ (by omega) _ _))); done) hB
        have sz1 := hb1.size
        have kh : Blk v1 (w0.heap.size + 1) 23 (flat [(c, d), (c', d')]) := Blk.below (show Blk _ (w0.heap.size + 1) 23 (flat [(c, d), (c', d')]) from (by (repeat (first | with_reducible assumption | with_reducible exact blk_two_at (by simp) | with_reducible refine Blk.alloc ?_ _ | with_reducible refine Blk.drew ?_)); done)) hB (Blk.lt (show Blk _ (w0.heap.size + 1) 23 (flat [(c, d), (c', d')]) from (by (repeat (first | with_reducible assumption | with_reducible exact blk_two_at (by simp) | with_reducible refine Blk.alloc ?_ _ | with_reducible refine Blk.drew ?_)); done)))
        have nl : w0.heap.size ≤ gl := Nat.le_trans (Below.size (w := w0) (B := w0.heap.size) (by (repeat (first | with_reducible assumption | with_reducible refine lat_al ?_ _ | with_reducible refine lat_dr ?_ | (refine lat_set ?_ (by omega) _ _))); done)) hgl
        (try simp at hgl)
        have sB1 := hB.size
        (try simp at sB1)
        have ltl := tl.1
        clear hB
        (try go_wp2_with fail)
        refine hK.out _ _ ?_ (fun hHeld => ?_)
        · exact Keep.out _ (by (repeat (first | with_reducible assumption | with_reducible refine lat_al ?_ _ | with_reducible refine lat_dr ?_ | (refine lat_set ?_ (by omega) _ _))); done)
        clear hK KK
        refine wpAnyH_grow (T := fun W => W.cell? ⟨gl, 0, none⟩ = some (.int .i64 x1) ∧ W.cell? ⟨gl, 1, none⟩ = some (.int .i64 x2) ∧ W.cell? ⟨gl, 2, none⟩ = some (.int .i64 x3) ∧ W.cell? ⟨gl, 3, none⟩ = some (.int .i64 x4)) ?_
        replace hHeld := And.intro hHeld tl.2
        (try simp only [Act.put, List.setIfInBounds_toArray, List.set_cons_zero, List.set_cons_succ])
        refine wpAnyH_take (i := 6) (v := ?_) rfl (by kernel_rfl) (by kernel_rfl) (by kernel_rfl) (fun _ _ _ h => h) (Or.inl ⟨by rfl, ?_⟩) hHeld ?_
        rotate_left
        · intro W hSw; (try dsimp only at hSw); go_simp; (try with_reducible rfl)
        (try simp only [Act.put, List.setIfInBounds_toArray, List.set_cons_zero, List.set_cons_succ])
        refine wpAnyH_take (i := 7) (v := ?_) rfl (by kernel_rfl) (by kernel_rfl) (by kernel_rfl) (fun _ _ _ h => h) (Or.inl ⟨by rfl, ?_⟩) hHeld ?_
        rotate_left
        · intro W hSw; (try dsimp only at hSw); go_simp; (try with_reducible rfl)
        (try simp only [Act.put, List.setIfInBounds_toArray, List.set_cons_zero, List.set_cons_succ])
        refine wpAnyH_ready (rs := [13]) (by kernel_rfl) (by simp) ?_
        refine AllReadyH.cons rfl (fun KK hK => ?_) ?_
        · go_simp
          go_at_call 25
          (with_reducible refine (SH.out _ _ (by (repeat (first | with_reducible assumption | with_reducible exact blk_two_at (by simp) | with_reducible refine Blk.alloc ?_ _ | with_reducible refine Blk.drew ?_)); done)).mono ?_)
          rintro e v2 ⟨gh, caph, rfl, hch, hgh, th, hB⟩
          have hb2 : Below w0.heap.size w0 v2 := below_step (by (repeat (first | with_reducible assumption | with_reducible refine lat_al ?_ _ | with_reducible refine lat_dr ?_ | (refine lat_set ?_ (by omega) _ _))); done) hB
          have sz2 := hb2.size
          replace tl : TwoC v2 gl x1 x2 x3 x4 := TwoC.below (by (repeat (first | with_reducible assumption | with_reducible refine TwoC.alloc ?_ _ | with_reducible refine TwoC.drew ?_ | (refine TwoC.far ?_ (by show ¬ 0 = _; omega) _))); done) hB
          have nh : w0.heap.size ≤ gh := Nat.le_trans (Below.size (w := w0) (B := w0.heap.size) (by (repeat (first | with_reducible assumption | with_reducible refine lat_al ?_ _ | with_reducible refine lat_dr ?_ | (refine lat_set ?_ (by omega) _ _))); done)) hgh
          (try simp at hgh)
          have sB2 := hB.size
          (try simp at sB2)
          have lth := th.1
          clear hB
          (try go_wp2_with fail)
          refine hK.out _ _ ?_ (fun hHeld => ?_)
          · exact ⟨Keep.out _ (by (repeat (first | with_reducible assumption | with_reducible refine lat_al ?_ _ | with_reducible refine lat_dr ?_ | (refine lat_set ?_ (by omega) _ _))); done), (show TwoC _ gl x1 x2 x3 x4 from (by (repeat (first | with_reducible assumption | with_reducible refine TwoC.alloc ?_ _ | with_reducible refine TwoC.drew ?_ | (refine TwoC.far ?_ (by show ¬ 0 = _; omega) _))); done)).2⟩
          clear hK KK
          refine wpAnyH_grow (T := fun W => W.cell? ⟨gh, 0, none⟩ = some (.int .i64 y1) ∧ W.cell? ⟨gh, 1, none⟩ = some (.int .i64 y2) ∧ W.cell? ⟨gh, 2, none⟩ = some (.int .i64 y3) ∧ W.cell? ⟨gh, 3, none⟩ = some (.int .i64 y4)) ?_
          replace hHeld := And.intro hHeld th.2
          (try simp only [Act.put, List.setIfInBounds_toArray, List.set_cons_zero, List.set_cons_succ])
          refine wpAnyH_take (i := 14) (v := ?_) rfl (by kernel_rfl) (by kernel_rfl) (by kernel_rfl) (fun _ _ _ h => h) (Or.inl ⟨by rfl, ?_⟩) hHeld ?_
          rotate_left
          · intro W hSw; (try dsimp only at hSw); go_simp; (try with_reducible rfl)
          (try simp only [Act.put, List.setIfInBounds_toArray, List.set_cons_zero, List.set_cons_succ])
          refine wpAnyH_take (i := 15) (v := ?_) rfl (by kernel_rfl) (by kernel_rfl) (by kernel_rfl) (fun _ _ _ h => h) (Or.inl ⟨by rfl, ?_⟩) hHeld ?_
          rotate_left
          · intro W hSw; (try dsimp only at hSw); go_simp; (try with_reducible rfl)
          (try simp only [Act.put, List.setIfInBounds_toArray, List.set_cons_zero, List.set_cons_succ])
          refine wpAnyH_take (i := 16) (v := ?_) rfl (by kernel_rfl) (by kernel_rfl) (by kernel_rfl) (fun _ _ _ h => h) (Or.inl ⟨by rfl, ?_⟩) hHeld ?_
          rotate_left
          · intro W hSw; (try dsimp only at hSw); go_simp; (try with_reducible rfl)
          (try simp only [Act.put, List.setIfInBounds_toArray, List.set_cons_zero, List.set_cons_succ])
          refine wpAnyH_ready (rs := [17]) (by kernel_rfl) (by simp) ?_
          refine AllReadyH.cons rfl (fun KK hK => ?_) ?_
          · obtain ⟨fR, r0, r1, r2, r3⟩ := Frz.out v2 hb2
            go_simp
            refine hK.out _ _ ?_ (fun hHeld => ?_)
            · exact ⟨⟨Far.out _ (by (repeat (first | with_reducible assumption | with_reducible refine lat_al ?_ _ | with_reducible refine lat_dr ?_ | (refine lat_set ?_ (by omega) _ _))); done), (show TwoC _ gl x1 x2 x3 x4 from (by (repeat (first | with_reducible assumption | with_reducible refine TwoC.alloc ?_ _ | with_reducible refine TwoC.drew ?_ | (refine TwoC.far ?_ (by show ¬ w.heap.size + 1 + 1 = _; omega) _))); done)).2⟩, (show TwoC _ gh y1 y2 y3 y4 from (by (repeat (first | with_reducible assumption | with_reducible refine TwoC.alloc ?_ _ | with_reducible refine TwoC.drew ?_ | (refine TwoC.far ?_ (by show ¬ w.heap.size + 1 + 1 = _; omega) _))); done)).2⟩
            clear hK KK
            (try simp only [Act.put, List.setIfInBounds_toArray, List.set_cons_zero, List.set_cons_succ])
            refine wpAnyH_done (by kernel_rfl) ?_ _
            refine NoPanic.normal ?_
            go_wp2
            refine ret_iv1 (p := 4) (by kernel_rfl) rfl (Fin.out _ ?_).1 ⟨rfl, (Fin.out _ ?_).2⟩ <;> exact (by (repeat (first | with_reducible assumption | with_reducible refine lat_al ?_ _ | with_reducible refine lat_dr ?_ | (refine lat_set ?_ (by omega) _ _))); done)
          exact AllReadyH.nil
        exact AllReadyH.nil
      exact AllReadyH.nil
    exact AllReadyH.nil
  refine AllReadyH.cons rfl (fun KK hK => ?_) ?_
  · go_simp
    refine hK.out _ _ ?_ (fun hHeld => ?_)
    · exact Keep.out _ (by (repeat (first | with_reducible assumption | with_reducible refine lat_al ?_ _ | with_reducible refine lat_dr ?_ | (refine lat_set ?_ (by omega) _ _))); done)
    clear hK KK
    (try simp only [Act.put, List.setIfInBounds_toArray, List.set_cons_zero, List.set_cons_succ])
    refine wpAnyH_ready (rs := [4]) (by kernel_rfl) (by simp) ?_
    refine AllReadyH.cons rfl (fun KK hK => ?_) ?_
    · go_simp
      refine hK.out _ _ ?_ (fun hHeld => ?_)
      · exact Keep.out _ (by (repeat (first | with_reducible assumption | with_reducible refine lat_al ?_ _ | with_reducible refine lat_dr ?_ | (refine lat_set ?_ (by omega) _ _))); done)
      clear hK KK
      (try simp only [Act.put, List.setIfInBounds_toArray, List.set_cons_zero, List.set_cons_succ])
      refine wpAnyH_ready (rs := [5]) (by kernel_rfl) (by simp) ?_
      refine AllReadyH.cons rfl (fun KK hK => ?_) ?_
      · go_simp
        go_at_call 25
        (with_reducible refine (SL.out _ _ (by (repeat (first | with_reducible assumption | with_reducible exact blk_two_at (by simp) | with_reducible refine Blk.alloc ?_ _ | with_reducible refine Blk.drew ?_)); done)).mono ?_)
        rintro e v1 ⟨gl, capl, rfl, hcl, hgl, tl, hB⟩
        have hb1 : Below w0.heap.size w0 v1 := below_step (by (repeat (first | with_reducible assumption | with_reducible refine lat_al ?_ _ | with_reducible refine lat_dr ?_ | (refine lat_set ?_ (by omega) _ _))); done) hB
        have sz1 := hb1.size
        have kh : Blk v1 (w0.heap.size) 23 (flat [(c, d), (c', d')]) := Blk.below (show Blk _ (w0.heap.size) 23 (flat [(c, d), (c', d')]) from (by (repeat (first | with_reducible assumption | with_reducible exact blk_two_at (by simp) | with_reducible refine Blk.alloc ?_ _ | with_reducible refine Blk.drew ?_)); done)) hB (Blk.lt (show Blk _ (w0.heap.size) 23 (flat [(c, d), (c', d')]) from (by (repeat (first | with_reducible assumption | with_reducible exact blk_two_at (by simp) | with_reducible refine Blk.alloc ?_ _ | with_reducible refine Blk.drew ?_)); done)))
        have nl : w0.heap.size ≤ gl := Nat.le_trans (Below.size (w := w0) (B := w0.heap.size) (by (repeat (first | with_reducible assumption | with_reducible refine lat_al ?_ _ | with_reducible refine lat_dr ?_ | (refine lat_set ?_ (by omega) _ _))); done)) hgl
        (try simp at hgl)
        have sB1 := hB.size
        (try simp at sB1)
        have ltl := tl.1
        clear hB
        (try go_wp2_with fail)
        refine hK.out _ _ ?_ (fun hHeld => ?_)
        · exact Keep.out _ (by (repeat (first | with_reducible assumption | with_reducible refine lat_al ?_ _ | with_reducible refine lat_dr ?_ | (refine lat_set ?_ (by omega) _ _))); done)
        clear hK KK
        refine wpAnyH_grow (T := fun W => W.cell? ⟨gl, 0, none⟩ = some (.int .i64 x1) ∧ W.cell? ⟨gl, 1, none⟩ = some (.int .i64 x2) ∧ W.cell? ⟨gl, 2, none⟩ = some (.int .i64 x3) ∧ W.cell? ⟨gl, 3, none⟩ = some (.int .i64 x4)) ?_
        replace hHeld := And.intro hHeld tl.2
        (try simp only [Act.put, List.setIfInBounds_toArray, List.set_cons_zero, List.set_cons_succ])
        refine wpAnyH_take (i := 6) (v := ?_) rfl (by kernel_rfl) (by kernel_rfl) (by kernel_rfl) (fun _ _ _ h => h) (Or.inl ⟨by rfl, ?_⟩) hHeld ?_
        rotate_left
        · intro W hSw; (try dsimp only at hSw); go_simp; (try with_reducible rfl)
        (try simp only [Act.put, List.setIfInBounds_toArray, List.set_cons_zero, List.set_cons_succ])
        refine wpAnyH_take (i := 7) (v := ?_) rfl (by kernel_rfl) (by kernel_rfl) (by kernel_rfl) (fun _ _ _ h => h) (Or.inl ⟨by rfl, ?_⟩) hHeld ?_
        rotate_left
        · intro W hSw; (try dsimp only at hSw); go_simp; (try with_reducible rfl)
        (try simp only [Act.put, List.setIfInBounds_toArray, List.set_cons_zero, List.set_cons_succ])
        refine wpAnyH_ready (rs := [13]) (by kernel_rfl) (by simp) ?_
        refine AllReadyH.cons rfl (fun KK hK => ?_) ?_
        · go_simp
          go_at_call 25
          (with_reducible refine (SH.out _ _ (by (repeat (first | with_reducible assumption | with_reducible exact blk_two_at (by simp) | with_reducible refine Blk.alloc ?_ _ | with_reducible refine Blk.drew ?_)); done)).mono ?_)
          rintro e v2 ⟨gh, caph, rfl, hch, hgh, th, hB⟩
          have hb2 : Below w0.heap.size w0 v2 := below_step (by (repeat (first | with_reducible assumption | with_reducible refine lat_al ?_ _ | with_reducible refine lat_dr ?_ | (refine lat_set ?_ (by omega) _ _))); done) hB
          have sz2 := hb2.size
          replace tl : TwoC v2 gl x1 x2 x3 x4 := TwoC.below (by (repeat (first | with_reducible assumption | with_reducible refine TwoC.alloc ?_ _ | with_reducible refine TwoC.drew ?_ | (refine TwoC.far ?_ (by show ¬ 0 = _; omega) _))); done) hB
          have nh : w0.heap.size ≤ gh := Nat.le_trans (Below.size (w := w0) (B := w0.heap.size) (by (repeat (first | with_reducible assumption | with_reducible refine lat_al ?_ _ | with_reducible refine lat_dr ?_ | (refine lat_set ?_ (by omega) _ _))); done)) hgh
          (try simp at hgh)
          have sB2 := hB.size
          (try simp at sB2)
          have lth := th.1
          clear hB
          (try go_wp2_with fail)
          refine hK.out _ _ ?_ (fun hHeld => ?_)
          · exact ⟨Keep.out _ (by (repeat (first | with_reducible assumption | with_reducible refine lat_al ?_ _ | with_reducible refine lat_dr ?_ | (refine lat_set ?_ (by omega) _ _))); done), (show TwoC _ gl x1 x2 x3 x4 from (by (repeat (first | with_reducible assumption | with_reducible refine TwoC.alloc ?_ _ | with_reducible refine TwoC.drew ?_ | (refine TwoC.far ?_ (by show ¬ 0 = _; omega) _))); done)).2⟩
          clear hK KK
          refine wpAnyH_grow (T := fun W => W.cell? ⟨gh, 0, none⟩ = some (.int .i64 y1) ∧ W.cell? ⟨gh, 1, none⟩ = some (.int .i64 y2) ∧ W.cell? ⟨gh, 2, none⟩ = some (.int .i64 y3) ∧ W.cell? ⟨gh, 3, none⟩ = some (.int .i64 y4)) ?_
          replace hHeld := And.intro hHeld th.2
          (try simp only [Act.put, List.setIfInBounds_toArray, List.set_cons_zero, List.set_cons_succ])
          refine wpAnyH_take (i := 14) (v := ?_) rfl (by kernel_rfl) (by kernel_rfl) (by kernel_rfl) (fun _ _ _ h => h) (Or.inl ⟨by rfl, ?_⟩) hHeld ?_
          rotate_left
          · intro W hSw; (try dsimp only at hSw); go_simp; (try with_reducible rfl)
          (try simp only [Act.put, List.setIfInBounds_toArray, List.set_cons_zero, List.set_cons_succ])
          refine wpAnyH_take (i := 15) (v := ?_) rfl (by kernel_rfl) (by kernel_rfl) (by kernel_rfl) (fun _ _ _ h => h) (Or.inl ⟨by rfl, ?_⟩) hHeld ?_
          rotate_left
          · intro W hSw; (try dsimp only at hSw); go_simp; (try with_reducible rfl)
          (try simp only [Act.put, List.setIfInBounds_toArray, List.set_cons_zero, List.set_cons_succ])
          refine wpAnyH_take (i := 16) (v := ?_) rfl (by kernel_rfl) (by kernel_rfl) (by kernel_rfl) (fun _ _ _ h => h) (Or.inl ⟨by rfl, ?_⟩) hHeld ?_
          rotate_left
          · intro W hSw; (try dsimp only at hSw); go_simp; (try with_reducible rfl)
          (try simp only [Act.put, List.setIfInBounds_toArray, List.set_cons_zero, List.set_cons_succ])
          refine wpAnyH_ready (rs := [17]) (by kernel_rfl) (by simp) ?_
          refine AllReadyH.cons rfl (fun KK hK => ?_) ?_
          · obtain ⟨fR, r0, r1, r2, r3⟩ := Frz.out v2 hb2
            go_simp
            refine hK.out _ _ ?_ (fun hHeld => ?_)
            · exact ⟨⟨Far.out _ (by (repeat (first | with_reducible assumption | with_reducible refine lat_al ?_ _ | with_reducible refine lat_dr ?_ | (refine lat_set ?_ (by omega) _ _))); done), (show TwoC _ gl x1 x2 x3 x4 from (by (repeat (first | with_reducible assumption | with_reducible refine TwoC.alloc ?_ _ | with_reducible refine TwoC.drew ?_ | (refine TwoC.far ?_ (by show ¬ w.heap.size + 1 + 1 = _; omega) _))); done)).2⟩, (show TwoC _ gh y1 y2 y3 y4 from (by (repeat (first | with_reducible assumption | with_reducible refine TwoC.alloc ?_ _ | with_reducible refine TwoC.drew ?_ | (refine TwoC.far ?_ (by show ¬ w.heap.size + 1 + 1 = _; omega) _))); done)).2⟩
            clear hK KK
            (try simp only [Act.put, List.setIfInBounds_toArray, List.set_cons_zero, List.set_cons_succ])
            refine wpAnyH_done (by kernel_rfl) ?_ _
            refine NoPanic.normal ?_
            go_wp2
            refine ret_iv1 (p := 4) (by kernel_rfl) rfl (Fin.out _ ?_).1 ⟨rfl, (Fin.out _ ?_).2⟩ <;> exact (by (repeat (first | with_reducible assumption | with_reducible refine lat_al ?_ _ | with_reducible refine lat_dr ?_ | (refine lat_set ?_ (by omega) _ _))); done)
          exact AllReadyH.nil
        exact AllReadyH.nil
      exact AllReadyH.nil
    exact AllReadyH.nil
  exact AllReadyH.nil
end Go.Proofs.Yteppamchbgnlfaa
