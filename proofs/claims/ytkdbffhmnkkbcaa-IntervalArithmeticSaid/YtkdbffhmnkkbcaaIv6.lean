/- Package interval: negative, Sub. Conditions: numbers of 64 bits. -/
import Derived.Test.YtkdbffhmnkkbcaaIv5
namespace Go.Proofs.Ytkdbffhmnkkbcaa
open Go.RowKit

def ng (n : Int) : Int := if n = -9223372036854775808 then -9223372036854775808 else -n
theorem ng_w2 {n d : Int} (h : W2 n d) : W2 (ng n) d := by unfold W2 ng at *; split <;> omega
set_option maxRecDepth 100000 in
set_option maxHeartbeats 4000000 in
theorem negative_w {n d : Int} (h : W2 n d) (w : World) :
    Calls Try.prog 82 #[.agg #[.int .i64 n, .int .i64 d]] w fun e w' => e = .returned (.agg #[.int .i64 (ng n), .int .i64 d]) ∧ Below w.heap.size w w' := by
  by_cases h0 : n = -9223372036854775808
  · subst h0
    go_enter Try.func82, Try.ntmps82
    go_wp2
    rw [show wrap64 9223372036854775808 = -9223372036854775808 by decide +kernel]
    have k := start2 w 23 #[.int .i64 (-9223372036854775808), .int .i64 d] 23 #[.int .i64 (-9223372036854775808), .int .i64 d]
    exact bodyPost_ret (v := .agg #[.int .i64 (-9223372036854775808), .int .i64 d]) (results_cell_row (p := 2) (by kernel_rfl) _ _ (w.heap.size + 1) 23 _ (0, 0) _ rfl k.2.1 Try.underlying23 rfl (by kernel_rfl)) rfl ⟨rfl, k.2.2⟩
  · have h1 : -9223372036854775808 < n := by unfold W2 at h; omega
    have h2 : n ≤ 9223372036854775807 := h.1.2
    go_enter Try.func82, Try.ntmps82
    go_wp2
    have k := start2 w 23 #[.int .i64 n, .int .i64 d] 23 #[.int .i64 (-n), .int .i64 d]
    have e : ng n = -n := if_neg h0
    rw [e]
    exact bodyPost_ret (v := .agg #[.int .i64 (-n), .int .i64 d]) (results_cell_row (p := 2) (by kernel_rfl) _ _ (w.heap.size + 1) 23 _ (0, 0) _ rfl k.2.1 Try.underlying23 rfl (by kernel_rfl)) rfl ⟨rfl, k.2.2⟩
def subI (a b c d a' b' c' d' : Int) : R5 := addI a b c d (ng c') d' (ng a') b'
set_option maxRecDepth 100000 in
set_option maxHeartbeats 4000000 in
theorem isub_w {a b c d a' b' c' d' : Int} (h : W2 a b) (k : W2 c d) (h' : W2 a' b') (k' : W2 c' d') (w : World) :
    Calls Try.prog 58 #[.agg #[.int .i64 a, .int .i64 b, .int .i64 c, .int .i64 d], .agg #[.int .i64 a', .int .i64 b', .int .i64 c', .int .i64 d']] w fun e w' => e = .returned (RI (subI a b c d a' b' c' d')) ∧ Below w.heap.size w w' := by
  have N1 := Lib.hid (negative_w k')
  have N2 := Lib.hid (negative_w h')
  have AD := iadd_w h k (ng_w2 k') (ng_w2 h')
  obtain ⟨⟨x1, x2, x3, x4, x5⟩, hx⟩ : ∃ x, addI a b c d (ng c') d' (ng a') b' = x := ⟨_, rfl⟩
  rw [hx] at AD
  unfold RI at AD
  simp only at AD
  have hs : subI a b c d a' b' c' d' = (x1, x2, x3, x4, x5) := hx
  rw [hs]
  obtain ⟨m1, hm1⟩ : ∃ m, ng c' = m := ⟨_, rfl⟩
  obtain ⟨m2, hm2⟩ : ∃ m, ng a' = m := ⟨_, rfl⟩
  rw [hm1] at N1 AD
  rw [hm2] at N2 AD
  replace AD := Lib.hid AD
  obtain ⟨hA, hE, hR, hW⟩ := start3 w 25 #[.int .i64 a, .int .i64 b, .int .i64 c, .int .i64 d] 25 #[.int .i64 a', .int .i64 b', .int .i64 c', .int .i64 d'] 25 #[.int .i64 0, .int .i64 0, .int .i64 0, .int .i64 0]
  clear h k h' k' hx hs hm1 hm2
  go_enter Try.func58, Try.ntmps58
  go_wp2_with fail
  obtain ⟨w0, hw0⟩ : ∃ w0 : World, ((w.alloc (.cells #[.int .i64 a, .int .i64 b, .int .i64 c, .int .i64 d] 25)).alloc (.cells #[.int .i64 a', .int .i64 b', .int .i64 c', .int .i64 d'] 25)).alloc (.cells #[.int .i64 0, .int .i64 0, .int .i64 0, .int .i64 0] 25) = w0 := ⟨_, rfl⟩
  rw [hw0] at hA hE hR hW ⊢
  clear hw0
  have keep : ∀ W : World, Below w0.heap.size w0 W → W.cell? ⟨w.heap.size, 0, none⟩ = some (.int .i64 a) ∧ W.cell? ⟨w.heap.size, 1, none⟩ = some (.int .i64 b) ∧ W.cell? ⟨w.heap.size, 2, none⟩ = some (.int .i64 c) ∧ W.cell? ⟨w.heap.size, 3, none⟩ = some (.int .i64 d) ∧ W.cell? ⟨w.heap.size + 1, 0, none⟩ = some (.int .i64 a') ∧ W.cell? ⟨w.heap.size + 1, 1, none⟩ = some (.int .i64 b') ∧ W.cell? ⟨w.heap.size + 1, 2, none⟩ = some (.int .i64 c') ∧ W.cell? ⟨w.heap.size + 1, 3, none⟩ = some (.int .i64 d') ∧ W.cell? ⟨w.heap.size + 1 + 1, 0, none⟩ = some (.int .i64 0) ∧ W.cell? ⟨w.heap.size + 1 + 1, 1, none⟩ = some (.int .i64 0) ∧ W.cell? ⟨w.heap.size + 1 + 1, 2, none⟩ = some (.int .i64 0) ∧ W.cell? ⟨w.heap.size + 1 + 1, 3, none⟩ = some (.int .i64 0) ∧ (∀ i, W.frozen? ⟨w.heap.size + 1 + 1, i, none⟩ = false) := fun W hB =>
    ⟨(hA.below hB hA.lt).cell 0, (hA.below hB hA.lt).cell 1, (hA.below hB hA.lt).cell 2, (hA.below hB hA.lt).cell 3, (hE.below hB hE.lt).cell 0, (hE.below hB hE.lt).cell 1, (hE.below hB hE.lt).cell 2, (hE.below hB hE.lt).cell 3, (hR.below hB hR.lt).cell 0, (hR.below hB hR.lt).cell 1, (hR.below hB hR.lt).cell 2, (hR.below hB hR.lt).cell 3, (hR.below hB hR.lt).frozen⟩
  have N1' := fun (W : World) (hB : Below w0.heap.size w0 W) => (N1.out W).mono fun e w' (h : _ ∧ _) => (⟨h.1, below_step hB h.2⟩ : _ ∧ Below w0.heap.size w0 w')
  have N2' := fun (W : World) (hB : Below w0.heap.size w0 W) => (N2.out W).mono fun e w' (h : _ ∧ _) => (⟨h.1, below_step hB h.2⟩ : _ ∧ Below w0.heap.size w0 w')
  have AD' := fun (W : World) (hB : Below w0.heap.size w0 W) => (AD.out W).mono fun e w' (h : _ ∧ _) => (⟨h.1, below_step hB h.2⟩ : _ ∧ Below w0.heap.size w0 w')
  replace N1' := Lib.hid N1'
  replace N2' := Lib.hid N2'
  replace AD' := Lib.hid AD'
  have h00 := Below.refl w0.heap.size w0
  have h0d : Below w0.heap.size w0 w0.drew := h00.drew
  obtain ⟨c0, c1, c2, c3, c4, c5, c6, c7, c8, c9, c10, c11, fR⟩ := keep w0 h00
  have farr : ∀ W : World, Below w0.heap.size w0 W → ((((W.setCell ⟨w.heap.size + 1 + 1, 0, none⟩ (.int .i64 x1)).setCell ⟨w.heap.size + 1 + 1, 1, none⟩ (.int .i64 x2)).setCell ⟨w.heap.size + 1 + 1, 2, none⟩ (.int .i64 x3)).setCell ⟨w.heap.size + 1 + 1, 3, none⟩ (.int .i64 x4)).cell? ⟨w.heap.size, 0, none⟩ = some (.int .i64 a) ∧ ((((W.setCell ⟨w.heap.size + 1 + 1, 0, none⟩ (.int .i64 x1)).setCell ⟨w.heap.size + 1 + 1, 1, none⟩ (.int .i64 x2)).setCell ⟨w.heap.size + 1 + 1, 2, none⟩ (.int .i64 x3)).setCell ⟨w.heap.size + 1 + 1, 3, none⟩ (.int .i64 x4)).cell? ⟨w.heap.size, 1, none⟩ = some (.int .i64 b) ∧ ((((W.setCell ⟨w.heap.size + 1 + 1, 0, none⟩ (.int .i64 x1)).setCell ⟨w.heap.size + 1 + 1, 1, none⟩ (.int .i64 x2)).setCell ⟨w.heap.size + 1 + 1, 2, none⟩ (.int .i64 x3)).setCell ⟨w.heap.size + 1 + 1, 3, none⟩ (.int .i64 x4)).cell? ⟨w.heap.size, 2, none⟩ = some (.int .i64 c) ∧ ((((W.setCell ⟨w.heap.size + 1 + 1, 0, none⟩ (.int .i64 x1)).setCell ⟨w.heap.size + 1 + 1, 1, none⟩ (.int .i64 x2)).setCell ⟨w.heap.size + 1 + 1, 2, none⟩ (.int .i64 x3)).setCell ⟨w.heap.size + 1 + 1, 3, none⟩ (.int .i64 x4)).cell? ⟨w.heap.size, 3, none⟩ = some (.int .i64 d) ∧ ((((W.setCell ⟨w.heap.size + 1 + 1, 0, none⟩ (.int .i64 x1)).setCell ⟨w.heap.size + 1 + 1, 1, none⟩ (.int .i64 x2)).setCell ⟨w.heap.size + 1 + 1, 2, none⟩ (.int .i64 x3)).setCell ⟨w.heap.size + 1 + 1, 3, none⟩ (.int .i64 x4)).cell? ⟨w.heap.size + 1, 0, none⟩ = some (.int .i64 a') ∧ ((((W.setCell ⟨w.heap.size + 1 + 1, 0, none⟩ (.int .i64 x1)).setCell ⟨w.heap.size + 1 + 1, 1, none⟩ (.int .i64 x2)).setCell ⟨w.heap.size + 1 + 1, 2, none⟩ (.int .i64 x3)).setCell ⟨w.heap.size + 1 + 1, 3, none⟩ (.int .i64 x4)).cell? ⟨w.heap.size + 1, 1, none⟩ = some (.int .i64 b') ∧ ((((W.setCell ⟨w.heap.size + 1 + 1, 0, none⟩ (.int .i64 x1)).setCell ⟨w.heap.size + 1 + 1, 1, none⟩ (.int .i64 x2)).setCell ⟨w.heap.size + 1 + 1, 2, none⟩ (.int .i64 x3)).setCell ⟨w.heap.size + 1 + 1, 3, none⟩ (.int .i64 x4)).cell? ⟨w.heap.size + 1, 2, none⟩ = some (.int .i64 c') ∧ ((((W.setCell ⟨w.heap.size + 1 + 1, 0, none⟩ (.int .i64 x1)).setCell ⟨w.heap.size + 1 + 1, 1, none⟩ (.int .i64 x2)).setCell ⟨w.heap.size + 1 + 1, 2, none⟩ (.int .i64 x3)).setCell ⟨w.heap.size + 1 + 1, 3, none⟩ (.int .i64 x4)).cell? ⟨w.heap.size + 1, 3, none⟩ = some (.int .i64 d') := fun W hB =>
    have k := (((((hA.below hB hA.lt).far (p := ⟨w.heap.size + 1 + 1, 0, none⟩) (by show ¬ w.heap.size = w.heap.size + 1 + 1; omega) (.int .i64 x1)).far (p := ⟨w.heap.size + 1 + 1, 1, none⟩) (by show ¬ w.heap.size = w.heap.size + 1 + 1; omega) (.int .i64 x2)).far (p := ⟨w.heap.size + 1 + 1, 2, none⟩) (by show ¬ w.heap.size = w.heap.size + 1 + 1; omega) (.int .i64 x3)).far (p := ⟨w.heap.size + 1 + 1, 3, none⟩) (by show ¬ w.heap.size = w.heap.size + 1 + 1; omega) (.int .i64 x4))
    have l := (((((hE.below hB hE.lt).far (p := ⟨w.heap.size + 1 + 1, 0, none⟩) (by show ¬ w.heap.size + 1 = w.heap.size + 1 + 1; omega) (.int .i64 x1)).far (p := ⟨w.heap.size + 1 + 1, 1, none⟩) (by show ¬ w.heap.size + 1 = w.heap.size + 1 + 1; omega) (.int .i64 x2)).far (p := ⟨w.heap.size + 1 + 1, 2, none⟩) (by show ¬ w.heap.size + 1 = w.heap.size + 1 + 1; omega) (.int .i64 x3)).far (p := ⟨w.heap.size + 1 + 1, 3, none⟩) (by show ¬ w.heap.size + 1 = w.heap.size + 1 + 1; omega) (.int .i64 x4))
    ⟨k.cell 0, k.cell 1, k.cell 2, k.cell 3, l.cell 0, l.cell 1, l.cell 2, l.cell 3⟩
  have fin : ∀ W : World, Below w0.heap.size w0 W → Blk ((((W.setCell ⟨w.heap.size + 1 + 1, 0, none⟩ (.int .i64 x1)).setCell ⟨w.heap.size + 1 + 1, 1, none⟩ (.int .i64 x2)).setCell ⟨w.heap.size + 1 + 1, 2, none⟩ (.int .i64 x3)).setCell ⟨w.heap.size + 1 + 1, 3, none⟩ (.int .i64 x4)) (w.heap.size + 1 + 1) 25 #[.int .i64 x1, .int .i64 x2, .int .i64 x3, .int .i64 x4] ∧ Below w.heap.size w ((((W.setCell ⟨w.heap.size + 1 + 1, 0, none⟩ (.int .i64 x1)).setCell ⟨w.heap.size + 1 + 1, 1, none⟩ (.int .i64 x2)).setCell ⟨w.heap.size + 1 + 1, 2, none⟩ (.int .i64 x3)).setCell ⟨w.heap.size + 1 + 1, 3, none⟩ (.int .i64 x4)) := fun W hB =>
    put4 (hR.below hB hR.lt) (below_st hW hB) (by omega) x1 x2 x3 x4
  have Far := Lib.hid farr
  have Fin := Lib.hid fin
  have Keep := Lib.hid keep
  clear keep farr fin hW hA hE hR N1 N2 AD
  go_region_held3 (fun W => W.cell? ⟨w.heap.size, 0, none⟩ = some (.int .i64 a) ∧ W.cell? ⟨w.heap.size, 1, none⟩ = some (.int .i64 b) ∧ W.cell? ⟨w.heap.size, 2, none⟩ = some (.int .i64 c) ∧ W.cell? ⟨w.heap.size, 3, none⟩ = some (.int .i64 d) ∧ W.cell? ⟨w.heap.size + 1, 0, none⟩ = some (.int .i64 a') ∧ W.cell? ⟨w.heap.size + 1, 1, none⟩ = some (.int .i64 b') ∧ W.cell? ⟨w.heap.size + 1, 2, none⟩ = some (.int .i64 c') ∧ W.cell? ⟨w.heap.size + 1, 3, none⟩ = some (.int .i64 d')) (first | exact (fun k => ⟨k.1, k.2.1, k.2.2.1, k.2.2.2.1, k.2.2.2.2.1, k.2.2.2.2.2.1, k.2.2.2.2.2.2.1, k.2.2.2.2.2.2.2.1⟩) (Keep.out _ (by with_reducible assumption)) | exact Far.out _ (by with_reducible assumption))
    (first | (go_at_call 82; first | ((with_reducible refine (N1'.out _ (by with_reducible assumption)).mono ?_); rintro e w' ⟨rfl, hb⟩; obtain ⟨c0, c1, c2, c3, c4, c5, c6, c7, c8, c9, c10, c11, fR⟩ := Keep.out _ hb) | ((with_reducible refine (N2'.out _ (by with_reducible assumption)).mono ?_); rintro e w' ⟨rfl, hb⟩; obtain ⟨c0, c1, c2, c3, c4, c5, c6, c7, c8, c9, c10, c11, fR⟩ := Keep.out _ hb)) |
      (go_at_call 57; (with_reducible refine (AD'.out _ (by with_reducible assumption)).mono ?_); rintro e w' ⟨rfl, hb⟩; obtain ⟨c0, c1, c2, c3, c4, c5, c6, c7, c8, c9, c10, c11, fR⟩ := Keep.out _ hb))
  all_goals
    go_wp2
    refine ret_iv (p := 4) (q := 5) (by kernel_rfl) rfl rfl (Fin.out _ ?_).1 ⟨rfl, (Fin.out _ ?_).2⟩ <;> with_reducible assumption
end Go.Proofs.Ytkdbffhmnkkbcaa
