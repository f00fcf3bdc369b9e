/- The reference's Part: an interval within a small interval. Conditions: ends of bounded size; numbers of 64 bits. -/
import Derived.Test.YtkdbffhmnkkbcaaInner
namespace Go.Proofs.Ytkdbffhmnkkbcaa
open Go.RowKit

theorem pal_below {w0 X : World} (h : Below w0.heap.size w0 X) (o : Obj) : Below w0.heap.size w0 (X.alloc o) := h.alloc h.size o
set_option maxRecDepth 100000 in
set_option maxHeartbeats 8000000 in
theorem part_walk {a b c d t s y1 y2 z1 z2 p1 p2 q1 q2 : Int}
    (I1 : ∀ w, Calls Try.prog 43 #[.agg #[.int .i64 a, .int .i64 b, .int .i64 c, .int .i64 d], .int .i64 t] w fun e w' => e = .returned (.agg #[.int .i64 y1, .int .i64 y2]) ∧ Below w.heap.size w w')
    (I2 : ∀ w, Calls Try.prog 43 #[.agg #[.int .i64 a, .int .i64 b, .int .i64 c, .int .i64 d], .int .i64 s] w fun e w' => e = .returned (.agg #[.int .i64 z1, .int .i64 z2]) ∧ Below w.heap.size w w')
    (FR : ∀ w : World, Calls Try.prog 60 #[.slice (some ⟨w.heap.size, 0, none⟩) 2 2] (w.alloc (.cells #[.int .i64 y1, .int .i64 y2, .int .i64 z1, .int .i64 z2] 23)) fun e w' => e = .returned (.agg #[.int .i64 p1, .int .i64 p2, .int .i64 q1, .int .i64 q2]) ∧ Below w.heap.size w w') (w : World) :
    Calls Try.prog 46 #[.agg #[.int .i64 a, .int .i64 b, .int .i64 c, .int .i64 d], .int .i64 t, .int .i64 s] w fun e w' => e = .returned (.agg #[.int .i64 p1, .int .i64 p2, .int .i64 q1, .int .i64 q2]) ∧ Below w.heap.size w w' := by
  replace I1 := Lib.hid I1
  replace I2 := Lib.hid I2
  replace FR := Lib.hid FR
  obtain ⟨hA, hR, hW⟩ := start2 w 25 #[.int .i64 a, .int .i64 b, .int .i64 c, .int .i64 d] 25 #[.int .i64 0, .int .i64 0, .int .i64 0, .int .i64 0]
  go_enter Try.func46, Try.ntmps46
  go_wp2_with fail
  obtain ⟨w0, hw0⟩ : ∃ w0 : World, (w.alloc (.cells #[.int .i64 a, .int .i64 b, .int .i64 c, .int .i64 d] 25)).alloc (.cells #[.int .i64 0, .int .i64 0, .int .i64 0, .int .i64 0] 25) = w0 := ⟨_, rfl⟩
  rw [hw0] at hA hR hW ⊢
  clear hw0
  have keep : ∀ W : World, Below w0.heap.size w0 W → W.cell? ⟨w.heap.size, 0, none⟩ = some (.int .i64 a) ∧ W.cell? ⟨w.heap.size, 1, none⟩ = some (.int .i64 b) ∧ W.cell? ⟨w.heap.size, 2, none⟩ = some (.int .i64 c) ∧ W.cell? ⟨w.heap.size, 3, none⟩ = some (.int .i64 d) ∧
      W.cell? ⟨w.heap.size + 1, 0, none⟩ = some (.int .i64 0) ∧ W.cell? ⟨w.heap.size + 1, 1, none⟩ = some (.int .i64 0) ∧ W.cell? ⟨w.heap.size + 1, 2, none⟩ = some (.int .i64 0) ∧ W.cell? ⟨w.heap.size + 1, 3, none⟩ = some (.int .i64 0) ∧ (∀ i, W.frozen? ⟨w.heap.size + 1, i, none⟩ = false) := fun W hB =>
    ⟨(hA.below hB hA.lt).cell 0, (hA.below hB hA.lt).cell 1, (hA.below hB hA.lt).cell 2, (hA.below hB hA.lt).cell 3, (hR.below hB hR.lt).cell 0, (hR.below hB hR.lt).cell 1, (hR.below hB hR.lt).cell 2, (hR.below hB hR.lt).cell 3, (hR.below hB hR.lt).frozen⟩
  have I1' := Lib.hid (fun (W : World) (hB : Below w0.heap.size w0 W) => (I1.out W).mono fun e w' (h : _ ∧ _) => (⟨h.1, below_step hB h.2⟩ : _ ∧ Below w0.heap.size w0 w'))
  have I2' := Lib.hid (fun (W : World) (hB : Below w0.heap.size w0 W) => (I2.out W).mono fun e w' (h : _ ∧ _) => (⟨h.1, below_step hB h.2⟩ : _ ∧ Below w0.heap.size w0 w'))
  have FR' := Lib.hid (fun (W : World) (hB : Below w0.heap.size w0 W) => (FR.out W).mono fun e w' (h : _ ∧ _) => (⟨h.1, below_step hB h.2⟩ : _ ∧ Below w0.heap.size w0 w'))
  have h00 := Below.refl w0.heap.size w0
  have h0d : Below w0.heap.size w0 w0.drew := h00.drew
  obtain ⟨c0, c1, c2, c3, c8, c9, c10, c11, fR⟩ := keep w0 h00
  have farr : ∀ W : World, Below w0.heap.size w0 W → ((((W.setCell ⟨w.heap.size + 1, 0, none⟩ (.int .i64 p1)).setCell ⟨w.heap.size + 1, 1, none⟩ (.int .i64 p2)).setCell ⟨w.heap.size + 1, 2, none⟩ (.int .i64 q1)).setCell ⟨w.heap.size + 1, 3, none⟩ (.int .i64 q2)).cell? ⟨w.heap.size, 0, none⟩ = some (.int .i64 a) ∧
      ((((W.setCell ⟨w.heap.size + 1, 0, none⟩ (.int .i64 p1)).setCell ⟨w.heap.size + 1, 1, none⟩ (.int .i64 p2)).setCell ⟨w.heap.size + 1, 2, none⟩ (.int .i64 q1)).setCell ⟨w.heap.size + 1, 3, none⟩ (.int .i64 q2)).cell? ⟨w.heap.size, 1, none⟩ = some (.int .i64 b) ∧
      ((((W.setCell ⟨w.heap.size + 1, 0, none⟩ (.int .i64 p1)).setCell ⟨w.heap.size + 1, 1, none⟩ (.int .i64 p2)).setCell ⟨w.heap.size + 1, 2, none⟩ (.int .i64 q1)).setCell ⟨w.heap.size + 1, 3, none⟩ (.int .i64 q2)).cell? ⟨w.heap.size, 2, none⟩ = some (.int .i64 c) ∧
      ((((W.setCell ⟨w.heap.size + 1, 0, none⟩ (.int .i64 p1)).setCell ⟨w.heap.size + 1, 1, none⟩ (.int .i64 p2)).setCell ⟨w.heap.size + 1, 2, none⟩ (.int .i64 q1)).setCell ⟨w.heap.size + 1, 3, none⟩ (.int .i64 q2)).cell? ⟨w.heap.size, 3, none⟩ = some (.int .i64 d) := fun W hB =>
    have k := (((((hA.below hB hA.lt).far (p := ⟨w.heap.size + 1, 0, none⟩) (by show ¬ w.heap.size = w.heap.size + 1; omega) (.int .i64 p1)).far (p := ⟨w.heap.size + 1, 1, none⟩) (by show ¬ w.heap.size = w.heap.size + 1; omega) (.int .i64 p2)).far (p := ⟨w.heap.size + 1, 2, none⟩) (by show ¬ w.heap.size = w.heap.size + 1; omega) (.int .i64 q1)).far (p := ⟨w.heap.size + 1, 3, none⟩) (by show ¬ w.heap.size = w.heap.size + 1; omega) (.int .i64 q2))
    ⟨k.cell 0, k.cell 1, k.cell 2, k.cell 3⟩
  have fin := fun (W : World) (hB : Below w0.heap.size w0 W) => put4 (hR.below hB hR.lt) (below_st hW hB) (by omega) p1 p2 q1 q2
  have Far := Lib.hid farr
  have Fin := Lib.hid fin
  have Keep := Lib.hid keep
  have Keep4 := Lib.hid (fun (W : World) (hB : Below w0.heap.size w0 W) => show W.cell? ⟨w.heap.size, 0, none⟩ = some (.int .i64 a) ∧ W.cell? ⟨w.heap.size, 1, none⟩ = some (.int .i64 b) ∧ W.cell? ⟨w.heap.size, 2, none⟩ = some (.int .i64 c) ∧ W.cell? ⟨w.heap.size, 3, none⟩ = some (.int .i64 d) from (fun k => ⟨k.1, k.2.1, k.2.2.1, k.2.2.2.1⟩) (keep W hB))
  clear keep farr fin hW hA hR I1 I2 FR
  go_region_held3 (fun W => W.cell? ⟨w.heap.size, 0, none⟩ = some (.int .i64 a) ∧ W.cell? ⟨w.heap.size, 1, none⟩ = some (.int .i64 b) ∧ W.cell? ⟨w.heap.size, 2, none⟩ = some (.int .i64 c) ∧ W.cell? ⟨w.heap.size, 3, none⟩ = some (.int .i64 d))
    (first | with_reducible exact Keep4.out _ (by with_reducible assumption) | (with_reducible refine Keep4.out _ ?_; with_reducible refine pal_below ?_ _; with_reducible assumption) | with_reducible exact Far.out _ (by with_reducible assumption))
    (first | (go_at_call 43; first | ((with_reducible refine (I1'.out _ (by with_reducible assumption)).mono ?_); rintro e w' ⟨rfl, hb⟩; obtain ⟨c0, c1, c2, c3, c8, c9, c10, c11, fR⟩ := Keep.out _ hb) | ((with_reducible refine (I2'.out _ (by with_reducible assumption)).mono ?_); rintro e w' ⟨rfl, hb⟩; obtain ⟨c0, c1, c2, c3, c8, c9, c10, c11, fR⟩ := Keep.out _ hb)) |
      (go_at_call 60; (with_reducible refine (FR'.out _ (by with_reducible assumption)).mono ?_); rintro e w' ⟨rfl, hb⟩; obtain ⟨c0, c1, c2, c3, c8, c9, c10, c11, fR⟩ := Keep.out _ hb))
  all_goals
    go_wp2
    refine ret_iv1 (p := 6) (by kernel_rfl) rfl (Fin.out _ ?_).1 ⟨rfl, (Fin.out _ ?_).2⟩ <;> with_reducible assumption

theorem part_any {A B : Nat} {a b c d : Int} (t s : Int) (hx : SmI A B a b c d) (t0 : -9223372036854775808 ≤ t ∧ t ≤ 9223372036854775807) (s0 : -9223372036854775808 ≤ s ∧ s ≤ 9223372036854775807) (k1 : A * B + A * B ≤ 4611686018427387904) (k2 : B * B ≤ 4611686018427387904) (k3 : (A * B + A * B) * 1 ≤ 4611686018427387904) (k4 : B * B * 8 ≤ 4611686018427387904) (k5 : (A * B + A * B) * 1 * 8 ≤ 4611686018427387904) (k6 : B * B * 8 * 1 ≤ 4611686018427387904)
    (k7 : A * (B * B * 8 * 1) + (A * B + A * B) * 1 * 8 * B ≤ 4611686018427387904) (k8 : B * (B * B * 8 * 1) ≤ 4611686018427387904) :
    ∃ u1 u2 u3 u4 : Int, (SmI (A * (B * B * 8 * 1) + (A * B + A * B) * 1 * 8 * B) (B * (B * B * 8 * 1)) u1 u2 u3 u4 ∧ rv a b ≤ rv u1 u2 ∧ rv u3 u4 ≤ rv c d) ∧
      ∀ w, Calls Try.prog 46 #[.agg #[.int .i64 a, .int .i64 b, .int .i64 c, .int .i64 d], .int .i64 t, .int .i64 s] w fun e w' => e = .returned (.agg #[.int .i64 u1, .int .i64 u2, .int .i64 u3, .int .i64 u4]) ∧ Below w.heap.size w w' := by
  obtain ⟨y1, y2, ⟨hy, hy1, hy2⟩, I1⟩ := inner_any t hx t0 k1 k2 k3 k4 k5 k6 k7 k8
  obtain ⟨z1, z2, ⟨hz, hz1, hz2⟩, I2⟩ := inner_any s hx s0 k1 k2 k3 k4 k5 k6 k7 k8
  obtain ⟨h1, h2⟩ := two_ends hy hz
  refine ⟨_, _, _, _, ⟨h1, (h2 (rv a b)).1 hy1 hz1, (h2 (rv c d)).2 hy2 hz2⟩, part_walk I1 I2 (fun w => ?_)⟩
  exact (from_any _ [(y1, y2), (z1, z2)] _ (fsAt_two w y1 y2 z1 z2) (vl_two hy.1 hz.1) (by simp) (by simp)).mono fun e w' ⟨he, hb⟩ => ⟨he, (pal_below (Below.refl _ w) _).trans (hb.mono (by simp))⟩
end Go.Proofs.Ytkdbffhmnkkbcaa
