/- Package interval: Min, Max, Hull at valid intervals. Conditions: valid intervals. -/
import Derived.Test.YteppamchbgnlfaaSmall
namespace Go.Proofs.Yteppamchbgnlfaa
open Go.RowKit

theorem lat_al {w0 X : World} (h : Below w0.heap.size w0 X) (o : Obj) : Below w0.heap.size w0 (X.alloc o) := h.alloc h.size o
theorem lat_dr {w0 X : World} (h : Below w0.heap.size w0 X) : Below w0.heap.size w0 X.drew := h.drew
/-- A new block of two fractions. -/
theorem blk_two (X : World) (a b c d : Int) : Blk (X.alloc (.cells #[.int .i64 a, .int .i64 b, .int .i64 c, .int .i64 d] 23)) X.heap.size 23 (flat [(a, b), (c, d)]) := Blk.new X 23 #[.int .i64 a, .int .i64 b, .int .i64 c, .int .i64 d]
theorem blk_two2 (X : World) (o : Obj) (a b c d : Int) : Blk ((X.alloc o).alloc (.cells #[.int .i64 a, .int .i64 b, .int .i64 c, .int .i64 d] 23)) (X.heap.size + 1) 23 (flat [(a, b), (c, d)]) := by
  have k := blk_two (X.alloc o) a b c d
  rw [show (X.alloc o).heap.size = X.heap.size + 1 by simp] at k
  exact k
theorem calls_keep {f : Nat} {args : Array Value} {W w0 : World} {v : Value} {g : Nat} {t : TypeId} {s : Array Value} (hB : Below w0.heap.size w0 W) (hk : Blk W g t s) (h : Calls Try.prog f args W fun e w' => e = .returned v ∧ Below W.heap.size W w') :
    Calls Try.prog f args W fun e w' => e = .returned v ∧ Blk w' g t s ∧ Below w0.heap.size w0 w' := h.mono fun _ _ k => ⟨k.1, hk.below k.2 hk.lt, below_step hB k.2⟩
theorem calls_step {f : Nat} {args : Array Value} {W w0 : World} {v : Value} (hB : Below w0.heap.size w0 W) (h : Calls Try.prog f args W fun e w' => e = .returned v ∧ Below W.heap.size W w') :
    Calls Try.prog f args W fun e w' => e = .returned v ∧ Below w0.heap.size w0 w' := h.mono fun _ _ k => ⟨k.1, below_step hB k.2⟩

set_option maxRecDepth 100000 in
set_option maxHeartbeats 8000000 in
theorem imin_w {a b c d a' b' c' d' : Int} (hx : vI a b c d) (hy : vI a' b' c' d') (w : World) :
    Calls Try.prog 8 #[.agg #[.int .i64 a, .int .i64 b, .int .i64 c, .int .i64 d], .agg #[.int .i64 a', .int .i64 b', .int .i64 c', .int .i64 d']] w fun e w' => e = .returned (.agg #[.int .i64 (minL [(a, b), (a', b')]).1, .int .i64 (minL [(a, b), (a', b')]).2, .int .i64 (minL [(c, d), (c', d')]).1, .int .i64 (minL [(c, d), (c', d')]).2]) ∧ Below w.heap.size w w' := by
  have V1 := ivalid_w hx.1.1.w2 hx.1.2.w2
  have V2 := ivalid_w hy.1.1.w2 hy.1.2.w2
  rw [show vIB a b c d = true from decide_eq_true hx] at V1
  rw [show vIB a' b' c' d' = true from decide_eq_true hy] at V2
  replace V1 := Lib.hid V1
  replace V2 := Lib.hid V2
  have hv1 : VL [(a, b), (a', b')] := vl_two hx.1.1 hy.1.1
  have hv2 : VL [(c, d), (c', d')] := vl_two hx.1.2 hy.1.2
  obtain ⟨⟨x1, x2⟩, hx1⟩ : ∃ x, minL [(a, b), (a', b')] = x := ⟨_, rfl⟩
  obtain ⟨⟨x3, x4⟩, hx2⟩ : ∃ x, minL [(c, d), (c', d')] = x := ⟨_, rfl⟩
  rw [hx1, hx2]
  simp only
  obtain ⟨hA, hE, hR, hW⟩ := start3 w 25 #[.int .i64 a, .int .i64 b, .int .i64 c, .int .i64 d] 25 #[.int .i64 a', .int .i64 b', .int .i64 c', .int .i64 d'] 25 #[.int .i64 0, .int .i64 0, .int .i64 0, .int .i64 0]
  clear hx hy
  have cA0 := hA.cell 0
  have cA1 := hA.cell 1
  have cA2 := hA.cell 2
  have cA3 := hA.cell 3
  have zA := hA.lt
  have cE0 := hE.cell 0
  have cE1 := hE.cell 1
  have cE2 := hE.cell 2
  have cE3 := hE.cell 3
  have zE := hE.lt
  go_enter Try.func8, Try.ntmps8
  go_wp2_with fail
  (with_reducible refine (V1.out _).mono ?_)
  rintro e w1 ⟨rfl, hB⟩
  replace hA := hA.below hB hA.lt
  replace hE := hE.below hB hE.lt
  replace hR := hR.below hB hR.lt
  replace hW := below_st hW hB
  clear hB cA0 cA1 cA2 cA3 zA cE0 cE1 cE2 cE3 zE V1
  have cA0 := hA.cell 0
  have cA1 := hA.cell 1
  have cA2 := hA.cell 2
  have cA3 := hA.cell 3
  have zA := hA.lt
  have cE0 := hE.cell 0
  have cE1 := hE.cell 1
  have cE2 := hE.cell 2
  have cE3 := hE.cell 3
  have zE := hE.lt
  go_wp2_with fail
  (with_reducible refine (V2.out _).mono ?_)
  rintro e w1 ⟨rfl, hB⟩
  replace hA := hA.below hB hA.lt
  replace hE := hE.below hB hE.lt
  replace hR := hR.below hB hR.lt
  replace hW := below_st hW hB
  clear hB cA0 cA1 cA2 cA3 zA cE0 cE1 cE2 cE3 zE V2
  obtain ⟨w0, hw0⟩ : ∃ w0 : World, w1 = w0 := ⟨_, rfl⟩
  rw [hw0] at hA hE hR hW ⊢
  clear hw0
  have C1 := Lib.hid (fun (X : World) (hb : Below w0.heap.size w0 X) => show Calls Try.prog 29 #[.slice (some ⟨X.heap.size, 0, none⟩) 2 2] (X.alloc (.cells #[.int .i64 a, .int .i64 b, .int .i64 a', .int .i64 b'] 23)) fun e w' => e = .returned (.agg #[.int .i64 x1, .int .i64 x2]) ∧ Below w0.heap.size w0 w' from by have k := calls_step (lat_al hb _) (least_any [(a, b), (a', b')] (by simp) hv1 (X.heap.size) 23 2 2 rfl (X.alloc (.cells #[.int .i64 a, .int .i64 b, .int .i64 a', .int .i64 b'] 23)) ((blk_two X a b a' b')) (by decide)); rw [hx1] at k; exact k)
  have C1d := Lib.hid (fun (X : World) (hb : Below w0.heap.size w0 X) => show Calls Try.prog 29 #[.slice (some ⟨X.heap.size, 0, none⟩) 2 2] (X.alloc (.cells #[.int .i64 a, .int .i64 b, .int .i64 a', .int .i64 b'] 23)).drew fun e w' => e = .returned (.agg #[.int .i64 x1, .int .i64 x2]) ∧ Below w0.heap.size w0 w' from by have k := calls_step (lat_dr (lat_al hb _)) (least_any [(a, b), (a', b')] (by simp) hv1 (X.heap.size) 23 2 2 rfl (X.alloc (.cells #[.int .i64 a, .int .i64 b, .int .i64 a', .int .i64 b'] 23)).drew ((blk_two X a b a' b').drew) (by decide)); rw [hx1] at k; exact k)
  have C2d := Lib.hid (fun (X : World) (hb : Below w0.heap.size w0 X) => show Calls Try.prog 29 #[.slice (some ⟨X.heap.size, 0, none⟩) 2 2] (X.alloc (.cells #[.int .i64 c, .int .i64 d, .int .i64 c', .int .i64 d'] 23)).drew fun e w' => e = .returned (.agg #[.int .i64 x3, .int .i64 x4]) ∧ Below w0.heap.size w0 w' from by have k := calls_step (lat_dr (lat_al hb _)) (least_any [(c, d), (c', d')] (by simp) hv2 (X.heap.size) 23 2 2 rfl (X.alloc (.cells #[.int .i64 c, .int .i64 d, .int .i64 c', .int .i64 d'] 23)).drew ((blk_two X c d c' d').drew) (by decide)); rw [hx2] at k; exact k)
  have D1 := Lib.hid (fun (X : World) (hb : Below w0.heap.size w0 X) => show Calls Try.prog 29 #[.slice (some ⟨X.heap.size, 0, none⟩) 2 2] ((X.alloc (.cells #[.int .i64 a, .int .i64 b, .int .i64 a', .int .i64 b'] 23)).alloc (.cells #[.int .i64 c, .int .i64 d, .int .i64 c', .int .i64 d'] 23)) fun e w' => e = .returned (.agg #[.int .i64 x1, .int .i64 x2]) ∧ Blk w' (X.heap.size + 1) 23 (flat [(c, d), (c', d')]) ∧ Below w0.heap.size w0 w' from by have k := calls_keep (lat_al (lat_al hb _) _) ((blk_two2 X _ c d c' d')) (least_any [(a, b), (a', b')] (by simp) hv1 (X.heap.size) 23 2 2 rfl ((X.alloc (.cells #[.int .i64 a, .int .i64 b, .int .i64 a', .int .i64 b'] 23)).alloc (.cells #[.int .i64 c, .int .i64 d, .int .i64 c', .int .i64 d'] 23)) (((blk_two X a b a' b').alloc _)) (by decide)); rw [hx1] at k; exact k)
  have E1 := Lib.hid (fun (X : World) (hb : Below w0.heap.size w0 X) => show Calls Try.prog 29 #[.slice (some ⟨X.heap.size + 1, 0, none⟩) 2 2] ((X.alloc (.cells #[.int .i64 c, .int .i64 d, .int .i64 c', .int .i64 d'] 23)).alloc (.cells #[.int .i64 a, .int .i64 b, .int .i64 a', .int .i64 b'] 23)) fun e w' => e = .returned (.agg #[.int .i64 x1, .int .i64 x2]) ∧ Blk w' X.heap.size 23 (flat [(c, d), (c', d')]) ∧ Below w0.heap.size w0 w' from by have k := calls_keep (lat_al (lat_al hb _) _) (((blk_two X c d c' d').alloc _)) (least_any [(a, b), (a', b')] (by simp) hv1 (X.heap.size + 1) 23 2 2 rfl ((X.alloc (.cells #[.int .i64 c, .int .i64 d, .int .i64 c', .int .i64 d'] 23)).alloc (.cells #[.int .i64 a, .int .i64 b, .int .i64 a', .int .i64 b'] 23)) ((blk_two2 X _ a b a' b')) (by decide)); rw [hx1] at k; exact k)
  have D1d := Lib.hid (fun (X : World) (hb : Below w0.heap.size w0 X) => show Calls Try.prog 29 #[.slice (some ⟨X.heap.size, 0, none⟩) 2 2] ((X.alloc (.cells #[.int .i64 a, .int .i64 b, .int .i64 a', .int .i64 b'] 23)).alloc (.cells #[.int .i64 c, .int .i64 d, .int .i64 c', .int .i64 d'] 23)).drew fun e w' => e = .returned (.agg #[.int .i64 x1, .int .i64 x2]) ∧ Blk w' (X.heap.size + 1) 23 (flat [(c, d), (c', d')]) ∧ Below w0.heap.size w0 w' from by have k := calls_keep (lat_dr (lat_al (lat_al hb _) _)) ((blk_two2 X _ c d c' d').drew) (least_any [(a, b), (a', b')] (by simp) hv1 (X.heap.size) 23 2 2 rfl ((X.alloc (.cells #[.int .i64 a, .int .i64 b, .int .i64 a', .int .i64 b'] 23)).alloc (.cells #[.int .i64 c, .int .i64 d, .int .i64 c', .int .i64 d'] 23)).drew (((blk_two X a b a' b').alloc _).drew) (by decide)); rw [hx1] at k; exact k)
  have E1d := Lib.hid (fun (X : World) (hb : Below w0.heap.size w0 X) => show Calls Try.prog 29 #[.slice (some ⟨X.heap.size + 1, 0, none⟩) 2 2] ((X.alloc (.cells #[.int .i64 c, .int .i64 d, .int .i64 c', .int .i64 d'] 23)).alloc (.cells #[.int .i64 a, .int .i64 b, .int .i64 a', .int .i64 b'] 23)).drew fun e w' => e = .returned (.agg #[.int .i64 x1, .int .i64 x2]) ∧ Blk w' X.heap.size 23 (flat [(c, d), (c', d')]) ∧ Below w0.heap.size w0 w' from by have k := calls_keep (lat_dr (lat_al (lat_al hb _) _)) (((blk_two X c d c' d').alloc _).drew) (least_any [(a, b), (a', b')] (by simp) hv1 (X.heap.size + 1) 23 2 2 rfl ((X.alloc (.cells #[.int .i64 c, .int .i64 d, .int .i64 c', .int .i64 d'] 23)).alloc (.cells #[.int .i64 a, .int .i64 b, .int .i64 a', .int .i64 b'] 23)).drew ((blk_two2 X _ a b a' b').drew) (by decide)); rw [hx1] at k; exact k)
  have C2 := Lib.hid (fun (X : World) (hb : Below w0.heap.size w0 X) => show Calls Try.prog 29 #[.slice (some ⟨X.heap.size, 0, none⟩) 2 2] (X.alloc (.cells #[.int .i64 c, .int .i64 d, .int .i64 c', .int .i64 d'] 23)) fun e w' => e = .returned (.agg #[.int .i64 x3, .int .i64 x4]) ∧ Below w0.heap.size w0 w' from by have k := calls_step (lat_al hb _) (least_any [(c, d), (c', d')] (by simp) hv2 (X.heap.size) 23 2 2 rfl (X.alloc (.cells #[.int .i64 c, .int .i64 d, .int .i64 c', .int .i64 d'] 23)) ((blk_two X c d c' d')) (by decide)); rw [hx2] at k; exact k)
  have F2 := Lib.hid (fun (X : World) (g : Nat) (hb : Below w0.heap.size w0 X) (hg : Blk X g 23 (flat [(c, d), (c', d')])) => show Calls Try.prog 29 #[.slice (some ⟨g, 0, none⟩) 2 2] X fun e w' => e = .returned (.agg #[.int .i64 x3, .int .i64 x4]) ∧ Below w0.heap.size w0 w' from by have k := calls_step hb (least_any [(c, d), (c', d')] (by simp) hv2 g 23 2 2 rfl X hg (by decide)); rw [hx2] at k; exact k)
  have keep : ∀ W : World, Below w0.heap.size w0 W → W.cell? ⟨w.heap.size, 0, none⟩ = some (.int .i64 a) ∧ W.cell? ⟨w.heap.size, 1, none⟩ = some (.int .i64 b) ∧ W.cell? ⟨w.heap.size, 2, none⟩ = some (.int .i64 c) ∧ W.cell? ⟨w.heap.size, 3, none⟩ = some (.int .i64 d) ∧ W.cell? ⟨w.heap.size + 1, 0, none⟩ = some (.int .i64 a') ∧ W.cell? ⟨w.heap.size + 1, 1, none⟩ = some (.int .i64 b') ∧ W.cell? ⟨w.heap.size + 1, 2, none⟩ = some (.int .i64 c') ∧ W.cell? ⟨w.heap.size + 1, 3, none⟩ = some (.int .i64 d') := fun W hB =>
    ⟨(hA.below hB hA.lt).cell 0, (hA.below hB hA.lt).cell 1, (hA.below hB hA.lt).cell 2, (hA.below hB hA.lt).cell 3, (hE.below hB hE.lt).cell 0, (hE.below hB hE.lt).cell 1, (hE.below hB hE.lt).cell 2, (hE.below hB hE.lt).cell 3⟩
  have fin := fun (W : World) (hB : Below w0.heap.size w0 W) => put4 (hR.below hB hR.lt) (below_st hW hB) (by omega) x1 x2 x3 x4
  have frz := fun (W : World) (hB : Below w0.heap.size w0 W) => (show (∀ i, W.frozen? ⟨w.heap.size + 1 + 1, i, none⟩ = false) ∧ W.cell? ⟨w.heap.size + 1 + 1, 0, none⟩ = some (.int .i64 0) ∧ W.cell? ⟨w.heap.size + 1 + 1, 1, none⟩ = some (.int .i64 0) ∧ W.cell? ⟨w.heap.size + 1 + 1, 2, none⟩ = some (.int .i64 0) ∧ W.cell? ⟨w.heap.size + 1 + 1, 3, none⟩ = some (.int .i64 0) from ⟨(hR.below hB hR.lt).frozen, (hR.below hB hR.lt).cell 0, (hR.below hB hR.lt).cell 1, (hR.below hB hR.lt).cell 2, (hR.below hB hR.lt).cell 3⟩)
  have farr : ∀ W : World, Below w0.heap.size w0 W → (fun W : World => W.cell? ⟨w.heap.size, 0, none⟩ = some (.int .i64 a) ∧ W.cell? ⟨w.heap.size, 1, none⟩ = some (.int .i64 b) ∧ W.cell? ⟨w.heap.size, 2, none⟩ = some (.int .i64 c) ∧ W.cell? ⟨w.heap.size, 3, none⟩ = some (.int .i64 d) ∧ W.cell? ⟨w.heap.size + 1, 0, none⟩ = some (.int .i64 a') ∧ W.cell? ⟨w.heap.size + 1, 1, none⟩ = some (.int .i64 b') ∧ W.cell? ⟨w.heap.size + 1, 2, none⟩ = some (.int .i64 c') ∧ W.cell? ⟨w.heap.size + 1, 3, none⟩ = some (.int .i64 d')) ((((W.setCell ⟨w.heap.size + 1 + 1, 0, none⟩ (.int .i64 x1)).setCell ⟨w.heap.size + 1 + 1, 1, none⟩ (.int .i64 x2)).setCell ⟨w.heap.size + 1 + 1, 2, none⟩ (.int .i64 x3)).setCell ⟨w.heap.size + 1 + 1, 3, none⟩ (.int .i64 x4)) := fun W hB =>
    have k := (((((hA.below hB hA.lt).far (p := ⟨w.heap.size + 1 + 1, 0, none⟩) (by show ¬ w.heap.size = w.heap.size + 1 + 1; omega) (.int .i64 x1)).far (p := ⟨w.heap.size + 1 + 1, 1, none⟩) (by show ¬ w.heap.size = w.heap.size + 1 + 1; omega) (.int .i64 x2)).far (p := ⟨w.heap.size + 1 + 1, 2, none⟩) (by show ¬ w.heap.size = w.heap.size + 1 + 1; omega) (.int .i64 x3)).far (p := ⟨w.heap.size + 1 + 1, 3, none⟩) (by show ¬ w.heap.size = w.heap.size + 1 + 1; omega) (.int .i64 x4))
    have j := (((((hE.below hB hE.lt).far (p := ⟨w.heap.size + 1 + 1, 0, none⟩) (by show ¬ w.heap.size + 1 = w.heap.size + 1 + 1; omega) (.int .i64 x1)).far (p := ⟨w.heap.size + 1 + 1, 1, none⟩) (by show ¬ w.heap.size + 1 = w.heap.size + 1 + 1; omega) (.int .i64 x2)).far (p := ⟨w.heap.size + 1 + 1, 2, none⟩) (by show ¬ w.heap.size + 1 = w.heap.size + 1 + 1; omega) (.int .i64 x3)).far (p := ⟨w.heap.size + 1 + 1, 3, none⟩) (by show ¬ w.heap.size + 1 = w.heap.size + 1 + 1; omega) (.int .i64 x4))
    ⟨k.cell 0, k.cell 1, k.cell 2, k.cell 3, j.cell 0, j.cell 1, j.cell 2, j.cell 3⟩
  simp only at farr
  have Far := Lib.hid farr
  have Keep := Lib.hid keep
  have Fin := Lib.hid fin
  have Frz := Lib.hid frz
  have h00 := Below.refl w0.heap.size w0
  have h0d : Below w0.heap.size w0 w0.drew := h00.drew
  obtain ⟨fR, r0, r1, r2, r3⟩ := frz w0 h00
  obtain ⟨c0, c1, c2, c3, c4, c5, c6, c7⟩ := keep w0 h00
  clear keep fin frz farr hA hE hR hW hx1 hx2 hv1 hv2
  go_wp2_with fail
  go_region_held3 (fun W => W.cell? ⟨w.heap.size, 0, none⟩ = some (.int .i64 a) ∧ W.cell? ⟨w.heap.size, 1, none⟩ = some (.int .i64 b) ∧ W.cell? ⟨w.heap.size, 2, none⟩ = some (.int .i64 c) ∧ W.cell? ⟨w.heap.size, 3, none⟩ = some (.int .i64 d) ∧ W.cell? ⟨w.heap.size + 1, 0, none⟩ = some (.int .i64 a') ∧ W.cell? ⟨w.heap.size + 1, 1, none⟩ = some (.int .i64 b') ∧ W.cell? ⟨w.heap.size + 1, 2, none⟩ = some (.int .i64 c') ∧ W.cell? ⟨w.heap.size + 1, 3, none⟩ = some (.int .i64 d'))
    (first | (with_reducible exact Keep.out _ (by with_reducible assumption)) | (with_reducible exact Keep.out _ (lat_al (by with_reducible assumption) _)) | (with_reducible exact Keep.out _ (lat_al (lat_al (by with_reducible assumption) _) _)) | (with_reducible exact Far.out _ (by with_reducible assumption)))
    ((go_at_call 29; first | ((with_reducible refine (C1.out _ (by with_reducible assumption)).mono ?_); rintro e w' ⟨rfl, hb⟩; obtain ⟨c0, c1, c2, c3, c4, c5, c6, c7⟩ := Keep.out _ hb; obtain ⟨fR, r0, r1, r2, r3⟩ := Frz.out _ hb) | ((with_reducible refine (C1d.out _ (by with_reducible assumption)).mono ?_); rintro e w' ⟨rfl, hb⟩; obtain ⟨c0, c1, c2, c3, c4, c5, c6, c7⟩ := Keep.out _ hb; obtain ⟨fR, r0, r1, r2, r3⟩ := Frz.out _ hb) | ((with_reducible refine (D1.out _ (by with_reducible assumption)).mono ?_); rintro e w' ⟨rfl, hm, hb⟩; obtain ⟨c0, c1, c2, c3, c4, c5, c6, c7⟩ := Keep.out _ hb; obtain ⟨fR, r0, r1, r2, r3⟩ := Frz.out _ hb) | ((with_reducible refine (E1.out _ (by with_reducible assumption)).mono ?_); rintro e w' ⟨rfl, hm, hb⟩; obtain ⟨c0, c1, c2, c3, c4, c5, c6, c7⟩ := Keep.out _ hb; obtain ⟨fR, r0, r1, r2, r3⟩ := Frz.out _ hb) | ((with_reducible refine (D1d.out _ (by with_reducible assumption)).mono ?_); rintro e w' ⟨rfl, hm, hb⟩; obtain ⟨c0, c1, c2, c3, c4, c5, c6, c7⟩ := Keep.out _ hb; obtain ⟨fR, r0, r1, r2, r3⟩ := Frz.out _ hb) | ((with_reducible refine (E1d.out _ (by with_reducible assumption)).mono ?_); rintro e w' ⟨rfl, hm, hb⟩; obtain ⟨c0, c1, c2, c3, c4, c5, c6, c7⟩ := Keep.out _ hb; obtain ⟨fR, r0, r1, r2, r3⟩ := Frz.out _ hb) | ((with_reducible refine (C2.out _ (by with_reducible assumption)).mono ?_); rintro e w' ⟨rfl, hb⟩; obtain ⟨c0, c1, c2, c3, c4, c5, c6, c7⟩ := Keep.out _ hb; obtain ⟨fR, r0, r1, r2, r3⟩ := Frz.out _ hb) | ((with_reducible refine (C2d.out _ (by with_reducible assumption)).mono ?_); rintro e w' ⟨rfl, hb⟩; obtain ⟨c0, c1, c2, c3, c4, c5, c6, c7⟩ := Keep.out _ hb; obtain ⟨fR, r0, r1, r2, r3⟩ := Frz.out _ hb) | ((with_reducible refine (F2.out _ _ (by with_reducible assumption) (by with_reducible assumption)).mono ?_); rintro e w' ⟨rfl, hb⟩; obtain ⟨c0, c1, c2, c3, c4, c5, c6, c7⟩ := Keep.out _ hb; obtain ⟨fR, r0, r1, r2, r3⟩ := Frz.out _ hb) | fail))
  all_goals
    go_wp2
    refine ret_iv1 (p := 4) (by kernel_rfl) rfl (Fin.out _ ?_).1 ⟨rfl, (Fin.out _ ?_).2⟩ <;> with_reducible assumption
set_option maxRecDepth 100000 in
set_option maxHeartbeats 8000000 in
theorem imax_w {a b c d a' b' c' d' : Int} (hx : vI a b c d) (hy : vI a' b' c' d') (w : World) :
    Calls Try.prog 10 #[.agg #[.int .i64 a, .int .i64 b, .int .i64 c, .int .i64 d], .agg #[.int .i64 a', .int .i64 b', .int .i64 c', .int .i64 d']] w fun e w' => e = .returned (.agg #[.int .i64 (maxL [(a, b), (a', b')]).1, .int .i64 (maxL [(a, b), (a', b')]).2, .int .i64 (maxL [(c, d), (c', d')]).1, .int .i64 (maxL [(c, d), (c', d')]).2]) ∧ Below w.heap.size w w' := by
  have V1 := ivalid_w hx.1.1.w2 hx.1.2.w2
  have V2 := ivalid_w hy.1.1.w2 hy.1.2.w2
  rw [show vIB a b c d = true from decide_eq_true hx] at V1
  rw [show vIB a' b' c' d' = true from decide_eq_true hy] at V2
  replace V1 := Lib.hid V1
  replace V2 := Lib.hid V2
  have hv1 : VL [(a, b), (a', b')] := vl_two hx.1.1 hy.1.1
  have hv2 : VL [(c, d), (c', d')] := vl_two hx.1.2 hy.1.2
  obtain ⟨⟨x1, x2⟩, hx1⟩ : ∃ x, maxL [(a, b), (a', b')] = x := ⟨_, rfl⟩
  obtain ⟨⟨x3, x4⟩, hx2⟩ : ∃ x, maxL [(c, d), (c', d')] = x := ⟨_, rfl⟩
  rw [hx1, hx2]
  simp only
  obtain ⟨hA, hE, hR, hW⟩ := start3 w 25 #[.int .i64 a, .int .i64 b, .int .i64 c, .int .i64 d] 25 #[.int .i64 a', .int .i64 b', .int .i64 c', .int .i64 d'] 25 #[.int .i64 0, .int .i64 0, .int .i64 0, .int .i64 0]
  clear hx hy
  have cA0 := hA.cell 0
  have cA1 := hA.cell 1
  have cA2 := hA.cell 2
  have cA3 := hA.cell 3
  have zA := hA.lt
  have cE0 := hE.cell 0
  have cE1 := hE.cell 1
  have cE2 := hE.cell 2
  have cE3 := hE.cell 3
  have zE := hE.lt
  go_enter Try.func10, Try.ntmps10
  go_wp2_with fail
  (with_reducible refine (V1.out _).mono ?_)
  rintro e w1 ⟨rfl, hB⟩
  replace hA := hA.below hB hA.lt
  replace hE := hE.below hB hE.lt
  replace hR := hR.below hB hR.lt
  replace hW := below_st hW hB
  clear hB cA0 cA1 cA2 cA3 zA cE0 cE1 cE2 cE3 zE V1
  have cA0 := hA.cell 0
  have cA1 := hA.cell 1
  have cA2 := hA.cell 2
  have cA3 := hA.cell 3
  have zA := hA.lt
  have cE0 := hE.cell 0
  have cE1 := hE.cell 1
  have cE2 := hE.cell 2
  have cE3 := hE.cell 3
  have zE := hE.lt
  go_wp2_with fail
  (with_reducible refine (V2.out _).mono ?_)
  rintro e w1 ⟨rfl, hB⟩
  replace hA := hA.below hB hA.lt
  replace hE := hE.below hB hE.lt
  replace hR := hR.below hB hR.lt
  replace hW := below_st hW hB
  clear hB cA0 cA1 cA2 cA3 zA cE0 cE1 cE2 cE3 zE V2
  obtain ⟨w0, hw0⟩ : ∃ w0 : World, w1 = w0 := ⟨_, rfl⟩
  rw [hw0] at hA hE hR hW ⊢
  clear hw0
  have C1 := Lib.hid (fun (X : World) (hb : Below w0.heap.size w0 X) => show Calls Try.prog 28 #[.slice (some ⟨X.heap.size, 0, none⟩) 2 2] (X.alloc (.cells #[.int .i64 a, .int .i64 b, .int .i64 a', .int .i64 b'] 23)) fun e w' => e = .returned (.agg #[.int .i64 x1, .int .i64 x2]) ∧ Below w0.heap.size w0 w' from by have k := calls_step (lat_al hb _) (great_any [(a, b), (a', b')] (by simp) hv1 (X.heap.size) 23 2 2 rfl (X.alloc (.cells #[.int .i64 a, .int .i64 b, .int .i64 a', .int .i64 b'] 23)) ((blk_two X a b a' b')) (by decide)); rw [hx1] at k; exact k)
  have C1d := Lib.hid (fun (X : World) (hb : Below w0.heap.size w0 X) => show Calls Try.prog 28 #[.slice (some ⟨X.heap.size, 0, none⟩) 2 2] (X.alloc (.cells #[.int .i64 a, .int .i64 b, .int .i64 a', .int .i64 b'] 23)).drew fun e w' => e = .returned (.agg #[.int .i64 x1, .int .i64 x2]) ∧ Below w0.heap.size w0 w' from by have k := calls_step (lat_dr (lat_al hb _)) (great_any [(a, b), (a', b')] (by simp) hv1 (X.heap.size) 23 2 2 rfl (X.alloc (.cells #[.int .i64 a, .int .i64 b, .int .i64 a', .int .i64 b'] 23)).drew ((blk_two X a b a' b').drew) (by decide)); rw [hx1] at k; exact k)
  have C2d := Lib.hid (fun (X : World) (hb : Below w0.heap.size w0 X) => show Calls Try.prog 28 #[.slice (some ⟨X.heap.size, 0, none⟩) 2 2] (X.alloc (.cells #[.int .i64 c, .int .i64 d, .int .i64 c', .int .i64 d'] 23)).drew fun e w' => e = .returned (.agg #[.int .i64 x3, .int .i64 x4]) ∧ Below w0.heap.size w0 w' from by have k := calls_step (lat_dr (lat_al hb _)) (great_any [(c, d), (c', d')] (by simp) hv2 (X.heap.size) 23 2 2 rfl (X.alloc (.cells #[.int .i64 c, .int .i64 d, .int .i64 c', .int .i64 d'] 23)).drew ((blk_two X c d c' d').drew) (by decide)); rw [hx2] at k; exact k)
  have D1 := Lib.hid (fun (X : World) (hb : Below w0.heap.size w0 X) => show Calls Try.prog 28 #[.slice (some ⟨X.heap.size, 0, none⟩) 2 2] ((X.alloc (.cells #[.int .i64 a, .int .i64 b, .int .i64 a', .int .i64 b'] 23)).alloc (.cells #[.int .i64 c, .int .i64 d, .int .i64 c', .int .i64 d'] 23)) fun e w' => e = .returned (.agg #[.int .i64 x1, .int .i64 x2]) ∧ Blk w' (X.heap.size + 1) 23 (flat [(c, d), (c', d')]) ∧ Below w0.heap.size w0 w' from by have k := calls_keep (lat_al (lat_al hb _) _) ((blk_two2 X _ c d c' d')) (great_any [(a, b), (a', b')] (by simp) hv1 (X.heap.size) 23 2 2 rfl ((X.alloc (.cells #[.int .i64 a, .int .i64 b, .int .i64 a', .int .i64 b'] 23)).alloc (.cells #[.int .i64 c, .int .i64 d, .int .i64 c', .int .i64 d'] 23)) (((blk_two X a b a' b').alloc _)) (by decide)); rw [hx1] at k; exact k)
  have E1 := Lib.hid (fun (X : World) (hb : Below w0.heap.size w0 X) => show Calls Try.prog 28 #[.slice (some ⟨X.heap.size + 1, 0, none⟩) 2 2] ((X.alloc (.cells #[.int .i64 c, .int .i64 d, .int .i64 c', .int .i64 d'] 23)).alloc (.cells #[.int .i64 a, .int .i64 b, .int .i64 a', .int .i64 b'] 23)) fun e w' => e = .returned (.agg #[.int .i64 x1, .int .i64 x2]) ∧ Blk w' X.heap.size 23 (flat [(c, d), (c', d')]) ∧ Below w0.heap.size w0 w' from by have k := calls_keep (lat_al (lat_al hb _) _) (((blk_two X c d c' d').alloc _)) (great_any [(a, b), (a', b')] (by simp) hv1 (X.heap.size + 1) 23 2 2 rfl ((X.alloc (.cells #[.int .i64 c, .int .i64 d, .int .i64 c', .int .i64 d'] 23)).alloc (.cells #[.int .i64 a, .int .i64 b, .int .i64 a', .int .i64 b'] 23)) ((blk_two2 X _ a b a' b')) (by decide)); rw [hx1] at k; exact k)
  have D1d := Lib.hid (fun (X : World) (hb : Below w0.heap.size w0 X) => show Calls Try.prog 28 #[.slice (some ⟨X.heap.size, 0, none⟩) 2 2] ((X.alloc (.cells #[.int .i64 a, .int .i64 b, .int .i64 a', .int .i64 b'] 23)).alloc (.cells #[.int .i64 c, .int .i64 d, .int .i64 c', .int .i64 d'] 23)).drew fun e w' => e = .returned (.agg #[.int .i64 x1, .int .i64 x2]) ∧ Blk w' (X.heap.size + 1) 23 (flat [(c, d), (c', d')]) ∧ Below w0.heap.size w0 w' from by have k := calls_keep (lat_dr (lat_al (lat_al hb _) _)) ((blk_two2 X _ c d c' d').drew) (great_any [(a, b), (a', b')] (by simp) hv1 (X.heap.size) 23 2 2 rfl ((X.alloc (.cells #[.int .i64 a, .int .i64 b, .int .i64 a', .int .i64 b'] 23)).alloc (.cells #[.int .i64 c, .int .i64 d, .int .i64 c', .int .i64 d'] 23)).drew (((blk_two X a b a' b').alloc _).drew) (by decide)); rw [hx1] at k; exact k)
  have E1d := Lib.hid (fun (X : World) (hb : Below w0.heap.size w0 X) => show Calls Try.prog 28 #[.slice (some ⟨X.heap.size + 1, 0, none⟩) 2 2] ((X.alloc (.cells #[.int .i64 c, .int .i64 d, .int .i64 c', .int .i64 d'] 23)).alloc (.cells #[.int .i64 a, .int .i64 b, .int .i64 a', .int .i64 b'] 23)).drew fun e w' => e = .returned (.agg #[.int .i64 x1, .int .i64 x2]) ∧ Blk w' X.heap.size 23 (flat [(c, d), (c', d')]) ∧ Below w0.heap.size w0 w' from by have k := calls_keep (lat_dr (lat_al (lat_al hb _) _)) (((blk_two X c d c' d').alloc _).drew) (great_any [(a, b), (a', b')] (by simp) hv1 (X.heap.size + 1) 23 2 2 rfl ((X.alloc (.cells #[.int .i64 c, .int .i64 d, .int .i64 c', .int .i64 d'] 23)).alloc (.cells #[.int .i64 a, .int .i64 b, .int .i64 a', .int .i64 b'] 23)).drew ((blk_two2 X _ a b a' b').drew) (by decide)); rw [hx1] at k; exact k)
  have C2 := Lib.hid (fun (X : World) (hb : Below w0.heap.size w0 X) => show Calls Try.prog 28 #[.slice (some ⟨X.heap.size, 0, none⟩) 2 2] (X.alloc (.cells #[.int .i64 c, .int .i64 d, .int .i64 c', .int .i64 d'] 23)) fun e w' => e = .returned (.agg #[.int .i64 x3, .int .i64 x4]) ∧ Below w0.heap.size w0 w' from by have k := calls_step (lat_al hb _) (great_any [(c, d), (c', d')] (by simp) hv2 (X.heap.size) 23 2 2 rfl (X.alloc (.cells #[.int .i64 c, .int .i64 d, .int .i64 c', .int .i64 d'] 23)) ((blk_two X c d c' d')) (by decide)); rw [hx2] at k; exact k)
  have F2 := Lib.hid (fun (X : World) (g : Nat) (hb : Below w0.heap.size w0 X) (hg : Blk X g 23 (flat [(c, d), (c', d')])) => show Calls Try.prog 28 #[.slice (some ⟨g, 0, none⟩) 2 2] X fun e w' => e = .returned (.agg #[.int .i64 x3, .int .i64 x4]) ∧ Below w0.heap.size w0 w' from by have k := calls_step hb (great_any [(c, d), (c', d')] (by simp) hv2 g 23 2 2 rfl X hg (by decide)); rw [hx2] at k; exact k)
  have keep : ∀ W : World, Below w0.heap.size w0 W → W.cell? ⟨w.heap.size, 0, none⟩ = some (.int .i64 a) ∧ W.cell? ⟨w.heap.size, 1, none⟩ = some (.int .i64 b) ∧ W.cell? ⟨w.heap.size, 2, none⟩ = some (.int .i64 c) ∧ W.cell? ⟨w.heap.size, 3, none⟩ = some (.int .i64 d) ∧ W.cell? ⟨w.heap.size + 1, 0, none⟩ = some (.int .i64 a') ∧ W.cell? ⟨w.heap.size + 1, 1, none⟩ = some (.int .i64 b') ∧ W.cell? ⟨w.heap.size + 1, 2, none⟩ = some (.int .i64 c') ∧ W.cell? ⟨w.heap.size + 1, 3, none⟩ = some (.int .i64 d') := fun W hB =>
    ⟨(hA.below hB hA.lt).cell 0, (hA.below hB hA.lt).cell 1, (hA.below hB hA.lt).cell 2, (hA.below hB hA.lt).cell 3, (hE.below hB hE.lt).cell 0, (hE.below hB hE.lt).cell 1, (hE.below hB hE.lt).cell 2, (hE.below hB hE.lt).cell 3⟩
  have fin := fun (W : World) (hB : Below w0.heap.size w0 W) => put4 (hR.below hB hR.lt) (below_st hW hB) (by omega) x1 x2 x3 x4
  have frz := fun (W : World) (hB : Below w0.heap.size w0 W) => (show (∀ i, W.frozen? ⟨w.heap.size + 1 + 1, i, none⟩ = false) ∧ W.cell? ⟨w.heap.size + 1 + 1, 0, none⟩ = some (.int .i64 0) ∧ W.cell? ⟨w.heap.size + 1 + 1, 1, none⟩ = some (.int .i64 0) ∧ W.cell? ⟨w.heap.size + 1 + 1, 2, none⟩ = some (.int .i64 0) ∧ W.cell? ⟨w.heap.size + 1 + 1, 3, none⟩ = some (.int .i64 0) from ⟨(hR.below hB hR.lt).frozen, (hR.below hB hR.lt).cell 0, (hR.below hB hR.lt).cell 1, (hR.below hB hR.lt).cell 2, (hR.below hB hR.lt).cell 3⟩)
  have farr : ∀ W : World, Below w0.heap.size w0 W → (fun W : World => W.cell? ⟨w.heap.size, 0, none⟩ = some (.int .i64 a) ∧ W.cell? ⟨w.heap.size, 1, none⟩ = some (.int .i64 b) ∧ W.cell? ⟨w.heap.size, 2, none⟩ = some (.int .i64 c) ∧ W.cell? ⟨w.heap.size, 3, none⟩ = some (.int .i64 d) ∧ W.cell? ⟨w.heap.size + 1, 0, none⟩ = some (.int .i64 a') ∧ W.cell? ⟨w.heap.size + 1, 1, none⟩ = some (.int .i64 b') ∧ W.cell? ⟨w.heap.size + 1, 2, none⟩ = some (.int .i64 c') ∧ W.cell? ⟨w.heap.size + 1, 3, none⟩ = some (.int .i64 d')) ((((W.setCell ⟨w.heap.size + 1 + 1, 0, none⟩ (.int .i64 x1)).setCell ⟨w.heap.size + 1 + 1, 1, none⟩ (.int .i64 x2)).setCell ⟨w.heap.size + 1 + 1, 2, none⟩ (.int .i64 x3)).setCell ⟨w.heap.size + 1 + 1, 3, none⟩ (.int .i64 x4)) := fun W hB =>
    have k := (((((hA.below hB hA.lt).far (p := ⟨w.heap.size + 1 + 1, 0, none⟩) (by show ¬ w.heap.size = w.heap.size + 1 + 1; omega) (.int .i64 x1)).far (p := ⟨w.heap.size + 1 + 1, 1, none⟩) (by show ¬ w.heap.size = w.heap.size + 1 + 1; omega) (.int .i64 x2)).far (p := ⟨w.heap.size + 1 + 1, 2, none⟩) (by show ¬ w.heap.size = w.heap.size + 1 + 1; omega) (.int .i64 x3)).far (p := ⟨w.heap.size + 1 + 1, 3, none⟩) (by show ¬ w.heap.size = w.heap.size + 1 + 1; omega) (.int .i64 x4))
    have j := (((((hE.below hB hE.lt).far (p := ⟨w.heap.size + 1 + 1, 0, none⟩) (by show ¬ w.heap.size + 1 = w.heap.size + 1 + 1; omega) (.int .i64 x1)).far (p := ⟨w.heap.size + 1 + 1, 1, none⟩) (by show ¬ w.heap.size + 1 = w.heap.size + 1 + 1; omega) (.int .i64 x2)).far (p := ⟨w.heap.size + 1 + 1, 2, none⟩) (by show ¬ w.heap.size + 1 = w.heap.size + 1 + 1; omega) (.int .i64 x3)).far (p := ⟨w.heap.size + 1 + 1, 3, none⟩) (by show ¬ w.heap.size + 1 = w.heap.size + 1 + 1; omega) (.int .i64 x4))
    ⟨k.cell 0, k.cell 1, k.cell 2, k.cell 3, j.cell 0, j.cell 1, j.cell 2, j.cell 3⟩
  simp only at farr
  have Far := Lib.hid farr
  have Keep := Lib.hid keep
  have Fin := Lib.hid fin
  have Frz := Lib.hid frz
  have h00 := Below.refl w0.heap.size w0
  have h0d : Below w0.heap.size w0 w0.drew := h00.drew
  obtain ⟨fR, r0, r1, r2, r3⟩ := frz w0 h00
  obtain ⟨c0, c1, c2, c3, c4, c5, c6, c7⟩ := keep w0 h00
  clear keep fin frz farr hA hE hR hW hx1 hx2 hv1 hv2
  go_wp2_with fail
  go_region_held3 (fun W => W.cell? ⟨w.heap.size, 0, none⟩ = some (.int .i64 a) ∧ W.cell? ⟨w.heap.size, 1, none⟩ = some (.int .i64 b) ∧ W.cell? ⟨w.heap.size, 2, none⟩ = some (.int .i64 c) ∧ W.cell? ⟨w.heap.size, 3, none⟩ = some (.int .i64 d) ∧ W.cell? ⟨w.heap.size + 1, 0, none⟩ = some (.int .i64 a') ∧ W.cell? ⟨w.heap.size + 1, 1, none⟩ = some (.int .i64 b') ∧ W.cell? ⟨w.heap.size + 1, 2, none⟩ = some (.int .i64 c') ∧ W.cell? ⟨w.heap.size + 1, 3, none⟩ = some (.int .i64 d'))
    (first | (with_reducible exact Keep.out _ (by with_reducible assumption)) | (with_reducible exact Keep.out _ (lat_al (by with_reducible assumption) _)) | (with_reducible exact Keep.out _ (lat_al (lat_al (by with_reducible assumption) _) _)) | (with_reducible exact Far.out _ (by with_reducible assumption)))
    ((go_at_call 28; first | ((with_reducible refine (C1.out _ (by with_reducible assumption)).mono ?_); rintro e w' ⟨rfl, hb⟩; obtain ⟨c0, c1, c2, c3, c4, c5, c6, c7⟩ := Keep.out _ hb; obtain ⟨fR, r0, r1, r2, r3⟩ := Frz.out _ hb) | ((with_reducible refine (C1d.out _ (by with_reducible assumption)).mono ?_); rintro e w' ⟨rfl, hb⟩; obtain ⟨c0, c1, c2, c3, c4, c5, c6, c7⟩ := Keep.out _ hb; obtain ⟨fR, r0, r1, r2, r3⟩ := Frz.out _ hb) | ((with_reducible refine (D1.out _ (by with_reducible assumption)).mono ?_); rintro e w' ⟨rfl, hm, hb⟩; obtain ⟨c0, c1, c2, c3, c4, c5, c6, c7⟩ := Keep.out _ hb; obtain ⟨fR, r0, r1, r2, r3⟩ := Frz.out _ hb) | ((with_reducible refine (E1.out _ (by with_reducible assumption)).mono ?_); rintro e w' ⟨rfl, hm, hb⟩; obtain ⟨c0, c1, c2, c3, c4, c5, c6, c7⟩ := Keep.out _ hb; obtain ⟨fR, r0, r1, r2, r3⟩ := Frz.out _ hb) | ((with_reducible refine (D1d.out _ (by with_reducible assumption)).mono ?_); rintro e w' ⟨rfl, hm, hb⟩; obtain ⟨c0, c1, c2, c3, c4, c5, c6, c7⟩ := Keep.out _ hb; obtain ⟨fR, r0, r1, r2, r3⟩ := Frz.out _ hb) | ((with_reducible refine (E1d.out _ (by with_reducible assumption)).mono ?_); rintro e w' ⟨rfl, hm, hb⟩; obtain ⟨c0, c1, c2, c3, c4, c5, c6, c7⟩ := Keep.out _ hb; obtain ⟨fR, r0, r1, r2, r3⟩ := Frz.out _ hb) | ((with_reducible refine (C2.out _ (by with_reducible assumption)).mono ?_); rintro e w' ⟨rfl, hb⟩; obtain ⟨c0, c1, c2, c3, c4, c5, c6, c7⟩ := Keep.out _ hb; obtain ⟨fR, r0, r1, r2, r3⟩ := Frz.out _ hb) | ((with_reducible refine (C2d.out _ (by with_reducible assumption)).mono ?_); rintro e w' ⟨rfl, hb⟩; obtain ⟨c0, c1, c2, c3, c4, c5, c6, c7⟩ := Keep.out _ hb; obtain ⟨fR, r0, r1, r2, r3⟩ := Frz.out _ hb) | ((with_reducible refine (F2.out _ _ (by with_reducible assumption) (by with_reducible assumption)).mono ?_); rintro e w' ⟨rfl, hb⟩; obtain ⟨c0, c1, c2, c3, c4, c5, c6, c7⟩ := Keep.out _ hb; obtain ⟨fR, r0, r1, r2, r3⟩ := Frz.out _ hb) | fail))
  all_goals
    go_wp2
    refine ret_iv1 (p := 4) (by kernel_rfl) rfl (Fin.out _ ?_).1 ⟨rfl, (Fin.out _ ?_).2⟩ <;> with_reducible assumption
set_option maxRecDepth 100000 in
set_option maxHeartbeats 8000000 in
theorem ihull_w {a b c d a' b' c' d' : Int} (hx : vI a b c d) (hy : vI a' b' c' d') (w : World) :
    Calls Try.prog 12 #[.agg #[.int .i64 a, .int .i64 b, .int .i64 c, .int .i64 d], .agg #[.int .i64 a', .int .i64 b', .int .i64 c', .int .i64 d']] w fun e w' => e = .returned (.agg #[.int .i64 (minL [(a, b), (a', b')]).1, .int .i64 (minL [(a, b), (a', b')]).2, .int .i64 (maxL [(c, d), (c', d')]).1, .int .i64 (maxL [(c, d), (c', d')]).2]) ∧ Below w.heap.size w w' := by
  have V1 := ivalid_w hx.1.1.w2 hx.1.2.w2
  have V2 := ivalid_w hy.1.1.w2 hy.1.2.w2
  rw [show vIB a b c d = true from decide_eq_true hx] at V1
  rw [show vIB a' b' c' d' = true from decide_eq_true hy] at V2
  replace V1 := Lib.hid V1
  replace V2 := Lib.hid V2
  have hv1 : VL [(a, b), (a', b')] := vl_two hx.1.1 hy.1.1
  have hv2 : VL [(c, d), (c', d')] := vl_two hx.1.2 hy.1.2
  obtain ⟨⟨x1, x2⟩, hx1⟩ : ∃ x, minL [(a, b), (a', b')] = x := ⟨_, rfl⟩
  obtain ⟨⟨x3, x4⟩, hx2⟩ : ∃ x, maxL [(c, d), (c', d')] = x := ⟨_, rfl⟩
  rw [hx1, hx2]
  simp only
  obtain ⟨hA, hE, hR, hW⟩ := start3 w 25 #[.int .i64 a, .int .i64 b, .int .i64 c, .int .i64 d] 25 #[.int .i64 a', .int .i64 b', .int .i64 c', .int .i64 d'] 25 #[.int .i64 0, .int .i64 0, .int .i64 0, .int .i64 0]
  clear hx hy
  have cA0 := hA.cell 0
  have cA1 := hA.cell 1
  have cA2 := hA.cell 2
  have cA3 := hA.cell 3
  have zA := hA.lt
  have cE0 := hE.cell 0
  have cE1 := hE.cell 1
  have cE2 := hE.cell 2
  have cE3 := hE.cell 3
  have zE := hE.lt
  go_enter Try.func12, Try.ntmps12
  go_wp2_with fail
  (with_reducible refine (V1.out _).mono ?_)
  rintro e w1 ⟨rfl, hB⟩
  replace hA := hA.below hB hA.lt
  replace hE := hE.below hB hE.lt
  replace hR := hR.below hB hR.lt
  replace hW := below_st hW hB
  clear hB cA0 cA1 cA2 cA3 zA cE0 cE1 cE2 cE3 zE V1
  have cA0 := hA.cell 0
  have cA1 := hA.cell 1
  have cA2 := hA.cell 2
  have cA3 := hA.cell 3
  have zA := hA.lt
  have cE0 := hE.cell 0
  have cE1 := hE.cell 1
  have cE2 := hE.cell 2
  have cE3 := hE.cell 3
  have zE := hE.lt
  go_wp2_with fail
  (with_reducible refine (V2.out _).mono ?_)
  rintro e w1 ⟨rfl, hB⟩
  replace hA := hA.below hB hA.lt
  replace hE := hE.below hB hE.lt
  replace hR := hR.below hB hR.lt
  replace hW := below_st hW hB
  clear hB cA0 cA1 cA2 cA3 zA cE0 cE1 cE2 cE3 zE V2
  obtain ⟨w0, hw0⟩ : ∃ w0 : World, w1 = w0 := ⟨_, rfl⟩
  rw [hw0] at hA hE hR hW ⊢
  clear hw0
  have C1 := Lib.hid (fun (X : World) (hb : Below w0.heap.size w0 X) => show Calls Try.prog 29 #[.slice (some ⟨X.heap.size, 0, none⟩) 2 2] (X.alloc (.cells #[.int .i64 a, .int .i64 b, .int .i64 a', .int .i64 b'] 23)) fun e w' => e = .returned (.agg #[.int .i64 x1, .int .i64 x2]) ∧ Below w0.heap.size w0 w' from by have k := calls_step (lat_al hb _) (least_any [(a, b), (a', b')] (by simp) hv1 (X.heap.size) 23 2 2 rfl (X.alloc (.cells #[.int .i64 a, .int .i64 b, .int .i64 a', .int .i64 b'] 23)) ((blk_two X a b a' b')) (by decide)); rw [hx1] at k; exact k)
  have C1d := Lib.hid (fun (X : World) (hb : Below w0.heap.size w0 X) => show Calls Try.prog 29 #[.slice (some ⟨X.heap.size, 0, none⟩) 2 2] (X.alloc (.cells #[.int .i64 a, .int .i64 b, .int .i64 a', .int .i64 b'] 23)).drew fun e w' => e = .returned (.agg #[.int .i64 x1, .int .i64 x2]) ∧ Below w0.heap.size w0 w' from by have k := calls_step (lat_dr (lat_al hb _)) (least_any [(a, b), (a', b')] (by simp) hv1 (X.heap.size) 23 2 2 rfl (X.alloc (.cells #[.int .i64 a, .int .i64 b, .int .i64 a', .int .i64 b'] 23)).drew ((blk_two X a b a' b').drew) (by decide)); rw [hx1] at k; exact k)
  have C2d := Lib.hid (fun (X : World) (hb : Below w0.heap.size w0 X) => show Calls Try.prog 28 #[.slice (some ⟨X.heap.size, 0, none⟩) 2 2] (X.alloc (.cells #[.int .i64 c, .int .i64 d, .int .i64 c', .int .i64 d'] 23)).drew fun e w' => e = .returned (.agg #[.int .i64 x3, .int .i64 x4]) ∧ Below w0.heap.size w0 w' from by have k := calls_step (lat_dr (lat_al hb _)) (great_any [(c, d), (c', d')] (by simp) hv2 (X.heap.size) 23 2 2 rfl (X.alloc (.cells #[.int .i64 c, .int .i64 d, .int .i64 c', .int .i64 d'] 23)).drew ((blk_two X c d c' d').drew) (by decide)); rw [hx2] at k; exact k)
  have D1 := Lib.hid (fun (X : World) (hb : Below w0.heap.size w0 X) => show Calls Try.prog 29 #[.slice (some ⟨X.heap.size, 0, none⟩) 2 2] ((X.alloc (.cells #[.int .i64 a, .int .i64 b, .int .i64 a', .int .i64 b'] 23)).alloc (.cells #[.int .i64 c, .int .i64 d, .int .i64 c', .int .i64 d'] 23)) fun e w' => e = .returned (.agg #[.int .i64 x1, .int .i64 x2]) ∧ Blk w' (X.heap.size + 1) 23 (flat [(c, d), (c', d')]) ∧ Below w0.heap.size w0 w' from by have k := calls_keep (lat_al (lat_al hb _) _) ((blk_two2 X _ c d c' d')) (least_any [(a, b), (a', b')] (by simp) hv1 (X.heap.size) 23 2 2 rfl ((X.alloc (.cells #[.int .i64 a, .int .i64 b, .int .i64 a', .int .i64 b'] 23)).alloc (.cells #[.int .i64 c, .int .i64 d, .int .i64 c', .int .i64 d'] 23)) (((blk_two X a b a' b').alloc _)) (by decide)); rw [hx1] at k; exact k)
  have E1 := Lib.hid (fun (X : World) (hb : Below w0.heap.size w0 X) => show Calls Try.prog 29 #[.slice (some ⟨X.heap.size + 1, 0, none⟩) 2 2] ((X.alloc (.cells #[.int .i64 c, .int .i64 d, .int .i64 c', .int .i64 d'] 23)).alloc (.cells #[.int .i64 a, .int .i64 b, .int .i64 a', .int .i64 b'] 23)) fun e w' => e = .returned (.agg #[.int .i64 x1, .int .i64 x2]) ∧ Blk w' X.heap.size 23 (flat [(c, d), (c', d')]) ∧ Below w0.heap.size w0 w' from by have k := calls_keep (lat_al (lat_al hb _) _) (((blk_two X c d c' d').alloc _)) (least_any [(a, b), (a', b')] (by simp) hv1 (X.heap.size + 1) 23 2 2 rfl ((X.alloc (.cells #[.int .i64 c, .int .i64 d, .int .i64 c', .int .i64 d'] 23)).alloc (.cells #[.int .i64 a, .int .i64 b, .int .i64 a', .int .i64 b'] 23)) ((blk_two2 X _ a b a' b')) (by decide)); rw [hx1] at k; exact k)
  have D1d := Lib.hid (fun (X : World) (hb : Below w0.heap.size w0 X) => show Calls Try.prog 29 #[.slice (some ⟨X.heap.size, 0, none⟩) 2 2] ((X.alloc (.cells #[.int .i64 a, .int .i64 b, .int .i64 a', .int .i64 b'] 23)).alloc (.cells #[.int .i64 c, .int .i64 d, .int .i64 c', .int .i64 d'] 23)).drew fun e w' => e = .returned (.agg #[.int .i64 x1, .int .i64 x2]) ∧ Blk w' (X.heap.size + 1) 23 (flat [(c, d), (c', d')]) ∧ Below w0.heap.size w0 w' from by have k := calls_keep (lat_dr (lat_al (lat_al hb _) _)) ((blk_two2 X _ c d c' d').drew) (least_any [(a, b), (a', b')] (by simp) hv1 (X.heap.size) 23 2 2 rfl ((X.alloc (.cells #[.int .i64 a, .int .i64 b, .int .i64 a', .int .i64 b'] 23)).alloc (.cells #[.int .i64 c, .int .i64 d, .int .i64 c', .int .i64 d'] 23)).drew (((blk_two X a b a' b').alloc _).drew) (by decide)); rw [hx1] at k; exact k)
  have E1d := Lib.hid (fun (X : World) (hb : Below w0.heap.size w0 X) => show Calls Try.prog 29 #[.slice (some ⟨X.heap.size + 1, 0, none⟩) 2 2] ((X.alloc (.cells #[.int .i64 c, .int .i64 d, .int .i64 c', .int .i64 d'] 23)).alloc (.cells #[.int .i64 a, .int .i64 b, .int .i64 a', .int .i64 b'] 23)).drew fun e w' => e = .returned (.agg #[.int .i64 x1, .int .i64 x2]) ∧ Blk w' X.heap.size 23 (flat [(c, d), (c', d')]) ∧ Below w0.heap.size w0 w' from by have k := calls_keep (lat_dr (lat_al (lat_al hb _) _)) (((blk_two X c d c' d').alloc _).drew) (least_any [(a, b), (a', b')] (by simp) hv1 (X.heap.size + 1) 23 2 2 rfl ((X.alloc (.cells #[.int .i64 c, .int .i64 d, .int .i64 c', .int .i64 d'] 23)).alloc (.cells #[.int .i64 a, .int .i64 b, .int .i64 a', .int .i64 b'] 23)).drew ((blk_two2 X _ a b a' b').drew) (by decide)); rw [hx1] at k; exact k)
  have C2 := Lib.hid (fun (X : World) (hb : Below w0.heap.size w0 X) => show Calls Try.prog 28 #[.slice (some ⟨X.heap.size, 0, none⟩) 2 2] (X.alloc (.cells #[.int .i64 c, .int .i64 d, .int .i64 c', .int .i64 d'] 23)) fun e w' => e = .returned (.agg #[.int .i64 x3, .int .i64 x4]) ∧ Below w0.heap.size w0 w' from by have k := calls_step (lat_al hb _) (great_any [(c, d), (c', d')] (by simp) hv2 (X.heap.size) 23 2 2 rfl (X.alloc (.cells #[.int .i64 c, .int .i64 d, .int .i64 c', .int .i64 d'] 23)) ((blk_two X c d c' d')) (by decide)); rw [hx2] at k; exact k)
  have F2 := Lib.hid (fun (X : World) (g : Nat) (hb : Below w0.heap.size w0 X) (hg : Blk X g 23 (flat [(c, d), (c', d')])) => show Calls Try.prog 28 #[.slice (some ⟨g, 0, none⟩) 2 2] X fun e w' => e = .returned (.agg #[.int .i64 x3, .int .i64 x4]) ∧ Below w0.heap.size w0 w' from by have k := calls_step hb (great_any [(c, d), (c', d')] (by simp) hv2 g 23 2 2 rfl X hg (by decide)); rw [hx2] at k; exact k)
  have keep : ∀ W : World, Below w0.heap.size w0 W → W.cell? ⟨w.heap.size, 0, none⟩ = some (.int .i64 a) ∧ W.cell? ⟨w.heap.size, 1, none⟩ = some (.int .i64 b) ∧ W.cell? ⟨w.heap.size, 2, none⟩ = some (.int .i64 c) ∧ W.cell? ⟨w.heap.size, 3, none⟩ = some (.int .i64 d) ∧ W.cell? ⟨w.heap.size + 1, 0, none⟩ = some (.int .i64 a') ∧ W.cell? ⟨w.heap.size + 1, 1, none⟩ = some (.int .i64 b') ∧ W.cell? ⟨w.heap.size + 1, 2, none⟩ = some (.int .i64 c') ∧ W.cell? ⟨w.heap.size + 1, 3, none⟩ = some (.int .i64 d') := fun W hB =>
    ⟨(hA.below hB hA.lt).cell 0, (hA.below hB hA.lt).cell 1, (hA.below hB hA.lt).cell 2, (hA.below hB hA.lt).cell 3, (hE.below hB hE.lt).cell 0, (hE.below hB hE.lt).cell 1, (hE.below hB hE.lt).cell 2, (hE.below hB hE.lt).cell 3⟩
  have fin := fun (W : World) (hB : Below w0.heap.size w0 W) => put4 (hR.below hB hR.lt) (below_st hW hB) (by omega) x1 x2 x3 x4
  have frz := fun (W : World) (hB : Below w0.heap.size w0 W) => (show (∀ i, W.frozen? ⟨w.heap.size + 1 + 1, i, none⟩ = false) ∧ W.cell? ⟨w.heap.size + 1 + 1, 0, none⟩ = some (.int .i64 0) ∧ W.cell? ⟨w.heap.size + 1 + 1, 1, none⟩ = some (.int .i64 0) ∧ W.cell? ⟨w.heap.size + 1 + 1, 2, none⟩ = some (.int .i64 0) ∧ W.cell? ⟨w.heap.size + 1 + 1, 3, none⟩ = some (.int .i64 0) from ⟨(hR.below hB hR.lt).frozen, (hR.below hB hR.lt).cell 0, (hR.below hB hR.lt).cell 1, (hR.below hB hR.lt).cell 2, (hR.below hB hR.lt).cell 3⟩)
  have farr : ∀ W : World, Below w0.heap.size w0 W → (fun W : World => W.cell? ⟨w.heap.size, 0, none⟩ = some (.int .i64 a) ∧ W.cell? ⟨w.heap.size, 1, none⟩ = some (.int .i64 b) ∧ W.cell? ⟨w.heap.size, 2, none⟩ = some (.int .i64 c) ∧ W.cell? ⟨w.heap.size, 3, none⟩ = some (.int .i64 d) ∧ W.cell? ⟨w.heap.size + 1, 0, none⟩ = some (.int .i64 a') ∧ W.cell? ⟨w.heap.size + 1, 1, none⟩ = some (.int .i64 b') ∧ W.cell? ⟨w.heap.size + 1, 2, none⟩ = some (.int .i64 c') ∧ W.cell? ⟨w.heap.size + 1, 3, none⟩ = some (.int .i64 d')) ((((W.setCell ⟨w.heap.size + 1 + 1, 0, none⟩ (.int .i64 x1)).setCell ⟨w.heap.size + 1 + 1, 1, none⟩ (.int .i64 x2)).setCell ⟨w.heap.size + 1 + 1, 2, none⟩ (.int .i64 x3)).setCell ⟨w.heap.size + 1 + 1, 3, none⟩ (.int .i64 x4)) := fun W hB =>
    have k := (((((hA.below hB hA.lt).far (p := ⟨w.heap.size + 1 + 1, 0, none⟩) (by show ¬ w.heap.size = w.heap.size + 1 + 1; omega) (.int .i64 x1)).far (p := ⟨w.heap.size + 1 + 1, 1, none⟩) (by show ¬ w.heap.size = w.heap.size + 1 + 1; omega) (.int .i64 x2)).far (p := ⟨w.heap.size + 1 + 1, 2, none⟩) (by show ¬ w.heap.size = w.heap.size + 1 + 1; omega) (.int .i64 x3)).far (p := ⟨w.heap.size + 1 + 1, 3, none⟩) (by show ¬ w.heap.size = w.heap.size + 1 + 1; omega) (.int .i64 x4))
    have j := (((((hE.below hB hE.lt).far (p := ⟨w.heap.size + 1 + 1, 0, none⟩) (by show ¬ w.heap.size + 1 = w.heap.size + 1 + 1; omega) (.int .i64 x1)).far (p := ⟨w.heap.size + 1 + 1, 1, none⟩) (by show ¬ w.heap.size + 1 = w.heap.size + 1 + 1; omega) (.int .i64 x2)).far (p := ⟨w.heap.size + 1 + 1, 2, none⟩) (by show ¬ w.heap.size + 1 = w.heap.size + 1 + 1; omega) (.int .i64 x3)).far (p := ⟨w.heap.size + 1 + 1, 3, none⟩) (by show ¬ w.heap.size + 1 = w.heap.size + 1 + 1; omega) (.int .i64 x4))
    ⟨k.cell 0, k.cell 1, k.cell 2, k.cell 3, j.cell 0, j.cell 1, j.cell 2, j.cell 3⟩
  simp only at farr
  have Far := Lib.hid farr
  have Keep := Lib.hid keep
  have Fin := Lib.hid fin
  have Frz := Lib.hid frz
  have h00 := Below.refl w0.heap.size w0
  have h0d : Below w0.heap.size w0 w0.drew := h00.drew
  obtain ⟨fR, r0, r1, r2, r3⟩ := frz w0 h00
  obtain ⟨c0, c1, c2, c3, c4, c5, c6, c7⟩ := keep w0 h00
  clear keep fin frz farr hA hE hR hW hx1 hx2 hv1 hv2
  go_wp2_with fail
  go_region_held3 (fun W => W.cell? ⟨w.heap.size, 0, none⟩ = some (.int .i64 a) ∧ W.cell? ⟨w.heap.size, 1, none⟩ = some (.int .i64 b) ∧ W.cell? ⟨w.heap.size, 2, none⟩ = some (.int .i64 c) ∧ W.cell? ⟨w.heap.size, 3, none⟩ = some (.int .i64 d) ∧ W.cell? ⟨w.heap.size + 1, 0, none⟩ = some (.int .i64 a') ∧ W.cell? ⟨w.heap.size + 1, 1, none⟩ = some (.int .i64 b') ∧ W.cell? ⟨w.heap.size + 1, 2, none⟩ = some (.int .i64 c') ∧ W.cell? ⟨w.heap.size + 1, 3, none⟩ = some (.int .i64 d'))
    (first | (with_reducible exact Keep.out _ (by with_reducible assumption)) | (with_reducible exact Keep.out _ (lat_al (by with_reducible assumption) _)) | (with_reducible exact Keep.out _ (lat_al (lat_al (by with_reducible assumption) _) _)) | (with_reducible exact Far.out _ (by with_reducible assumption)))
    (first | (go_at_call 29; first | ((with_reducible refine (C1.out _ (by with_reducible assumption)).mono ?_); rintro e w' ⟨rfl, hb⟩; obtain ⟨c0, c1, c2, c3, c4, c5, c6, c7⟩ := Keep.out _ hb; obtain ⟨fR, r0, r1, r2, r3⟩ := Frz.out _ hb) | ((with_reducible refine (C1d.out _ (by with_reducible assumption)).mono ?_); rintro e w' ⟨rfl, hb⟩; obtain ⟨c0, c1, c2, c3, c4, c5, c6, c7⟩ := Keep.out _ hb; obtain ⟨fR, r0, r1, r2, r3⟩ := Frz.out _ hb) | ((with_reducible refine (D1.out _ (by with_reducible assumption)).mono ?_); rintro e w' ⟨rfl, hm, hb⟩; obtain ⟨c0, c1, c2, c3, c4, c5, c6, c7⟩ := Keep.out _ hb; obtain ⟨fR, r0, r1, r2, r3⟩ := Frz.out _ hb) | ((with_reducible refine (E1.out _ (by with_reducible assumption)).mono ?_); rintro e w' ⟨rfl, hm, hb⟩; obtain ⟨c0, c1, c2, c3, c4, c5, c6, c7⟩ := Keep.out _ hb; obtain ⟨fR, r0, r1, r2, r3⟩ := Frz.out _ hb) | ((with_reducible refine (D1d.out _ (by with_reducible assumption)).mono ?_); rintro e w' ⟨rfl, hm, hb⟩; obtain ⟨c0, c1, c2, c3, c4, c5, c6, c7⟩ := Keep.out _ hb; obtain ⟨fR, r0, r1, r2, r3⟩ := Frz.out _ hb) | ((with_reducible refine (E1d.out _ (by with_reducible assumption)).mono ?_); rintro e w' ⟨rfl, hm, hb⟩; obtain ⟨c0, c1, c2, c3, c4, c5, c6, c7⟩ := Keep.out _ hb; obtain ⟨fR, r0, r1, r2, r3⟩ := Frz.out _ hb) | fail) | (go_at_call 28; first | ((with_reducible refine (C2.out _ (by with_reducible assumption)).mono ?_); rintro e w' ⟨rfl, hb⟩; obtain ⟨c0, c1, c2, c3, c4, c5, c6, c7⟩ := Keep.out _ hb; obtain ⟨fR, r0, r1, r2, r3⟩ := Frz.out _ hb) | ((with_reducible refine (C2d.out _ (by with_reducible assumption)).mono ?_); rintro e w' ⟨rfl, hb⟩; obtain ⟨c0, c1, c2, c3, c4, c5, c6, c7⟩ := Keep.out _ hb; obtain ⟨fR, r0, r1, r2, r3⟩ := Frz.out _ hb) | ((with_reducible refine (F2.out _ _ (by with_reducible assumption) (by with_reducible assumption)).mono ?_); rintro e w' ⟨rfl, hb⟩; obtain ⟨c0, c1, c2, c3, c4, c5, c6, c7⟩ := Keep.out _ hb; obtain ⟨fR, r0, r1, r2, r3⟩ := Frz.out _ hb) | fail))
  all_goals
    go_wp2
    refine ret_iv1 (p := 4) (by kernel_rfl) rfl (Fin.out _ ?_).1 ⟨rfl, (Fin.out _ ?_).2⟩ <;> with_reducible assumption
end Go.Proofs.Yteppamchbgnlfaa
