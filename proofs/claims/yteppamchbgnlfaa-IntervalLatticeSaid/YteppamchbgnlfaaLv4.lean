/- The chapter's examples. Conditions: none. -/
import Derived.Test.YteppamchbgnlfaaOf4
import Derived.Test.YteppamchbgnlfaaIv3
import Derived.Test.YteppamchbgnlfaaKth2
namespace Go.Proofs.Yteppamchbgnlfaa
open Go.RowKit

set_option maxRecDepth 100000 in
set_option maxHeartbeats 8000000 in
theorem lives_of (MU : Hid (∀ W : World, Calls Try.prog 37 #[.agg #[.int .i64 (-1), .int .i64 1, .int .i64 2, .int .i64 1], .agg #[.int .i64 (-3), .int .i64 1, .int .i64 4, .int .i64 1]] W fun e w' => e = .returned (.tuple #[.agg #[.int .i64 (-6), .int .i64 1, .int .i64 8, .int .i64 1], .int .i64 0]) ∧ Below W.heap.size W w'))
    (DI : Hid (∀ W : World, Calls Try.prog 39 #[.agg #[.int .i64 1, .int .i64 1, .int .i64 2, .int .i64 1], .agg #[.int .i64 (-1), .int .i64 1, .int .i64 1, .int .i64 1]] W fun e w' => e = .returned (.tuple #[.agg #[.int .i64 0, .int .i64 0, .int .i64 0, .int .i64 0], .int .i64 6]) ∧ Below W.heap.size W w')) (w : World) :
    Calls Try.prog 18 #[] w fun e w' => e = .returned (.bool true) ∧ Below w.heap.size w w' := by
  have OF := Lib.hid (fun (a b : Int) (W : World) => of_w (a := a) (b := b) W)
  go_enter Try.func18, Try.ntmps18
  go_wp2_with fail
  (with_reducible refine (OF.out (-1) 2 _).mono ?_)
  rintro e w1 ⟨rfl, hB⟩
  have hW := hB
  clear hB
  go_wp2_with fail
  (with_reducible refine (OF.out (-3) 4 _).mono ?_)
  rintro e w2 ⟨rfl, hB⟩
  replace hW := below_st hW hB
  clear hB
  go_wp2_with fail
  (with_reducible refine (MU.out  _).mono ?_)
  rintro e w3 ⟨rfl, hB⟩
  replace hW := below_st hW hB
  clear hB
  have hX := Blk.new w3 25 #[.int .i64 (-6), .int .i64 1, .int .i64 8, .int .i64 1]
  replace hW := hW.alloc hW.size (.cells #[.int .i64 (-6), .int .i64 1, .int .i64 8, .int .i64 1] 25)
  go_wp2_with fail
  (with_reducible refine (OF.out 1 2 _).mono ?_)
  rintro e w4 ⟨rfl, hB⟩
  replace hX := hX.below hB hX.lt
  replace hW := below_st hW hB
  clear hB
  go_wp2_with fail
  (with_reducible refine (OF.out (-1) 1 _).mono ?_)
  rintro e w5 ⟨rfl, hB⟩
  replace hX := hX.below hB hX.lt
  replace hW := below_st hW hB
  clear hB
  go_wp2_with fail
  (with_reducible refine (DI.out  _).mono ?_)
  rintro e w6 ⟨rfl, hB⟩
  replace hX := hX.below hB hX.lt
  replace hW := below_st hW hB
  clear hB
  replace hX := hX.alloc (.cells #[.int .i64 0, .int .i64 0, .int .i64 0, .int .i64 0] 25)
  replace hW := hW.alloc hW.size (.cells #[.int .i64 0, .int .i64 0, .int .i64 0, .int .i64 0] 25)
  go_wp2_with fail
  (with_reducible refine (OF.out 0 9 _).mono ?_)
  rintro e w7 ⟨rfl, hB⟩
  replace hX := hX.below hB hX.lt
  replace hW := below_st hW hB
  clear hB
  go_wp2_with fail
  (with_reducible refine (OF.out 1 2 _).mono ?_)
  rintro e w8 ⟨rfl, hB⟩
  replace hX := hX.below hB hX.lt
  replace hW := below_st hW hB
  clear hB
  replace hX := hX.alloc (.cells #[.int .i64 0, .int .i64 1, .int .i64 9, .int .i64 1, .int .i64 1, .int .i64 1, .int .i64 2, .int .i64 1] 25)
  have hS := Blk.new w8 25 #[.int .i64 0, .int .i64 1, .int .i64 9, .int .i64 1, .int .i64 1, .int .i64 1, .int .i64 2, .int .i64 1]
  replace hW := hW.alloc hW.size (.cells #[.int .i64 0, .int .i64 1, .int .i64 9, .int .i64 1, .int .i64 1, .int .i64 1, .int .i64 2, .int .i64 1] 25)
  go_wp2_with fail
  (with_reducible refine (kth_live _ 25 _ hS).mono ?_)
  rintro e w9 ⟨rfl, hB⟩
  unfold RI
  simp only
  replace hX := hX.below hB hX.lt
  replace hW := below_st hW hB
  clear hB hS
  replace hX := hX.alloc (.cells #[.int .i64 1, .int .i64 1, .int .i64 9, .int .i64 1] 25)
  have hY := Blk.new w9 25 #[.int .i64 1, .int .i64 1, .int .i64 9, .int .i64 1]
  replace hW := hW.alloc hW.size (.cells #[.int .i64 1, .int .i64 1, .int .i64 9, .int .i64 1] 25)
  go_wp2_with fail
  obtain ⟨w0, hw0⟩ : ∃ w0 : World, w9.alloc (.cells #[.int .i64 1, .int .i64 1, .int .i64 9, .int .i64 1] 25) = w0 := ⟨_, rfl⟩
  rw [hw0] at hX hY hW ⊢
  clear hw0
  have keep : ∀ W : World, Below w0.heap.size w0 W → (W.cell? ⟨w3.heap.size, 0, none⟩ = some (.int .i64 (-6)) ∧ W.cell? ⟨w3.heap.size, 1, none⟩ = some (.int .i64 1) ∧ W.cell? ⟨w3.heap.size, 2, none⟩ = some (.int .i64 8) ∧ W.cell? ⟨w3.heap.size, 3, none⟩ = some (.int .i64 1)) ∧ (W.cell? ⟨w9.heap.size, 0, none⟩ = some (.int .i64 1) ∧ W.cell? ⟨w9.heap.size, 1, none⟩ = some (.int .i64 1) ∧ W.cell? ⟨w9.heap.size, 2, none⟩ = some (.int .i64 9) ∧ W.cell? ⟨w9.heap.size, 3, none⟩ = some (.int .i64 1)) := fun W hB =>
    have k := hX.below hB hX.lt
    have l := hY.below hB hY.lt
    ⟨⟨k.cell 0, k.cell 1, k.cell 2, k.cell 3⟩, ⟨l.cell 0, l.cell 1, l.cell 2, l.cell 3⟩⟩
  have OF2 := fun (a b : Int) (W : World) (hB : Below w0.heap.size w0 W) => (OF.out a b W).mono fun e w' (h : _ ∧ _) => (⟨h.1, below_step hB h.2⟩ : _ ∧ Below w0.heap.size w0 w')
  have AL := fun (W : World) (hB : Below w0.heap.size w0 W) => (ileast_w (a := 3) (b := 1) (c := 5) (d := 1) (n := 4) (m := 1) (by unfold W2; omega) (by unfold W2; omega) (by unfold W2; omega) W).mono fun e w' (h : _ ∧ _) => (⟨h.1, below_step hB h.2⟩ : _ ∧ Below w0.heap.size w0 w')
  rw [show leastV 3 1 5 1 4 1 = 1 by decide] at AL
  replace OF2 := Lib.hid OF2
  replace AL := Lib.hid AL
  have h00 := Below.refl w0.heap.size w0
  have h0d : Below w0.heap.size w0 w0.drew := h00.drew
  obtain ⟨⟨c0, c1, c2, c3⟩, ⟨c4, c5, c6, c7⟩⟩ := keep w0 h00
  have HW := Lib.hid hW
  have Keep := Lib.hid keep
  clear keep hW hX hY OF MU DI
  go_region_held3 (fun W => (W.cell? ⟨w3.heap.size, 0, none⟩ = some (.int .i64 (-6)) ∧ W.cell? ⟨w3.heap.size, 1, none⟩ = some (.int .i64 1) ∧ W.cell? ⟨w3.heap.size, 2, none⟩ = some (.int .i64 8) ∧ W.cell? ⟨w3.heap.size, 3, none⟩ = some (.int .i64 1)) ∧ (W.cell? ⟨w9.heap.size, 0, none⟩ = some (.int .i64 1) ∧ W.cell? ⟨w9.heap.size, 1, none⟩ = some (.int .i64 1) ∧ W.cell? ⟨w9.heap.size, 2, none⟩ = some (.int .i64 9) ∧ W.cell? ⟨w9.heap.size, 3, none⟩ = some (.int .i64 1))) (exact Keep.out _ (by with_reducible assumption))
    (first | (go_at_call 38; (with_reducible refine (OF2.out _ _ _ (by with_reducible assumption)).mono ?_); rintro e w' ⟨rfl, hb⟩; obtain ⟨⟨c0, c1, c2, c3⟩, ⟨c4, c5, c6, c7⟩⟩ := Keep.out _ hb) |
      (go_at_call 40; (with_reducible refine (AL.out _ (by with_reducible assumption)).mono ?_); rintro e w' ⟨rfl, hb⟩; obtain ⟨⟨c0, c1, c2, c3⟩, ⟨c4, c5, c6, c7⟩⟩ := Keep.out _ hb))
  all_goals
    go_wp2
    go_ret
    exact ⟨rfl, below_st HW.out (by with_reducible assumption)⟩
end Go.Proofs.Yteppamchbgnlfaa
