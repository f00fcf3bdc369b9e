/- Package frac: New, Add, Sub, Mul, Div, Compare are what the document asks. Conditions: numbers of 64 bits. -/
import Derived.Test.YteppamchbgnlfaaWideP
import Derived.Deep.DeepCutAuto
namespace Go.Proofs.Yteppamchbgnlfaa
open Go.RowKit

theorem blk_fr {W : World} {g : Nat} {a b : Int} (h : Blk W g 23 #[.int .i64 a, .int .i64 b]) : W.cell? ⟨g, 0, none⟩ = some (.int .i64 a) ∧ W.cell? ⟨g, 1, none⟩ = some (.int .i64 b) ∧ W.frozen? ⟨g, 0, none⟩ = false ∧ W.frozen? ⟨g, 1, none⟩ = false := ⟨h.cell 0, h.cell 1, h.frozen 0, h.frozen 1⟩
theorem number_from (w0 W : World) (hW : Below w0.heap.size w0 W) (z : Int) (hz : z.natAbs ≤ 4611686018427387904) : Calls Try.prog 95 #[wideV z] W fun e w' => e = .returned (.int .i64 z) ∧ Below w0.heap.size w0 w' :=
  (number_any z W hz).mono fun _ _ ⟨he, hB⟩ => ⟨he, hW.trans (hB.mono hW.size)⟩
theorem below_st {w0 W W' : World} (h : Below w0.heap.size w0 W) (k : Below W.heap.size W W') : Below w0.heap.size w0 W' := h.trans (k.mono h.size)

theorem fr_end1 {w0 W : World} {g : Nat} {a b : Int} (h : Blk w0 g 23 #[.int .i64 a, .int .i64 b]) (hb : Below w0.heap.size w0 W) (n d : Int) :
    Blk ((W.setCell ⟨g, 0, none⟩ (.int .i64 n)).setCell ⟨g, 1, none⟩ (.int .i64 d)) g 23 #[.int .i64 n, .int .i64 d] := ((h.below hb h.lt).put 0 _).put 1 _
theorem fr_end2 {w w0 W : World} {g : Nat} (h : Below w.heap.size w w0) (hb : Below w0.heap.size w0 W) (hg : w.heap.size ≤ g) (n d : Int) :
    Below w.heap.size w ((W.setCell ⟨g, 0, none⟩ (.int .i64 n)).setCell ⟨g, 1, none⟩ (.int .i64 d)) := ((h.trans (hb.mono h.size)).setCell hg _).setCell hg _

set_option maxRecDepth 100000 in
set_option maxHeartbeats 2000000 in
/-- fraction: the fraction of two wide numbers, if both fit. -/
theorem fraction_any (n d : Int) (w : World) (hn : n.natAbs < 340282366920938463463374607431768211456) (hd : d.natAbs < 340282366920938463463374607431768211456) :
    Calls Try.prog 76 #[wideV n, wideV d] w fun e w' => e = .returned (RV (if n.natAbs ≤ 4611686018427387904 ∧ d.natAbs ≤ 4611686018427387904 then (n, d, 0) else (0, 0, 5))) ∧ Below w.heap.size w w' := by
  obtain ⟨ah, al, s, e1, e2, e3, e4, e5⟩ := wide_parts n hn
  obtain ⟨bh, bl, t, f1, f2, f3, f4, f5⟩ := wide_parts d hd
  have F1 := fun W => fits_any n W hn
  have F2 := fun W => fits_any d W hd
  have N1 := fun w0 W h => number_from w0 W h n
  have N2 := fun w0 W h => number_from w0 W h d
  rw [e1] at F1 N1
  rw [f1] at F2 N2
  rw [e1, f1]
  obtain ⟨r, hr⟩ : ∃ r : R3, (if n.natAbs ≤ 4611686018427387904 ∧ d.natAbs ≤ 4611686018427387904 then (n, d, 0) else (0, 0, 5)) = r := ⟨_, rfl⟩
  rw [hr]
  have HRR := Lib.hid hr
  have F1 := Lib.hid F1
  have F2 := Lib.hid F2
  have N1 := Lib.hid N1
  have N2 := Lib.hid N2
  clear hr e1 e2 e3 e4 e5 f1 f2 f3 f4 f5 hn hd
  go_enter Try.func76, Try.ntmps76
  go_wp2_with fail
  refine (F1.out _).mono ?_
  rintro e w1 ⟨rfl, hB1⟩
  obtain ⟨g, hg⟩ : ∃ g, w.heap.size = g := ⟨_, rfl⟩
  have hA : Blk w1 w.heap.size 71 #[.int .u64 ah, .int .u64 al, .bool s] := (((Blk.new w _ _).alloc _).alloc _).below hB1 (by simp; omega)
  have hB : Blk w1 (w.heap.size + 1) 71 #[.int .u64 bh, .int .u64 bl, .bool t] := by
    have := (Blk.new (w.alloc (.cells #[.int .u64 ah, .int .u64 al, .bool s] 71)) 71 #[.int .u64 bh, .int .u64 bl, .bool t]).alloc (.cells #[.int .i64 0, .int .i64 0] 23)
    rw [World.size_alloc] at this
    exact this.below hB1 (by simp)
  have hC : Blk w1 (w.heap.size + 1 + 1) 23 #[.int .i64 0, .int .i64 0] := by
    have := Blk.new ((w.alloc (.cells #[.int .u64 ah, .int .u64 al, .bool s] 71)).alloc (.cells #[.int .u64 bh, .int .u64 bl, .bool t] 71)) 23 #[.int .i64 0, .int .i64 0]
    rw [World.size_alloc, World.size_alloc] at this
    exact this.below hB1 (by simp)
  have hBel : Below w.heap.size w w1 := ((((Below.refl _ w).alloc (Nat.le_refl _) _).alloc (by simp) _).alloc (by simp; omega) _).trans (hB1.mono (by simp; omega))
  clear hg g hB1
  by_cases h1 : n.natAbs ≤ 4611686018427387904
  · rw [decide_eq_true h1]
    have H1 := Lib.hid h1
    obtain ⟨b0, b1, b2⟩ : w1.cell? ⟨w.heap.size + 1, 0, none⟩ = some (.int .u64 bh) ∧ w1.cell? ⟨w.heap.size + 1, 1, none⟩ = some (.int .u64 bl) ∧ w1.cell? ⟨w.heap.size + 1, 2, none⟩ = some (.bool t) := ⟨hB.cell 0, hB.cell 1, hB.cell 2⟩
    have HA := Lib.hid hA
    have HB := Lib.hid hB
    have HC := Lib.hid hC
    clear h1 hA hB hC
    go_wp2_with fail
    refine (F2.out _).mono ?_
    rintro e w2 ⟨rfl, hB2⟩
    have hA := HA.out.below hB2 HA.out.lt
    have hB := HB.out.below hB2 HB.out.lt
    have hC := HC.out.below hB2 HC.out.lt
    have hBel2 := hBel.trans (hB2.mono hBel.size)
    clear hBel hB2 b0 b1 b2
    obtain ⟨c0, c1, c2, c3⟩ := blk_fr hC
    have HC2 := Lib.hid hC
    clear hC
    by_cases h2 : d.natAbs ≤ 4611686018427387904
    · rw [decide_eq_true h2]
      have HR2 := Lib.hid (HRR.out.symm.trans (if_pos ⟨H1.out, h2⟩))
      obtain ⟨w0, rfl⟩ : ∃ w0 : World, w0 = w2 := ⟨_, rfl⟩
      have l1 := hA.lt
      have l2 := hB.lt
      have l3 := HC2.out.lt
      have keep : ∀ W : World, Below w0.heap.size w0 W → (W.cell? ⟨w.heap.size, 0, none⟩ = some (.int .u64 ah) ∧ W.cell? ⟨w.heap.size, 1, none⟩ = some (.int .u64 al) ∧ W.cell? ⟨w.heap.size, 2, none⟩ = some (.bool s) ∧ W.cell? ⟨w.heap.size + 1, 0, none⟩ = some (.int .u64 bh) ∧ W.cell? ⟨w.heap.size + 1, 1, none⟩ = some (.int .u64 bl) ∧ W.cell? ⟨w.heap.size + 1, 2, none⟩ = some (.bool t) ∧
          W.cell? ⟨w.heap.size + 1 + 1, 0, none⟩ = some (.int .i64 0) ∧ W.cell? ⟨w.heap.size + 1 + 1, 1, none⟩ = some (.int .i64 0) ∧ W.frozen? ⟨w.heap.size + 1 + 1, 0, none⟩ = false ∧ W.frozen? ⟨w.heap.size + 1 + 1, 1, none⟩ = false) ∧ Below w0.heap.size w0 W := fun W hW => by
        have x1 := hA.below hW l1
        have x2 := hB.below hW l2
        have x3 := HC2.out.below hW l3
        exact ⟨⟨x1.cell 0, x1.cell 1, x1.cell 2, x2.cell 0, x2.cell 1, x2.cell 2, x3.cell 0, x3.cell 1, x3.frozen 0, x3.frozen 1⟩, hW⟩
      have Keep := Lib.hid keep
      have h00 := Below.refl w0.heap.size w0
      have H2 := Lib.hid h2
      have N1o := fun W h => N1.out w0 W h H1.out
      have N2o := fun W h => N2.out w0 W h H2.out
      have N1o := Lib.hid N1o
      have N2o := Lib.hid N2o
      clear keep h2 hA hB l1 l2 l3 c0 c1 c2 c3
      obtain ⟨⟨k0, k1, k2, k3, k4, k5, k6, k7, k8, k9⟩, _⟩ := Keep.out w0 h00
      have h0d : Below w0.heap.size w0 w0.drew := h00.drew
      go_wp2
      go_region_with ((go_at_call 95; first | ((with_reducible refine (N1o.out _ (by with_reducible assumption)).mono ?_); rintro e w' ⟨rfl, hb⟩; obtain ⟨⟨k0, k1, k2, k3, k4, k5, k6, k7, k8, k9⟩, _⟩ := Keep.out _ hb) | ((with_reducible refine (N2o.out _ (by with_reducible assumption)).mono ?_); rintro e w' ⟨rfl, hb⟩; obtain ⟨⟨k0, k1, k2, k3, k4, k5, k6, k7, k8, k9⟩, _⟩ := Keep.out _ hb)))
      all_goals
        go_wp2
        exact ret_frac (p := 4) (q := 5) (by kernel_rfl) rfl rfl (fr_end1 HC2.out (by with_reducible assumption) _ _) ⟨by rw [HR2.out], fr_end2 hBel2 (by with_reducible assumption) (by omega) _ _⟩
    · rw [decide_eq_false h2]
      have HR2 := Lib.hid (HRR.out.symm.trans (if_neg (fun h => h2 h.2)))
      clear h2 hA hB
      go_wp2
      exact ret_frac (p := 4) (q := 5) (by kernel_rfl) rfl rfl ((HC2.out.put 0 (.int .i64 0)).put 1 (.int .i64 0)) ⟨by rw [← HR2.out], (hBel2.setCell (by simp; omega) _).setCell (by simp; omega) _⟩
  · rw [decide_eq_false h1]
    have HR2 := Lib.hid (HRR.out.symm.trans (if_neg (fun h => h1 h.1)))
    obtain ⟨c0, c1, c2, c3⟩ := blk_fr hC
    have HC2 := Lib.hid hC
    clear h1 hA hB hC
    go_wp2
    exact ret_frac (p := 4) (q := 5) (by kernel_rfl) rfl rfl ((HC2.out.put 0 (.int .i64 0)).put 1 (.int .i64 0)) ⟨by rw [← HR2.out], (hBel.setCell (by simp; omega) _).setCell (by simp; omega) _⟩

end Go.Proofs.Yteppamchbgnlfaa
