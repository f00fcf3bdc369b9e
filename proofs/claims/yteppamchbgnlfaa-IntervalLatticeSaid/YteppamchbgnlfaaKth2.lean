/- Kth at the example of the chapter. Conditions: none. -/
import Derived.Test.YteppamchbgnlfaaSort
import Derived.Test.YteppamchbgnlfaaIv3
import Derived.Deep.CutBlock
namespace Go.Proofs.Yteppamchbgnlfaa
open Go.RowKit

/-- The two new rows and the result's place. -/
def K3 (w W : World) (g1 g2 : Nat) (s1 s2 : Array Value) : Prop := Blk W w.heap.size 25 #[.int .i64 0, .int .i64 0, .int .i64 0, .int .i64 0] ∧ Blk W g1 23 s1 ∧ Blk W g2 23 s2 ∧ ¬ g1 = g2 ∧ (w.heap.size < g1 ∧ w.heap.size < g2) ∧ Below w.heap.size w W
theorem K3.swap {w W : World} {g1 g2 : Nat} {s1 s2 : Array Value} (h : K3 w W g1 g2 s1 s2) : K3 w W g2 g1 s2 s1 := ⟨h.1, h.2.2.1, h.2.1, fun e => h.2.2.2.1 e.symm, ⟨h.2.2.2.2.1.2, h.2.2.2.2.1.1⟩, h.2.2.2.2.2⟩
theorem k3_start (w : World) (s : Array Value) : K3 w ((((w.alloc (.cells #[.int .i64 0, .int .i64 0, .int .i64 0, .int .i64 0] 25)).alloc (.cells s 23)).alloc (.cells s 23)).drew) (w.heap.size + 1) (w.heap.size + 1 + 1) s s := by
  obtain ⟨h1, h2, h3, h4⟩ := start3 w 25 #[.int .i64 0, .int .i64 0, .int .i64 0, .int .i64 0] 23 s 23 s
  exact ⟨h1.drew, h2.drew, h3.drew, by omega, by omega, h4.drew⟩
theorem K3.alloc {w W : World} {g1 g2 : Nat} {s1 s2 : Array Value} (h : K3 w W g1 g2 s1 s2) (o : Obj) : K3 w (W.alloc o) g1 g2 s1 s2 := ⟨h.1.alloc o, h.2.1.alloc o, h.2.2.1.alloc o, h.2.2.2.1, h.2.2.2.2.1, h.2.2.2.2.2.alloc h.2.2.2.2.2.size o⟩
theorem K3.below {w W W' : World} {g1 g2 : Nat} {s1 s2 : Array Value} (h : K3 w W g1 g2 s1 s2) (hB : Below W.heap.size W W') : K3 w W' g1 g2 s1 s2 := ⟨h.1.below hB h.1.lt, h.2.1.below hB h.2.1.lt, h.2.2.1.below hB h.2.2.1.lt, h.2.2.2.1, h.2.2.2.2.1, below_st h.2.2.2.2.2 hB⟩
theorem K3.app {w W : World} {g1 g2 : Nat} {s1 s2 : Array Value} (h : K3 w W g1 g2 s1 s2) (i j : Nat) (u v x y : Value) (o1 o2 : Obj) : K3 w (((((((W.setCell ⟨g1, i, none⟩ u).setCell ⟨g1, j, none⟩ v).setCell ⟨g2, i, none⟩ x).setCell ⟨g2, j, none⟩ y).alloc o1).alloc o2).drew) g1 g2 ((s1.setIfInBounds i u).setIfInBounds j v) ((s2.setIfInBounds i x).setIfInBounds j y) := by
  obtain ⟨hR, h1, h2, hn, ⟨hl1, hl2⟩, hW⟩ := h
  have n1 : ¬ w.heap.size = g1 := by omega
  have n2 : ¬ w.heap.size = g2 := by omega
  have n21 : ¬ g2 = g1 := fun e => hn e.symm
  have hW' := (((hW.setCell (p := ⟨g1, i, none⟩) (by show w.heap.size ≤ g1; omega) u).setCell (p := ⟨g1, j, none⟩) (by show w.heap.size ≤ g1; omega) v).setCell (p := ⟨g2, i, none⟩) (by show w.heap.size ≤ g2; omega) x).setCell (p := ⟨g2, j, none⟩) (by show w.heap.size ≤ g2; omega) y
  refine ⟨(((((((hR.far (p := ⟨g1, i, none⟩) n1 u).far (p := ⟨g1, j, none⟩) n1 v).far (p := ⟨g2, i, none⟩) n2 x).far (p := ⟨g2, j, none⟩) n2 y).alloc o1).alloc o2).drew), ((((((h1.put i u).put j v).far (p := ⟨g2, i, none⟩) hn x).far (p := ⟨g2, j, none⟩) hn y).alloc o1).alloc o2).drew, ((((((h2.far (p := ⟨g1, i, none⟩) n21 u).far (p := ⟨g1, j, none⟩) n21 v).put i x).put j y).alloc o1).alloc o2).drew, hn, ⟨hl1, hl2⟩, ?_⟩
  have k1 := hW'.alloc hW'.size o1
  exact (k1.alloc k1.size o2).drew
theorem srt2 {x y : F2} (h : leF x y) : Srt [x, y] [x, y].length := by
  intro p q u v h1 h2 hu hv
  have h3 : q < 2 := h2
  obtain rfl : p = 0 := by omega
  obtain rfl : q = 1 := by omega
  simp at hu hv
  subst hu
  subst hv
  exact h
theorem srt01 : Srt [((0 : Int), (1 : Int)), (1, 1)] [((0 : Int), (1 : Int)), (1, 1)].length := srt2 (by unfold leF; decide)
theorem srt29 : Srt [((2 : Int), (1 : Int)), (9, 1)] [((2 : Int), (1 : Int)), (9, 1)].length := srt2 (by unfold leF; decide)
theorem mk2 (w : World) : (Instr.makeSlice 40 (.int .i64 0) (.int .i64 2)).run Try.prog w = .ok (.slice (some ⟨w.heap.size, 0, none⟩) 0 2) (w.alloc (.cells #[.int .i64 0, .int .i64 0, .int .i64 0, .int .i64 0] 23)) := by kernel_rfl
set_option maxRecDepth 100000 in
set_option maxHeartbeats 8000000 in
theorem kth_live (b : Nat) (t : TypeId) (w : World) (hA : Blk w b t #[.int .i64 0, .int .i64 1, .int .i64 9, .int .i64 1, .int .i64 1, .int .i64 1, .int .i64 2, .int .i64 1]) :
    Calls Try.prog 20 #[.slice (some ⟨b, 0, none⟩) 2 2, .int .i64 2] w fun e w' => e = .returned (RI (1, 1, 9, 1, 0)) ∧ Below w.heap.size w w' := by
  have c0 := hA.cell 0
  have c1 := hA.cell 1
  have c2 := hA.cell 2
  have c3 := hA.cell 3
  have c4 := hA.cell 4
  have c5 := hA.cell 5
  have c6 := hA.cell 6
  have c7 := hA.cell 7
  have zA := hA.lt
  have HA := Lib.hid hA
  clear hA
  have MK := mk2
  go_enter Try.func20, Try.ntmps20
  go_upto_region 3 with fail
  go_cut [6, 7] (fun s6 s7 wx => ∃ g1 g2 : Nat, s6 = .slice (some ⟨g1, 0, none⟩) 0 2 ∧ s7 = .slice (some ⟨g2, 0, none⟩) 0 2 ∧ K3 w wx g1 g2 #[.int .i64 0, .int .i64 0, .int .i64 0, .int .i64 0] #[.int .i64 0, .int .i64 0, .int .i64 0, .int .i64 0])
  case first =>
    go_region
    all_goals
      go_wp2_with fail
      go_meet
    case rel => exact ⟨_, _, rfl, rfl, k3_start w _⟩
    case rel => exact ⟨_, _, rfl, rfl, (k3_start w _).swap⟩
  case rest =>
    obtain ⟨g1, g2, rfl, rfl, hk⟩ := hcut
    clear MK c0 c1 c2 c3 c4 c5 c6 c7 zA
    have hA := HA.out.below hk.2.2.2.2.2 HA.out.lt
    have c0 := hA.cell 0
    have c1 := hA.cell 1
    have c2 := hA.cell 2
    have c3 := hA.cell 3
    have zA := hA.lt
    have V0 := Lib.hid (ivalid_w (a := 0) (b := 1) (c := 9) (d := 1) (by unfold W2; decide) (by unfold W2; decide))
    have V1 := Lib.hid (ivalid_w (a := 1) (b := 1) (c := 2) (d := 1) (by unfold W2; decide) (by unfold W2; decide))
    go_wp2
    refine wp_loop_rounds 3 ?_
    rw [rounds_succ]
    go_upto_block 1 with fail
    have n12 := hk.2.2.2.1
    have n21 : ¬ g2 = g1 := fun e => n12 e.symm
    have hX := Blk.new wc 25 #[.int .i64 0, .int .i64 1, .int .i64 9, .int .i64 1]
    have hxg : wc.heap.size > g1 ∧ wc.heap.size > g2 := ⟨hk.2.1.lt, hk.2.2.1.lt⟩
    replace hk := hk.alloc (.cells #[.int .i64 0, .int .i64 1, .int .i64 9, .int .i64 1] 25)
    go_cut [6, 7] (fun s6 s7 wx => s6 = .slice (some ⟨g1, 0, none⟩) 1 2 ∧ s7 = .slice (some ⟨g2, 0, none⟩) 1 2 ∧ K3 w wx g1 g2 #[.int .i64 0, .int .i64 1, .int .i64 0, .int .i64 0] #[.int .i64 9, .int .i64 1, .int .i64 0, .int .i64 0])
    case first =>
      go_wp2_with fail
      (with_reducible refine (V0.out _).mono ?_)
      rintro e w1 ⟨rfl, hB⟩
      rw [show vIB 0 1 9 1 = true by decide]
      replace hX := hX.below hB hX.lt
      replace hk := hk.below hB
      clear hB c0 c1 c2 c3 zA hA
      have x0 := hX.cell 0
      have x1 := hX.cell 1
      have x2 := hX.cell 2
      have x3 := hX.cell 3
      have zx := hX.lt
      have a0 := hk.2.1.cell 0
      have a1 := hk.2.1.cell 1
      have a2 := hk.2.1.cell 2
      have a3 := hk.2.1.cell 3
      have fa := hk.2.1.frozen
      have za := hk.2.1.lt
      have b0 := hk.2.2.1.cell 0
      have b1 := hk.2.2.1.cell 1
      have b2 := hk.2.2.1.cell 2
      have b3 := hk.2.2.1.cell 3
      have fb := hk.2.2.1.frozen
      have zb := hk.2.2.1.lt
      have n1x : ¬ g1 = wc.heap.size := by omega
      have nx1 : ¬ wc.heap.size = g1 := by omega
      have n2x : ¬ g2 = wc.heap.size := by omega
      have nx2 : ¬ wc.heap.size = g2 := by omega
      have HK := Lib.hid hk
      clear hk hX
      go_wp2_with fail
      go_region
      all_goals
        go_wp2_with fail
        go_meet
      case rel => exact ⟨rfl, rfl, HK.out.app 0 1 _ _ _ _ _ _⟩
      case rel => exact ⟨rfl, rfl, HK.out.app 0 1 _ _ _ _ _ _⟩
    case rest =>
      clear hk hX hxg n12 n21 hA c0 c1 c2 c3 zA V0
      obtain ⟨rfl, rfl, hk⟩ := hcut
      obtain ⟨w5, hw5⟩ : ∃ w5 : World, w5 = wc := ⟨_, rfl⟩
      rw [← hw5] at hk ⊢
      clear hw5
      have hA := HA.out.below hk.2.2.2.2.2 HA.out.lt
      have c0 := hA.cell 4
      have c1 := hA.cell 5
      have c2 := hA.cell 6
      have c3 := hA.cell 7
      have zA := hA.lt
      go_wp2
      rw [rounds_succ]
      go_upto_block 1 with fail
      have n12 := hk.2.2.2.1
      have n21 : ¬ g2 = g1 := fun e => n12 e.symm
      have hX := Blk.new w5 25 #[.int .i64 1, .int .i64 1, .int .i64 2, .int .i64 1]
      have hxg : w5.heap.size > g1 ∧ w5.heap.size > g2 := ⟨hk.2.1.lt, hk.2.2.1.lt⟩
      replace hk := hk.alloc (.cells #[.int .i64 1, .int .i64 1, .int .i64 2, .int .i64 1] 25)
      go_cut [6, 7] (fun s6 s7 wx => s6 = .slice (some ⟨g1, 0, none⟩) 2 2 ∧ s7 = .slice (some ⟨g2, 0, none⟩) 2 2 ∧ K3 w wx g1 g2 #[.int .i64 0, .int .i64 1, .int .i64 1, .int .i64 1] #[.int .i64 9, .int .i64 1, .int .i64 2, .int .i64 1])
      case first =>
        go_wp2_with fail
        (with_reducible refine (V1.out _).mono ?_)
        rintro e w1 ⟨rfl, hB⟩
        rw [show vIB 1 1 2 1 = true by decide]
        replace hX := hX.below hB hX.lt
        replace hk := hk.below hB
        clear hB c0 c1 c2 c3 zA hA
        have x0 := hX.cell 0
        have x1 := hX.cell 1
        have x2 := hX.cell 2
        have x3 := hX.cell 3
        have zx := hX.lt
        have a0 := hk.2.1.cell 0
        have a1 := hk.2.1.cell 1
        have a2 := hk.2.1.cell 2
        have a3 := hk.2.1.cell 3
        have fa := hk.2.1.frozen
        have za := hk.2.1.lt
        have b0 := hk.2.2.1.cell 0
        have b1 := hk.2.2.1.cell 1
        have b2 := hk.2.2.1.cell 2
        have b3 := hk.2.2.1.cell 3
        have fb := hk.2.2.1.frozen
        have zb := hk.2.2.1.lt
        have n1x : ¬ g1 = w5.heap.size := by omega
        have nx1 : ¬ w5.heap.size = g1 := by omega
        have n2x : ¬ g2 = w5.heap.size := by omega
        have nx2 : ¬ w5.heap.size = g2 := by omega
        have HK := Lib.hid hk
        clear hk hX
        go_wp2_with fail
        go_region
        all_goals
          go_wp2_with fail
          go_meet
        case rel => exact ⟨rfl, rfl, HK.out.app 2 3 _ _ _ _ _ _⟩
        case rel => exact ⟨rfl, rfl, HK.out.app 2 3 _ _ _ _ _ _⟩
      case rest =>
        clear hk hX hxg n12 n21 hA c0 c1 c2 c3 zA V1
        obtain ⟨rfl, rfl, hk⟩ := hcut
        obtain ⟨w6, hw6⟩ : ∃ w6 : World, w6 = wc := ⟨_, rfl⟩
        rw [← hw6] at hk ⊢
        clear hw6
        have v1 : VL [(0, 1), (1, 1)] := by
          intro x hx
          simp only [List.mem_cons, List.not_mem_nil, or_false] at hx
          rcases hx with rfl | rfl <;> decide
        have v2 : VL [(9, 1), (2, 1)] := by
          intro x hx
          simp only [List.mem_cons, List.not_mem_nil, or_false] at hx
          rcases hx with rfl | rfl <;> decide
        have S1 := Lib.hid (sort_any [(0, 1), (1, 1)] v1 (by decide) g1 23 2 2 rfl w6 hk.2.1)
        have hk6 := Lib.hid hk
        clear hk
        go_wp2
        rw [rounds_succ]
        go_wp2_with fail
        (with_reducible refine S1.out.mono ?_)
        rintro e w7 ⟨rfl, m1, hp1, hs1, hA1, hX1⟩
        have e1 : m1 = [(0, 1), (1, 1)] := srt_unique m1 _ hp1 (v1.perm hp1) (by rw [hp1.length_eq]; exact hs1) srt01
        subst e1
        have hk := hk6.out
        have hA2 := hX1.blk hk.2.2.1.lt (fun e => hk.2.2.2.1 e.symm) hk.2.2.1
        have hR := hX1.blk hk.1.lt (by have := hk.2.2.2.2.1; omega) hk.1
        have hW := hk.2.2.2.2.2.trans (hX1.to (C := w.heap.size) hk.2.2.2.2.2.size (by have := hk.2.2.2.2.1; omega))
        have l1 := hk.2.2.2.2.1
        have n12 := hk.2.2.2.1
        have z1 := hA1.lt
        have S2 := Lib.hid (sort_any [(9, 1), (2, 1)] v2 (by decide) g2 23 2 2 rfl w7 hA2)
        have HQ := Lib.hid (And.intro hA1 (And.intro hR hW))
        clear hk hk6 hX1 hA1 hA2 hR hW hp1 hs1
        go_wp2_with fail
        (with_reducible refine S2.out.mono ?_)
        rintro e w8 ⟨rfl, m2, hp2, hs2, hA2, hX2⟩
        have e2 : m2 = [(2, 1), (9, 1)] := srt_unique m2 _ (hp2.trans (List.Perm.swap _ _ _)) (v2.perm hp2) (by rw [hp2.length_eq]; exact hs2) srt29
        subst e2
        have hA1 := hX2.blk HQ.out.1.lt n12 HQ.out.1
        have hR := hX2.blk HQ.out.2.1.lt (by omega) HQ.out.2.1
        have hW := HQ.out.2.2.trans (hX2.to (C := w.heap.size) HQ.out.2.2.size (by omega))
        have a2 := hA1.cell 2
        have a3 := hA1.cell 3
        have b2 := hA2.cell 2
        have b3 := hA2.cell 3
        have r0 := hR.cell 0
        have r1 := hR.cell 1
        have r2 := hR.cell 2
        have r3 := hR.cell 3
        have fr := hR.frozen
        have g1w : ¬ g1 = w.heap.size := by omega
        have g2w : ¬ g2 = w.heap.size := by omega
        have HR := Lib.hid (And.intro hR hW)
        clear hA1 hA2 hX2 hR hW hp2 hs2 S1 S2 HQ v1 v2
        unfold flat flatL at a2 a3 b2 b3
        simp at a2 a3 b2 b3
        go_wp2
        go_region
        all_goals
          go_wp2
          exact ret_iv (p := 4) (q := 5) (by kernel_rfl) rfl rfl (put4 HR.out.1 HR.out.2 (Nat.le_refl _) 1 1 9 1).1.drew ⟨rfl, (put4 HR.out.1 HR.out.2 (Nat.le_refl _) 1 1 9 1).2.drew⟩
end Go.Proofs.Yteppamchbgnlfaa
