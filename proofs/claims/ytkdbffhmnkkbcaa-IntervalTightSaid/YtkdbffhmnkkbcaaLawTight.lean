/- The walk of IntervalTight. Conditions: numbers of 64 bits. -/
import Derived.Test.YtkdbffhmnkkbcaaTightM
import Derived.Test.YtkdbffhmnkkbcaaLives4
namespace Go.Proofs.Ytkdbffhmnkkbcaa
open Go.RowKit

theorem al4 {W V : World} {o1 o2 o3 o4 : Obj} (h : Below ((((W.alloc o1).alloc o2).alloc o3).alloc o4).heap.size ((((W.alloc o1).alloc o2).alloc o3).alloc o4) V) : Below W.heap.size W V :=
  below_st (pal_below (pal_below (pal_below (pal_below (Below.refl _ W) o1) o2) o3) o4) h
/-- Which ends were met among the first i results. -/
def Met (be ga : Bool) (z y : F2) (l : List F2) (i : Nat) : Prop := (be = true ↔ z ∈ l.take i) ∧ (ga = true ↔ y ∈ l.take i)
theorem Met.step {be ga : Bool} {z y x : F2} {l : List F2} {i : Nat} (h : Met be ga z y l i) (hx : l[i]? = some x) : Met (be || (x.1 == z.1 && x.2 == z.2)) (ga || (x.1 == y.1 && x.2 == y.2)) z y l (i + 1) := by
  obtain ⟨z1, z2⟩ := z
  obtain ⟨y1, y2⟩ := y
  obtain ⟨x1, x2⟩ := x
  unfold Met at *
  rw [List.take_add_one, hx]
  simp only [Option.toList_some, List.mem_append, List.mem_singleton, Bool.or_eq_true, Bool.and_eq_true, beq_iff_eq, Prod.mk.injEq]
  rw [h.1, h.2]
  exact ⟨or_congr Iff.rfl ⟨fun k => ⟨k.1.symm, k.2.symm⟩, fun k => ⟨k.1.symm, k.2.symm⟩⟩, or_congr Iff.rfl ⟨fun k => ⟨k.1.symm, k.2.symm⟩, fun k => ⟨k.1.symm, k.2.symm⟩⟩⟩
theorem Met.done {be ga : Bool} {z y : F2} {l : List F2} {i : Nat} (h : Met be ga z y l i) (hl : l.length ≤ i) (hz : z ∈ l) (hy : y ∈ l) : be = true ∧ ga = true := by
  unfold Met at h
  rw [List.take_of_length_le hl] at h
  exact ⟨h.1.2 hz, h.2.2 hy⟩

set_option maxRecDepth 100000 in
set_option maxHeartbeats 16000000 in
theorem law_tight (l0 l1 l2 l3 : Int) (w : World) (b0 : -9223372036854775808 ≤ l0 ∧ l0 ≤ 9223372036854775807) (b1 : -9223372036854775808 ≤ l1 ∧ l1 ≤ 9223372036854775807) (b2 : -9223372036854775808 ≤ l2 ∧ l2 ≤ 9223372036854775807) (b3 : -9223372036854775808 ≤ l3 ∧ l3 ≤ 9223372036854775807) :
    Calls Try.prog 9 #[.agg #[.int .i64 l0, .int .i64 l1, .int .i64 l2, .int .i64 l3]] w fun e w' => e = .returned (.bool true) ∧ Below w.heap.size w w' := by
  have S1 := Lib.hid (fun W => ismall_any l0 l1 W b0 b1)
  have S2 := Lib.hid (fun W => ismall_any l2 l3 W b2 b3)
  obtain ⟨hL, hW⟩ := start1 w 54 #[.int .i64 l0, .int .i64 l1, .int .i64 l2, .int .i64 l3]
  clear b0 b1 b2 b3
  go_enter Try.func9, Try.ntmps9
  go_wp2_with fail
  (with_reducible refine (S1.out _).mono ?_)
  rintro e u1 ⟨⟨a, b, c, d, rfl, hx⟩, hb⟩
  replace hL := hL.below hb hL.lt
  replace hW := below_st hW hb
  have L0 := hL.cell 0
  have L1 := hL.cell 1
  have L2 := hL.cell 2
  have L3 := hL.cell 3
  have zL := hL.lt
  clear hb S1
  have hX := Blk.new u1 25 #[.int .i64 a, .int .i64 b, .int .i64 c, .int .i64 d]
  replace hL := hL.alloc (.cells #[.int .i64 a, .int .i64 b, .int .i64 c, .int .i64 d] 25)
  replace hW := hW.alloc hW.size (.cells #[.int .i64 a, .int .i64 b, .int .i64 c, .int .i64 d] 25)
  go_wp2_with fail
  (with_reducible refine (S2.out _).mono ?_)
  rintro e u2 ⟨⟨a', b', c', d', rfl, hy⟩, hb⟩
  replace hL := hL.below hb hL.lt
  replace hX := hX.below hb hX.lt
  replace hW := below_st hW hb
  have L0 := hL.cell 0
  have L1 := hL.cell 1
  have L2 := hL.cell 2
  have L3 := hL.cell 3
  have zL := hL.lt
  have X0 := hX.cell 0
  have X1 := hX.cell 1
  have X2 := hX.cell 2
  have X3 := hX.cell 3
  have zX := hX.lt
  clear hb S2
  have hY := Blk.new u2 25 #[.int .i64 a', .int .i64 b', .int .i64 c', .int .i64 d']
  replace hL := hL.alloc (.cells #[.int .i64 a', .int .i64 b', .int .i64 c', .int .i64 d'] 25)
  replace hX := hX.alloc (.cells #[.int .i64 a', .int .i64 b', .int .i64 c', .int .i64 d'] 25)
  replace hW := hW.alloc hW.size (.cells #[.int .i64 a', .int .i64 b', .int .i64 c', .int .i64 d'] 25)
  have T := Lib.hid (tight_ops hx hy)
  clear hx hy
  go_wp2_with fail
  obtain ⟨wo, hwo⟩ : ∃ wo : World, u2.alloc (.cells #[.int .i64 a', .int .i64 b', .int .i64 c', .int .i64 d'] 25) = wo := ⟨_, rfl⟩
  rw [hwo] at hX hY hW ⊢
  obtain ⟨gX, hgX⟩ : ∃ g, u1.heap.size = g := ⟨_, rfl⟩
  obtain ⟨gY, hgY⟩ : ∃ g, u2.heap.size = g := ⟨_, rfl⟩
  rw [hgX] at hX ⊢
  rw [hgY] at hY ⊢
  clear hwo hgX hgY hL X0 X1 X2 X3 zX L0 L1 L2 L3 zL
  have HX := Lib.hid hX
  have HY := Lib.hid hY
  have HW := Lib.hid hW
  clear hX hY hW
  go_loopw [5] (fun ov wr => ∃ o : Nat, o ≤ 4 ∧ ov = .int .i64 o ∧ Below wo.heap.size wo wr) (fun ov _ => 4 - (intOf ov).toNat)
  case atStart => exact ⟨0, by omega, rfl, Below.refl _ _⟩
  case round =>
    obtain ⟨o, ho, rfl, hB⟩ := hrel
    have HB := Lib.hid hB
    have hX := HX.out.below hB HX.out.lt
    have hY := HY.out.below hB HY.out.lt
    clear hB
    by_cases ho4 : o < 4
    · obtain ⟨z1, z2, z3, z4, e, DO, hC⟩ := T.out o ho4
      have HC := Lib.hid hC
      replace DO := Lib.hid DO
      clear hC
      have ho4' : (o : Int) < 4 := by omega
      have X0 := hX.cell 0
      have X1 := hX.cell 1
      have X2 := hX.cell 2
      have X3 := hX.cell 3
      have zX := hX.lt
      have Y0 := hY.cell 0
      have Y1 := hY.cell 1
      have Y2 := hY.cell 2
      have Y3 := hY.cell 3
      have zY := hY.lt
      go_wp2_with fail
      (with_reducible refine (DO.out _).mono ?_)
      rintro r v1 ⟨rfl, hb⟩
      replace hX := hX.below hb hX.lt
      replace hY := hY.below hb hY.lt
      replace HB := Lib.hid (below_st HB.out hb)
      have hZ := Blk.new v1 25 #[.int .i64 z1, .int .i64 z2, .int .i64 z3, .int .i64 z4]
      replace hX := hX.alloc (.cells #[.int .i64 z1, .int .i64 z2, .int .i64 z3, .int .i64 z4] 25)
      replace hY := hY.alloc (.cells #[.int .i64 z1, .int .i64 z2, .int .i64 z3, .int .i64 z4] 25)
      replace HB := Lib.hid (HB.out.alloc HB.out.size (.cells #[.int .i64 z1, .int .i64 z2, .int .i64 z3, .int .i64 z4] 25))
      clear hb X0 X1 X2 X3 Y0 Y1 Y2 Y3 zX zY DO
      rcases HC.out with ⟨rfl, rfl⟩ | ⟨rfl, p0, q0, p1, q1, p2, q2, p3, q3, hm, A0, A1, A2, A3⟩
      · go_wp2_with fail
        go_roundw
        case rel => exact ⟨4, by omega, by go_num, HB.out⟩
        case measure => simp [intOf]
      · have HM := Lib.hid hm
        replace A0 := Lib.hid A0
        replace A1 := Lib.hid A1
        replace A2 := Lib.hid A2
        replace A3 := Lib.hid A3
        clear hm HC
        go_wp2_with fail
        obtain ⟨wz, hwz⟩ : ∃ wz : World, v1.alloc (.cells #[.int .i64 z1, .int .i64 z2, .int .i64 z3, .int .i64 z4] 25) = wz := ⟨_, rfl⟩
        rw [hwz] at hX hY hZ HB ⊢
        obtain ⟨gZ, hgZ⟩ : ∃ g, v1.heap.size = g := ⟨_, rfl⟩
        rw [hgZ] at hZ ⊢
        clear hwz hgZ
        have HXz := Lib.hid hX
        have HYz := Lib.hid hY
        have HZz := Lib.hid hZ
        have HBz := Lib.hid HB.out
        clear hX hY hZ HB
        go_loopw [8, 9, 10] (fun lv hv iv wi => ∃ (be ga : Bool) (i : Nat), i ≤ 4 ∧ lv = .bool be ∧ hv = .bool ga ∧ iv = .int .i64 i ∧ Met be ga (z1, z2) (z3, z4) [(p0, q0), (p1, q1), (p2, q2), (p3, q3)] i ∧ Below wz.heap.size wz wi) (fun _ _ iv _ => 4 - (intOf iv).toNat)
        case atStart => exact ⟨false, false, 0, by omega, rfl, rfl, rfl, by unfold Met; simp, Below.refl _ _⟩
        case round =>
          obtain ⟨be, ga, i, hi, rfl, rfl, rfl, hT, hB⟩ := hrel
          have HT := Lib.hid hT
          have hX := HXz.out.below hB HXz.out.lt
          have hY := HYz.out.below hB HYz.out.lt
          have hZ := HZz.out.below hB HZz.out.lt
          have HB := Lib.hid hB
          clear hB hT
          rcases (show i = 0 ∨ i = 1 ∨ i = 2 ∨ i = 3 ∨ i = 4 by omega) with rfl | rfl | rfl | rfl | rfl
          · cases be <;> cases ga
            all_goals
              have X0 := hX.cell 0
              have X1 := hX.cell 1
              have X2 := hX.cell 2
              have X3 := hX.cell 3
              have zX := hX.lt
              have Y0 := hY.cell 0
              have Y1 := hY.cell 1
              have Y2 := hY.cell 2
              have Y3 := hY.cell 3
              have zY := hY.lt
              have Z0 := hZ.cell 0
              have Z1 := hZ.cell 1
              have Z2 := hZ.cell 2
              have Z3 := hZ.cell 3
              have zZ := hZ.lt
              go_wp2_with fail
              (with_reducible refine (A0.out _).mono ?_)
              rintro r v2 ⟨rfl, hb⟩
              replace hb := al4 hb
              replace hZ := (hZ.below hb hZ.lt).alloc (.cells #[.int .i64 p0, .int .i64 q0] 23)
              have hC := Blk.new v2 23 #[.int .i64 p0, .int .i64 q0]
              replace HB := Lib.hid (pal_below (below_st HB.out hb) (.cells #[.int .i64 p0, .int .i64 q0] 23))
              clear hb X0 X1 X2 X3 Y0 Y1 Y2 Y3 Z0 Z1 Z2 Z3 zX zY zZ hX hY
              have C0 := hC.cell 0
              have C1 := hC.cell 1
              have zC := hC.lt
              have Z0 := hZ.cell 0
              have Z1 := hZ.cell 1
              have Z2 := hZ.cell 2
              have Z3 := hZ.cell 3
              have zZ := hZ.lt
              have FQ1 := fun W => feq_walk p0 q0 z1 z2 W
              have FQ2 := fun W => feq_walk p0 q0 z3 z4 W
              go_wp2_with fail
              go_roundw
              case rel => exact ⟨_, _, 0 + 1, by omega, rfl, rfl, by go_num, HT.out.step rfl, HB.out⟩
              case measure => simp [intOf]
          · cases be <;> cases ga
            all_goals
              have X0 := hX.cell 0
              have X1 := hX.cell 1
              have X2 := hX.cell 2
              have X3 := hX.cell 3
              have zX := hX.lt
              have Y0 := hY.cell 0
              have Y1 := hY.cell 1
              have Y2 := hY.cell 2
              have Y3 := hY.cell 3
              have zY := hY.lt
              have Z0 := hZ.cell 0
              have Z1 := hZ.cell 1
              have Z2 := hZ.cell 2
              have Z3 := hZ.cell 3
              have zZ := hZ.lt
              go_wp2_with fail
              (with_reducible refine (A1.out _).mono ?_)
              rintro r v2 ⟨rfl, hb⟩
              replace hb := al4 hb
              replace hZ := (hZ.below hb hZ.lt).alloc (.cells #[.int .i64 p1, .int .i64 q1] 23)
              have hC := Blk.new v2 23 #[.int .i64 p1, .int .i64 q1]
              replace HB := Lib.hid (pal_below (below_st HB.out hb) (.cells #[.int .i64 p1, .int .i64 q1] 23))
              clear hb X0 X1 X2 X3 Y0 Y1 Y2 Y3 Z0 Z1 Z2 Z3 zX zY zZ hX hY
              have C0 := hC.cell 0
              have C1 := hC.cell 1
              have zC := hC.lt
              have Z0 := hZ.cell 0
              have Z1 := hZ.cell 1
              have Z2 := hZ.cell 2
              have Z3 := hZ.cell 3
              have zZ := hZ.lt
              have FQ1 := fun W => feq_walk p1 q1 z1 z2 W
              have FQ2 := fun W => feq_walk p1 q1 z3 z4 W
              go_wp2_with fail
              go_roundw
              case rel => exact ⟨_, _, 1 + 1, by omega, rfl, rfl, by go_num, HT.out.step rfl, HB.out⟩
              case measure => simp [intOf]
          · cases be <;> cases ga
            all_goals
              have X0 := hX.cell 0
              have X1 := hX.cell 1
              have X2 := hX.cell 2
              have X3 := hX.cell 3
              have zX := hX.lt
              have Y0 := hY.cell 0
              have Y1 := hY.cell 1
              have Y2 := hY.cell 2
              have Y3 := hY.cell 3
              have zY := hY.lt
              have Z0 := hZ.cell 0
              have Z1 := hZ.cell 1
              have Z2 := hZ.cell 2
              have Z3 := hZ.cell 3
              have zZ := hZ.lt
              go_wp2_with fail
              (with_reducible refine (A2.out _).mono ?_)
              rintro r v2 ⟨rfl, hb⟩
              replace hb := al4 hb
              replace hZ := (hZ.below hb hZ.lt).alloc (.cells #[.int .i64 p2, .int .i64 q2] 23)
              have hC := Blk.new v2 23 #[.int .i64 p2, .int .i64 q2]
              replace HB := Lib.hid (pal_below (below_st HB.out hb) (.cells #[.int .i64 p2, .int .i64 q2] 23))
              clear hb X0 X1 X2 X3 Y0 Y1 Y2 Y3 Z0 Z1 Z2 Z3 zX zY zZ hX hY
              have C0 := hC.cell 0
              have C1 := hC.cell 1
              have zC := hC.lt
              have Z0 := hZ.cell 0
              have Z1 := hZ.cell 1
              have Z2 := hZ.cell 2
              have Z3 := hZ.cell 3
              have zZ := hZ.lt
              have FQ1 := fun W => feq_walk p2 q2 z1 z2 W
              have FQ2 := fun W => feq_walk p2 q2 z3 z4 W
              go_wp2_with fail
              go_roundw
              case rel => exact ⟨_, _, 2 + 1, by omega, rfl, rfl, by go_num, HT.out.step rfl, HB.out⟩
              case measure => simp [intOf]
          · cases be <;> cases ga
            all_goals
              have X0 := hX.cell 0
              have X1 := hX.cell 1
              have X2 := hX.cell 2
              have X3 := hX.cell 3
              have zX := hX.lt
              have Y0 := hY.cell 0
              have Y1 := hY.cell 1
              have Y2 := hY.cell 2
              have Y3 := hY.cell 3
              have zY := hY.lt
              have Z0 := hZ.cell 0
              have Z1 := hZ.cell 1
              have Z2 := hZ.cell 2
              have Z3 := hZ.cell 3
              have zZ := hZ.lt
              go_wp2_with fail
              (with_reducible refine (A3.out _).mono ?_)
              rintro r v2 ⟨rfl, hb⟩
              replace hb := al4 hb
              replace hZ := (hZ.below hb hZ.lt).alloc (.cells #[.int .i64 p3, .int .i64 q3] 23)
              have hC := Blk.new v2 23 #[.int .i64 p3, .int .i64 q3]
              replace HB := Lib.hid (pal_below (below_st HB.out hb) (.cells #[.int .i64 p3, .int .i64 q3] 23))
              clear hb X0 X1 X2 X3 Y0 Y1 Y2 Y3 Z0 Z1 Z2 Z3 zX zY zZ hX hY
              have C0 := hC.cell 0
              have C1 := hC.cell 1
              have zC := hC.lt
              have Z0 := hZ.cell 0
              have Z1 := hZ.cell 1
              have Z2 := hZ.cell 2
              have Z3 := hZ.cell 3
              have zZ := hZ.lt
              have FQ1 := fun W => feq_walk p3 q3 z1 z2 W
              have FQ2 := fun W => feq_walk p3 q3 z3 z4 W
              go_wp2_with fail
              go_roundw
              case rel => exact ⟨_, _, 3 + 1, by omega, rfl, rfl, by go_num, HT.out.step rfl, HB.out⟩
              case measure => simp [intOf]
          · obtain ⟨rfl, rfl⟩ := HT.out.done (by simp) HM.out.1 HM.out.2
            go_wp2_with fail
            go_roundw
            case rel => exact ⟨o + 1, by omega, by go_num, below_st HBz.out HB.out⟩
            case measure => simp [intOf]; omega
    · go_wp2_with fail
      refine (lives_any _).mono ?_
      rintro e v1 ⟨rfl, hb⟩
      have hW := below_st (below_st HW.out HB.out) hb
      go_wp2
      go_ret
      exact ⟨rfl, hW⟩
end Go.Proofs.Ytkdbffhmnkkbcaa
