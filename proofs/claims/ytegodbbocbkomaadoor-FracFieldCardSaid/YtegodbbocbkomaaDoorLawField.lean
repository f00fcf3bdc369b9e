/- The law FracField holds. Conditions: the variables as laid; numbers of 64 bits. -/
import Derived.Test.YtegodbbocbkomaaDoorField3
import Derived.Test.YtegodbbocbkomaaDoorLawOrder
namespace Go.Proofs.YtegodbbocbkomaaDoor
open Go.RowKit

theorem add_at {an ad bn bd r1 r2 : Int} (ha : vP an ad) (hb : vP bn bd) (h : addR an ad bn bd = (r1, r2, 0)) (W : World) :
    Calls Tryd.prog 17 #[.agg #[.int .i64 an, .int .i64 ad], .agg #[.int .i64 bn, .int .i64 bd]] W fun e w' => e = .returned (.tuple #[.agg #[.int .i64 r1, .int .i64 r2], .int .i64 0]) ∧ Below W.heap.size W w' := by
  have := add_any an ad bn bd W (vP64 ha).1.1 (vP64 ha).1.2 (vP64 ha).2.1 (vP64 ha).2.2 (vP64 hb).1.1 (vP64 hb).1.2 (vP64 hb).2.1 (vP64 hb).2.2
  rw [h] at this; exact this
theorem sub_at {an ad bn bd r1 r2 : Int} (ha : vP an ad) (hb : vP bn bd) (h : subR an ad bn bd = (r1, r2, 0)) (W : World) :
    Calls Tryd.prog 18 #[.agg #[.int .i64 an, .int .i64 ad], .agg #[.int .i64 bn, .int .i64 bd]] W fun e w' => e = .returned (.tuple #[.agg #[.int .i64 r1, .int .i64 r2], .int .i64 0]) ∧ Below W.heap.size W w' := by
  have := sub_any an ad bn bd W (vP64 ha).1.1 (vP64 ha).1.2 (vP64 ha).2.1 (vP64 ha).2.2 (vP64 hb).1.1 (vP64 hb).1.2 (vP64 hb).2.1 (vP64 hb).2.2
  rw [h] at this; exact this
theorem mul_at {an ad bn bd r1 r2 : Int} (ha : vP an ad) (hb : vP bn bd) (h : mulR an ad bn bd = (r1, r2, 0)) (W : World) :
    Calls Tryd.prog 21 #[.agg #[.int .i64 an, .int .i64 ad], .agg #[.int .i64 bn, .int .i64 bd]] W fun e w' => e = .returned (.tuple #[.agg #[.int .i64 r1, .int .i64 r2], .int .i64 0]) ∧ Below W.heap.size W w' := by
  have := mul_any an ad bn bd W (vP64 ha).1.1 (vP64 ha).1.2 (vP64 ha).2.1 (vP64 ha).2.2 (vP64 hb).1.1 (vP64 hb).1.2 (vP64 hb).2.1 (vP64 hb).2.2
  rw [h] at this; exact this
theorem div_at {an ad bn bd r1 r2 r3 : Int} (ha : vP an ad) (hb : vP bn bd) (h : divR an ad bn bd = (r1, r2, r3)) (W : World) :
    Calls Tryd.prog 22 #[.agg #[.int .i64 an, .int .i64 ad], .agg #[.int .i64 bn, .int .i64 bd]] W fun e w' => e = .returned (.tuple #[.agg #[.int .i64 r1, .int .i64 r2], .int .i64 r3]) ∧ Below W.heap.size W w' := by
  have := div_any an ad bn bd W (vP64 ha).1.1 (vP64 ha).1.2 (vP64 ha).2.1 (vP64 ha).2.2 (vP64 hb).1.1 (vP64 hb).1.2 (vP64 hb).2.1 (vP64 hb).2.2
  rw [h] at this; exact this

set_option maxRecDepth 100000 in
set_option maxHeartbeats 16000000 in
theorem law_field (p q r : Int) (w : World) (i0 : -9223372036854775808 ≤ p) (i1 : p ≤ 9223372036854775807) (i2 : -9223372036854775808 ≤ q) (i3 : q ≤ 9223372036854775807) (i4 : -9223372036854775808 ≤ r) (i5 : r ≤ 9223372036854775807) (hE : Env w) :
    Calls Tryd.prog 9 #[.int .i64 p, .int .i64 q, .int .i64 r] w fun e w' => e = .returned (.bool true) ∧ Below w.heap.size w w' := by
  have M1 := Lib.hid (fun W => middle_any p W i0 i1)
  have M2 := Lib.hid (fun W => middle_any q W i2 i3)
  have M3 := Lib.hid (fun W => middle_any r W i4 i5)
  have OP := Lib.hid (fun n d W => op_any n d W)
  clear i0 i1 i2 i3 i4 i5
  go_enter Tryd.func9, Tryd.ntmps9
  go_wp2_with fail
  refine (M1.out _).mono ?_
  rintro e w1 ⟨⟨an, ad, rfl, va, a5, a6⟩, hB⟩
  have hF : Frs w1 [] := fun x hx => by cases hx
  have hW := hB
  clear hB
  replace hF := hF.new an ad
  replace hW := hW.alloc hW.size (.cells #[.int .i64 an, .int .i64 ad] 23)
  go_wp2_with fail
  refine (M2.out _).mono ?_
  rintro e w2 ⟨⟨bn, bd, rfl, vb, b5, b6⟩, hB⟩
  replace hF := hF.below hB
  replace hW := below_st hW hB
  clear hB
  have Lb := (hF.get (g := w1.heap.size) (n := an) (d := ad) (by simp)).2.2
  have Bb := hW.size
  replace hF := hF.new bn bd
  replace hW := hW.alloc hW.size (.cells #[.int .i64 bn, .int .i64 bd] 23)
  go_wp2_with fail
  refine (M3.out _).mono ?_
  rintro e w3 ⟨⟨cn, cd, rfl, vc, c5, c6⟩, hB⟩
  replace hF := hF.below hB
  replace hW := below_st hW hB
  clear hB
  obtain ⟨p1, p2, q1, q2, x1, x2, m1, m2, n1, n2, s1, s2, u1, u2, vp, vq, vm, vn, e1, e2, e3, e4, e5, e6, e7, e8, e9, e10, e11, e12⟩ := field_math va vb vc a5 a6 b5 b6 c5 c6
  have T1 := Lib.hid (add_at va vb e1)
  have T2 := Lib.hid (add_at vb vc e2)
  have T3 := Lib.hid (add_at vp vc e3)
  have T4 := Lib.hid (add_at va vq e4)
  have T5 := Lib.hid (mul_at va vb e5)
  have T6 := Lib.hid (mul_at va vc e6)
  have T7 := Lib.hid (mul_at va vq e7)
  have T8 := Lib.hid (add_at vm vn e8)
  have T9 := Lib.hid (mul_at vm vc e9)
  have T10 := Lib.hid (mul_at vn vb e10)
  have T11 := Lib.hid (sub_at vp vb e11)
  have E12 := Lib.hid e12
  have VM := Lib.hid vm
  have VB := Lib.hid vb
  clear e1 e2 e3 e4 e5 e6 e7 e8 e9 e10 e11 e12 va vb vc vp vq vm vn a5 a6 b5 b6 c5 c6 M1 M2 M3
  obtain ⟨c3a0, c3a1, z3a⟩ := hF.get (g := w1.heap.size) (n := an) (d := ad) (by simp)
  obtain ⟨c3b0, c3b1, z3b⟩ := hF.get (g := w2.heap.size) (n := bn) (d := bd) (by simp)
  have Lc := (hF.get (g := w2.heap.size) (n := bn) (d := bd) (by simp)).2.2
  have Bc := hW.size
  replace hF := hF.new cn cd
  replace hW := hW.alloc hW.size (.cells #[.int .i64 cn, .int .i64 cd] 23)
  go_wp2_with fail
  refine (T1.out _).mono ?_
  rintro e w4 ⟨rfl, hB⟩
  replace hF := hF.below hB
  replace hW := below_st hW hB
  clear hB T1
  clear c3a0 c3a1 z3a c3b0 c3b1 z3b
  go_wp2_with fail
  refine (OP.out _ _ _).mono ?_
  rintro e w5 ⟨rfl, hB⟩
  replace hF := hF.below hB
  replace hW := below_st hW hB
  clear hB
  obtain ⟨c5b0, c5b1, z5b⟩ := hF.get (g := w2.heap.size) (n := bn) (d := bd) (by simp)
  obtain ⟨c5c0, c5c1, z5c⟩ := hF.get (g := w3.heap.size) (n := cn) (d := cd) (by simp)
  have Lp := (hF.get (g := w3.heap.size) (n := cn) (d := cd) (by simp)).2.2
  have Bp := hW.size
  replace hF := hF.new p1 p2
  replace hW := hW.alloc hW.size (.cells #[.int .i64 p1, .int .i64 p2] 23)
  go_wp2_with fail
  refine (T2.out _).mono ?_
  rintro e w6 ⟨rfl, hB⟩
  replace hF := hF.below hB
  replace hW := below_st hW hB
  clear hB T2
  clear c5b0 c5b1 z5b c5c0 c5c1 z5c
  go_wp2_with fail
  refine (OP.out _ _ _).mono ?_
  rintro e w7 ⟨rfl, hB⟩
  replace hF := hF.below hB
  replace hW := below_st hW hB
  clear hB
  obtain ⟨c7p0, c7p1, z7p⟩ := hF.get (g := w5.heap.size) (n := p1) (d := p2) (by simp)
  obtain ⟨c7c0, c7c1, z7c⟩ := hF.get (g := w3.heap.size) (n := cn) (d := cd) (by simp)
  have Lq := (hF.get (g := w5.heap.size) (n := p1) (d := p2) (by simp)).2.2
  have Bq := hW.size
  replace hF := hF.new q1 q2
  replace hW := hW.alloc hW.size (.cells #[.int .i64 q1, .int .i64 q2] 23)
  go_wp2_with fail
  refine (T3.out _).mono ?_
  rintro e w8 ⟨rfl, hB⟩
  replace hF := hF.below hB
  replace hW := below_st hW hB
  clear hB T3
  clear c7p0 c7p1 z7p c7c0 c7c1 z7c
  go_wp2_with fail
  refine (OP.out _ _ _).mono ?_
  rintro e w9 ⟨rfl, hB⟩
  replace hF := hF.below hB
  replace hW := below_st hW hB
  clear hB
  obtain ⟨c9a0, c9a1, z9a⟩ := hF.get (g := w1.heap.size) (n := an) (d := ad) (by simp)
  obtain ⟨c9q0, c9q1, z9q⟩ := hF.get (g := w7.heap.size) (n := q1) (d := q2) (by simp)
  have Lx := (hF.get (g := w7.heap.size) (n := q1) (d := q2) (by simp)).2.2
  have Bx := hW.size
  replace hF := hF.new x1 x2
  replace hW := hW.alloc hW.size (.cells #[.int .i64 x1, .int .i64 x2] 23)
  go_wp2_with fail
  refine (T4.out _).mono ?_
  rintro e w10 ⟨rfl, hB⟩
  replace hF := hF.below hB
  replace hW := below_st hW hB
  clear hB T4
  clear c9a0 c9a1 z9a c9q0 c9q1 z9q
  go_wp2_with fail
  refine (OP.out _ _ _).mono ?_
  rintro e w11 ⟨rfl, hB⟩
  replace hF := hF.below hB
  replace hW := below_st hW hB
  clear hB
  obtain ⟨c11x0, c11x1, z11x⟩ := hF.get (g := w9.heap.size) (n := x1) (d := x2) (by simp)
  obtain ⟨c11a0, c11a1, z11a⟩ := hF.get (g := w1.heap.size) (n := an) (d := ad) (by simp)
  obtain ⟨c11b0, c11b1, z11b⟩ := hF.get (g := w2.heap.size) (n := bn) (d := bd) (by simp)
  have Ly := (hF.get (g := w9.heap.size) (n := x1) (d := x2) (by simp)).2.2
  have By := hW.size
  replace hF := hF.new x1 x2
  replace hW := hW.alloc hW.size (.cells #[.int .i64 x1, .int .i64 x2] 23)
  go_wp2_with fail
  refine (T5.out _).mono ?_
  rintro e w12 ⟨rfl, hB⟩
  replace hF := hF.below hB
  replace hW := below_st hW hB
  clear hB T5
  clear c11x0 c11x1 z11x c11a0 c11a1 z11a c11b0 c11b1 z11b
  go_wp2_with fail
  refine (OP.out _ _ _).mono ?_
  rintro e w13 ⟨rfl, hB⟩
  replace hF := hF.below hB
  replace hW := below_st hW hB
  clear hB
  obtain ⟨c13a0, c13a1, z13a⟩ := hF.get (g := w1.heap.size) (n := an) (d := ad) (by simp)
  obtain ⟨c13c0, c13c1, z13c⟩ := hF.get (g := w3.heap.size) (n := cn) (d := cd) (by simp)
  have Lm := (hF.get (g := w11.heap.size) (n := x1) (d := x2) (by simp)).2.2
  have Bm := hW.size
  replace hF := hF.new m1 m2
  replace hW := hW.alloc hW.size (.cells #[.int .i64 m1, .int .i64 m2] 23)
  go_wp2_with fail
  refine (T6.out _).mono ?_
  rintro e w14 ⟨rfl, hB⟩
  replace hF := hF.below hB
  replace hW := below_st hW hB
  clear hB T6
  clear c13a0 c13a1 z13a c13c0 c13c1 z13c
  go_wp2_with fail
  refine (OP.out _ _ _).mono ?_
  rintro e w15 ⟨rfl, hB⟩
  replace hF := hF.below hB
  replace hW := below_st hW hB
  clear hB
  obtain ⟨c15a0, c15a1, z15a⟩ := hF.get (g := w1.heap.size) (n := an) (d := ad) (by simp)
  obtain ⟨c15q0, c15q1, z15q⟩ := hF.get (g := w7.heap.size) (n := q1) (d := q2) (by simp)
  obtain ⟨c15x0, c15x1, z15x⟩ := hF.get (g := w9.heap.size) (n := x1) (d := x2) (by simp)
  have Ln := (hF.get (g := w13.heap.size) (n := m1) (d := m2) (by simp)).2.2
  have Bn := hW.size
  replace hF := hF.new n1 n2
  replace hW := hW.alloc hW.size (.cells #[.int .i64 n1, .int .i64 n2] 23)
  go_wp2_with fail
  refine (T7.out _).mono ?_
  rintro e w16 ⟨rfl, hB⟩
  replace hF := hF.below hB
  replace hW := below_st hW hB
  clear hB T7
  clear c15a0 c15a1 z15a c15q0 c15q1 z15q c15x0 c15x1 z15x
  go_wp2_with fail
  refine (OP.out _ _ _).mono ?_
  rintro e w17 ⟨rfl, hB⟩
  replace hF := hF.below hB
  replace hW := below_st hW hB
  clear hB
  obtain ⟨c17m0, c17m1, z17m⟩ := hF.get (g := w13.heap.size) (n := m1) (d := m2) (by simp)
  obtain ⟨c17n0, c17n1, z17n⟩ := hF.get (g := w15.heap.size) (n := n1) (d := n2) (by simp)
  obtain ⟨c17y0, c17y1, z17y⟩ := hF.get (g := w11.heap.size) (n := x1) (d := x2) (by simp)
  obtain ⟨c17x0, c17x1, z17x⟩ := hF.get (g := w9.heap.size) (n := x1) (d := x2) (by simp)
  obtain ⟨fz17, fy17⟩ := hF.fr (g := w9.heap.size) (n := x1) (d := x2) (by simp)
  have n17m : ¬ w9.heap.size = w13.heap.size := by omega
  have m17m : ¬ w13.heap.size = w9.heap.size := by omega
  have n17n : ¬ w9.heap.size = w15.heap.size := by omega
  have m17n : ¬ w15.heap.size = w9.heap.size := by omega
  have n17y : ¬ w9.heap.size = w11.heap.size := by omega
  have m17y : ¬ w11.heap.size = w9.heap.size := by omega
  replace hF := hF.put2 (g := w9.heap.size) (n := x1) (d := x2) (by simp) s1 s2 [(w15.heap.size, n1, n2), (w13.heap.size, m1, m2), (w11.heap.size, x1, x2), (w9.heap.size, s1, s2), (w7.heap.size, q1, q2), (w5.heap.size, p1, p2), (w3.heap.size, cn, cd), (w2.heap.size, bn, bd), (w1.heap.size, an, ad)] (by
    intro x hx
    simp only [List.mem_cons, List.not_mem_nil, or_false] at hx
    rcases hx with rfl | rfl | rfl | rfl | rfl | rfl | rfl | rfl | rfl <;> first | exact Or.inl rfl | exact Or.inr ⟨by simp, by show ¬ _ = _; omega⟩)
  have hW := (hW.setCell (p := ⟨w9.heap.size, 0, none⟩) Bx (.int .i64 s1)).setCell (p := ⟨w9.heap.size, 1, none⟩) Bx (.int .i64 s2)

  -- 17
  go_wp2_with fail
  refine (T8.out _).mono ?_
  rintro e w18 ⟨rfl, hB⟩
  replace hF := hF.below hB
  replace hW := below_st hW hB
  clear hB T8
  clear c17m0 c17m1 z17m c17n0 c17n1 z17n c17y0 c17y1 z17y c17x0 c17x1 z17x
  go_wp2_with fail
  refine (OP.out _ _ _).mono ?_
  rintro e w19 ⟨rfl, hB⟩
  replace hF := hF.below hB
  replace hW := below_st hW hB
  clear hB
  obtain ⟨c19x0, c19x1, z19x⟩ := hF.get (g := w9.heap.size) (n := s1) (d := s2) (by simp)
  obtain ⟨c19m0, c19m1, z19m⟩ := hF.get (g := w13.heap.size) (n := m1) (d := m2) (by simp)
  obtain ⟨c19c0, c19c1, z19c⟩ := hF.get (g := w3.heap.size) (n := cn) (d := cd) (by simp)
  obtain ⟨c19y0, c19y1, z19y⟩ := hF.get (g := w11.heap.size) (n := x1) (d := x2) (by simp)
  obtain ⟨fz19, fy19⟩ := hF.fr (g := w11.heap.size) (n := x1) (d := x2) (by simp)
  have n19x : ¬ w11.heap.size = w9.heap.size := by omega
  have m19x : ¬ w9.heap.size = w11.heap.size := by omega
  have n19m : ¬ w11.heap.size = w13.heap.size := by omega
  have m19m : ¬ w13.heap.size = w11.heap.size := by omega
  have n19c : ¬ w11.heap.size = w3.heap.size := by omega
  have m19c : ¬ w3.heap.size = w11.heap.size := by omega
  replace hF := hF.put2 (g := w11.heap.size) (n := x1) (d := x2) (by simp) s1 s2 [(w15.heap.size, n1, n2), (w13.heap.size, m1, m2), (w11.heap.size, s1, s2), (w9.heap.size, s1, s2), (w7.heap.size, q1, q2), (w5.heap.size, p1, p2), (w3.heap.size, cn, cd), (w2.heap.size, bn, bd), (w1.heap.size, an, ad)] (by
    intro x hx
    simp only [List.mem_cons, List.not_mem_nil, or_false] at hx
    rcases hx with rfl | rfl | rfl | rfl | rfl | rfl | rfl | rfl | rfl <;> first | exact Or.inl rfl | exact Or.inr ⟨by simp, by show ¬ _ = _; omega⟩)
  have hW := (hW.setCell (p := ⟨w11.heap.size, 0, none⟩) By (.int .i64 s1)).setCell (p := ⟨w11.heap.size, 1, none⟩) By (.int .i64 s2)

  -- 19
  go_wp2_with fail
  refine (T9.out _).mono ?_
  rintro e w20 ⟨rfl, hB⟩
  replace hF := hF.below hB
  replace hW := below_st hW hB
  clear hB T9
  clear c19x0 c19x1 z19x c19m0 c19m1 z19m c19c0 c19c1 z19c c19y0 c19y1 z19y
  go_wp2_with fail
  refine (OP.out _ _ _).mono ?_
  rintro e w21 ⟨rfl, hB⟩
  replace hF := hF.below hB
  replace hW := below_st hW hB
  clear hB
  obtain ⟨c21n0, c21n1, z21n⟩ := hF.get (g := w15.heap.size) (n := n1) (d := n2) (by simp)
  obtain ⟨c21b0, c21b1, z21b⟩ := hF.get (g := w2.heap.size) (n := bn) (d := bd) (by simp)
  have Lu := (hF.get (g := w15.heap.size) (n := n1) (d := n2) (by simp)).2.2
  have Bu := hW.size
  replace hF := hF.new u1 u2
  replace hW := hW.alloc hW.size (.cells #[.int .i64 u1, .int .i64 u2] 23)
  go_wp2_with fail
  refine (T10.out _).mono ?_
  rintro e w22 ⟨rfl, hB⟩
  replace hF := hF.below hB
  replace hW := below_st hW hB
  clear hB T10
  clear c21n0 c21n1 z21n c21b0 c21b1 z21b
  go_wp2_with fail
  refine (OP.out _ _ _).mono ?_
  rintro e w23 ⟨rfl, hB⟩
  replace hF := hF.below hB
  replace hW := below_st hW hB
  clear hB
  obtain ⟨c23p0, c23p1, z23p⟩ := hF.get (g := w5.heap.size) (n := p1) (d := p2) (by simp)
  obtain ⟨c23b0, c23b1, z23b⟩ := hF.get (g := w2.heap.size) (n := bn) (d := bd) (by simp)
  have Lv := (hF.get (g := w21.heap.size) (n := u1) (d := u2) (by simp)).2.2
  have Bv := hW.size
  replace hF := hF.new u1 u2
  replace hW := hW.alloc hW.size (.cells #[.int .i64 u1, .int .i64 u2] 23)
  go_wp2_with fail
  refine (T11.out _).mono ?_
  rintro e w24 ⟨rfl, hB⟩
  replace hF := hF.below hB
  replace hW := below_st hW hB
  clear hB T11
  clear c23p0 c23p1 z23p c23b0 c23b1 z23b
  go_wp2_with fail
  refine (OP.out _ _ _).mono ?_
  rintro e w25 ⟨rfl, hB⟩
  replace hF := hF.below hB
  replace hW := below_st hW hB
  clear hB
  obtain ⟨c25u0, c25u1, z25u⟩ := hF.get (g := w21.heap.size) (n := u1) (d := u2) (by simp)
  obtain ⟨c25v0, c25v1, z25v⟩ := hF.get (g := w23.heap.size) (n := u1) (d := u2) (by simp)
  obtain ⟨c25a0, c25a1, z25a⟩ := hF.get (g := w1.heap.size) (n := an) (d := ad) (by simp)
  obtain ⟨c25m0, c25m1, z25m⟩ := hF.get (g := w13.heap.size) (n := m1) (d := m2) (by simp)
  obtain ⟨c25b0, c25b1, z25b⟩ := hF.get (g := w2.heap.size) (n := bn) (d := bd) (by simp)
  have Lk := (hF.get (g := w23.heap.size) (n := u1) (d := u2) (by simp)).2.2
  have Bk := hW.size
  replace hF := hF.new an ad
  replace hW := hW.alloc hW.size (.cells #[.int .i64 an, .int .i64 ad] 23)
  have LV := Lib.hid (fun W (h : Below w.heap.size w W) => lives_any W (hE.below h))
  clear hE
  by_cases hb0 : bn = 0
  · have e := E12.out
    rw [if_pos hb0] at e
    have D := Lib.hid (div_at VM.out VB.out e)
    clear e E12 VM VB
    subst hb0
    go_wp2_with fail
    refine (D.out _).mono ?_
    rintro e w26 ⟨rfl, hB⟩
    replace hF := hF.below hB
    replace hW := below_st hW hB
    clear hB D
    clear c25u0 c25u1 z25u c25v0 c25v1 z25v c25a0 c25a1 z25a c25m0 c25m1 z25m c25b0 c25b1 z25b
    obtain ⟨cza0, cza1, zza⟩ := hF.get (g := w1.heap.size) (n := an) (d := ad) (by simp)
    obtain ⟨czb0, czb1, zzb⟩ := hF.get (g := w2.heap.size) (n := 0) (d := bd) (by simp)
    replace hW := hW.alloc hW.size (.cells #[.int .i64 0, .int .i64 0] 23)
    have HW0 := Lib.hid hW
    clear hW hF Lb Bb Lc Bc Lp Bp Lq Bq Lx Bx Ly By Lm Bm Ln Bn n17m m17m n17n m17n n17y m17y n19x m19x n19m m19m n19c m19c Lu Bu Lv Bv Lk Bk fz17 fy17 fz19 fy19 OP
    go_wp2_with fail
    refine (LV.out _ HW0.out).mono ?_
    rintro e wl ⟨rfl, hB⟩
    have HW := Lib.hid (below_st HW0.out hB)
    clear hB
    go_wp2
    go_ret
    exact ⟨rfl, HW.out⟩
  · have e := E12.out
    rw [if_neg hb0] at e
    have D := Lib.hid (div_at VM.out VB.out e)
    clear e E12 VM VB
    have hb1 : (bn == 0) = false := by simpa using hb0
    go_wp2_with fail
    refine (D.out _).mono ?_
    rintro e w26 ⟨rfl, hB⟩
    replace hF := hF.below hB
    replace hW := below_st hW hB
    clear hB D
    clear c25u0 c25u1 z25u c25v0 c25v1 z25v c25a0 c25a1 z25a c25m0 c25m1 z25m c25b0 c25b1 z25b
    obtain ⟨cza0, cza1, zza⟩ := hF.get (g := w1.heap.size) (n := an) (d := ad) (by simp)
    obtain ⟨czb0, czb1, zzb⟩ := hF.get (g := w2.heap.size) (n := bn) (d := bd) (by simp)
    replace hW := hW.alloc hW.size (.cells #[.int .i64 an, .int .i64 ad] 23)
    have HW0 := Lib.hid hW
    clear hW hF Lb Bb Lc Bc Lp Bp Lq Bq Lx Bx Ly By Lm Bm Ln Bn n17m m17m n17n m17n n17y m17y n19x m19x n19m m19m n19c m19c Lu Bu Lv Bv Lk Bk fz17 fy17 fz19 fy19 OP
    go_wp2_with fail
    refine (LV.out _ HW0.out).mono ?_
    rintro e wl ⟨rfl, hB⟩
    have HW := Lib.hid (below_st HW0.out hB)
    clear hB
    go_wp2
    go_ret
    exact ⟨rfl, HW.out⟩
end Go.Proofs.YtegodbbocbkomaaDoor
