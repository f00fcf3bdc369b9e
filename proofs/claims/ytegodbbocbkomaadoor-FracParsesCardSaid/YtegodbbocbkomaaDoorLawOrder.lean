/- The law FracOrder holds. Conditions: the variables as laid; numbers of 64 bits. -/
import Derived.Test.YtegodbbocbkomaaDoorField2
import Derived.Deep.DeepCutAuto
namespace Go.Proofs.YtegodbbocbkomaaDoor
open Go.RowKit

theorem Frs.put2 {W : World} {l : List (Nat × Int × Int)} (h : Frs W l) {g : Nat} {n d : Int} (hm : (g, n, d) ∈ l) (n' d' : Int) (l' : List (Nat × Int × Int)) (hl : ∀ x ∈ l', x = (g, n', d') ∨ (x ∈ l ∧ x.1 ≠ g)) :
    Frs ((W.setCell ⟨g, 0, none⟩ (.int .i64 n')).setCell ⟨g, 1, none⟩ (.int .i64 d')) l' := by
  intro x hx
  rcases hl x hx with rfl | ⟨h1, h2⟩
  · exact ((h _ hm).put 0 _).put 1 _
  · exact ((h x h1).far (p := ⟨g, 0, none⟩) h2 _).far (p := ⟨g, 1, none⟩) h2 _
theorem Frs.fr {W : World} {l : List (Nat × Int × Int)} (h : Frs W l) {g : Nat} {n d : Int} (hm : (g, n, d) ∈ l) : W.frozen? ⟨g, 0, none⟩ = false ∧ W.frozen? ⟨g, 1, none⟩ = false := ⟨(h _ hm).frozen 0, (h _ hm).frozen 1⟩
theorem vP64 {n d : Int} (h : vP n d) : (-9223372036854775808 ≤ n ∧ n ≤ 9223372036854775807) ∧ (-9223372036854775808 ≤ d ∧ d ≤ 9223372036854775807) :=
  ⟨⟨by have := h.2.2.1; omega, by have := h.2.2.2.1; omega⟩, ⟨by have := h.1; omega, by have := h.2.1; omega⟩⟩
theorem addV {an ad bn bd : Int} (ha : vP an ad) (hb : vP bn bd) (W : World) :
    Calls Tryd.prog 17 #[.agg #[.int .i64 an, .int .i64 ad], .agg #[.int .i64 bn, .int .i64 bd]] W fun e w' => e = .returned (RV (addR an ad bn bd)) ∧ Below W.heap.size W w' :=
  add_any an ad bn bd W (vP64 ha).1.1 (vP64 ha).1.2 (vP64 ha).2.1 (vP64 ha).2.2 (vP64 hb).1.1 (vP64 hb).1.2 (vP64 hb).2.1 (vP64 hb).2.2
theorem mulV {an ad bn bd : Int} (ha : vP an ad) (hb : vP bn bd) (W : World) :
    Calls Tryd.prog 21 #[.agg #[.int .i64 an, .int .i64 ad], .agg #[.int .i64 bn, .int .i64 bd]] W fun e w' => e = .returned (RV (mulR an ad bn bd)) ∧ Below W.heap.size W w' :=
  mul_any an ad bn bd W (vP64 ha).1.1 (vP64 ha).1.2 (vP64 ha).2.1 (vP64 ha).2.2 (vP64 hb).1.1 (vP64 hb).1.2 (vP64 hb).2.1 (vP64 hb).2.2
theorem cmpV {an ad bn bd c : Int} (ha : vP an ad) (hb : vP bn bd) (h : cmpR an ad bn bd = c) (W : World) :
    Calls Tryd.prog 25 #[.agg #[.int .i64 an, .int .i64 ad], .agg #[.int .i64 bn, .int .i64 bd]] W fun e w' => e = .returned (.int .i64 c) ∧ Below W.heap.size W w' := by
  rw [← h]
  exact cmp_any an ad bn bd W (vP64 ha).1.1 (vP64 ha).1.2 (vP64 ha).2.1 (vP64 ha).2.2 (vP64 hb).1.1 (vP64 hb).1.2 (vP64 hb).2.1 (vP64 hb).2.2

set_option maxRecDepth 100000 in
set_option maxHeartbeats 16000000 in
theorem law_order (l0 l1 l2 l3 l4 l5 : Int) (w : World) (b0 : -9223372036854775808 ≤ l0 ∧ l0 ≤ 9223372036854775807) (b1 : -9223372036854775808 ≤ l1 ∧ l1 ≤ 9223372036854775807) (b2 : -9223372036854775808 ≤ l2 ∧ l2 ≤ 9223372036854775807) (b3 : -9223372036854775808 ≤ l3 ∧ l3 ≤ 9223372036854775807) (b4 : -9223372036854775808 ≤ l4 ∧ l4 ≤ 9223372036854775807) (b5 : -9223372036854775808 ≤ l5 ∧ l5 ≤ 9223372036854775807) (hE : Env w) :
    Calls Tryd.prog 10 #[.agg #[.int .i64 l0, .int .i64 l1, .int .i64 l2, .int .i64 l3, .int .i64 l4, .int .i64 l5]] w fun e w' => e = .returned (.bool true) ∧ Below w.heap.size w w' := by
  have O1 := Lib.hid (fun W => of_any l0 l1 W b0.1 b0.2 b1.1 b1.2)
  have O2 := Lib.hid (fun W => of_any l2 l3 W b2.1 b2.2 b3.1 b3.2)
  have O3 := Lib.hid (fun W => of_any l4 l5 W b4.1 b4.2 b5.1 b5.2)
  have LV := Lib.hid (fun W (h : Below w.heap.size w W) => lives_any W (hE.below h))
  have hL := Blk.new w 42 #[.int .i64 l0, .int .i64 l1, .int .i64 l2, .int .i64 l3, .int .i64 l4, .int .i64 l5]
  have hW : Below w.heap.size w (w.alloc (.cells #[.int .i64 l0, .int .i64 l1, .int .i64 l2, .int .i64 l3, .int .i64 l4, .int .i64 l5] 42)) := (Below.refl _ w).alloc (Nat.le_refl _) _
  clear b0 b1 b2 b3 b4 b5 hE
  go_enter Tryd.func10, Tryd.ntmps10
  go_wp2_with fail
  refine (O1.out _).mono ?_
  rintro e w1 ⟨⟨an, ad, rfl, va⟩, hB⟩
  have hF : Frs w1 [] := fun x hx => by cases hx
  replace hL := hL.below hB hL.lt
  replace hW := below_st hW hB
  have z0 : w.heap.size < w1.heap.size := hL.lt
  have c2 := hL.cell 2
  have c3 := hL.cell 3
  replace hF := hF.new an ad
  replace hL := hL.alloc (.cells #[.int .i64 an, .int .i64 ad] 23)
  replace hW := hW.alloc hW.size (.cells #[.int .i64 an, .int .i64 ad] 23)
  clear hB O1
  go_wp2_with fail
  refine (O2.out _).mono ?_
  rintro e w2 ⟨⟨bn, bd, rfl, vb⟩, hB⟩
  replace hF := hF.below hB
  replace hL := hL.below hB hL.lt
  replace hW := below_st hW hB
  have z1 : w.heap.size < w2.heap.size := hL.lt
  have c4 := hL.cell 4
  have c5 := hL.cell 5
  have yy1 := (hF.get (g := w1.heap.size) (n := an) (d := ad) (by simp)).2.2
  replace hF := hF.new bn bd
  replace hL := hL.alloc (.cells #[.int .i64 bn, .int .i64 bd] 23)
  replace hW := hW.alloc hW.size (.cells #[.int .i64 bn, .int .i64 bd] 23)
  clear hB O2
  go_wp2_with fail
  refine (O3.out _).mono ?_
  rintro e w3 ⟨⟨cn, cd, rfl, vc⟩, hB⟩
  replace hF := hF.below hB
  replace hL := hL.below hB hL.lt
  replace hW := below_st hW hB
  have z2 : w.heap.size < w3.heap.size := hL.lt
  have yy2 := (hF.get (g := w2.heap.size) (n := bn) (d := bd) (by simp)).2.2
  obtain ⟨a0, a1, ya⟩ := hF.get (g := w1.heap.size) (n := an) (d := ad) (by simp)
  obtain ⟨b0, b1, -⟩ := hF.get (g := w2.heap.size) (n := bn) (d := bd) (by simp)
  replace hF := hF.new cn cd
  replace hL := hL.alloc (.cells #[.int .i64 cn, .int .i64 cd] 23)
  replace hW := hW.alloc hW.size (.cells #[.int .i64 cn, .int .i64 cd] 23)
  clear hB O3
  clear hL c2 c3 c4 c5 z1 z2
  have hzz := cmp_zero va vb
  obtain ⟨d, hd⟩ : ∃ d, cmpR an ad bn bd = d := ⟨_, rfl⟩
  obtain ⟨d2, hd2⟩ : ∃ d, cmpR bn bd cn cd = d := ⟨_, rfl⟩
  obtain ⟨d3, hd3⟩ : ∃ d, cmpR an ad cn cd = d := ⟨_, rfl⟩
  have htr := @cmp_trans an ad bn bd cn cd va vb vc
  have C1 := Lib.hid (cmpV va vb hd)
  have C2 := Lib.hid (cmpV vb vc hd2)
  have C3 := Lib.hid (cmpV va vc hd3)
  have A1 := addV va vc
  have A2 := addV vb vc
  have M1 := mulV va vc
  have M2 := mulV vb vc
  obtain ⟨⟨x1, x2, x3⟩, hx⟩ : ∃ r, addR an ad cn cd = r := ⟨_, rfl⟩
  obtain ⟨⟨y1, y2, y3⟩, hy⟩ : ∃ r, addR bn bd cn cd = r := ⟨_, rfl⟩
  obtain ⟨⟨u1, u2, u3⟩, hu⟩ : ∃ r, mulR an ad cn cd = r := ⟨_, rfl⟩
  obtain ⟨⟨v1, v2, v3⟩, hv⟩ : ∃ r, mulR bn bd cn cd = r := ⟨_, rfl⟩
  rw [hx] at A1
  rw [hy] at A2
  rw [hu] at M1
  rw [hv] at M2
  unfold RV at A1 A2 M1 M2
  simp only at A1 A2 M1 M2
  have C4 : x3 = 0 → y3 = 0 → ∀ W, Calls Tryd.prog 25 #[.agg #[.int .i64 x1, .int .i64 x2], .agg #[.int .i64 y1, .int .i64 y2]] W fun e w' => e = .returned (.int .i64 d) ∧ Below W.heap.size W w' := by
    rintro rfl rfl
    obtain ⟨vx, vy, k⟩ := cmp_add va vb vc hx hy
    exact cmpV vx vy (k.trans hd)
  have C5 : u3 = 0 → v3 = 0 → 0 < cn → ∀ W, Calls Tryd.prog 25 #[.agg #[.int .i64 u1, .int .i64 u2], .agg #[.int .i64 v1, .int .i64 v2]] W fun e w' => e = .returned (.int .i64 d) ∧ Below W.heap.size W w' := by
    rintro rfl rfl h0
    obtain ⟨vx, vy, k⟩ := cmp_mul va vb vc h0 hu hv
    exact cmpV vx vy (k.trans hd)
  rw [hd] at hzz htr
  rw [hd2, hd3] at htr
  have HZ := Lib.hid hzz
  have HT := Lib.hid htr
  replace A1 := Lib.hid A1
  replace A2 := Lib.hid A2
  replace M1 := Lib.hid M1
  replace M2 := Lib.hid M2
  replace C4 := Lib.hid C4
  replace C5 := Lib.hid C5
  clear hzz htr hd hd2 hd3 hx hy hu hv va vb vc
  go_wp2_with fail
  refine (C1.out _).mono ?_
  rintro e w4 ⟨rfl, hB⟩
  replace hF := hF.below hB
  replace hW := below_st hW hB
  clear hB C1 a0 a1 ya b0 b1
  obtain ⟨a0, a1, ya⟩ := hF.get (g := w1.heap.size) (n := an) (d := ad) (by simp)
  obtain ⟨b0, b1, yb⟩ := hF.get (g := w2.heap.size) (n := bn) (d := bd) (by simp)
  obtain ⟨c0, c1, yc⟩ := hF.get (g := w3.heap.size) (n := cn) (d := cd) (by simp)
  go_upto_region 5 with fail
  have HW := Lib.hid (And.intro hF hW)
  clear hF hW
  go_cut [50] (fun s wx => s = .bool false ∧ Frs wx [(w3.heap.size, cn, cd), (w2.heap.size, bn, bd), (w1.heap.size, an, ad)] ∧ Below w.heap.size w wx)
  case first =>
    have FQ := fun W => feq_walk an ad bn bd W
    have hway : (d = 0 ∧ an = bn ∧ ad = bd) ∨ (¬ d = 0 ∧ ¬ an = bn) ∨ (¬ d = 0 ∧ an = bn ∧ ¬ ad = bd) := by
      by_cases h : d = 0
      · exact .inl ⟨h, HZ.out.1 h⟩
      · by_cases h2 : an = bn
        · exact .inr (.inr ⟨h, h2, fun h3 => h (HZ.out.2 ⟨h2, h3⟩)⟩)
        · exact .inr (.inl ⟨h, h2⟩)
    have hq : (d == 0) = (an == bn && ad == bd) := by
      rcases hway with ⟨h1, h2, h3⟩ | ⟨h1, h2⟩ | ⟨h1, h2, h3⟩
      · rw [h1, h2, h3]; simp
      · rw [show (d == 0) = false by simpa using h1, show (an == bn) = false by simpa using h2]; rfl
      · rw [show (d == 0) = false by simpa using h1, show (ad == bd) = false by simpa using h3, Bool.and_false]
    have hq3 : ∃ b : Bool, (an == bn && ad == bd) = b := ⟨_, rfl⟩
    obtain ⟨b, hb⟩ := hq3
    rw [hb] at FQ hq
    clear hway hb
    replace FQ : ∀ W : World, _ := FQ
    by_cases h1 : d ≤ 0
    · by_cases h2 : d2 ≤ 0
      · have h3 : ¬ (0 < d3) := by have := HT.out h1 h2; omega
        have h3' : decide (0 < d3) = false := decide_eq_false h3
        have h2' : decide (d2 ≤ 0) = true := decide_eq_true h2
        have h1' : decide (d ≤ 0) = true := decide_eq_true h1
        cases b <;>
        · go_wp2_with fail
          refine (C2.out _).mono ?_
          rintro e w5 ⟨rfl, hB⟩
          have h5 := And.intro (HW.out.1.below hB) (below_st HW.out.2 hB)
          obtain ⟨e0, e1, -⟩ := h5.1.get (g := w1.heap.size) (n := an) (d := ad) (by simp)
          obtain ⟨f0, f1, -⟩ := h5.1.get (g := w3.heap.size) (n := cn) (d := cd) (by simp)
          have H5 := Lib.hid h5
          clear h5 hB
          go_wp2_with fail
          refine (C3.out _).mono ?_
          rintro e w6 ⟨rfl, hB⟩
          have H6 := Lib.hid (And.intro (H5.out.1.below hB) (below_st H5.out.2 hB))
          clear hB
          go_wp2_with fail
          go_meet
          case rel => exact ⟨rfl, H6.out⟩
      · have h2' : decide (d2 ≤ 0) = false := decide_eq_false h2
        have h1' : decide (d ≤ 0) = true := decide_eq_true h1
        cases b <;>
        · go_wp2_with fail
          refine (C2.out _).mono ?_
          rintro e w5 ⟨rfl, hB⟩
          have H5 := Lib.hid (And.intro (HW.out.1.below hB) (below_st HW.out.2 hB))
          clear hB
          go_wp2_with fail
          go_meet
          case rel => exact ⟨rfl, H5.out⟩
    · have h1' : decide (d ≤ 0) = false := decide_eq_false h1
      cases b <;>
      · go_wp2_with fail
        go_meet
        case rel => exact ⟨rfl, HW.out⟩
  case rest =>
    obtain ⟨rfl, hF, hW⟩ := hcut
    clear HW a0 a1 ya b0 b1 yb c0 c1 yc C2 C3 HZ HT
    obtain ⟨a0, a1, ya⟩ := hF.get (g := w1.heap.size) (n := an) (d := ad) (by simp)
    obtain ⟨c0, c1, yc⟩ := hF.get (g := w3.heap.size) (n := cn) (d := cd) (by simp)
    go_wp2_with fail
    refine (A1.out _).mono ?_
    rintro e w5 ⟨rfl, hB⟩
    replace hF := hF.below hB
    replace hW := below_st hW hB
    clear hB A1 a0 a1 ya c0 c1 yc
    obtain ⟨b0, b1, yb⟩ := hF.get (g := w2.heap.size) (n := bn) (d := bd) (by simp)
    obtain ⟨c0, c1, yc⟩ := hF.get (g := w3.heap.size) (n := cn) (d := cd) (by simp)
    replace hF := hF.new x1 x2
    replace hW := hW.alloc hW.size (.cells #[.int .i64 x1, .int .i64 x2] 23)
    go_wp2_with fail
    refine (A2.out _).mono ?_
    rintro e w6 ⟨rfl, hB⟩
    replace hF := hF.below hB
    replace hW := below_st hW hB
    clear hB A2 b0 b1 yb c0 c1
    have kc : w3.heap.size < w5.heap.size := yc
    clear yc
    obtain ⟨p0, p1, yp⟩ := hF.get (g := w5.heap.size) (n := x1) (d := x2) (by simp)
    replace hF := hF.new y1 y2
    replace hW := hW.alloc hW.size (.cells #[.int .i64 y1, .int .i64 y2] 23)
    go_upto_region 9 with fail
    have HW := Lib.hid (And.intro hF hW)
    clear hF hW
    go_cut [75] (fun s wx => s = .bool false ∧ Frs wx [(w6.heap.size, y1, y2), (w5.heap.size, x1, x2), (w3.heap.size, cn, cd), (w2.heap.size, bn, bd), (w1.heap.size, an, ad)] ∧ Below w.heap.size w wx)
    case first =>
      by_cases h1 : x3 = 0
      · by_cases h2 : y3 = 0
        · have K := Lib.hid (C4.out h1 h2)
          subst h1
          subst h2
          go_wp2_with fail
          refine (K.out _).mono ?_
          rintro e w7 ⟨rfl, hB⟩
          have H7 := Lib.hid (And.intro (HW.out.1.below hB) (below_st HW.out.2 hB))
          clear hB
          go_wp2_with fail
          go_meet
          case rel => exact ⟨rfl, H7.out⟩
        · have h2' : (y3 == 0) = false := by simpa using h2
          subst h1
          go_wp2_with fail
          go_meet
          case rel => exact ⟨rfl, HW.out⟩
      · have h1' : (x3 == 0) = false := by simpa using h1
        go_wp2_with fail
        go_meet
        case rel => exact ⟨rfl, HW.out⟩
    case rest =>
      obtain ⟨rfl, hF, hW⟩ := hcut
      have kp : w5.heap.size < w6.heap.size := yp
      clear HW p0 p1 yp C4
      obtain ⟨a0, a1, ya⟩ := hF.get (g := w1.heap.size) (n := an) (d := ad) (by simp)
      obtain ⟨c0, c1, yc⟩ := hF.get (g := w3.heap.size) (n := cn) (d := cd) (by simp)
      have s5 := (hF.get (g := w5.heap.size) (n := x1) (d := x2) (by simp)).2.2
      have s6 := (hF.get (g := w6.heap.size) (n := y1) (d := y2) (by simp)).2.2
      have g5 : w.heap.size ≤ w5.heap.size := by omega
      have g6 : w.heap.size ≤ w6.heap.size := by omega
      go_wp2_with fail
      refine (M1.out _).mono ?_
      rintro e w7 ⟨rfl, hB⟩
      replace hF := hF.below hB
      replace hW := below_st hW hB
      clear hB M1 a0 a1 ya c0 c1 yc s5 s6
      obtain ⟨b0, b1, yb⟩ := hF.get (g := w2.heap.size) (n := bn) (d := bd) (by simp)
      obtain ⟨c0, c1, yc⟩ := hF.get (g := w3.heap.size) (n := cn) (d := cd) (by simp)
      obtain ⟨p0, p1, yp⟩ := hF.get (g := w5.heap.size) (n := x1) (d := x2) (by simp)
      obtain ⟨fz, fy⟩ := hF.fr (g := w5.heap.size) (n := x1) (d := x2) (by simp)
      have n52 : ¬ w5.heap.size = w2.heap.size := by omega
      have m52 : ¬ w2.heap.size = w5.heap.size := by omega
      have n53 : ¬ w5.heap.size = w3.heap.size := by omega
      have m53 : ¬ w3.heap.size = w5.heap.size := by omega
      replace hF := hF.put2 (g := w5.heap.size) (n := x1) (d := x2) (by simp) u1 u2 [(w6.heap.size, y1, y2), (w5.heap.size, u1, u2), (w3.heap.size, cn, cd), (w2.heap.size, bn, bd), (w1.heap.size, an, ad)] (by
        intro x hx
        simp only [List.mem_cons, List.not_mem_nil, or_false] at hx
        rcases hx with rfl | rfl | rfl | rfl | rfl <;> first | exact Or.inl rfl | exact Or.inr ⟨by simp, by show ¬ _ = _; omega⟩)
      replace hW := (hW.setCell (p := ⟨w5.heap.size, 0, none⟩) g5 (.int .i64 u1)).setCell (p := ⟨w5.heap.size, 1, none⟩) g5 (.int .i64 u2)
      go_wp2_with fail
      refine (M2.out _).mono ?_
      rintro e w8 ⟨rfl, hB⟩
      replace hF := hF.below hB
      replace hW := below_st hW hB
      clear hB M2 b0 b1 yb c0 c1 yc p0 p1 yp fz fy
      obtain ⟨c0, c1, yc⟩ := hF.get (g := w3.heap.size) (n := cn) (d := cd) (by simp)
      obtain ⟨p0, p1, yp⟩ := hF.get (g := w5.heap.size) (n := u1) (d := u2) (by simp)
      obtain ⟨q0, q1, yq⟩ := hF.get (g := w6.heap.size) (n := y1) (d := y2) (by simp)
      obtain ⟨fz, fy⟩ := hF.fr (g := w6.heap.size) (n := y1) (d := y2) (by simp)
      have n62 : ¬ w6.heap.size = w5.heap.size := by omega
      have m62 : ¬ w5.heap.size = w6.heap.size := by omega
      have n63 : ¬ w6.heap.size = w3.heap.size := by omega
      have m63 : ¬ w3.heap.size = w6.heap.size := by omega
      replace hW := (hW.setCell (p := ⟨w6.heap.size, 0, none⟩) g6 (.int .i64 v1)).setCell (p := ⟨w6.heap.size, 1, none⟩) g6 (.int .i64 v2)
      have HW := Lib.hid hW
      clear hF hW
      by_cases h1 : u3 = 0
      · by_cases h2 : v3 = 0
        · by_cases h3 : cn ≤ 0
          · have h3' : decide (cn ≤ 0) = true := decide_eq_true h3
            clear C5
            subst h1
            subst h2
            go_wp2_with fail
            refine (LV.out _ HW.out).mono ?_
            rintro e w9 ⟨rfl, hB⟩
            have H9 := Lib.hid (below_st HW.out hB)
            clear hB
            go_wp2
            go_ret
            exact ⟨rfl, H9.out⟩
          · have h3' : decide (cn ≤ 0) = false := decide_eq_false h3
            have K := Lib.hid (C5.out h1 h2 (by omega))
            subst h1
            subst h2
            go_wp2_with fail
            refine (K.out _).mono ?_
            rintro e w9 ⟨rfl, hB⟩
            have H9 := Lib.hid (below_st HW.out hB)
            clear hB
            go_wp2_with fail
            refine (LV.out _ H9.out).mono ?_
            rintro e w10 ⟨rfl, hB⟩
            have H10 := Lib.hid (below_st H9.out hB)
            clear hB
            go_wp2
            go_ret
            exact ⟨rfl, H10.out⟩
        · have h2' : (v3 == 0) = false := by simpa using h2
          subst h1
          clear C5
          go_wp2_with fail
          refine (LV.out _ HW.out).mono ?_
          rintro e w9 ⟨rfl, hB⟩
          have H9 := Lib.hid (below_st HW.out hB)
          clear hB
          go_wp2
          go_ret
          exact ⟨rfl, H9.out⟩
      · have h1' : (u3 == 0) = false := by simpa using h1
        clear C5
        go_wp2_with fail
        refine (LV.out _ HW.out).mono ?_
        rintro e w9 ⟨rfl, hB⟩
        have H9 := Lib.hid (below_st HW.out hB)
        clear hB
        go_wp2
        go_ret
        exact ⟨rfl, H9.out⟩
end Go.Proofs.YtegodbbocbkomaaDoor
