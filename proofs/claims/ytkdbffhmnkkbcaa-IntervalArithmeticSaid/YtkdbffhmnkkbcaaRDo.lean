/- The reference's Do at each of the four operations. Conditions: valid intervals. -/
import Derived.Test.YtkdbffhmnkkbcaaDo
import Derived.Test.YtkdbffhmnkkbcaaIv7
namespace Go.Proofs.Ytkdbffhmnkkbcaa
open Go.RowKit

theorem rdo_keep {f : Nat} {args : Array Value} {W w0 : World} {v : Value} {g : Nat} {t : TypeId} {s : Array Value} (hB : Below w0.heap.size w0 W) (hk : Blk W g t s) (h : Calls Try.prog f args W fun e w' => e = .returned v ∧ Below W.heap.size W w') :
    Calls Try.prog f args W fun e w' => e = .returned v ∧ Blk w' g t s ∧ Below w0.heap.size w0 w' := h.mono fun _ _ k => ⟨k.1, hk.below k.2 hk.lt, below_step hB k.2⟩
theorem rdo_step {f : Nat} {args : Array Value} {W w0 : World} {v : Value} (hB : Below w0.heap.size w0 W) (h : Calls Try.prog f args W fun e w' => e = .returned v ∧ Below W.heap.size W w') :
    Calls Try.prog f args W fun e w' => e = .returned v ∧ Below w0.heap.size w0 w' := h.mono fun _ _ k => ⟨k.1, below_step hB k.2⟩
theorem rdo_al {w0 X : World} (h : Below w0.heap.size w0 X) (o : Obj) : Below w0.heap.size w0 (X.alloc o) := h.alloc h.size o
def pts (l : List R3) : List F2 := l.map fun r => (r.1, r.2.1)
/-- The interval of the results, or the error. -/
def frR (l : List R3) : R5 := if ∀ r ∈ l, r.2.2 = 0 then ((minL (pts l)).1, (minL (pts l)).2, (maxL (pts l)).1, (maxL (pts l)).2, 0) else (0, 0, 0, 0, 5)
theorem ownsF_below {A B : World} {base e size n : Nat} {v : Value} {xs : List Value} (h : A.ownsRow base e size v n xs) (hB : Below A.heap.size A B) : B.ownsRow base e size v n xs := by
  refine ⟨h.1, ?_⟩
  rcases h.2 with h2 | ⟨g, cap, cur, e1, hg, hh, rest⟩
  · exact .inl h2
  · exact .inr ⟨g, cap, cur, e1, hg, (hB.block g (Array.getElem?_eq_some_iff.1 hh).1).trans hh, rest⟩
theorem frR_err {l : List R3} {r : R3} (hm : r ∈ l) (h : r.2.2 ≠ 0) : frR l = (0, 0, 0, 0, 5) := if_neg fun k => h (k r hm)

set_option maxRecDepth 100000 in
set_option maxHeartbeats 16000000 in
theorem rdo0_w {a b c d a' b' c' d' : Int} (hx : vI a b c d) (hy : vI a' b' c' d') (hg : ∀ r ∈ [addR a b a' b', addR c d c' d'], r.2.2 = 0 → vP r.1 r.2.1) (w : World) :
    Calls Try.prog 20 #[.int .i64 0, .agg #[.int .i64 a, .int .i64 b, .int .i64 c, .int .i64 d], .agg #[.int .i64 a', .int .i64 b', .int .i64 c', .int .i64 d']] w fun e w' => e = .returned (RI (frR [addR a b a' b', addR c d c' d'])) ∧ Below w.heap.size w w' := by
  have BW := both_w hx.1.1.w2 hx.1.2.w2 hy.1.1.w2 hy.1.2.w2
  rw [show vIB a b c d = true from decide_eq_true hx, show vIB a' b' c' d' = true from decide_eq_true hy] at BW
  replace BW := Lib.hid BW
  have A0 := apply0_w hx.1.1.w2 hy.1.1.w2
  obtain ⟨⟨p0, q0, e0⟩, hr0⟩ : ∃ x, addR a b a' b' = x := ⟨_, rfl⟩
  have A1 := apply0_w hx.1.2.w2 hy.1.2.w2
  obtain ⟨⟨p1, q1, e1⟩, hr1⟩ : ∃ x, addR c d c' d' = x := ⟨_, rfl⟩
  rw [hr0, hr1] at hg ⊢
  rw [hr0] at A0
  rw [hr1] at A1
  unfold RV at A0 A1
  simp only at A0 A1
  replace A0 := Lib.hid A0
  replace A1 := Lib.hid A1
  have HG := Lib.hid hg
  clear hx hy hg hr0 hr1
  obtain ⟨il, hi, iz0, iz1, iz2⟩ := info_parts Try.infoFrac
  obtain ⟨hA, hE, hR, hW⟩ := start3 w 25 #[.int .i64 a, .int .i64 b, .int .i64 c, .int .i64 d] 25 #[.int .i64 a', .int .i64 b', .int .i64 c', .int .i64 d'] 25 #[.int .i64 0, .int .i64 0, .int .i64 0, .int .i64 0]
  have cA0 := hA.cell 0
  have cA1 := hA.cell 1
  have cA2 := hA.cell 2
  have cA3 := hA.cell 3
  have zA := hA.lt
  have cE0 := hE.cell 0
  have cE1 := hE.cell 1
  have cE2 := hE.cell 2
  have cE3 := hE.cell 3
  have zE := hE.lt
  go_enter Try.func20, Try.ntmps20
  go_wp2_with fail
  (with_reducible refine (BW.out _).mono ?_)
  rintro e w1 ⟨rfl, hB⟩
  replace hA := hA.below hB hA.lt
  replace hE := hE.below hB hE.lt
  replace hR := hR.below hB hR.lt
  replace hW := below_st hW hB
  clear hB cA0 cA1 cA2 cA3 zA cE0 cE1 cE2 cE3 zE BW
  have cA0 := hA.cell 0
  have cA1 := hA.cell 1
  have cA2 := hA.cell 2
  have cA3 := hA.cell 3
  have zA := hA.lt
  have cE0 := hE.cell 0
  have cE1 := hE.cell 1
  have cE2 := hE.cell 2
  have cE3 := hE.cell 3
  have zE := hE.lt
  go_wp2_with fail
  have hG := (((Blk.new w1 23 #[.int .i64 a, .int .i64 b, .int .i64 c, .int .i64 d, .int .i64 a, .int .i64 b, .int .i64 c, .int .i64 d]).alloc (.cells #[.int .i64 a', .int .i64 b', .int .i64 c', .int .i64 d', .int .i64 c', .int .i64 d', .int .i64 a', .int .i64 b'] 23)))
  have hH := Blk.new (w1.alloc (.cells #[.int .i64 a, .int .i64 b, .int .i64 c, .int .i64 d, .int .i64 a, .int .i64 b, .int .i64 c, .int .i64 d] 23)) 23 #[.int .i64 a', .int .i64 b', .int .i64 c', .int .i64 d', .int .i64 c', .int .i64 d', .int .i64 a', .int .i64 b']
  rw [show (w1.alloc (.cells #[.int .i64 a, .int .i64 b, .int .i64 c, .int .i64 d, .int .i64 a, .int .i64 b, .int .i64 c, .int .i64 d] 23)).heap.size = w1.heap.size + 1 by simp] at hH
  replace hR := ((hR.alloc (.cells #[.int .i64 a, .int .i64 b, .int .i64 c, .int .i64 d, .int .i64 a, .int .i64 b, .int .i64 c, .int .i64 d] 23)).alloc (.cells #[.int .i64 a', .int .i64 b', .int .i64 c', .int .i64 d', .int .i64 c', .int .i64 d', .int .i64 a', .int .i64 b'] 23))
  replace hW := (hW.alloc hW.size (.cells #[.int .i64 a, .int .i64 b, .int .i64 c, .int .i64 d, .int .i64 a, .int .i64 b, .int .i64 c, .int .i64 d] 23))
  replace hW := (hW.alloc hW.size (.cells #[.int .i64 a', .int .i64 b', .int .i64 c', .int .i64 d', .int .i64 c', .int .i64 d', .int .i64 a', .int .i64 b'] 23))
  obtain ⟨wo, hwo⟩ : ∃ wo : World, ((w1.alloc (.cells #[.int .i64 a, .int .i64 b, .int .i64 c, .int .i64 d, .int .i64 a, .int .i64 b, .int .i64 c, .int .i64 d] 23)).alloc (.cells #[.int .i64 a', .int .i64 b', .int .i64 c', .int .i64 d', .int .i64 c', .int .i64 d', .int .i64 a', .int .i64 b'] 23)) = wo := ⟨_, rfl⟩
  rw [hwo] at hG hH hR hW ⊢
  obtain ⟨gG, hgG⟩ : ∃ g, w1.heap.size = g := ⟨_, rfl⟩
  obtain ⟨gH, hgH⟩ : ∃ g, w1.heap.size + 1 = g := ⟨_, rfl⟩
  rw [hgH] at hH ⊢
  rw [hgG] at hG ⊢
  clear hwo hgG hgH hA hE cA0 cA1 cA2 cA3 zA cE0 cE1 cE2 cE3 zE
  have HGb := Lib.hid hG
  have HHb := Lib.hid hH
  have HRb := Lib.hid hR
  have HW := Lib.hid hW
  clear hG hH hR hW
  go_loopw [12, 13] (fun s iv wr => ∃ (i : Nat) (sb : Value), sb = s ∧ i ≤ 2 ∧ iv = .int .i64 i ∧ (∀ r ∈ [(p0, q0, e0), (p1, q1, e1)].take i, r.2.2 = 0) ∧ wr.ownsRow wo.heap.size 23 2 sb i (flatL (pts ([(p0, q0, e0), (p1, q1, e1)].take i))) ∧ Below wo.heap.size wo wr) (fun _ iv _ => 2 - (intOf iv).toNat)
  case atStart => exact ⟨0, _, rfl, by omega, rfl, by simp, World.ownsRow_nil _ _ _ _, Below.refl _ _⟩
  case round =>
    obtain ⟨i, sb, rfl, hi1, rfl, hz, hown, hB⟩ := hrel
    have HZ := Lib.hid hz
    have HO := Lib.hid hown
    have HB := Lib.hid hB
    have hG := HGb.out.below hB HGb.out.lt
    have hH := HHb.out.below hB HHb.out.lt
    have hR := HRb.out.below hB HRb.out.lt
    clear hB hz hown
    rcases (show i = 0 ∨ i = 1 ∨ i = 2 by omega) with rfl | rfl | rfl
    · have G0 := hG.cell 0
      have G1 := hG.cell 1
      have H0 := hH.cell 0
      have H1 := hH.cell 1
      have zG := hG.lt
      have zH := hH.lt
      go_wp2_with fail
      have keep : ∀ W : World, Below wr.heap.size wr W → W.cell? ⟨gG, 0, none⟩ = some (.int .i64 a) ∧ W.cell? ⟨gG, 1, none⟩ = some (.int .i64 b) ∧ W.cell? ⟨gH, 0, none⟩ = some (.int .i64 a') ∧ W.cell? ⟨gH, 1, none⟩ = some (.int .i64 b') := fun W hB =>
        ⟨(hG.below hB hG.lt).cell _, (hG.below hB hG.lt).cell _, (hH.below hB hH.lt).cell _, (hH.below hB hH.lt).cell _⟩
      have far : ∀ W : World, Below wr.heap.size wr W → ((W.setCell ⟨wr.heap.size, 0, none⟩ (.int .i64 p0)).setCell ⟨wr.heap.size, 1, none⟩ (.int .i64 q0)).cell? ⟨gG, 0, none⟩ = some (.int .i64 a) ∧ ((W.setCell ⟨wr.heap.size, 0, none⟩ (.int .i64 p0)).setCell ⟨wr.heap.size, 1, none⟩ (.int .i64 q0)).cell? ⟨gG, 1, none⟩ = some (.int .i64 b) ∧
          ((W.setCell ⟨wr.heap.size, 0, none⟩ (.int .i64 p0)).setCell ⟨wr.heap.size, 1, none⟩ (.int .i64 q0)).cell? ⟨gH, 0, none⟩ = some (.int .i64 a') ∧ ((W.setCell ⟨wr.heap.size, 0, none⟩ (.int .i64 p0)).setCell ⟨wr.heap.size, 1, none⟩ (.int .i64 q0)).cell? ⟨gH, 1, none⟩ = some (.int .i64 b') := fun W hB =>
        have x := ((hG.below hB hG.lt).far (p := ⟨wr.heap.size, 0, none⟩) (Nat.ne_of_lt zG) (.int .i64 p0)).far (p := ⟨wr.heap.size, 1, none⟩) (Nat.ne_of_lt zG) (.int .i64 q0)
        have y := ((hH.below hB hH.lt).far (p := ⟨wr.heap.size, 0, none⟩) (Nat.ne_of_lt zH) (.int .i64 p0)).far (p := ⟨wr.heap.size, 1, none⟩) (Nat.ne_of_lt zH) (.int .i64 q0)
        ⟨x.cell _, x.cell _, y.cell _, y.cell _⟩
      have Keep := Lib.hid keep
      have Far := Lib.hid far
      have h00 := Below.refl wr.heap.size wr
      have hal : Below wr.heap.size wr (wr.alloc (.cells #[.int .i64 0, .int .i64 0] 23)) := h00.alloc h00.size _
      have A' := Lib.hid (rdo_keep hal (Blk.new wr 23 #[.int .i64 0, .int .i64 0]) (A0.out _))
      have B' := Lib.hid (rdo_keep hal.drew (Blk.new wr 23 #[.int .i64 0, .int .i64 0]).drew (A0.out _))
      have C' := Lib.hid (fun (W : World) (hb : Below wr.heap.size wr W) => rdo_step hb (A0.out W))
      have h0d : Below wr.heap.size wr wr.drew := h00.drew
      have HRr := Lib.hid hR
      have HZz := Lib.hid (And.intro zG zH)
      have HAL := Lib.hid hal
      clear keep far hG hH hR hal
      go_region_held3 (fun W => W.cell? ⟨gG, 0, none⟩ = some (.int .i64 a) ∧ W.cell? ⟨gG, 1, none⟩ = some (.int .i64 b) ∧ W.cell? ⟨gH, 0, none⟩ = some (.int .i64 a') ∧ W.cell? ⟨gH, 1, none⟩ = some (.int .i64 b'))
        (first | (with_reducible exact Keep.out _ (by with_reducible assumption)) | (with_reducible exact Keep.out _ HAL.out) | (with_reducible exact Keep.out _ (rdo_al (by with_reducible assumption) _)) | (with_reducible exact Far.out _ (by with_reducible assumption)))
        (first | (go_at_call 44; first | ((with_reducible refine A'.out.mono ?_); rintro e w' ⟨rfl, hzb, hb⟩; obtain ⟨G0, G1, H0, H1⟩ := Keep.out _ hb; have z0 := hzb.cell 0; have z1 := hzb.cell 1; have zf := hzb.frozen) | ((with_reducible refine B'.out.mono ?_); rintro e w' ⟨rfl, hzb, hb⟩; obtain ⟨G0, G1, H0, H1⟩ := Keep.out _ hb; have z0 := hzb.cell 0; have z1 := hzb.cell 1; have zf := hzb.frozen) | ((with_reducible refine (C'.out _ (by with_reducible assumption)).mono ?_); rintro e w' ⟨rfl, hb⟩; obtain ⟨G0, G1, H0, H1⟩ := Keep.out _ hb) | fail) | fail)
      all_goals
        clear G0 G1 H0 H1 zG zH
      · have hzz : Blk (w'.alloc (.cells #[.int .i64 p0, .int .i64 q0] 23)) w'.heap.size 23 #[.int .i64 p0, .int .i64 q0] ∧ Below wr.heap.size wr (w'.alloc (.cells #[.int .i64 p0, .int .i64 q0] 23)) := ⟨Blk.new w' _ _, rdo_al hb _⟩
        obtain ⟨v1, hv1⟩ : ∃ v1 : World, w'.alloc (.cells #[.int .i64 p0, .int .i64 q0] 23) = v1 := ⟨_, rfl⟩
        rw [hv1] at hzz ⊢
        obtain ⟨gz, hgz⟩ : ∃ g, w'.heap.size = g := ⟨_, rfl⟩
        rw [hgz] at hzz ⊢
        clear hv1 hgz hb
        have hR := HRr.out.below hzz.2 HRr.out.lt
        have HO1 := ownsF_below HO.out hzz.2
        have HB1 := Lib.hid (below_st HB.out hzz.2)
        have C0 := hzz.1.cell 0
        have C1 := hzz.1.cell 1
        have zC := hzz.1.lt
        clear hzz
        by_cases he : e0 = 0
        · subst he
          have hv : wo.heap.size ≤ v1.heap.size := HB1.out.size
          go_wp2_with (at_builtin; refine wpList_append_own _ rfl (.tmp 93) (.tmp 95) 51 rfl wo.heap.size 23 il (.agg #[.int .i64 0, .int .i64 0]) 2 16 Try.underlying51 hi iz0 iz1 iz2 rfl (by decide) sb _ _ rfl (HO1.alloc _) ⟨v1.heap.size, 0, none⟩ 1 1 [.int .i64 p0, .int .i64 q0] rfl rfl (World.news_of_block (cs := #[.int .i64 p0, .int .i64 q0]) (t := 23) (fr := (0, 0)) (heap_alloc_new v1 _)) (by simp [Value.oneCell']) (by unfold maxLen; omega) (by omega) (by simp; omega) ?_; intro v3 w3 hown3 hgrow3 _; have hB3 : Below wo.heap.size wo w3 := (HB1.out.alloc HB1.out.size _).grown hgrow3 (by simp; omega) (fun j hj => (HO1.lt j hj).1))
          go_roundw
          case rel => exact ⟨0 + 1, v3, rfl, by omega, by go_num, by have h := HZ.out; simp at h ⊢; try exact h, hown3, hB3⟩
          case measure => first | (simp [intOf]; done) | (simp [intOf]; omega)
        · have fR := hR.frozen
          have r0 := hR.cell 0
          have r1 := hR.cell 1
          have r2 := hR.cell 2
          have r3 := hR.cell 3
          have he2 : (e0 == 0) = false := by simp [he]
          have HR2 := Lib.hid hR
          have HB2 := Lib.hid (below_st HW.out HB1.out)
          clear hR HO1
          go_wp2_with fail
          rw [frR_err (show (p0, q0, e0) ∈ [(p0, q0, e0), (p1, q1, e1)] by simp) he]
          have k := put4 HR2.out HB2.out (by omega) 0 0 0 0
          exact ret_iv (p := 6) (q := 7) (by kernel_rfl) rfl rfl k.1 ⟨rfl, k.2⟩
      · have hzz := put2 hzb hb (Nat.le_refl _) p0 q0
        obtain ⟨v1, hv1⟩ : ∃ v1 : World, (w'.setCell ⟨wr.heap.size, 0, none⟩ (.int .i64 p0)).setCell ⟨wr.heap.size, 1, none⟩ (.int .i64 q0) = v1 := ⟨_, rfl⟩
        rw [hv1] at hzz ⊢
        clear hv1 hb hzb z0 z1 zf
        have hR := HRr.out.below hzz.2 HRr.out.lt
        have HO1 := ownsF_below HO.out hzz.2
        have HB1 := Lib.hid (below_st HB.out hzz.2)
        have C0 := hzz.1.cell 0
        have C1 := hzz.1.cell 1
        have zC := hzz.1.lt
        clear hzz
        by_cases he : e0 = 0
        · subst he
          have hv : wo.heap.size ≤ v1.heap.size := HB1.out.size
          go_wp2_with (at_builtin; refine wpList_append_own _ rfl (.tmp 93) (.tmp 95) 51 rfl wo.heap.size 23 il (.agg #[.int .i64 0, .int .i64 0]) 2 16 Try.underlying51 hi iz0 iz1 iz2 rfl (by decide) sb _ _ rfl (HO1.alloc _) ⟨v1.heap.size, 0, none⟩ 1 1 [.int .i64 p0, .int .i64 q0] rfl rfl (World.news_of_block (cs := #[.int .i64 p0, .int .i64 q0]) (t := 23) (fr := (0, 0)) (heap_alloc_new v1 _)) (by simp [Value.oneCell']) (by unfold maxLen; omega) (by omega) (by simp; omega) ?_; intro v3 w3 hown3 hgrow3 _; have hB3 : Below wo.heap.size wo w3 := (HB1.out.alloc HB1.out.size _).grown hgrow3 (by simp; omega) (fun j hj => (HO1.lt j hj).1))
          go_roundw
          case rel => exact ⟨0 + 1, v3, rfl, by omega, by go_num, by have h := HZ.out; simp at h ⊢; try exact h, hown3, hB3⟩
          case measure => first | (simp [intOf]; done) | (simp [intOf]; omega)
        · have fR := hR.frozen
          have r0 := hR.cell 0
          have r1 := hR.cell 1
          have r2 := hR.cell 2
          have r3 := hR.cell 3
          have he2 : (e0 == 0) = false := by simp [he]
          have HR2 := Lib.hid hR
          have HB2 := Lib.hid (below_st HW.out HB1.out)
          clear hR HO1
          go_wp2_with fail
          rw [frR_err (show (p0, q0, e0) ∈ [(p0, q0, e0), (p1, q1, e1)] by simp) he]
          have k := put4 HR2.out HB2.out (by omega) 0 0 0 0
          exact ret_iv (p := 6) (q := 7) (by kernel_rfl) rfl rfl k.1 ⟨rfl, k.2⟩
    · have G0 := hG.cell 2
      have G1 := hG.cell 3
      have H0 := hH.cell 2
      have H1 := hH.cell 3
      have zG := hG.lt
      have zH := hH.lt
      go_wp2_with fail
      have keep : ∀ W : World, Below wr.heap.size wr W → W.cell? ⟨gG, 2, none⟩ = some (.int .i64 c) ∧ W.cell? ⟨gG, 3, none⟩ = some (.int .i64 d) ∧ W.cell? ⟨gH, 2, none⟩ = some (.int .i64 c') ∧ W.cell? ⟨gH, 3, none⟩ = some (.int .i64 d') := fun W hB =>
        ⟨(hG.below hB hG.lt).cell _, (hG.below hB hG.lt).cell _, (hH.below hB hH.lt).cell _, (hH.below hB hH.lt).cell _⟩
      have far : ∀ W : World, Below wr.heap.size wr W → ((W.setCell ⟨wr.heap.size, 0, none⟩ (.int .i64 p1)).setCell ⟨wr.heap.size, 1, none⟩ (.int .i64 q1)).cell? ⟨gG, 2, none⟩ = some (.int .i64 c) ∧ ((W.setCell ⟨wr.heap.size, 0, none⟩ (.int .i64 p1)).setCell ⟨wr.heap.size, 1, none⟩ (.int .i64 q1)).cell? ⟨gG, 3, none⟩ = some (.int .i64 d) ∧
          ((W.setCell ⟨wr.heap.size, 0, none⟩ (.int .i64 p1)).setCell ⟨wr.heap.size, 1, none⟩ (.int .i64 q1)).cell? ⟨gH, 2, none⟩ = some (.int .i64 c') ∧ ((W.setCell ⟨wr.heap.size, 0, none⟩ (.int .i64 p1)).setCell ⟨wr.heap.size, 1, none⟩ (.int .i64 q1)).cell? ⟨gH, 3, none⟩ = some (.int .i64 d') := fun W hB =>
        have x := ((hG.below hB hG.lt).far (p := ⟨wr.heap.size, 0, none⟩) (Nat.ne_of_lt zG) (.int .i64 p1)).far (p := ⟨wr.heap.size, 1, none⟩) (Nat.ne_of_lt zG) (.int .i64 q1)
        have y := ((hH.below hB hH.lt).far (p := ⟨wr.heap.size, 0, none⟩) (Nat.ne_of_lt zH) (.int .i64 p1)).far (p := ⟨wr.heap.size, 1, none⟩) (Nat.ne_of_lt zH) (.int .i64 q1)
        ⟨x.cell _, x.cell _, y.cell _, y.cell _⟩
      have Keep := Lib.hid keep
      have Far := Lib.hid far
      have h00 := Below.refl wr.heap.size wr
      have hal : Below wr.heap.size wr (wr.alloc (.cells #[.int .i64 0, .int .i64 0] 23)) := h00.alloc h00.size _
      have A' := Lib.hid (rdo_keep hal (Blk.new wr 23 #[.int .i64 0, .int .i64 0]) (A1.out _))
      have B' := Lib.hid (rdo_keep hal.drew (Blk.new wr 23 #[.int .i64 0, .int .i64 0]).drew (A1.out _))
      have C' := Lib.hid (fun (W : World) (hb : Below wr.heap.size wr W) => rdo_step hb (A1.out W))
      have h0d : Below wr.heap.size wr wr.drew := h00.drew
      have HRr := Lib.hid hR
      have HZz := Lib.hid (And.intro zG zH)
      have HAL := Lib.hid hal
      clear keep far hG hH hR hal
      go_region_held3 (fun W => W.cell? ⟨gG, 2, none⟩ = some (.int .i64 c) ∧ W.cell? ⟨gG, 3, none⟩ = some (.int .i64 d) ∧ W.cell? ⟨gH, 2, none⟩ = some (.int .i64 c') ∧ W.cell? ⟨gH, 3, none⟩ = some (.int .i64 d'))
        (first | (with_reducible exact Keep.out _ (by with_reducible assumption)) | (with_reducible exact Keep.out _ HAL.out) | (with_reducible exact Keep.out _ (rdo_al (by with_reducible assumption) _)) | (with_reducible exact Far.out _ (by with_reducible assumption)))
        (first | (go_at_call 44; first | ((with_reducible refine A'.out.mono ?_); rintro e w' ⟨rfl, hzb, hb⟩; obtain ⟨G0, G1, H0, H1⟩ := Keep.out _ hb; have z0 := hzb.cell 0; have z1 := hzb.cell 1; have zf := hzb.frozen) | ((with_reducible refine B'.out.mono ?_); rintro e w' ⟨rfl, hzb, hb⟩; obtain ⟨G0, G1, H0, H1⟩ := Keep.out _ hb; have z0 := hzb.cell 0; have z1 := hzb.cell 1; have zf := hzb.frozen) | ((with_reducible refine (C'.out _ (by with_reducible assumption)).mono ?_); rintro e w' ⟨rfl, hb⟩; obtain ⟨G0, G1, H0, H1⟩ := Keep.out _ hb) | fail) | fail)
      all_goals
        clear G0 G1 H0 H1 zG zH
      · have hzz : Blk (w'.alloc (.cells #[.int .i64 p1, .int .i64 q1] 23)) w'.heap.size 23 #[.int .i64 p1, .int .i64 q1] ∧ Below wr.heap.size wr (w'.alloc (.cells #[.int .i64 p1, .int .i64 q1] 23)) := ⟨Blk.new w' _ _, rdo_al hb _⟩
        obtain ⟨v1, hv1⟩ : ∃ v1 : World, w'.alloc (.cells #[.int .i64 p1, .int .i64 q1] 23) = v1 := ⟨_, rfl⟩
        rw [hv1] at hzz ⊢
        obtain ⟨gz, hgz⟩ : ∃ g, w'.heap.size = g := ⟨_, rfl⟩
        rw [hgz] at hzz ⊢
        clear hv1 hgz hb
        have hR := HRr.out.below hzz.2 HRr.out.lt
        have HO1 := ownsF_below HO.out hzz.2
        have HB1 := Lib.hid (below_st HB.out hzz.2)
        have C0 := hzz.1.cell 0
        have C1 := hzz.1.cell 1
        have zC := hzz.1.lt
        clear hzz
        by_cases he : e1 = 0
        · subst he
          have hv : wo.heap.size ≤ v1.heap.size := HB1.out.size
          go_wp2_with (at_builtin; refine wpList_append_own _ rfl (.tmp 93) (.tmp 95) 51 rfl wo.heap.size 23 il (.agg #[.int .i64 0, .int .i64 0]) 2 16 Try.underlying51 hi iz0 iz1 iz2 rfl (by decide) sb _ _ rfl (HO1.alloc _) ⟨v1.heap.size, 0, none⟩ 1 1 [.int .i64 p1, .int .i64 q1] rfl rfl (World.news_of_block (cs := #[.int .i64 p1, .int .i64 q1]) (t := 23) (fr := (0, 0)) (heap_alloc_new v1 _)) (by simp [Value.oneCell']) (by unfold maxLen; omega) (by omega) (by simp; omega) ?_; intro v3 w3 hown3 hgrow3 _; have hB3 : Below wo.heap.size wo w3 := (HB1.out.alloc HB1.out.size _).grown hgrow3 (by simp; omega) (fun j hj => (HO1.lt j hj).1))
          go_roundw
          case rel => exact ⟨1 + 1, v3, rfl, by omega, by go_num, by have h := HZ.out; simp at h ⊢; try exact h, hown3, hB3⟩
          case measure => first | (simp [intOf]; done) | (simp [intOf]; omega)
        · have fR := hR.frozen
          have r0 := hR.cell 0
          have r1 := hR.cell 1
          have r2 := hR.cell 2
          have r3 := hR.cell 3
          have he2 : (e1 == 0) = false := by simp [he]
          have HR2 := Lib.hid hR
          have HB2 := Lib.hid (below_st HW.out HB1.out)
          clear hR HO1
          go_wp2_with fail
          rw [frR_err (show (p1, q1, e1) ∈ [(p0, q0, e0), (p1, q1, e1)] by simp) he]
          have k := put4 HR2.out HB2.out (by omega) 0 0 0 0
          exact ret_iv (p := 6) (q := 7) (by kernel_rfl) rfl rfl k.1 ⟨rfl, k.2⟩
      · have hzz := put2 hzb hb (Nat.le_refl _) p1 q1
        obtain ⟨v1, hv1⟩ : ∃ v1 : World, (w'.setCell ⟨wr.heap.size, 0, none⟩ (.int .i64 p1)).setCell ⟨wr.heap.size, 1, none⟩ (.int .i64 q1) = v1 := ⟨_, rfl⟩
        rw [hv1] at hzz ⊢
        clear hv1 hb hzb z0 z1 zf
        have hR := HRr.out.below hzz.2 HRr.out.lt
        have HO1 := ownsF_below HO.out hzz.2
        have HB1 := Lib.hid (below_st HB.out hzz.2)
        have C0 := hzz.1.cell 0
        have C1 := hzz.1.cell 1
        have zC := hzz.1.lt
        clear hzz
        by_cases he : e1 = 0
        · subst he
          have hv : wo.heap.size ≤ v1.heap.size := HB1.out.size
          go_wp2_with (at_builtin; refine wpList_append_own _ rfl (.tmp 93) (.tmp 95) 51 rfl wo.heap.size 23 il (.agg #[.int .i64 0, .int .i64 0]) 2 16 Try.underlying51 hi iz0 iz1 iz2 rfl (by decide) sb _ _ rfl (HO1.alloc _) ⟨v1.heap.size, 0, none⟩ 1 1 [.int .i64 p1, .int .i64 q1] rfl rfl (World.news_of_block (cs := #[.int .i64 p1, .int .i64 q1]) (t := 23) (fr := (0, 0)) (heap_alloc_new v1 _)) (by simp [Value.oneCell']) (by unfold maxLen; omega) (by omega) (by simp; omega) ?_; intro v3 w3 hown3 hgrow3 _; have hB3 : Below wo.heap.size wo w3 := (HB1.out.alloc HB1.out.size _).grown hgrow3 (by simp; omega) (fun j hj => (HO1.lt j hj).1))
          go_roundw
          case rel => exact ⟨1 + 1, v3, rfl, by omega, by go_num, by have h := HZ.out; simp at h ⊢; try exact h, hown3, hB3⟩
          case measure => first | (simp [intOf]; done) | (simp [intOf]; omega)
        · have fR := hR.frozen
          have r0 := hR.cell 0
          have r1 := hR.cell 1
          have r2 := hR.cell 2
          have r3 := hR.cell 3
          have he2 : (e1 == 0) = false := by simp [he]
          have HR2 := Lib.hid hR
          have HB2 := Lib.hid (below_st HW.out HB1.out)
          clear hR HO1
          go_wp2_with fail
          rw [frR_err (show (p1, q1, e1) ∈ [(p0, q0, e0), (p1, q1, e1)] by simp) he]
          have k := put4 HR2.out HB2.out (by omega) 0 0 0 0
          exact ret_iv (p := 6) (q := 7) (by kernel_rfl) rfl rfl k.1 ⟨rfl, k.2⟩
    · have hv : VL [(p0, q0), (p1, q1)] := by
        intro x hx
        have h1 := HG.out
        have h2 := HZ.out
        simp at h1 h2 hx
        grind
      have FA := from_any sb [(p0, q0), (p1, q1)] wr (owns_at HO.out) hv (by simp) (by simp)
      have hfr : frR [(p0, q0, e0), (p1, q1, e1)] = ((minL [(p0, q0), (p1, q1)]).1, (minL [(p0, q0), (p1, q1)]).2, (maxL [(p0, q0), (p1, q1)]).1, (maxL [(p0, q0), (p1, q1)]).2, 0) := if_pos (fun r hr => HZ.out r (by simpa using hr))
      obtain ⟨⟨m1, m2⟩, hm1⟩ : ∃ x, minL [(p0, q0), (p1, q1)] = x := ⟨_, rfl⟩
      obtain ⟨⟨m3, m4⟩, hm2⟩ : ∃ x, maxL [(p0, q0), (p1, q1)] = x := ⟨_, rfl⟩
      rw [hm1, hm2] at FA hfr
      simp only at FA hfr
      replace FA := Lib.hid FA
      have HFR := Lib.hid hfr
      clear hv hfr hm1 hm2 hG hH
      go_wp2_with fail
      (with_reducible refine FA.out.mono ?_)
      rintro e v1 ⟨rfl, hb⟩
      replace hR := hR.below hb hR.lt
      have HB2 := Lib.hid (below_st (below_st HW.out HB.out) hb)
      have HR2 := Lib.hid hR
      have fR := hR.frozen
      have r0 := hR.cell 0
      have r1 := hR.cell 1
      have r2 := hR.cell 2
      have r3 := hR.cell 3
      clear hb hR
      go_wp2
      have k := put4 HR2.out HB2.out (by omega) m1 m2 m3 m4
      exact ret_iv (p := 6) (q := 7) (by kernel_rfl) rfl rfl k.1 ⟨by rw [HFR.out], k.2⟩
end Go.Proofs.Ytkdbffhmnkkbcaa
