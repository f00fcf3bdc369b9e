/- The contract of the reference's reader's Read. Conditions: at most a million bytes. -/
import Derived.Test.YtiebefomhnbemaaVRefB
namespace Go.Proofs.Ytiebefomhnbemaa
open Go.RowKit
variable {lo : Nat}

/-- What the reference's Read returns: the value that was read. -/
def ReadR (lo b : Nat) (k : Int) (s : St) (w : World) (e : Ending) (w' : World) : Prop :=
  ∃ t : VT, e = .returned (aggV t) ∧ t.1 = (rV k s).1 ∧ VP (fun _ => True) w' t ∧ RR lo w' b (rV k s).2 ∧ Kp (· ≠ b) w w'
theorem rr_end {lo b : Nat} {w w1 W : World} {s : St} (hk : Kp (· ≠ b) w w1) (hbl : b < w.heap.size) (hr : RR lo w1 b s) (hB : Below w.heap.size w1 W) (hK : Kp (fun k => k ≠ w.heap.size ∧ k ≠ w.heap.size + 1) w1 W) : RR lo W b s ∧ Kp (· ≠ b) w W ∧ Kp (fun k => k ≠ w.heap.size ∧ k ≠ w.heap.size + 1) w1 W :=
  ⟨hr.kp (P := (· < w.heap.size)) (.of_base hB) (fun k h => show k < w.heap.size by omega), hk.then hB, hK⟩
theorem rr_fin {lo b : Nat} {w w1 : World} {s : St} (hk : Kp (· ≠ b) w w1) (hbl : b < w.heap.size) (hr : RR lo w1 b s) (o : Nat) (v c0 c1 c2 c3 c4 : Value) :
    RR lo (put5 (w1.setCell ⟨w.heap.size + 1, o, none⟩ v) w.heap.size c0 c1 c2 c3 c4) b s ∧ Kp (· ≠ b) w (put5 (w1.setCell ⟨w.heap.size + 1, o, none⟩ v) w.heap.size c0 c1 c2 c3 c4) ∧ Kp (fun k => k ≠ w.heap.size ∧ k ≠ w.heap.size + 1) w1 (put5 (w1.setCell ⟨w.heap.size + 1, o, none⟩ v) w.heap.size c0 c1 c2 c3 c4) :=
  rr_end hk hbl hr (below_put5 (cset (Below.refl _ w1) _ o (by omega) v) _ (Nat.le_refl _) _ _ _ _ _) (kp_put5 ((Kp.refl _ w1).setCell (p := ⟨w.heap.size + 1, o, none⟩) (by show ¬ (w.heap.size + 1 ≠ w.heap.size ∧ w.heap.size + 1 ≠ w.heap.size + 1); omega) v) _ (by show ¬ (w.heap.size ≠ w.heap.size ∧ w.heap.size ≠ w.heap.size + 1); omega) _ _ _ _ _)
theorem rr_fin0 {lo b : Nat} {w w1 : World} {s : St} (hk : Kp (· ≠ b) w w1) (hbl : b < w.heap.size) (hr : RR lo w1 b s) (c0 c1 c2 c3 c4 : Value) :
    RR lo (put5 w1 w.heap.size c0 c1 c2 c3 c4) b s ∧ Kp (· ≠ b) w (put5 w1 w.heap.size c0 c1 c2 c3 c4) ∧ Kp (fun k => k ≠ w.heap.size ∧ k ≠ w.heap.size + 1) w1 (put5 w1 w.heap.size c0 c1 c2 c3 c4) :=
  rr_end hk hbl hr (below_put5 (Below.refl _ w1) _ (Nat.le_refl _) _ _ _ _ _) (kp_put5 (Kp.refl _ w1) _ (by show ¬ (w.heap.size ≠ w.heap.size ∧ w.heap.size ≠ w.heap.size + 1); omega) _ _ _ _ _)

set_option maxRecDepth 100000 in
set_option maxHeartbeats 4000000 in
theorem rr_kind0 (lo b : Nat) (s : St) (w : World) (hs : s.bs.length ≤ 1000000) (hr : RR lo w b s) :
    Calls Try.prog 23 #[.pointer (some ⟨b, 0, none⟩), .int .i64 0] w (ReadR lo b 0 s w) := by
  have hbl := hr.lt
  obtain ⟨W0, hW0, hB0, hsz, hz0, hz1⟩ := two_new w 0 0
  have hr0 := hr.below hB0
  have hu := rruint_any b s W0 hs hr0
  unfold zero5 at hW0
  have HW0 := Lib.hid hW0
  have Hz0 := Lib.hid hz0
  have Hz1 := Lib.hid hz1
  have Hsz := Lib.hid hsz
  clear hW0 hz0 hz1 hsz hr
  go_enter Try.func23, Try.ntmps23
  go_wp2_with fail
  rw [HW0.out]
  refine hu.mono ?_
  rintro e w1 ⟨rfl, hr1, hk1⟩
  obtain ⟨x, hx⟩ : ∃ x, (rU s).1 = x := ⟨_, rfl⟩
  rw [hx]
  have Hx := Lib.hid hx
  clear hx
  have x0 := (hk1.block _ (by rw [Hsz.out]; omega) (by show w.heap.size ≠ b; omega)).trans Hz0.out
  have x1 := (hk1.block _ (by rw [Hsz.out]; omega) (by show w.heap.size + 1 ≠ b; omega)).trans Hz1.out
  unfold zero5 at x0 x1
  obtain ⟨⟨p0, p1, p2, p3, p4⟩, f0, f1, f2, f3, f4⟩ := five x0
  obtain ⟨⟨q0, q1, q2, q3, q4⟩, g0, g1, g2, g3, g4⟩ := five x1
  have hk2 : Kp (· ≠ b) w w1 := (Kp.of_below hB0).trans hk1
  clear x0 x1 hu
  go_wp2_with fail
  have hfin := rr_fin hk2 hbl hr1 1 (.int .u64 (x : Int)) (.int .i64 0) (.int .u64 (x : Int)) (.int .i64 0) (.slice none 0 0) (.slice none 0 0)
  refine bodyPost_ret (v := .agg #[.int .i64 0, .int .u64 (x : Int), .int .i64 0, .slice none 0 0, .slice none 0 0]) (by simp [results, Try.results23, go_sem, p0, p1, p2, p3, p4]) rfl ?_
  exact ⟨((⟨0, x, 0, [], []⟩ : V), .slice none 0 0, .slice none 0 0), rfl, by rw [← Hx.out]; rfl, ⟨.nil, .nil⟩, hfin.1, hfin.2.1⟩

set_option maxRecDepth 100000 in
set_option maxHeartbeats 4000000 in
theorem rr_kind1 (lo b : Nat) (s : St) (w : World) (hs : s.bs.length ≤ 1000000) (hr : RR lo w b s) :
    Calls Try.prog 23 #[.pointer (some ⟨b, 0, none⟩), .int .i64 1] w (ReadR lo b 1 s w) := by
  have hbl := hr.lt
  obtain ⟨W0, hW0, hB0, hsz, hz0, hz1⟩ := two_new w 0 1
  have hr0 := hr.below hB0
  have hu := rrint_any b s W0 hs hr0
  unfold zero5 at hW0
  have HW0 := Lib.hid hW0
  have Hz0 := Lib.hid hz0
  have Hz1 := Lib.hid hz1
  have Hsz := Lib.hid hsz
  clear hW0 hz0 hz1 hsz hr
  go_enter Try.func23, Try.ntmps23
  go_wp2_with fail
  rw [HW0.out]
  refine hu.mono ?_
  rintro e w1 ⟨rfl, hr1, hk1⟩
  obtain ⟨x, hx⟩ : ∃ x, (rI s).1 = x := ⟨_, rfl⟩
  rw [hx]
  have Hx := Lib.hid hx
  clear hx
  have x0 := (hk1.block _ (by rw [Hsz.out]; omega) (by show w.heap.size ≠ b; omega)).trans Hz0.out
  have x1 := (hk1.block _ (by rw [Hsz.out]; omega) (by show w.heap.size + 1 ≠ b; omega)).trans Hz1.out
  unfold zero5 at x0 x1
  obtain ⟨⟨p0, p1, p2, p3, p4⟩, f0, f1, f2, f3, f4⟩ := five x0
  obtain ⟨⟨q0, q1, q2, q3, q4⟩, g0, g1, g2, g3, g4⟩ := five x1
  have hk2 : Kp (· ≠ b) w w1 := (Kp.of_below hB0).trans hk1
  clear x0 x1 hu
  go_wp2_with fail
  have hfin := rr_fin hk2 hbl hr1 2 (.int .i64 x) (.int .i64 1) (.int .u64 0) (.int .i64 x) (.slice none 0 0) (.slice none 0 0)
  refine bodyPost_ret (v := .agg #[.int .i64 1, .int .u64 0, .int .i64 x, .slice none 0 0, .slice none 0 0]) (by simp [results, Try.results23, go_sem, p0, p1, p2, p3, p4]) rfl ?_
  exact ⟨((⟨1, 0, x, [], []⟩ : V), .slice none 0 0, .slice none 0 0), rfl, by rw [← Hx.out]; rfl, ⟨.nil, .nil⟩, hfin.1, hfin.2.1⟩

set_option maxRecDepth 100000 in
set_option maxHeartbeats 4000000 in
theorem rr_kind2 (lo b : Nat) (s : St) (w : World) (hs : s.bs.length ≤ 1000000) (hr : RR lo w b s) :
    Calls Try.prog 23 #[.pointer (some ⟨b, 0, none⟩), .int .i64 2] w (ReadR lo b 2 s w) := by
  have hbl := hr.lt
  obtain ⟨W0, hW0, hB0, hsz, hz0, hz1⟩ := two_new w 0 2
  have hr0 := hr.below hB0
  have hu := rrbool_any b s W0 hs hr0
  unfold zero5 at hW0
  have HW0 := Lib.hid hW0
  have Hz0 := Lib.hid hz0
  have Hz1 := Lib.hid hz1
  have Hsz := Lib.hid hsz
  clear hW0 hz0 hz1 hsz hr
  go_enter Try.func23, Try.ntmps23
  go_wp2_with fail
  rw [HW0.out]
  refine hu.mono ?_
  rintro e w1 ⟨rfl, hr1, hk1⟩
  obtain ⟨x, hx⟩ : ∃ x, (rB s).1 = x := ⟨_, rfl⟩
  rw [hx]
  have Hx := Lib.hid hx
  clear hx
  have x0 := (hk1.block _ (by rw [Hsz.out]; omega) (by show w.heap.size ≠ b; omega)).trans Hz0.out
  have x1 := (hk1.block _ (by rw [Hsz.out]; omega) (by show w.heap.size + 1 ≠ b; omega)).trans Hz1.out
  unfold zero5 at x0 x1
  obtain ⟨⟨p0, p1, p2, p3, p4⟩, f0, f1, f2, f3, f4⟩ := five x0
  obtain ⟨⟨q0, q1, q2, q3, q4⟩, g0, g1, g2, g3, g4⟩ := five x1
  have hk2 : Kp (· ≠ b) w w1 := (Kp.of_below hB0).trans hk1
  clear x0 x1 hu
  cases x
  · go_wp2_with fail
    have hfin := rr_fin0 hk2 hbl hr1 (.int .i64 2) (.int .u64 0) (.int .i64 0) (.slice none 0 0) (.slice none 0 0)
    refine bodyPost_ret (v := .agg #[.int .i64 2, .int .u64 0, .int .i64 0, .slice none 0 0, .slice none 0 0]) (by simp [results, Try.results23, go_sem, p0, p1, p2, p3, p4]) rfl ?_
    exact ⟨((⟨2, 0, 0, [], []⟩ : V), .slice none 0 0, .slice none 0 0), rfl, by show (⟨2, 0, 0, [], []⟩ : V) = (rV 2 s).1; unfold rV; simp [Hx.out], ⟨.nil, .nil⟩, hfin.1, hfin.2.1⟩
  · go_wp2_with fail
    have hfin := rr_fin hk2 hbl hr1 2 (.int .i64 1) (.int .i64 2) (.int .u64 0) (.int .i64 1) (.slice none 0 0) (.slice none 0 0)
    refine bodyPost_ret (v := .agg #[.int .i64 2, .int .u64 0, .int .i64 1, .slice none 0 0, .slice none 0 0]) (by simp [results, Try.results23, go_sem, p0, p1, p2, p3, p4]) rfl ?_
    exact ⟨((⟨2, 0, 1, [], []⟩ : V), .slice none 0 0, .slice none 0 0), rfl, by show (⟨2, 0, 1, [], []⟩ : V) = (rV 2 s).1; unfold rV; simp [Hx.out], ⟨.nil, .nil⟩, hfin.1, hfin.2.1⟩

set_option maxRecDepth 100000 in
set_option maxHeartbeats 4000000 in
theorem rr_kind3 (lo b : Nat) (s : St) (w : World) (hs : s.bs.length ≤ 1000000) (hr : RR lo w b s) :
    Calls Try.prog 23 #[.pointer (some ⟨b, 0, none⟩), .int .i64 3] w (ReadR lo b 3 s w) := by
  have hbl := hr.lt
  obtain ⟨W0, hW0, hB0, hsz, hz0, hz1⟩ := two_new w 0 3
  have hr0 := hr.below hB0
  have hu := rrraw_any b s W0 hs hr0
  unfold zero5 at hW0
  have HW0 := Lib.hid hW0
  have Hz0 := Lib.hid hz0
  have Hz1 := Lib.hid hz1
  have Hsz := Lib.hid hsz
  clear hW0 hz0 hz1 hsz hr
  go_enter Try.func23, Try.ntmps23
  go_wp2_with fail
  rw [HW0.out]
  refine hu.mono ?_
  rintro e w1 ⟨v, rfl, hv, hr1, hk1⟩
  have hv0 := hv
  obtain ⟨a, c, rfl, -⟩ := hv0
  have hsat := hv.mono (Q := fun k => k ≠ w.heap.size ∧ k ≠ w.heap.size + 1) (fun k _ h => by have h1 := h.2; show k ≠ w.heap.size ∧ k ≠ w.heap.size + 1; omega)
  obtain ⟨x, hx⟩ : ∃ x, (rRaw s).1 = x := ⟨_, rfl⟩
  rw [hx] at hsat
  rw [hx]
  have Hx := Lib.hid hx
  clear hx hv
  have x0 := (hk1.block _ (by rw [Hsz.out]; omega) (by show w.heap.size ≠ b; omega)).trans Hz0.out
  have x1 := (hk1.block _ (by rw [Hsz.out]; omega) (by show w.heap.size + 1 ≠ b; omega)).trans Hz1.out
  unfold zero5 at x0 x1
  obtain ⟨⟨p0, p1, p2, p3, p4⟩, f0, f1, f2, f3, f4⟩ := five x0
  obtain ⟨⟨q0, q1, q2, q3, q4⟩, g0, g1, g2, g3, g4⟩ := five x1
  have hk2 : Kp (· ≠ b) w w1 := (Kp.of_below hB0).trans hk1
  clear x0 x1 hu
  go_wp2_with fail
  have hfin := rr_fin hk2 hbl hr1 3 (.slice a x.length c) (.int .i64 3) (.int .u64 0) (.int .i64 0) (.slice a x.length c) (.slice none 0 0)
  refine bodyPost_ret (v := .agg #[.int .i64 3, .int .u64 0, .int .i64 0, .slice a x.length c, .slice none 0 0]) (by simp [results, Try.results23, go_sem, p0, p1, p2, p3, p4]) rfl ?_
  exact ⟨((⟨3, 0, 0, x, []⟩ : V), .slice a x.length c, .slice none 0 0), rfl, by rw [← Hx.out]; rfl, ⟨(hsat.kp hfin.2.2).mono (fun _ _ _ => trivial), .nil⟩, hfin.1, hfin.2.1⟩

set_option maxRecDepth 100000 in
set_option maxHeartbeats 4000000 in
theorem rr_kind4 (lo b : Nat) (s : St) (w : World) (hs : s.bs.length ≤ 1000000) (hr : RR lo w b s) :
    Calls Try.prog 23 #[.pointer (some ⟨b, 0, none⟩), .int .i64 4] w (ReadR lo b 4 s w) := by
  have hbl := hr.lt
  obtain ⟨W0, hW0, hB0, hsz, hz0, hz1⟩ := two_new w 0 4
  have hr0 := hr.below hB0
  have hu := rrraw_any b s W0 hs hr0
  unfold zero5 at hW0
  have HW0 := Lib.hid hW0
  have Hz0 := Lib.hid hz0
  have Hz1 := Lib.hid hz1
  have Hsz := Lib.hid hsz
  clear hW0 hz0 hz1 hsz hr
  go_enter Try.func23, Try.ntmps23
  go_wp2_with fail
  rw [HW0.out]
  refine hu.mono ?_
  rintro e w1 ⟨v, rfl, hv, hr1, hk1⟩
  have hv0 := hv
  obtain ⟨a, c, rfl, -⟩ := hv0
  have hsat := hv.mono (Q := fun k => k ≠ w.heap.size ∧ k ≠ w.heap.size + 1) (fun k _ h => by have h1 := h.2; show k ≠ w.heap.size ∧ k ≠ w.heap.size + 1; omega)
  obtain ⟨x, hx⟩ : ∃ x, (rRaw s).1 = x := ⟨_, rfl⟩
  rw [hx] at hsat
  rw [hx]
  have Hx := Lib.hid hx
  clear hx hv
  have x0 := (hk1.block _ (by rw [Hsz.out]; omega) (by show w.heap.size ≠ b; omega)).trans Hz0.out
  have x1 := (hk1.block _ (by rw [Hsz.out]; omega) (by show w.heap.size + 1 ≠ b; omega)).trans Hz1.out
  unfold zero5 at x0 x1
  obtain ⟨⟨p0, p1, p2, p3, p4⟩, f0, f1, f2, f3, f4⟩ := five x0
  obtain ⟨⟨q0, q1, q2, q3, q4⟩, g0, g1, g2, g3, g4⟩ := five x1
  have hk2 : Kp (· ≠ b) w w1 := (Kp.of_below hB0).trans hk1
  clear x0 x1 hu
  go_wp2_with fail
  have hfin := rr_fin hk2 hbl hr1 3 (.slice a x.length c) (.int .i64 4) (.int .u64 0) (.int .i64 0) (.slice a x.length c) (.slice none 0 0)
  refine bodyPost_ret (v := .agg #[.int .i64 4, .int .u64 0, .int .i64 0, .slice a x.length c, .slice none 0 0]) (by simp [results, Try.results23, go_sem, p0, p1, p2, p3, p4]) rfl ?_
  exact ⟨((⟨4, 0, 0, x, []⟩ : V), .slice a x.length c, .slice none 0 0), rfl, by rw [← Hx.out]; rfl, ⟨(hsat.kp hfin.2.2).mono (fun _ _ _ => trivial), .nil⟩, hfin.1, hfin.2.1⟩

set_option maxRecDepth 100000 in
set_option maxHeartbeats 4000000 in
theorem rr_kind5 (lo b : Nat) (s : St) (w : World) (hs : s.bs.length ≤ 1000000) (hr : RR lo w b s) :
    Calls Try.prog 23 #[.pointer (some ⟨b, 0, none⟩), .int .i64 5] w (ReadR lo b 5 s w) := by
  have hbl := hr.lt
  obtain ⟨W0, hW0, hB0, hsz, hz0, hz1⟩ := two_new w 0 5
  have hr0 := hr.below hB0
  have hu := rrints_any b s W0 hs hr0
  unfold zero5 at hW0
  have HW0 := Lib.hid hW0
  have Hz0 := Lib.hid hz0
  have Hz1 := Lib.hid hz1
  have Hsz := Lib.hid hsz
  clear hW0 hz0 hz1 hsz hr
  go_enter Try.func23, Try.ntmps23
  go_wp2_with fail
  rw [HW0.out]
  refine hu.mono ?_
  rintro e w1 ⟨v, rfl, hv, hr1, hk1⟩
  obtain ⟨a, c, rfl⟩ := hv.slice
  have hsat := hv.inp.mono (Q := fun k => k ≠ w.heap.size ∧ k ≠ w.heap.size + 1) (fun k _ h => by have h1 := Hsz.out; have h2 : W0.heap.size ≤ k := h; show k ≠ w.heap.size ∧ k ≠ w.heap.size + 1; omega)
  obtain ⟨x, hx⟩ : ∃ x, (rInts s).1 = x := ⟨_, rfl⟩
  rw [hx] at hsat
  rw [hx]
  have Hx := Lib.hid hx
  clear hx hv
  have x0 := (hk1.block _ (by rw [Hsz.out]; omega) (by show w.heap.size ≠ b; omega)).trans Hz0.out
  have x1 := (hk1.block _ (by rw [Hsz.out]; omega) (by show w.heap.size + 1 ≠ b; omega)).trans Hz1.out
  unfold zero5 at x0 x1
  obtain ⟨⟨p0, p1, p2, p3, p4⟩, f0, f1, f2, f3, f4⟩ := five x0
  obtain ⟨⟨q0, q1, q2, q3, q4⟩, g0, g1, g2, g3, g4⟩ := five x1
  have hk2 : Kp (· ≠ b) w w1 := (Kp.of_below hB0).trans hk1
  clear x0 x1 hu
  go_wp2_with fail
  have hfin := rr_fin hk2 hbl hr1 4 (.slice a x.length c) (.int .i64 5) (.int .u64 0) (.int .i64 0) (.slice none 0 0) (.slice a x.length c)
  refine bodyPost_ret (v := .agg #[.int .i64 5, .int .u64 0, .int .i64 0, .slice none 0 0, .slice a x.length c]) (by simp [results, Try.results23, go_sem, p0, p1, p2, p3, p4]) rfl ?_
  exact ⟨((⟨5, 0, 0, [], x⟩ : V), .slice none 0 0, .slice a x.length c), rfl, by rw [← Hx.out]; rfl, ⟨.nil, (hsat.kp hfin.2.2).mono (fun _ _ _ => trivial)⟩, hfin.1, hfin.2.1⟩

/-- read, at every kind. -/
theorem rrread_any (lo b : Nat) (k : Int) (hk : 0 ≤ k) (hk5 : k ≤ 5) (s : St) (w : World) (hs : s.bs.length ≤ 1000000) (hr : RR lo w b s) :
    Calls Try.prog 23 #[.pointer (some ⟨b, 0, none⟩), .int .i64 k] w (ReadR lo b k s w) := by
  have hkc : k = 0 ∨ k = 1 ∨ k = 2 ∨ k = 3 ∨ k = 4 ∨ k = 5 := by omega
  rcases hkc with rfl | rfl | rfl | rfl | rfl | rfl
  · exact rr_kind0 lo b s w hs hr
  · exact rr_kind1 lo b s w hs hr
  · exact rr_kind2 lo b s w hs hr
  · exact rr_kind3 lo b s w hs hr
  · exact rr_kind4 lo b s w hs hr
  · exact rr_kind5 lo b s w hs hr
end Go.Proofs.Ytiebefomhnbemaa
