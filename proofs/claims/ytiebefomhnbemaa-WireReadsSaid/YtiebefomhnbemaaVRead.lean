/- Contracts of the statements' own read, and of the reference's Same. Conditions: at most a million bytes. -/
import Derived.Test.YtiebefomhnbemaaVWrite
namespace Go.Proofs.Ytiebefomhnbemaa
open Go.RowKit

theorem cell_at {W : World} {b : Nat} {cs : Array Value} {t : TypeId} (h : W.heap[b]? = some (.cells cs t (0, 0))) (i : Nat) {x : Value} (hx : cs[i]? = some x) : W.cell? ⟨b, i, none⟩ = some x := by simp [World.cell?, h, hx]
theorem free_at {W : World} {b : Nat} {cs : Array Value} {t : TypeId} (h : W.heap[b]? = some (.cells cs t (0, 0))) (i : Nat) : W.frozen? ⟨b, i, none⟩ = false := by simp [World.frozen?, h]

set_option maxRecDepth 100000 in
set_option maxHeartbeats 4000000 in
theorem same_any (P Q : Nat → Prop) (t s : VT) (w : World) (hb : t.1.b.length ≤ 1000000) (hl : t.1.l.length ≤ 1000000) (h : t.1 = s.1) (hT : VP P w t) (hS : VP Q w s) :
    Calls Try.prog 21 #[aggV t, aggV s] w fun e w' => e = .returned (.bool true) ∧ Below w.heap.size w w' := by
  obtain ⟨⟨k, u, n, bs, l⟩, sb, sl⟩ := t
  obtain ⟨s1, sb2, sl2⟩ := s
  simp only at h
  subst h
  simp only at hb hl
  have hal : Below w.heap.size w ((w.alloc (.cells #[.int .i64 k, .int .u64 (u : Int), .int .i64 n, sb, sl] 28)).alloc (.cells #[.int .i64 k, .int .u64 (u : Int), .int .i64 n, sb2, sl2] 28)) := ((Below.refl _ w).alloc (Nat.le_refl _) _).alloc (by simp) _
  have hT2 := hT.below hal
  have hS2 := hS.below hal
  obtain ⟨hT3, hT4⟩ := hT2
  obtain ⟨hS3, hS4⟩ := hS2
  have b1 := hT3.in'
  have b2 := hS3.in'
  have i1 := hT4.in'
  have i2 := hS4.in'
  simp only at b1 b2 i1 i2
  obtain ⟨a1, c1, rfl⟩ := b1.slice
  obtain ⟨a2, c2, rfl⟩ := b2.slice
  obtain ⟨a3, c3, rfl⟩ := i1.slice
  obtain ⟨a4, c4, rfl⟩ := i2.slice
  clear hT hS hT3 hT4 hS3 hS4
  unfold aggV
  go_enter Try.func21, Try.ntmps21
  go_wp2_with fail
  refine (sameb_any a1 a2 c1 c2 bs bs _ (by omega) (Nat.le_refl _) b1 b2).mono ?_
  rintro e w1 ⟨rfl, hB1⟩
  have i1' := InAt.below hB1 i1
  have i2' := InAt.below hB1 i2
  have hc := hB1
  replace hal := below_then hal hB1
  clear b1 b2
  have x1 : w1.heap[w.heap.size]? = some (.cells #[.int .i64 k, .int .u64 (u : Int), .int .i64 n, .slice a1 bs.length c1, .slice a3 l.length c3] 28 (0, 0)) :=
    (hB1.block _ (by simp; omega)).trans ((Below.heap_alloc _ _ _ (by simp)).trans (World.alloc_heap_new w _))
  have x2 : w1.heap[w.heap.size + 1]? = some (.cells #[.int .i64 k, .int .u64 (u : Int), .int .i64 n, .slice a2 bs.length c2, .slice a4 l.length c4] 28 (0, 0)) := by
    refine (hB1.block _ (by simp)).trans ?_
    have := World.alloc_heap_new (w.alloc (.cells #[.int .i64 k, .int .u64 (u : Int), .int .i64 n, .slice a1 bs.length c1, .slice a3 l.length c3] 28)) (.cells #[.int .i64 k, .int .u64 (u : Int), .int .i64 n, .slice a2 bs.length c2, .slice a4 l.length c4] 28)
    rwa [World.size_alloc] at this
  have p4 := cell_at x1 4 rfl
  have q4 := cell_at x2 4 rfl
  have X1 := Lib.hid x1
  have X2 := Lib.hid x2
  have hs1 : w.heap.size + 1 < w1.heap.size := heap_lt x2
  clear x1 x2 hB1
  go_wp2_with fail
  refine (samei_any a3 a4 c3 c4 l l _ (by omega) (Nat.le_refl _) (InAt.mono hc.size i1') (InAt.mono hc.size i2')).mono ?_
  rintro e w2 ⟨rfl, hB2⟩
  replace hal := below_then hal hB2
  have x1 := (hB2.block _ (by omega)).trans X1.out
  have x2 := (hB2.block _ hs1).trans X2.out
  have p0 := cell_at x1 0 rfl
  have q0 := cell_at x2 0 rfl
  have p1 := cell_at x1 1 rfl
  have q1 := cell_at x2 1 rfl
  have p2 := cell_at x1 2 rfl
  have q2 := cell_at x2 2 rfl
  clear x1 x2 p4 q4 i1 i2 i1' i2' hc hB2
  go_wp2
  go_ret
  exact ⟨rfl, hal⟩

/-- What read returns: the value that was read, its slices in new blocks. -/
def ReadV (lo b : Nat) (k : Int) (s : St) (w : World) (e : Ending) (w' : World) : Prop :=
  ∃ t : VT, e = .returned (aggV t) ∧ t.1 = (rV k s).1 ∧ VP (w.heap.size ≤ ·) w' t ∧ Rd lo w' b (rV k s).2 ∧ Kp (· ≠ b) w w'

/-- The two structs that read lays. -/
def zero5 (k : Int) : Array Value := #[.int .i64 k, .int .u64 0, .int .i64 0, .slice none 0 0, .slice none 0 0]
theorem two_new (w : World) (k k' : Int) : ∃ W0, ((w.alloc (.cells (zero5 k) 28)).alloc (.cells (zero5 k') 28)) = W0 ∧ Below w.heap.size w W0 ∧ W0.heap.size = w.heap.size + 2 ∧
    W0.heap[w.heap.size]? = some (.cells (zero5 k) 28 (0, 0)) ∧ W0.heap[w.heap.size + 1]? = some (.cells (zero5 k') 28 (0, 0)) := by
  refine ⟨_, rfl, ((Below.refl _ w).alloc (Nat.le_refl _) _).alloc (by simp) _, by simp, ?_, ?_⟩
  · exact (Below.heap_alloc _ _ _ (by simp)).trans (World.alloc_heap_new w _)
  · have := World.alloc_heap_new (w.alloc (.cells (zero5 k) 28)) (.cells (zero5 k') 28)
    rwa [World.size_alloc] at this

theorem five {W : World} {b : Nat} {c0 c1 c2 c3 c4 : Value} {t : TypeId} (h : W.heap[b]? = some (.cells #[c0, c1, c2, c3, c4] t (0, 0))) :
    (W.cell? ⟨b, 0, none⟩ = some c0 ∧ W.cell? ⟨b, 1, none⟩ = some c1 ∧ W.cell? ⟨b, 2, none⟩ = some c2 ∧ W.cell? ⟨b, 3, none⟩ = some c3 ∧ W.cell? ⟨b, 4, none⟩ = some c4) ∧
    (W.frozen? ⟨b, 0, none⟩ = false ∧ W.frozen? ⟨b, 1, none⟩ = false ∧ W.frozen? ⟨b, 2, none⟩ = false ∧ W.frozen? ⟨b, 3, none⟩ = false ∧ W.frozen? ⟨b, 4, none⟩ = false) :=
  ⟨⟨cell_at h 0 rfl, cell_at h 1 rfl, cell_at h 2 rfl, cell_at h 3 rfl, cell_at h 4 rfl⟩, free_at h 0, free_at h 1, free_at h 2, free_at h 3, free_at h 4⟩

theorem cset {n : Nat} {A B : World} (h : Below n A B) (b o : Nat) (hb : n ≤ b) (v : Value) : Below n A (B.setCell ⟨b, o, none⟩ v) := h.setCell (p := ⟨b, o, none⟩) hb v
/-- The world behind the stores of a whole struct. -/
def put5 (W : World) (b : Nat) (c0 c1 c2 c3 c4 : Value) : World := ((((W.setCell ⟨b, 0, none⟩ c0).setCell ⟨b, 1, none⟩ c1).setCell ⟨b, 2, none⟩ c2).setCell ⟨b, 3, none⟩ c3).setCell ⟨b, 4, none⟩ c4
theorem below_put5 {n : Nat} {A B : World} (h : Below n A B) (b : Nat) (hb : n ≤ b) (c0 c1 c2 c3 c4 : Value) : Below n A (put5 B b c0 c1 c2 c3 c4) :=
  cset (cset (cset (cset (cset h b 0 hb c0) b 1 hb c1) b 2 hb c2) b 3 hb c3) b 4 hb c4
theorem kp_put5 {P : Nat → Prop} {A B : World} (h : Kp P A B) (b : Nat) (hb : ¬ P b) (c0 c1 c2 c3 c4 : Value) : Kp P A (put5 B b c0 c1 c2 c3 c4) :=
  ((((h.setCell (p := ⟨b, 0, none⟩) hb c0).setCell (p := ⟨b, 1, none⟩) hb c1).setCell (p := ⟨b, 2, none⟩) hb c2).setCell (p := ⟨b, 3, none⟩) hb c3).setCell (p := ⟨b, 4, none⟩) hb c4
/-- What holds behind the stores that end read: one field of the value (or none), then the result. -/
theorem read_end {lo b : Nat} {w w1 W : World} {s : St} (hk : Kp (· ≠ b) w w1) (hbl : b < w.heap.size) (hr : Rd lo w1 b s) (hB : Below w.heap.size w1 W) (hK : Kp (w.heap.size + 2 ≤ ·) w1 W) : Rd lo W b s ∧ Kp (· ≠ b) w W ∧ Kp (w.heap.size + 2 ≤ ·) w1 W :=
  ⟨hr.kp (P := (· < w.heap.size)) (.of_base hB) (fun k h => show k < w.heap.size by omega), hk.then hB, hK⟩
theorem read_fin {lo b : Nat} {w w1 : World} {s : St} (hk : Kp (· ≠ b) w w1) (hbl : b < w.heap.size) (hr : Rd lo w1 b s) (o : Nat) (v c0 c1 c2 c3 c4 : Value) :
    Rd lo (put5 (w1.setCell ⟨w.heap.size + 1, o, none⟩ v) w.heap.size c0 c1 c2 c3 c4) b s ∧ Kp (· ≠ b) w (put5 (w1.setCell ⟨w.heap.size + 1, o, none⟩ v) w.heap.size c0 c1 c2 c3 c4) ∧ Kp (w.heap.size + 2 ≤ ·) w1 (put5 (w1.setCell ⟨w.heap.size + 1, o, none⟩ v) w.heap.size c0 c1 c2 c3 c4) :=
  read_end hk hbl hr (below_put5 (cset (Below.refl _ w1) _ o (by omega) v) _ (Nat.le_refl _) _ _ _ _ _) (kp_put5 ((Kp.refl _ w1).setCell (p := ⟨w.heap.size + 1, o, none⟩) (by show ¬ (w.heap.size + 2 ≤ w.heap.size + 1); omega) v) _ (by show ¬ (w.heap.size + 2 ≤ w.heap.size); omega) _ _ _ _ _)
theorem read_fin0 {lo b : Nat} {w w1 : World} {s : St} (hk : Kp (· ≠ b) w w1) (hbl : b < w.heap.size) (hr : Rd lo w1 b s) (c0 c1 c2 c3 c4 : Value) :
    Rd lo (put5 w1 w.heap.size c0 c1 c2 c3 c4) b s ∧ Kp (· ≠ b) w (put5 w1 w.heap.size c0 c1 c2 c3 c4) ∧ Kp (w.heap.size + 2 ≤ ·) w1 (put5 w1 w.heap.size c0 c1 c2 c3 c4) :=
  read_end hk hbl hr (below_put5 (Below.refl _ w1) _ (Nat.le_refl _) _ _ _ _ _) (kp_put5 (Kp.refl _ w1) _ (by show ¬ (w.heap.size + 2 ≤ w.heap.size); omega) _ _ _ _ _)

set_option maxRecDepth 100000 in
set_option maxHeartbeats 4000000 in
theorem read_kind0 (lo b : Nat) (s : St) (w : World) (hs : s.bs.length ≤ 1000000) (hr : Rd lo w b s) :
    Calls Try.prog 22 #[.pointer (some ⟨b, 0, none⟩), .int .i64 0] w (ReadV lo b 0 s w) := by
  have hbl := hr.lt
  obtain ⟨W0, hW0, hB0, hsz, hz0, hz1⟩ := two_new w 0 0
  have hr0 := hr.below hB0
  have hu := ruint_any b s W0 hs hr0
  unfold zero5 at hW0
  have HW0 := Lib.hid hW0
  have Hz0 := Lib.hid hz0
  have Hz1 := Lib.hid hz1
  have Hsz := Lib.hid hsz
  clear hW0 hz0 hz1 hsz hr
  go_enter Try.func22, Try.ntmps22
  go_wp2_with fail
  rw [HW0.out]
  refine hu.mono ?_
  rintro e w1 ⟨rfl, hr1, hk1⟩
  obtain ⟨x, hx⟩ : ∃ x, (rU s).1 = x := ⟨_, rfl⟩
  rw [hx]
  have Hx := Lib.hid hx
  clear hx
  have x0 := (hk1.block _ (by rw [Hsz.out]; omega) (by show w.heap.size ≠ b; omega)).trans Hz0.out
  have x1 := (hk1.block _ (by rw [Hsz.out]; omega) (by show w.heap.size + 1 ≠ b; omega)).trans Hz1.out
  unfold zero5 at x0 x1
  obtain ⟨⟨p0, p1, p2, p3, p4⟩, f0, f1, f2, f3, f4⟩ := five x0
  obtain ⟨⟨q0, q1, q2, q3, q4⟩, g0, g1, g2, g3, g4⟩ := five x1
  have hk2 : Kp (· ≠ b) w w1 := (Kp.of_below hB0).trans hk1
  clear x0 x1 hu
  go_wp2_with fail
  have hfin := read_fin hk2 hbl hr1 1 (.int .u64 (x : Int)) (.int .i64 0) (.int .u64 (x : Int)) (.int .i64 0) (.slice none 0 0) (.slice none 0 0)
  refine bodyPost_ret (v := .agg #[.int .i64 0, .int .u64 (x : Int), .int .i64 0, .slice none 0 0, .slice none 0 0]) (by simp [results, Try.results22, go_sem, p0, p1, p2, p3, p4]) rfl ?_
  exact ⟨((⟨0, x, 0, [], []⟩ : V), .slice none 0 0, .slice none 0 0), rfl, by rw [← Hx.out]; rfl, ⟨.nil, .nil⟩, hfin.1, hfin.2.1⟩

set_option maxRecDepth 100000 in
set_option maxHeartbeats 4000000 in
theorem read_kind1 (lo b : Nat) (s : St) (w : World) (hs : s.bs.length ≤ 1000000) (hr : Rd lo w b s) :
    Calls Try.prog 22 #[.pointer (some ⟨b, 0, none⟩), .int .i64 1] w (ReadV lo b 1 s w) := by
  have hbl := hr.lt
  obtain ⟨W0, hW0, hB0, hsz, hz0, hz1⟩ := two_new w 0 1
  have hr0 := hr.below hB0
  have hu := rint_any b s W0 hs hr0
  unfold zero5 at hW0
  have HW0 := Lib.hid hW0
  have Hz0 := Lib.hid hz0
  have Hz1 := Lib.hid hz1
  have Hsz := Lib.hid hsz
  clear hW0 hz0 hz1 hsz hr
  go_enter Try.func22, Try.ntmps22
  go_wp2_with fail
  rw [HW0.out]
  refine hu.mono ?_
  rintro e w1 ⟨rfl, hr1, hk1⟩
  obtain ⟨x, hx⟩ : ∃ x, (rI s).1 = x := ⟨_, rfl⟩
  rw [hx]
  have Hx := Lib.hid hx
  clear hx
  have x0 := (hk1.block _ (by rw [Hsz.out]; omega) (by show w.heap.size ≠ b; omega)).trans Hz0.out
  have x1 := (hk1.block _ (by rw [Hsz.out]; omega) (by show w.heap.size + 1 ≠ b; omega)).trans Hz1.out
  unfold zero5 at x0 x1
  obtain ⟨⟨p0, p1, p2, p3, p4⟩, f0, f1, f2, f3, f4⟩ := five x0
  obtain ⟨⟨q0, q1, q2, q3, q4⟩, g0, g1, g2, g3, g4⟩ := five x1
  have hk2 : Kp (· ≠ b) w w1 := (Kp.of_below hB0).trans hk1
  clear x0 x1 hu
  go_wp2_with fail
  have hfin := read_fin hk2 hbl hr1 2 (.int .i64 x) (.int .i64 1) (.int .u64 0) (.int .i64 x) (.slice none 0 0) (.slice none 0 0)
  refine bodyPost_ret (v := .agg #[.int .i64 1, .int .u64 0, .int .i64 x, .slice none 0 0, .slice none 0 0]) (by simp [results, Try.results22, go_sem, p0, p1, p2, p3, p4]) rfl ?_
  exact ⟨((⟨1, 0, x, [], []⟩ : V), .slice none 0 0, .slice none 0 0), rfl, by rw [← Hx.out]; rfl, ⟨.nil, .nil⟩, hfin.1, hfin.2.1⟩

set_option maxRecDepth 100000 in
set_option maxHeartbeats 4000000 in
theorem read_kind2 (lo b : Nat) (s : St) (w : World) (hs : s.bs.length ≤ 1000000) (hr : Rd lo w b s) :
    Calls Try.prog 22 #[.pointer (some ⟨b, 0, none⟩), .int .i64 2] w (ReadV lo b 2 s w) := by
  have hbl := hr.lt
  obtain ⟨W0, hW0, hB0, hsz, hz0, hz1⟩ := two_new w 0 2
  have hr0 := hr.below hB0
  have hu := rbool_any b s W0 hs hr0
  unfold zero5 at hW0
  have HW0 := Lib.hid hW0
  have Hz0 := Lib.hid hz0
  have Hz1 := Lib.hid hz1
  have Hsz := Lib.hid hsz
  clear hW0 hz0 hz1 hsz hr
  go_enter Try.func22, Try.ntmps22
  go_wp2_with fail
  rw [HW0.out]
  refine hu.mono ?_
  rintro e w1 ⟨rfl, hr1, hk1⟩
  obtain ⟨x, hx⟩ : ∃ x, (rB s).1 = x := ⟨_, rfl⟩
  rw [hx]
  have Hx := Lib.hid hx
  clear hx
  have x0 := (hk1.block _ (by rw [Hsz.out]; omega) (by show w.heap.size ≠ b; omega)).trans Hz0.out
  have x1 := (hk1.block _ (by rw [Hsz.out]; omega) (by show w.heap.size + 1 ≠ b; omega)).trans Hz1.out
  unfold zero5 at x0 x1
  obtain ⟨⟨p0, p1, p2, p3, p4⟩, f0, f1, f2, f3, f4⟩ := five x0
  obtain ⟨⟨q0, q1, q2, q3, q4⟩, g0, g1, g2, g3, g4⟩ := five x1
  have hk2 : Kp (· ≠ b) w w1 := (Kp.of_below hB0).trans hk1
  clear x0 x1 hu
  cases x
  · go_wp2_with fail
    have hfin := read_fin0 hk2 hbl hr1 (.int .i64 2) (.int .u64 0) (.int .i64 0) (.slice none 0 0) (.slice none 0 0)
    refine bodyPost_ret (v := .agg #[.int .i64 2, .int .u64 0, .int .i64 0, .slice none 0 0, .slice none 0 0]) (by simp [results, Try.results22, go_sem, p0, p1, p2, p3, p4]) rfl ?_
    exact ⟨((⟨2, 0, 0, [], []⟩ : V), .slice none 0 0, .slice none 0 0), rfl, by show (⟨2, 0, 0, [], []⟩ : V) = (rV 2 s).1; unfold rV; simp [Hx.out], ⟨.nil, .nil⟩, hfin.1, hfin.2.1⟩
  · go_wp2_with fail
    have hfin := read_fin hk2 hbl hr1 2 (.int .i64 1) (.int .i64 2) (.int .u64 0) (.int .i64 1) (.slice none 0 0) (.slice none 0 0)
    refine bodyPost_ret (v := .agg #[.int .i64 2, .int .u64 0, .int .i64 1, .slice none 0 0, .slice none 0 0]) (by simp [results, Try.results22, go_sem, p0, p1, p2, p3, p4]) rfl ?_
    exact ⟨((⟨2, 0, 1, [], []⟩ : V), .slice none 0 0, .slice none 0 0), rfl, by show (⟨2, 0, 1, [], []⟩ : V) = (rV 2 s).1; unfold rV; simp [Hx.out], ⟨.nil, .nil⟩, hfin.1, hfin.2.1⟩

set_option maxRecDepth 100000 in
set_option maxHeartbeats 4000000 in
theorem read_kind4 (lo b : Nat) (s : St) (w : World) (hs : s.bs.length ≤ 1000000) (hr : Rd lo w b s) :
    Calls Try.prog 22 #[.pointer (some ⟨b, 0, none⟩), .int .i64 4] w (ReadV lo b 4 s w) := by
  have hbl := hr.lt
  obtain ⟨W0, hW0, hB0, hsz, hz0, hz1⟩ := two_new w 0 4
  have hr0 := hr.below hB0
  have hu := rraw_any b s W0 hs hr0
  unfold zero5 at hW0
  have HW0 := Lib.hid hW0
  have Hz0 := Lib.hid hz0
  have Hz1 := Lib.hid hz1
  have Hsz := Lib.hid hsz
  clear hW0 hz0 hz1 hsz hr
  go_enter Try.func22, Try.ntmps22
  go_wp2_with fail
  rw [HW0.out]
  refine hu.mono ?_
  rintro e w1 ⟨v, rfl, hv, hr1, hk1⟩
  obtain ⟨a, c, rfl⟩ := hv.slice
  have hsat := hv.sat.mono (Q := (w.heap.size + 2 ≤ ·)) (fun k _ h => by have := Hsz.out; show w.heap.size + 2 ≤ k; omega)
  obtain ⟨x, hx⟩ : ∃ x, (rRaw s).1 = x := ⟨_, rfl⟩
  rw [hx] at hsat
  rw [hx]
  have Hx := Lib.hid hx
  clear hx hv
  have x0 := (hk1.block _ (by rw [Hsz.out]; omega) (by show w.heap.size ≠ b; omega)).trans Hz0.out
  have x1 := (hk1.block _ (by rw [Hsz.out]; omega) (by show w.heap.size + 1 ≠ b; omega)).trans Hz1.out
  unfold zero5 at x0 x1
  obtain ⟨⟨p0, p1, p2, p3, p4⟩, f0, f1, f2, f3, f4⟩ := five x0
  obtain ⟨⟨q0, q1, q2, q3, q4⟩, g0, g1, g2, g3, g4⟩ := five x1
  have hk2 : Kp (· ≠ b) w w1 := (Kp.of_below hB0).trans hk1
  clear x0 x1 hu
  go_wp2_with fail
  have hfin := read_fin hk2 hbl hr1 3 (.slice a x.length c) (.int .i64 4) (.int .u64 0) (.int .i64 0) (.slice a x.length c) (.slice none 0 0)
  refine bodyPost_ret (v := .agg #[.int .i64 4, .int .u64 0, .int .i64 0, .slice a x.length c, .slice none 0 0]) (by simp [results, Try.results22, go_sem, p0, p1, p2, p3, p4]) rfl ?_
  exact ⟨((⟨4, 0, 0, x, []⟩ : V), .slice a x.length c, .slice none 0 0), rfl, by rw [← Hx.out]; rfl, ⟨(hsat.kp hfin.2.2).mono (fun k _ h => by have h' : w.heap.size + 2 ≤ k := h; show w.heap.size ≤ k; omega), .nil⟩, hfin.1, hfin.2.1⟩

set_option maxRecDepth 100000 in
set_option maxHeartbeats 4000000 in
theorem read_kind5 (lo b : Nat) (s : St) (w : World) (hs : s.bs.length ≤ 1000000) (hr : Rd lo w b s) :
    Calls Try.prog 22 #[.pointer (some ⟨b, 0, none⟩), .int .i64 5] w (ReadV lo b 5 s w) := by
  have hbl := hr.lt
  obtain ⟨W0, hW0, hB0, hsz, hz0, hz1⟩ := two_new w 0 5
  have hr0 := hr.below hB0
  have hu := rints_any b s W0 hs hr0
  unfold zero5 at hW0
  have HW0 := Lib.hid hW0
  have Hz0 := Lib.hid hz0
  have Hz1 := Lib.hid hz1
  have Hsz := Lib.hid hsz
  clear hW0 hz0 hz1 hsz hr
  go_enter Try.func22, Try.ntmps22
  go_wp2_with fail
  rw [HW0.out]
  refine hu.mono ?_
  rintro e w1 ⟨v, rfl, hv, hr1, hk1⟩
  obtain ⟨a, c, rfl⟩ := hv.slice
  have hsat := hv.inp.mono (Q := (w.heap.size + 2 ≤ ·)) (fun k _ h => by have := Hsz.out; show w.heap.size + 2 ≤ k; omega)
  obtain ⟨x, hx⟩ : ∃ x, (rInts s).1 = x := ⟨_, rfl⟩
  rw [hx] at hsat
  rw [hx]
  have Hx := Lib.hid hx
  clear hx hv
  have x0 := (hk1.block _ (by rw [Hsz.out]; omega) (by show w.heap.size ≠ b; omega)).trans Hz0.out
  have x1 := (hk1.block _ (by rw [Hsz.out]; omega) (by show w.heap.size + 1 ≠ b; omega)).trans Hz1.out
  unfold zero5 at x0 x1
  obtain ⟨⟨p0, p1, p2, p3, p4⟩, f0, f1, f2, f3, f4⟩ := five x0
  obtain ⟨⟨q0, q1, q2, q3, q4⟩, g0, g1, g2, g3, g4⟩ := five x1
  have hk2 : Kp (· ≠ b) w w1 := (Kp.of_below hB0).trans hk1
  clear x0 x1 hu
  go_wp2_with fail
  have hfin := read_fin hk2 hbl hr1 4 (.slice a x.length c) (.int .i64 5) (.int .u64 0) (.int .i64 0) (.slice none 0 0) (.slice a x.length c)
  refine bodyPost_ret (v := .agg #[.int .i64 5, .int .u64 0, .int .i64 0, .slice none 0 0, .slice a x.length c]) (by simp [results, Try.results22, go_sem, p0, p1, p2, p3, p4]) rfl ?_
  exact ⟨((⟨5, 0, 0, [], x⟩ : V), .slice none 0 0, .slice a x.length c), rfl, by rw [← Hx.out]; rfl, ⟨.nil, (hsat.kp hfin.2.2).mono (fun k _ h => by have h' : w.heap.size + 2 ≤ k := h; show w.heap.size ≤ k; omega)⟩, hfin.1, hfin.2.1⟩

/-- The conversion of a string of bytes, its world named. -/
theorem conv_sat (w : World) (x : List UInt8) : ∃ w2 c, (convert 9 24 (.string ⟨x.toArray⟩)).run Try.prog w = .ok (.slice (some ⟨w.heap.size, 0, none⟩) x.length c) w2 ∧ Below w.heap.size w w2 ∧ SAt (w.heap.size ≤ ·) w2 (.slice (some ⟨w.heap.size, 0, none⟩) x.length c) x := by
  obtain ⟨c, C, hc, hC, hcv⟩ := conv_bytes w ⟨x.toArray⟩
  have hs : ByteArray.size ⟨x.toArray⟩ = x.length := by simp [ByteArray.size]
  rw [hs] at hc hC hcv
  refine ⟨_, c, hcv, ((Below.refl _ w).drew).alloc (Nat.le_refl _) _, ⟨_, c, rfl, hc, (fun h => by cases h), fun _ => ⟨w.heap.size, 0, rfl, Nat.le_refl _, by simp, fun j hj => ?_⟩⟩⟩
  rw [Nat.zero_add]
  exact (World.cell?_alloc_mark w.drew C _ _ j).trans (hC j hj)

set_option maxRecDepth 100000 in
set_option maxHeartbeats 4000000 in
theorem read_kind3 (lo b : Nat) (s : St) (w : World) (hs : s.bs.length ≤ 1000000) (hr : Rd lo w b s) :
    Calls Try.prog 22 #[.pointer (some ⟨b, 0, none⟩), .int .i64 3] w (ReadV lo b 3 s w) := by
  have hbl := hr.lt
  obtain ⟨W0, hW0, hB0, hsz, hz0, hz1⟩ := two_new w 0 3
  have hr0 := hr.below hB0
  have hu := rtext_any b s W0 hs hr0
  unfold zero5 at hW0
  have HW0 := Lib.hid hW0
  have Hz0 := Lib.hid hz0
  have Hz1 := Lib.hid hz1
  have Hsz := Lib.hid hsz
  clear hW0 hz0 hz1 hsz hr
  go_enter Try.func22, Try.ntmps22
  go_wp2_with fail
  rw [HW0.out]
  refine hu.mono ?_
  rintro e w1 ⟨rfl, hr1, hk1⟩
  obtain ⟨x, hx⟩ : ∃ x, (rRaw s).1 = x := ⟨_, rfl⟩
  rw [hx]
  have Hx := Lib.hid hx
  clear hx
  obtain ⟨w2, c, hcv, hB2, hsat0⟩ := conv_sat w1 x
  have hsat := hsat0.mono (Q := (w.heap.size + 2 ≤ ·)) (fun k _ h => by have := Hsz.out; have := hk1.size; have h' : w1.heap.size ≤ k := h; show w.heap.size + 2 ≤ k; omega)
  replace hr1 := hr1.below hB2
  replace hk1 := hk1.trans (.of_below hB2)
  clear hsat0 hB2
  have x0 := (hk1.block _ (by rw [Hsz.out]; omega) (by show w.heap.size ≠ b; omega)).trans Hz0.out
  have x1 := (hk1.block _ (by rw [Hsz.out]; omega) (by show w.heap.size + 1 ≠ b; omega)).trans Hz1.out
  unfold zero5 at x0 x1
  obtain ⟨⟨p0, p1, p2, p3, p4⟩, f0, f1, f2, f3, f4⟩ := five x0
  obtain ⟨⟨q0, q1, q2, q3, q4⟩, g0, g1, g2, g3, g4⟩ := five x1
  have hk2 : Kp (· ≠ b) w w2 := (Kp.of_below hB0).trans hk1
  clear x0 x1 hu
  go_wp2_with fail
  have hfin := read_fin hk2 hbl hr1 3 (.slice (some ⟨w1.heap.size, 0, none⟩) x.length c) (.int .i64 3) (.int .u64 0) (.int .i64 0) (.slice (some ⟨w1.heap.size, 0, none⟩) x.length c) (.slice none 0 0)
  refine bodyPost_ret (v := .agg #[.int .i64 3, .int .u64 0, .int .i64 0, .slice (some ⟨w1.heap.size, 0, none⟩) x.length c, .slice none 0 0]) (by simp [results, Try.results22, go_sem, p0, p1, p2, p3, p4]) rfl ?_
  exact ⟨((⟨3, 0, 0, x, []⟩ : V), .slice (some ⟨w1.heap.size, 0, none⟩) x.length c, .slice none 0 0), rfl, by rw [← Hx.out]; rfl, ⟨(hsat.kp hfin.2.2).mono (fun k _ h => by have h' : w.heap.size + 2 ≤ k := h; show w.heap.size ≤ k; omega), .nil⟩, hfin.1, hfin.2.1⟩

/-- read, at every kind. -/
theorem vread_any (lo b : Nat) (k : Int) (hk : 0 ≤ k) (hk5 : k ≤ 5) (s : St) (w : World) (hs : s.bs.length ≤ 1000000) (hr : Rd lo w b s) :
    Calls Try.prog 22 #[.pointer (some ⟨b, 0, none⟩), .int .i64 k] w (ReadV lo b k s w) := by
  have hkc : k = 0 ∨ k = 1 ∨ k = 2 ∨ k = 3 ∨ k = 4 ∨ k = 5 := by omega
  rcases hkc with rfl | rfl | rfl | rfl | rfl | rfl
  · exact read_kind0 lo b s w hs hr
  · exact read_kind1 lo b s w hs hr
  · exact read_kind2 lo b s w hs hr
  · exact read_kind3 lo b s w hs hr
  · exact read_kind4 lo b s w hs hr
  · exact read_kind5 lo b s w hs hr
end Go.Proofs.Ytiebefomhnbemaa
