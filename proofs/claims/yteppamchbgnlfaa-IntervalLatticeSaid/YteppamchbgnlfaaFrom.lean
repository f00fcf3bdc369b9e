/- The reference's from: the interval from the least to the greatest of some fractions. Conditions: valid fractions. -/
import Derived.Test.YteppamchbgnlfaaFs2
namespace Go.Proofs.Yteppamchbgnlfaa
open Go.RowKit

/-- The least of a list; the greatest. -/
def IsMin (l : List F2) (x : F2) : Prop := x ∈ l ∧ ∀ y ∈ l, leF x y
def IsMax (l : List F2) (x : F2) : Prop := x ∈ l ∧ ∀ y ∈ l, leF y x
theorem fold_min : ∀ (l : List F2) (m : F2), VL (m :: l) → l.foldl stepMin m ∈ m :: l ∧ ∀ y ∈ m :: l, leF (l.foldl stepMin m) y
  | [], m, _ => ⟨by simp, fun y hy => by rw [List.mem_singleton] at hy; rw [hy]; exact leF_refl m⟩
  | x :: l, m, hv => by
    have hm : vP m.1 m.2 := hv m (by simp)
    have hx : vP x.1 x.2 := hv x (by simp)
    have hs : stepMin m x = m ∨ stepMin m x = x := stepMin_or m x
    have hle : leF (stepMin m x) m ∧ leF (stepMin m x) x := by
      unfold stepMin
      split
      · rename_i h; exact ⟨by unfold leF; omega, leF_refl x⟩
      · rename_i h; exact ⟨leF_refl m, by unfold leF; rw [cmp_anti]; omega⟩
    have hv2 : VL (stepMin m x :: l) := fun y hy => by
      rcases List.mem_cons.1 hy with rfl | h
      · rcases hs with e | e <;> rw [e] <;> assumption
      · exact hv y (by simp [h])
    obtain ⟨h1, h2⟩ := fold_min l (stepMin m x) hv2
    rw [List.foldl_cons]
    have hv3 : vP (l.foldl stepMin (stepMin m x)).1 (l.foldl stepMin (stepMin m x)).2 := hv2 _ h1
    have hvs := hv2 (stepMin m x) (by simp)
    refine ⟨?_, fun y hy => ?_⟩
    · rcases List.mem_cons.1 h1 with h | h
      · rw [h]; rcases hs with e | e <;> rw [e] <;> simp
      · simp [h]
    · rcases List.mem_cons.1 hy with rfl | h
      · exact leF_trans hv3 hvs hm (h2 _ (by simp)) hle.1
      · rcases List.mem_cons.1 h with rfl | h
        · exact leF_trans hv3 hvs hx (h2 _ (by simp)) hle.2
        · exact h2 y (by simp [h])
theorem fold_max : ∀ (l : List F2) (m : F2), VL (m :: l) → l.foldl stepMax m ∈ m :: l ∧ ∀ y ∈ m :: l, leF y (l.foldl stepMax m)
  | [], m, _ => ⟨by simp, fun y hy => by rw [List.mem_singleton] at hy; rw [hy]; exact leF_refl m⟩
  | x :: l, m, hv => by
    have hm : vP m.1 m.2 := hv m (by simp)
    have hx : vP x.1 x.2 := hv x (by simp)
    have hs : stepMax m x = m ∨ stepMax m x = x := stepMax_or m x
    have hle : leF m (stepMax m x) ∧ leF x (stepMax m x) := by
      unfold stepMax
      split
      · rename_i h; exact ⟨by unfold leF; rw [cmp_anti]; omega, leF_refl x⟩
      · rename_i h; exact ⟨leF_refl m, by unfold leF; omega⟩
    have hv2 : VL (stepMax m x :: l) := fun y hy => by
      rcases List.mem_cons.1 hy with rfl | h
      · rcases hs with e | e <;> rw [e] <;> assumption
      · exact hv y (by simp [h])
    obtain ⟨h1, h2⟩ := fold_max l (stepMax m x) hv2
    rw [List.foldl_cons]
    have hv3 : vP (l.foldl stepMax (stepMax m x)).1 (l.foldl stepMax (stepMax m x)).2 := hv2 _ h1
    have hvs := hv2 (stepMax m x) (by simp)
    refine ⟨?_, fun y hy => ?_⟩
    · rcases List.mem_cons.1 h1 with h | h
      · rw [h]; rcases hs with e | e <;> rw [e] <;> simp
      · simp [h]
    · rcases List.mem_cons.1 hy with rfl | h
      · exact leF_trans hm hvs hv3 hle.1 (h2 _ (by simp))
      · rcases List.mem_cons.1 h with rfl | h
        · exact leF_trans hx hvs hv3 hle.2 (h2 _ (by simp))
        · exact h2 y (by simp [h])
theorem minL_is {l : List F2} (hl : l ≠ []) (hv : VL l) : IsMin l (minL l) := by
  cases l with
  | nil => exact absurd rfl hl
  | cons x l => exact fold_min l x hv
theorem maxL_is {l : List F2} (hl : l ≠ []) (hv : VL l) : IsMax l (maxL l) := by
  cases l with
  | nil => exact absurd rfl hl
  | cons x l => exact fold_max l x hv
theorem IsMin.eq {l : List F2} (hv : VL l) {x y : F2} (h : IsMin l x) (k : IsMin l y) : x = y := leF_anti (hv x h.1) (hv y k.1) (h.2 y k.1) (k.2 x h.1)
theorem IsMax.eq {l : List F2} (hv : VL l) {x y : F2} (h : IsMax l x) (k : IsMax l y) : x = y := leF_anti (hv x h.1) (hv y k.1) (k.2 x h.1) (h.2 y k.1)
theorem IsMin.perm {l m : List F2} (hp : m.Perm l) {x : F2} (h : IsMin m x) : IsMin l x := ⟨hp.mem_iff.1 h.1, fun y hy => h.2 y (hp.mem_iff.2 hy)⟩
theorem IsMax.perm {l m : List F2} (hp : m.Perm l) {x : F2} (h : IsMax m x) : IsMax l x := ⟨hp.mem_iff.1 h.1, fun y hy => h.2 y (hp.mem_iff.2 hy)⟩
theorem srt_min {m : List F2} (hs : Srt m m.length) {x : F2} (h0 : m[0]? = some x) : IsMin m x := ⟨List.mem_of_getElem? h0, fun y hy => by
  obtain ⟨j, hj, e⟩ := List.getElem_of_mem hy
  have hy' : m[j]? = some y := by rw [List.getElem?_eq_getElem hj, e]
  by_cases h : j = 0
  · subst h; rw [h0] at hy'; cases hy'; exact leF_refl x
  · exact hs 0 j x y (by omega) hj h0 hy'⟩
theorem srt_max {m : List F2} (hs : Srt m m.length) {x : F2} (h0 : m[m.length - 1]? = some x) : IsMax m x := ⟨List.mem_of_getElem? h0, fun y hy => by
  obtain ⟨j, hj, e⟩ := List.getElem_of_mem hy
  have hy' : m[j]? = some y := by rw [List.getElem?_eq_getElem hj, e]
  by_cases h : j = m.length - 1
  · subst h; rw [h0] at hy'; cases hy'; exact leF_refl x
  · exact hs j (m.length - 1) y x (by omega) (by omega) hy' h0⟩
/-- The ends of a sorted arrangement. -/
theorem ends_of {l m : List F2} (hv : VL l) (hl : l ≠ []) (hp : m.Perm l) (hs : Srt m m.length) : m[0]? = some (minL l) ∧ m[m.length - 1]? = some (maxL l) := by
  have hm : 0 < m.length := by
    rw [hp.length_eq]
    exact List.length_pos_iff.2 hl
  obtain ⟨x, hx⟩ : ∃ x, m[0]? = some x := ⟨_, List.getElem?_eq_getElem hm⟩
  obtain ⟨y, hy⟩ : ∃ y, m[m.length - 1]? = some y := ⟨_, List.getElem?_eq_getElem (by omega)⟩
  have h1 := ((srt_min hs hx).perm hp).eq hv (minL_is hl hv)
  have h2 := ((srt_max hs hy).perm hp).eq hv (maxL_is hl hv)
  exact ⟨by rw [hx, h1], by rw [hy, h2]⟩

set_option maxRecDepth 100000 in
set_option maxHeartbeats 8000000 in
theorem from_any (sv : Value) (l : List F2) (w : World) (hI : FsAt w sv l) (hv : VL l) (hl : l.length ≤ 1000) (hn : l ≠ []) :
    Calls Try.prog 32 #[sv] w fun e w' => e = .returned (.agg #[.int .i64 (minL l).1, .int .i64 (minL l).2, .int .i64 (maxL l).1, .int .i64 (maxL l).2]) ∧ Below w.heap.size w w' := by
  have hR := Blk.new w 25 #[.int .i64 0, .int .i64 0, .int .i64 0, .int .i64 0]
  have hW : Below w.heap.size w (w.alloc (.cells #[.int .i64 0, .int .i64 0, .int .i64 0, .int .i64 0] 25)) := (Below.refl _ w).alloc (Nat.le_refl _) _
  have SO := Lib.hid (sorted_any sv l _ (hI.below hW) hv hl)
  have HE := Lib.hid (fun m (hp : m.Perm l) (hs : Srt m m.length) => ends_of hv hn hp hs)
  have hpos : 0 < l.length := List.length_pos_iff.2 hn
  have HPOS := Lib.hid hpos
  obtain ⟨⟨p1, p2⟩, hp⟩ : ∃ x, minL l = x := ⟨_, rfl⟩
  obtain ⟨⟨q1, q2⟩, hq⟩ : ∃ x, maxL l = x := ⟨_, rfl⟩
  rw [hp, hq] at HE
  rw [hp, hq]
  clear hI hv hn hp hq hpos
  go_enter Try.func32, Try.ntmps32
  go_wp2_with fail
  (with_reducible refine SO.out.mono ?_)
  rintro e w1 ⟨v, m, rfl, hp, hs, hO, hb⟩
  have hml : m.length = l.length := hp.length_eq
  obtain ⟨e0, e1⟩ := HE.out m hp hs
  have hR1 := hR.below hb hR.lt
  have hW1 := below_st hW hb
  rcases FsAt.of_owns hO with ⟨-, h0⟩ | ⟨g, cap, rfl, hcap, hgb, hg, hF⟩
  · have := HPOS.out
    rw [h0] at hml
    simp at hml
    omega
  · obtain ⟨n, hnn⟩ : ∃ n, m.length = n + 1 := ⟨m.length - 1, by have := HPOS.out; omega⟩
    rw [hnn] at e1 ⊢
    rw [Nat.add_sub_cancel] at e1
    obtain ⟨x0, x1⟩ := hF.zero e0
    obtain ⟨y0, y1⟩ := hF.zero e1
    rw [Nat.zero_mul] at x0 x1
    have hn0 : (0 : Int) ≤ (n : Int) := by omega
    have hn2 : (n : Int) ≤ 1000 := by omega
    have hgw : w.heap.size < g := by simp at hgb; omega
    have hne : ¬ g = w.heap.size := by omega
    have hlt := hR1.lt
    have r0 := hR1.cell 0
    have r1 := hR1.cell 1
    have r2 := hR1.cell 2
    have r3 := hR1.cell 3
    have fr := hR1.frozen
    have HR := Lib.hid (And.intro hR1 hW1)
    clear SO HE hp hs hO hb hml e0 e1 hR1 hW1 hF hR hW HPOS hcap hgb hl hnn
    go_wp2_with fail
    go_region
    all_goals
      go_wp2
      exact ret_iv1 (p := 2) (by kernel_rfl) rfl (put4 HR.out.1 HR.out.2 (Nat.le_refl _) p1 p2 q1 q2).1.drew ⟨rfl, (put4 HR.out.1 HR.out.2 (Nat.le_refl _) p1 p2 q1 q2).2.drew⟩
end Go.Proofs.Yteppamchbgnlfaa
