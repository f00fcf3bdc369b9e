/- Package frac: Parse is what the document asks. Conditions: strings that fit in memory; the variables as laid. -/
import Derived.Test.YtkdbffhmnkkbcaaDoorText
namespace Go.Proofs.YtkdbffhmnkkbcaaDoor
open Go.RowKit

/-- The fraction whose text is l, or ErrForm. -/
def parseO (l : List UInt8) : Option Int × Option Int := (atoiO (cutL l).1, atoiO (if (cutL l).2.2 then (cutL l).2.1 else [49]))
def parseQ (l : List UInt8) : Option Int × Option Int → R3
  | (some n, some d) => if textL n d = l then (n, d, 0) else (0, 0, 2)
  | _ => (0, 0, 2)
def parseR (l : List UInt8) : R3 := parseQ l (parseO l)

theorem cutL_le (l : List UInt8) : (cutL l).1.length ≤ l.length ∧ (cutL l).2.1.length ≤ l.length := by
  unfold cutL
  split
  · refine ⟨?_, ?_⟩
    · simp only [List.length_take]; omega
    · simp only [List.length_drop]; omega
  · simp

theorem atoiO_bounds {l : List UInt8} {v : Int} (h : atoiO l = some v) : -9223372036854775808 ≤ v ∧ v ≤ 9223372036854775807 := by
  unfold atoiO at h
  cases k : Lib.atoiAll l
  · rw [k] at h; simp only [Option.some.injEq] at h; subst h; exact Lib.atoiAll_bounds k
  · rw [k] at h; simp at h
  · rw [k] at h; simp at h

/-- The result's block in a later world. -/
def C1 (w W : World) : Prop := Blk W w.heap.size 24 #[.int .i64 0, .int .i64 0] ∧ Below w.heap.size w W ∧ w.heap.size < W.heap.size
theorem C1.start (w : World) : C1 w (w.alloc (.cells #[.int .i64 0, .int .i64 0] 24)) := ⟨Blk.new w _ _, (Below.refl _ w).alloc (Nat.le_refl _) _, by simp⟩
theorem C1.call {w W W' : World} (h : C1 w W) (hb : Below W.heap.size W W') : C1 w W' := ⟨h.1.below hb h.1.lt, below_st h.2.1 hb, by have := hb.size; have := h.2.2; omega⟩
theorem C1.cells {w W : World} (h : C1 w W) : W.cell? ⟨w.heap.size, 0, none⟩ = some (.int .i64 0) ∧ W.cell? ⟨w.heap.size, 1, none⟩ = some (.int .i64 0) ∧ W.frozen? ⟨w.heap.size, 0, none⟩ = false ∧ W.frozen? ⟨w.heap.size, 1, none⟩ = false := ⟨h.1.cell 0, h.1.cell 1, h.1.frozen 0, h.1.frozen 1⟩

theorem C1.put {w W : World} (h : C1 w W) (n d : Int) : Blk ((W.setCell ⟨w.heap.size, 0, none⟩ (.int .i64 n)).setCell ⟨w.heap.size, 1, none⟩ (.int .i64 d)) w.heap.size 24 #[.int .i64 n, .int .i64 d] ∧
    Below w.heap.size w ((W.setCell ⟨w.heap.size, 0, none⟩ (.int .i64 n)).setCell ⟨w.heap.size, 1, none⟩ (.int .i64 d)) :=
  ⟨(h.1.put 0 _).put 1 _, (h.2.1.setCell (by simp) _).setCell (by simp) _⟩

theorem C1.putal {w W : World} (h : C1 w W) (n d : Int) (o : Obj) : Blk (((W.setCell ⟨w.heap.size, 0, none⟩ (.int .i64 n)).setCell ⟨w.heap.size, 1, none⟩ (.int .i64 d)).alloc o) w.heap.size 24 #[.int .i64 n, .int .i64 d] ∧
    Below w.heap.size w (((W.setCell ⟨w.heap.size, 0, none⟩ (.int .i64 n)).setCell ⟨w.heap.size, 1, none⟩ (.int .i64 d)).alloc o) :=
  ⟨(h.put n d).1.alloc o, (h.put n d).2.alloc (h.put n d).2.size o⟩

set_option maxRecDepth 100000 in
set_option maxHeartbeats 4000000 in
theorem parse_any (s : ByteArray) (hs : s.size ≤ 140737488355328) (w : World) (hE : Env w) :
    Calls Tryd.prog 11 #[.string s] w fun e w' => e = .returned (RV (parseR s.data.toList)) ∧ Below w.heap.size w w' := by
  have CUT := fun W => cut_any s (by omega) W
  have hlen : s.data.toList.length = s.size := by simp
  obtain ⟨z1, z2⟩ := cutL_le s.data.toList
  obtain ⟨po, hpo⟩ : ∃ r, parseO s.data.toList = r := ⟨_, rfl⟩
  have hres : parseR s.data.toList = parseQ s.data.toList po := by rw [← hpo]; rfl
  unfold parseO at hpo
  obtain ⟨⟨l1, l2, f⟩, hc⟩ : ∃ r, cutL s.data.toList = r := ⟨_, rfl⟩
  rw [hc] at CUT z1 z2 hpo
  simp only at CUT z1 z2 hpo
  obtain ⟨sa, hsa⟩ : ∃ a : ByteArray, a = ⟨l1.toArray⟩ := ⟨_, rfl⟩
  obtain ⟨sb, hsb⟩ : ∃ a : ByteArray, a = ⟨l2.toArray⟩ := ⟨_, rfl⟩
  have za : sa.size ≤ 281474976710656 := by rw [hsa]; simp only [ByteArray.size, List.size_toArray]; omega
  have zb : sb.size ≤ 281474976710656 := by rw [hsb]; simp only [ByteArray.size, List.size_toArray]; omega
  have la : sa.data.toList = l1 := by rw [hsa]
  have lb : sb.data.toList = l2 := by rw [hsb]
  have A1 := fun W hW => atoi_any sa za W hW
  rw [la] at A1
  have CUT : ∀ W, Calls Tryd.prog 26 #[.string s, .string ⟨#[47]⟩] W fun e w' => e = .returned (.tuple #[.string sa, .string sb, .bool f]) ∧ Below W.heap.size W w' := by rw [hsa, hsb]; exact CUT
  have hst := C1.start w
  obtain ⟨sc, hsc⟩ : ∃ sc : ByteArray, sc = if f then sb else ⟨#[49]⟩ := ⟨_, rfl⟩
  have zc : sc.size ≤ 281474976710656 := by rw [hsc]; cases f; exact (by decide : (1 : Nat) ≤ 281474976710656); exact zb
  have A2 := fun W hW => atoi_any sc zc W hW
  have lc : sc.data.toList = if f then l2 else [49] := by rw [hsc]; cases f; rfl; exact lb
  rw [lc] at A2
  obtain ⟨o1, ho1⟩ : ∃ o, atoiO l1 = o := ⟨_, rfl⟩
  obtain ⟨o2, ho2⟩ : ∃ o, atoiO (if f then l2 else [49]) = o := ⟨_, rfl⟩
  have hb1 := fun v (h : o1 = some v) => atoiO_bounds (ho1.trans h)
  have hb2 := fun v (h : o2 = some v) => atoiO_bounds (ho2.trans h)
  rw [ho1] at A1
  rw [ho2] at A2
  rw [ho1, ho2] at hpo
  subst hpo
  have HRes := Lib.hid hres
  have A1 := Lib.hid A1
  have A2 := Lib.hid A2
  have CUT := Lib.hid CUT
  have B1 := Lib.hid hb1
  have B2 := Lib.hid hb2
  clear hlen z1 z2 hc hsa hsb za zb la lb zc lc ho1 ho2 hb1 hb2 hres hs
  cases f
  all_goals
    first
    | (have hsc2 : sc = sb := hsc; subst hsc2; clear hsc)
    | (have hsc2 : sc = ⟨#[49]⟩ := hsc; subst hsc2; clear hsc)
    go_enter Tryd.func11, Tryd.ntmps11
    go_wp2_with fail
    refine (CUT.out _).mono ?_
    rintro e w1 ⟨rfl, hB⟩
    have h1 := hst.call hB
    clear hst hB
    go_wp2_with fail
    refine (A1.out _ (hE.below h1.2.1)).mono ?_
    rintro e w2 ⟨⟨v1, ev1, rfl, hv1⟩, hB⟩
    have h2 := h1.call hB
    clear h1 hB
    go_wp2_with fail
    refine (A2.out _ (hE.below h2.2.1)).mono ?_
    rintro e w3 ⟨⟨v2, ev2, rfl, hv2⟩, hB⟩
    have h3 := h2.call hB
    clear h2 hB
    have hE3 := hE.below h3.2.1
    obtain ⟨c0, c1, c2, c3⟩ := h3.cells
    have H3 := Lib.hid h3
    have hz := h3.2.2
    clear h3
    rcases hv1 with ⟨ho1, rfl⟩ | ⟨ho1, N1, rfl⟩
    · rcases hv2 with ⟨ho2, rfl⟩ | ⟨ho2, N2, rfl⟩
      · obtain ⟨q1, q2⟩ := B1.out _ ho1
        obtain ⟨q3, q4⟩ := B2.out _ ho2
        have HQ : parseR s.data.toList = if textL v1 v2 = s.data.toList then (v1, v2, 0) else (0, 0, 2) := by rw [HRes.out, ho1, ho2]; rfl
        have HQ := Lib.hid HQ
        have TX := Lib.hid (fun W hW => text_any v1 v2 W q1 q2 q3 q4 hW)
        clear A1 A2 CUT B1 B2 HRes
        go_wp2_with fail
        have h4 : C1 w (w3.alloc (.cells #[.int .i64 v1, .int .i64 v2] 24)) := H3.out.call ((Below.refl _ _).alloc (Nat.le_refl _) _)
        have hA4 := Blk.new w3 24 #[.int .i64 v1, .int .i64 v2]
        refine (TX.out _ (hE.below h4.2.1)).mono ?_
        rintro e w5 ⟨rfl, hB⟩
        have h5 := h4.call hB
        have hA5 := hA4.below hB hA4.lt
        clear h4 hA4 hB TX hE3 hE c0 c1 c2 c3 hz
        obtain ⟨c0, c1, c2, c3⟩ := h5.cells
        have a0 := hA5.cell 0
        have a1 := hA5.cell 1
        have H5 := Lib.hid h5
        have hz := h5.2.2
        clear h5 hA5 H3
        by_cases hq : textL v1 v2 = s.data.toList
        · have hq2 : Value.string s = str (textL v1 v2) := by rw [hq]; exact str_of s
          have HR := Lib.hid (HQ.out.trans (if_pos hq))
          unfold str at hq2 ⊢
          obtain ⟨s2, hs2⟩ : ∃ s2 : ByteArray, s2 = ⟨(textL v1 v2).toArray⟩ := ⟨_, rfl⟩
          rw [← hs2] at hq2 ⊢
          injection hq2 with hq3
          subst hq3
          clear hs2 hq
          go_wp2
          exact ret_frac (p := 2) (q := 3) (by kernel_rfl) rfl rfl (H5.out.put v1 v2).1 ⟨by rw [HR.out], (H5.out.put v1 v2).2⟩
        · have hq3 : (⟨(textL v1 v2).toArray⟩ : ByteArray) ≠ s := fun h => hq (by rw [← h])
          have HR := Lib.hid (HQ.out.trans (if_neg hq))
          unfold str
          obtain ⟨s2, hs2⟩ : ∃ s2 : ByteArray, s2 = ⟨(textL v1 v2).toArray⟩ := ⟨_, rfl⟩
          rw [← hs2] at hq3 ⊢
          clear hs2 hq
          have hq4 : (s2.toList == s.toList) = false := by
            rw [beq_eq_false_iff_ne, ByteArray.toList_eq, ByteArray.toList_eq]
            exact fun h => hq3 (str_congr h)
          clear hq3
          go_wp2
          exact ret_frac (p := 2) (q := 3) (by kernel_rfl) rfl rfl (H5.out.put 0 0).1 ⟨by rw [HR.out], (H5.out.put 0 0).2⟩
      · have HQ := Lib.hid (show parseR s.data.toList = (0, 0, 2) by rw [HRes.out, ho1, ho2]; rfl)
        clear A1 A2 CUT B1 B2 HRes hE3 hE
        go_wp2
        exact ret_frac (p := 2) (q := 3) (by kernel_rfl) rfl rfl (H3.out.putal 0 0 _).1 ⟨by rw [HQ.out], (H3.out.putal 0 0 _).2⟩
    · have HQ := Lib.hid (show parseR s.data.toList = (0, 0, 2) by rw [HRes.out, ho1]; rfl)
      clear A1 A2 CUT B1 B2 HRes hE3 hE hv2
      go_wp2
      exact ret_frac (p := 2) (q := 3) (by kernel_rfl) rfl rfl (H3.out.putal 0 0 _).1 ⟨by rw [HQ.out], (H3.out.putal 0 0 _).2⟩
end Go.Proofs.YtkdbffhmnkkbcaaDoor
