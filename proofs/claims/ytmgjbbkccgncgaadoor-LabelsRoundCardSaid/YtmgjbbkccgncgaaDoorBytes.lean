/- The contract of package hash's Bytes. Conditions: label and slice within the reach. -/
import Derived.Test.YtmgjbbkccgncgaaDoorBase
namespace Go.Proofs.YtmgjbbkccgncgaaDoor
open Go.RowKit Go.Shelf

attribute [local go_sem] Oper.semAt_some

/-- An append to an own row turns no block but cells. -/
theorem others_appended {W w1 : World} {n₀ : Nat} {e : TypeId} {size : Nat} {v : Value} {k : Nat} {xs : List Value} {tmp : Obj} (hrow : W.ownsRow n₀ e size v k xs) (hgrow : (W.alloc tmp).grownBy w1 v.ownBlock) : KeepsOthers W w1 := by
  refine (KeepsOthers.alloc W tmp).trans (KeepsOthers.of_grownBy hgrow fun j o ej hj => ?_)
  rcases (hrow.alloc tmp).2 with ⟨rfl, _⟩ | ⟨g, cap, cur, rfl, _, hgb, _⟩
  · simp [Value.ownBlock] at ej
  · obtain rfl : g = j := by simpa [Value.ownBlock] using ej
    rw [hgb] at hj; cases hj; rfl
/-- An append to an own row leaves the box of a variable of another type. -/
theorem box_appended {W w1 : World} {n₀ B : Nat} {t e : TypeId} {size : Nat} {u v : Value} {k : Nat} {xs : List Value} {tmp : Obj} (hb : Boxed W B t u) (hte : t ≠ e) (hrow : W.ownsRow n₀ e size v k xs) (hgrow : (W.alloc tmp).grownBy w1 v.ownBlock) : Boxed w1 B t u :=
  (hb.alloc tmp).kept hgrow (hb.not_row hte hrow)

theorem ints_snoc (pre : List Int) (x : Int) : (pre ++ [x]).map (fun y => Value.int .i64 (wrap64 y)) = pre.map (fun y => Value.int .i64 (wrap64 y)) ++ [Value.int .i64 (wrap64 x)] := by simp

set_option maxRecDepth 100000 in
set_option maxHeartbeats 2000000 in
theorem bytes_in (n : Nat) (hn : 4 ≤ n) (lab : ByteArray) (bs : List UInt8) (a : Option Addr) (cap : Nat) (w : World) (hlab : lab.size ≤ 140737488351232) (hbs : bs.length ≤ 140737488351232) (hI : BytesAt w.heap.size w (.slice a bs.length cap) bs) :
    CallsIn Fence.wide n Tryd.prog 10 #[.string lab, .slice a bs.length cap] w fun e w' => e = .returned (.int .u64 (bytesI lab.data.toList bs)) ∧ Below w.heap.size w w' := by
  have h1 : 1 ≤ n := by omega
  obtain ⟨i0, hi, hz0, hz1, hz2⟩ := info_parts Tryd.infoInt
  refine callsIn_of_wp_marks Tryd.func10 rfl trivial ?_ rfl
  simp only [Tryd.ntmps10, List.size_toArray, List.length_cons, List.length_nil, Nat.reduceAdd, Nat.reduceSub, Array.replicate_succ, Array.replicate_zero, List.push_toArray, List.append_toArray, List.nil_append, List.cons_append]
  gi_wp2_with (first
    | (gi_at_make; refine wpListIn_make_own _ rfl _ _ 22 rfl w.heap.size 3 i0 (.int .i64 0) 1 Tryd.underlying22 hi hz0 hz1 .i64 .i64 _ (bs.length / 8 + 2) rfl rfl (by omega) (by rw [hz2]; omega) (by unfold maxLen; omega) (Nat.le_refl _) ?_; intro w0 hown0 hgrow0)
    | (refine ⟨trivial, ?_⟩; gi_at_call 29; refine (wordsOf_in (n - 1) _ _ _ _).mono ?_; rintro e w' ⟨rfl, rfl⟩))
  have hws : w.heap.size ≤ w0.heap.size := hgrow0.size
  have hBw : Below w.heap.size w w0 := (Below.refl _ w).grown hgrow0 (Nat.le_refl _) (fun k e => by cases e)
  have hrl := (hown0.lt w.heap.size rfl).2
  obtain ⟨W0, hW0⟩ : ∃ W0, ((w0.alloc (Obj.cells #[Value.slice (some ⟨w.heap.size, 0, none⟩) 0 (bs.length / 8 + 2)] 22)).alloc (Obj.cells #[Value.slice a bs.length cap] 34)) = W0 := ⟨_, rfl⟩
  have hsz : W0.heap.size = w0.heap.size + 2 := by rw [← hW0]; simp
  have hB0 : Below w.heap.size w W0 := by rw [← hW0]; exact (hBw.alloc hws _).alloc (by simp; omega) _
  have bS : Boxed W0 w0.heap.size 22 (Value.slice (some ⟨w.heap.size, 0, none⟩) 0 (bs.length / 8 + 2)) := by rw [← hW0]; exact (Boxed.new w0 _ _).alloc _
  have bB : Boxed W0 (w0.heap.size + 1) 34 (Value.slice a bs.length cap) := by
    rw [← hW0]
    have := Boxed.new (w0.alloc (Obj.cells #[Value.slice (some ⟨w.heap.size, 0, none⟩) 0 (bs.length / 8 + 2)] 22)) 34 (Value.slice a bs.length cap)
    rwa [World.size_alloc] at this
  have hrow0 : W0.ownsRow w.heap.size 3 1 (Value.slice (some ⟨w.heap.size, 0, none⟩) 0 (bs.length / 8 + 2)) 0 [] := by rw [← hW0]; exact (hown0.alloc _).alloc _
  have hkept : Kept (fun b => b < w.heap.size ∨ b = w0.heap.size + 1) W0 (w0.heap.size + 1) (Value.slice a bs.length cap) bs :=
    ⟨.inr rfl, bB.cell, by
      rcases hI.below hB0 with h | ⟨b, off, c', e, hl, hbb, hcs⟩
      · exact .inl h
      · exact .inr ⟨b, off, c', e, hl, .inl hbb, hcs⟩⟩
  rw [hW0]
  refine wpIn_rangeFunc_ownG rfl h1 (gf := 52) (lb := #[.pointer (some ⟨w0.heap.size + 1, 0, none⟩)]) rfl trivial (enters_of Tryd.func52 (by kernel_rfl) rfl)
    (words_stops (n - 1) (by omega) (w0.heap.size + 1) _ _ bs hbs W0 (fun b hb => by omega) hkept) KeepsAt.trans (keepsAt_b (fun b hb => by omega)) (Below.refl _ _) (fun _ => rfl)
    (fun pre W => (∃ v, Boxed W w0.heap.size 22 v ∧ W.ownsRow w.heap.size 3 1 v pre.length (pre.map (fun y => Value.int .i64 (wrap64 y))) ∧ True) ∧ Boxed W (w0.heap.size + 1) 34 (Value.slice a bs.length cap) ∧ w0.heap.size + 2 ≤ W.heap.size ∧ Below w.heap.size w W)
    (fun _ _ _ => False)
    (OwnFrom.and (Own.from (holdsRow_own w.heap.size w0.heap.size 22 3 1 (fun pre : List Int => pre.length) (fun pre : List Int => pre.map (fun y => Value.int .i64 (wrap64 y))) (fun _ _ => True)) _) (OwnFrom.and (Own.from (boxed_own _ _ _) _) (OwnFrom.and (fun s A B row hs hg hr => Nat.le_trans hs hg.size) (ownFrom_below (Nat.le_refl _) (by omega)))))
    (fun _ _ _ _ _ hs _ _ => hs)
    ⟨⟨_, bS, hrow0, trivial⟩, bB, by omega, hB0⟩
    (fun x => { tmps := #[Value.string lab, Value.slice a bs.length cap, undef, undef, Value.int IntKind.u64 0, Value.pointer (some ⟨w0.heap.size, 0, none⟩), .int .u64 x, Value.slice a bs.length cap, Value.int IntKind.i64 (bs.length : Int), Value.int IntKind.i64 ((bs.length : Int) / 8), Value.int IntKind.i64 ((bs.length : Int) / 8 + 2), Value.slice (some ⟨w.heap.size, 0, none⟩) 0 (bs.length / 8 + 2), Value.slice a bs.length cap, Value.func (Fn.func 52) #[] #[Value.pointer (some ⟨w0.heap.size + 1, 0, none⟩)], .int .u64 x, undef, undef, undef, undef, undef, undef, undef, undef, undef, undef, undef, undef], defers := [] }) ?assign ?body ?done ?stop
  case assign =>
    intro l x W K hK
    gi_wp2
    exact hK
  case body =>
    rintro l pre x W ⟨⟨v, hv, hrow, -⟩, hbB, hsW, hB⟩ hlt
    have hc := hv.cell
    have hpl : nWords bs.length ≤ 17592186044405 := by unfold nWords; omega
    clear hW0 hsz bS bB hkept hrow0 hB0 hown0 hgrow0
    gi_wp2_with (gi_at_builtin; refine wpListIn_append_own _ rfl _ _ 22 rfl w.heap.size 3 i0 (.int .i64 0) 1 8 Tryd.underlying22 hi hz0 hz1 hz2 rfl (by decide) _ _ _ rfl (hrow.alloc _) ⟨W.heap.size, 0, none⟩ 1 1 [.int .i64 (wrap64 x)] rfl rfl (cell_one_new _ _ _) (by simp [Value.oneCell']) (by unfold maxLen; omega) (by omega) (by have := hB.size; simp; omega) ?_; intro v' w1 hown' hgrow _; obtain ⟨g', cap', rfl⟩ := ownsRow_succ hown'; obtain ⟨hv1, hv2, hr2, hk2, hb2⟩ := hv.appended (by decide) hrow hB.size hws hown' hgrow; have hc1 := hv1.cell; have hf1 := hv1.frozen)
    have hbb := box_appended hbB (by decide) hrow hgrow
    have hbb2 : Boxed (w1.setCell ⟨w0.heap.size, 0, none⟩ (Value.slice (some ⟨g', 0, none⟩) (pre.length + 1) cap')) (w0.heap.size + 1) 34 (Value.slice a bs.length cap) :=
      (Below.heap_setCell _ _ _ _ (by simp)).trans hbb
    exact ⟨hk2.from _, fun k hk => by
        rcases hk with hk | rfl
        · exact hb2.block k hk
        · exact (show _ = _ from hbb2).trans (show _ = _ from hbB).symm,
      ⟨_, hv2, by rw [ints_snoc, List.length_append]; exact hr2, trivial⟩, hbb2, Nat.le_trans hsW hk2.size, hB.trans hb2⟩
  case done =>
    rintro D ys W hD rfl ⟨⟨v, hv, hrow, -⟩, hbB, hsW, hB⟩ hK
    have hc := hv.cell
    have hwl := wordsL_length bs
    have hpl : nWords bs.length ≤ 17592186044405 := by unfold nWords; omega
    have hwle : (wordsL bs).length ≤ 17592186044405 := by omega
    rw [hsz] at hD
    clear hW0 hsz bS bB hkept hrow0 hB0 hown0 hgrow0 hwl hpl hbB
    obtain ⟨zs, hzs⟩ : ∃ zs, (wordsL bs).map wrap64 ++ [(bs.length : Int)] = zs := ⟨_, rfl⟩
    have hzl : zs.length = (wordsL bs).length + 1 := by rw [← hzs]; simp
    have hzm : (wordsL bs).map (fun y => Value.int .i64 (wrap64 y)) ++ [Value.int .i64 (bs.length : Int)] = zs.map (Value.int .i64) := by rw [← hzs]; simp
    have hfin : sumI lab.data.toList zs = bytesI lab.data.toList bs := by rw [← hzs]; rfl
    have Hzl := Lib.hid hzl
    have Hzm := Lib.hid hzm
    have Hfin := Lib.hid hfin
    clear hzl hzm hfin hzs
    gi_wp2_with (gi_at_builtin; refine wpListIn_append_own _ rfl _ _ 22 rfl w.heap.size 3 i0 (.int .i64 0) 1 8 Tryd.underlying22 hi hz0 hz1 hz2 rfl (by decide) _ _ _ rfl (hrow.alloc _) ⟨W.heap.size, 0, none⟩ 1 1 [.int .i64 (bs.length : Int)] rfl rfl (cell_one_new _ _ _) (by simp [Value.oneCell']) (by unfold maxLen; omega) (by omega) (by have := hB.size; simp; omega) ?_; intro v' w1 hown' hgrow _; obtain ⟨g', cap', rfl⟩ := ownsRow_succ hown')
    have hK1 := (others_appended hrow hgrow).same D _ hK rfl
    have hB1 : Below w.heap.size w w1 := (hB.alloc hB.size _).grown hgrow (by have := hB.size; simp; omega) (fun j hj => (hrow.lt j hj).1)
    rw [Hzm.out, ← Hzl.out] at hown'
    have hs := sum_in (n - 1) (by omega) lab zs _ _ w1 hlab (by rw [Hzl.out]; omega) (rowAt_of_owns hown')
    rw [Hzl.out] at hs
    refine ⟨trivial, ?_⟩
    refine hs.mono ?_
    rintro e w2 ⟨rfl, hB2⟩
    gi_wp2
    have hK2 := (hB2.block D (Array.getElem?_eq_some_iff.1 hK1).1).trans hK1
    refine ⟨by simp, .inl ⟨_, _, rfl, run_takeDeferred hK2, ?_⟩⟩
    refine ⟨.int .u64 (sumI lab.data.toList zs), results_tmp (t := 4) rfl _ _ _, ret_u64 Hfin.out, (hB1.trans (hB2.mono hB1.size)).trans (belowK_b (w := w) (Nat.le_refl _) _ D _ _ (by omega) hK2 rfl rfl)⟩
  case stop =>
    rintro D c pre W _ _ h _
    exact h.elim
theorem bytes_any (lab : ByteArray) (bs : List UInt8) (a : Option Addr) (cap : Nat) (w : World) (hlab : lab.size ≤ 140737488351232) (hbs : bs.length ≤ 140737488351232) (hI : BytesAt w.heap.size w (.slice a bs.length cap) bs) :
    Calls Tryd.prog 10 #[.string lab, .slice a bs.length cap] w fun e w' => e = .returned (.int .u64 (bytesI lab.data.toList bs)) ∧ Below w.heap.size w w' :=
  (callsIn_wide (n := 4)).1 (bytes_in 4 (by omega) lab bs a cap w hlab hbs hI)
end Go.Proofs.YtmgjbbkccgncgaaDoor
