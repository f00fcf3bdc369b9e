/- Statement HashGroups: Bytes is the sum of the words and the length, and a zero byte behind an incomplete group changes it. Conditions: none. -/
import Derived.Test.YtialohbnhiechaaOwn
import Derived.Test.YtialohbnhiechaaInj
namespace Go.Proofs.Ytialohbnhiechaa
open Go.ChangeShapes Go.WideShapes Go.ChangeAt Go.RowKit

theorem below_append {w W w1 : World} (hB : Below w.heap.size w W) (tmp : Obj) {v : Value} {base e n : Nat} {xs : List Value} (hown : W.ownsRow base e 1 v n xs) (hbase : w.heap.size ≤ base) (hgrow : (W.alloc tmp).grownBy w1 v.ownBlock) : Below w.heap.size w w1 :=
  (hB.alloc hB.size tmp).grown hgrow (by have := hB.size; simp; omega) (fun j hj => Nat.le_trans hbase (hown.lt j hj).1)

set_option maxRecDepth 100000 in
set_option maxHeartbeats 4000000 in
theorem groupslaw_walk (s : ByteArray) (a : Option Addr) (cap : Nat) (bs : List UInt8) (w : World) (hs : s.size ≤ 140737488351232) (hb : bs.length ≤ 140737488351232) (hI : InAt .u8 w.heap.size w (.slice a bs.length cap) (bs.map ofByte)) :
    Calls Try.prog 8 #[.string s, .slice a bs.length cap] w fun e w' => e = .returned (.bool true) ∧ Below w.heap.size w w' := by
  obtain ⟨i0, hi, hz0, hz1, hz2⟩ := info_parts Try.infoInt
  obtain ⟨j0, hj, hy0, hy1, hy2⟩ := info_parts Try.infoU8
  go_enter Try.func8, Try.ntmps8
  go_wp2_with fail
  refine (short_any s 20 w hs (by omega) (by omega)).mono ?_
  rintro e w' ⟨⟨s', rfl, hs'⟩, rfl⟩
  go_wp2_with fail
  refine (few_row a cap bs 60 w hb (by omega) (by omega) hI).mono ?_
  rintro e w1 ⟨a1, c1, rfl, hr1, hB1⟩
  have hle : (bs.take (60 : Int).toNat).length ≤ 60 := List.length_take_le _ _
  obtain ⟨cs, hcs⟩ : ∃ cs, bs.take (60 : Int).toNat = cs := ⟨_, rfl⟩
  rw [hcs] at hr1 hle
  rw [hcs]
  clear hcs hI
  go_wp2_with fail
  refine (refwords a1 c1 cs w1 (by omega) (bytesAt_of_row hr1.at)).mono ?_
  rintro e w2 ⟨a2, c2, rfl, hrow, hB⟩
  have hB2 := below_then hB1 hB
  replace hr1 := hr1.below hB
  clear hB hB1
  have hwl := wordsL_length cs
  have hpl : nWords cs.length ≤ 10 := by unfold nWords; omega
  have hwle : (wordsL cs).length ≤ 10 := by omega
  clear hwl hpl
  obtain ⟨zs, hzs⟩ : ∃ zs, (wordsL cs).map wrap64 ++ [(cs.length : Int)] = zs := ⟨_, rfl⟩
  have hzl : zs.length = (wordsL cs).length + 1 := by rw [← hzs]; simp
  have hzm : (wordsL cs).map (fun y => Value.int .i64 (wrap64 y)) ++ [Value.int .i64 (cs.length : Int)] = zs.map (Value.int .i64) := by rw [← hzs]; simp
  have hfin : bytesI s'.data.toList cs = sumI s'.data.toList zs := by rw [← hzs]; rfl
  have Hfin := Lib.hid hfin
  clear hfin hzs
  obtain ⟨ws, hws⟩ : ∃ ws, wordsL cs = ws := ⟨_, rfl⟩
  rw [hws] at hrow hwle hzl hzm
  rw [hws]
  have Hzl := Lib.hid hzl
  have Hzm := Lib.hid hzm
  clear hzl hzm hws
  go_wp2_with fail
  go_loopw [8, 9] (fun v i wr => ∃ k : Nat, k ≤ ws.length ∧ i = .int .i64 k ∧ wr.ownsRow w2.heap.size 3 1 v k ((ws.take k).map (fun y => Value.int .i64 (wrap64 y))) ∧ Below w2.heap.size w2 wr) (fun _ i _ => ws.length - (intOf i).toNat)
  case atStart => exact ⟨0, Nat.zero_le _, rfl, World.ownsRow_nil _ _ _ _, Below.refl _ _⟩
  case round =>
    obtain ⟨k, hk, rfl, hown, hB⟩ := hrel
    by_cases hlt : k < ws.length
    · obtain ⟨b, off, rfl, hbb, hcx0⟩ := hrow.get hlt
      have hcx := (hB.cell (p := ⟨b, off + k, none⟩) hbb).trans hcx0
      clear hcx0
      go_wp2_with (at_builtin; refine wpList_append_own _ rfl _ _ 22 rfl w2.heap.size 3 i0 (.int .i64 0) 1 8 Try.underlying22 hi hz0 hz1 hz2 rfl (by decide) _ _ _ rfl (hown.alloc _) ⟨wr.heap.size, 0, none⟩ 1 1 [.int .i64 (wrap64 ws[k])] rfl rfl (cell_one_new _ _ _) (by simp [Value.oneCell']) (by unfold maxLen; omega) (by omega) (by have := hB.size; simp; omega) ?_; intro v' w3 hown' hgrow _)
      go_roundw
      case rel => exact ⟨k + 1, by omega, by go_num, by rw [ints_take_snoc ws k hlt]; exact hown', (hB.alloc hB.size _).grown hgrow (by have := hB.size; simp; omega) (fun j hj => (hown.lt j hj).1)⟩
      case measure => simp [intOf]; omega
    · obtain rfl : k = ws.length := by omega
      rw [List.take_length] at hown
      go_wp2_with fail
      refine (bytes_any s' cs a1 c1 wr (by omega) (by omega) (bytesAt_of_row (hr1.below hB).at)).mono ?_
      rintro e w3 ⟨rfl, hB'⟩
      have hB23 := below_then hB hB'
      have hown3 := owns_below hown hB'
      clear hB' hB hown hrow
      go_wp2_with (at_builtin; refine wpList_append_own _ rfl _ _ 22 rfl w2.heap.size 3 i0 (.int .i64 0) 1 8 Try.underlying22 hi hz0 hz1 hz2 rfl (by decide) _ _ _ rfl (hown3.alloc _) ⟨w3.heap.size, 0, none⟩ 1 1 [.int .i64 (cs.length : Int)] rfl rfl (cell_one_new _ _ _) (by simp [Value.oneCell']) (by unfold maxLen; omega) (by omega) (by have := hB23.size; simp; omega) ?_; intro v' w4 hown' hgrow _; obtain ⟨g', cap'', rfl⟩ := slice_succ hown')
      have hB24 := below_append hB23 _ hown3 (Nat.le_refl _) hgrow
      rw [Hzm.out, ← Hzl.out] at hown'
      have hsum := sum_any s' zs _ _ w4 (by omega) (by rw [Hzl.out]; omega) (rowAt_of_owns hown')
      rw [Hzl.out] at hsum
      refine hsum.mono ?_
      rintro e w5 ⟨rfl, hB⟩
      have hB25 := below_then hB24 hB
      clear hB hB24 hB23 hown3 hgrow hown' hsum
      have h1 : (bytesI s'.data.toList cs != sumI s'.data.toList zs) = false := by rw [Hfin.out]; simp
      go_wp2_with fail
      clear h1
      refine (few_row a1 c1 cs 60 w5 (by omega) (by omega) (by omega) (.inl (hr1.below hB25).at)).mono ?_
      rintro e w6 ⟨a6, c6, rfl, hr6, hB⟩
      have hB26 := below_then hB25 hB
      have htk : cs.take (60 : Int).toNat = cs := List.take_of_length_le hle
      rw [htk] at hr6
      rw [htk]
      clear htk
      have hown6 : w6.ownsRow w5.heap.size 5 1 (.slice a6 cs.length c6) (cs.map ofByte).length ((cs.map ofByte).map (Value.int .u8)) := hr6
      rw [List.length_map] at hown6
      have hB56 : Below w5.heap.size w5 w6 := hB
      clear hB
      have h56 := hB56.size
      by_cases hm : cs.length % 8 = 0
      · have hm1 : (((cs.length : Int) % 8) == 0) = true := by rw [beq_iff_eq]; omega
        go_wp2_with (at_builtin; refine wpList_append_own _ rfl _ _ 30 rfl w5.heap.size 5 j0 (.int .u8 0) 1 1 Try.underlying30 hj hy0 hy1 hy2 rfl (by decide) _ _ _ rfl (hown6.alloc _) ⟨w6.heap.size, 0, none⟩ 1 1 [.int .u8 0] rfl rfl (cell_one_new _ _ _) (by simp [Value.oneCell']) (by unfold maxLen; omega) (by omega) (by simp; omega) ?_; intro v' w7 hown' hgrow _)
        have hB27 := below_append hB26 _ hown6 hB25.size hgrow
        refine (lives_any _).mono ?_
        rintro e w8 ⟨rfl, hB⟩
        have hB28 := below_then hB27 hB
        clear hB hB27
        go_wp2
        go_ret
        exact ⟨rfl, below_then hB2 hB28⟩
      · have hm1 : (((cs.length : Int) % 8) == 0) = false := by rw [beq_eq_false_iff_ne]; omega
        go_wp2_with (at_builtin; refine wpList_append_own _ rfl _ _ 30 rfl w5.heap.size 5 j0 (.int .u8 0) 1 1 Try.underlying30 hj hy0 hy1 hy2 rfl (by decide) _ _ _ rfl (hown6.alloc _) ⟨w6.heap.size, 0, none⟩ 1 1 [.int .u8 0] rfl rfl (cell_one_new _ _ _) (by simp [Value.oneCell']) (by unfold maxLen; omega) (by omega) (by simp; omega) ?_; intro v' w7 hown' hgrow _; obtain ⟨g7, c7, rfl⟩ := slice_succ hown')
        have hB27 := below_append hB26 _ hown6 hB25.size hgrow
        have hz8 : (cs ++ [0]).length = cs.length + 1 := by rw [List.length_append, List.length_singleton]
        have hr7 : RowAt .u8 w7.heap.size w7 (.slice (some ⟨g7, 0, none⟩) (cs.length + 1) c7) ((cs ++ [0]).map ofByte) := by
          refine rowAt_of_owns (e := 5) (base := w5.heap.size) (n := cs.length + 1) ?_
          rw [List.map_append, List.map_append]
          exact hown'
        have hby := bytes_any s' (cs ++ [0]) (some ⟨g7, 0, none⟩) c7 w7 (by omega) (by rw [hz8]; omega) (by rw [hz8]; exact bytesAt_of_row hr7)
        rw [hz8] at hby
        have hne : (bytesI s'.data.toList (cs ++ [0]) != bytesI s'.data.toList cs) = true := by rw [bne_iff_ne]; exact bytes_zero _ _ hm (by omega)
        have Hne := Lib.hid hne
        clear hne hz8 hr7 hown' hgrow hown6 hm
        go_wp2_with fail
        refine hby.mono ?_
        rintro e w8 ⟨rfl, hB⟩
        have hB28 := below_then hB27 hB
        clear hB hB27 hby
        go_wp2_with fail
        refine (bytes_any s' cs a1 c1 w8 (by omega) (by omega) (bytesAt_of_row (hr1.below hB28).at)).mono ?_
        rintro e w9 ⟨rfl, hB⟩
        have hB29 := below_then hB28 hB
        clear hB hB28
        have h2 := Hne.out
        go_wp2_with fail
        clear h2
        refine (lives_any _).mono ?_
        rintro e w10 ⟨rfl, hB⟩
        have hB210 := below_then hB29 hB
        clear hB hB29
        go_wp2
        go_ret
        exact ⟨rfl, below_then hB2 hB210⟩

set_option maxRecDepth 100000 in
theorem groupslaw_lifted (os : Os) (started : os.Started) (H : Type) (enc : TypeId × Value → H) :
    ReturnsInHanded {} Try.checked os 8 .any (Rows.hashGroupsSpec.pre6 enc Try.prog Try.f8 Rows.hashGroupsRow.domain false) (Rows.hashGroupsSpec.post enc Try.prog Try.f8 false true false false) := by
  refine returnsInHanded_of_change_sized (C := Try.checked) Try.own started (by kernel_rfl) Try.func8
    (ChangeSpec.witness6 (enc := enc) (C := Try.checked) false ⟨#[], #[.string ⟨#[]⟩, .slice none 0 0], []⟩ 8 (by kernel_rfl) (by kernel_rfl) (by kernel_rfl) (by kernel_rfl)) ?_
  intro W base args ds gs before hval0 hW _ hsz0 _
  have hsz : (DataW.weightsEach Try.prog (Try.f8.params.toList ++ Rows.hashGroupsSpec.plain.varTypes Try.prog) (ds ++ gs)).all (· ≤ reachBytes) = true := hsz0
  clear hsz0
  have hval : ∀ (j : Nat) t v, Try.f8.params[j]? = some t → args[j]? = some v → Value.okWide Try.prog W .any base t v := hval0
  have hW' := hW
  obtain ⟨p, q, hA0, hV, rfl, _, _⟩ := hW
  have hA : DataW.TrodAll enc Try.prog W 0 (fun _ => true) true Try.f8.params.toList args.toList ds p := hA0
  rw [Try.params8] at hA hval hsz
  obtain ⟨v0, vs0, d0, ds0, p0, q0, hargs, rfl, rfl, h0, r0⟩ := trodAll_cons hA
  obtain ⟨v1, vs1, d1, ds1, p1, q1, rfl, rfl, rfl, h1, r1⟩ := trodAll_cons r0
  obtain ⟨rfl, rfl, rfl⟩ := trodAll_nil r1
  obtain rfl : args = #[v0, v1] := by cases args; simp_all
  obtain ⟨rfl, rfl⟩ := trodVars_none hV
  obtain ⟨s0, rfl, rfl, rfl, _⟩ := Go.ChangeMaps.open_string Try.underlying9 (hval 0 9 v0 rfl rfl) h0
  have hs0 : s0.size ≤ 140737488351232 := sized_string hsz (j := 0) (t := 9) rfl rfl
  obtain ⟨a1, c1, zs1, rfl, hI1, hw1, hz1⟩ := open_row Try.underlying30 Try.underlying5 Try.cellsU8 Try.bytesU8 (hval 1 30 v1 rfl rfl) h1 (fun x hx => by simpa using hW'.lt x (by simp [hx])) hsz (j := 1) rfl rfl
  obtain ⟨bs1, rfl⟩ := bytes_of zs1 hw1
  rw [List.length_map] at hI1 hz1
  clear hA0 hval0
  have hwalk := groupslaw_walk s0 a1 c1 bs1 W hs0 (by omega) hI1
  try rw [List.length_map] at hW'
  try rw [List.length_map]
  refine hwalk.mono fun e W' ⟨he, hB⟩ => ?_
  subst he
  exact ⟨_, rfl, law_post (by kernel_rfl) (by kernel_rfl) rfl hW' rfl hB⟩

theorem groupslaw_holds : Rows.HashGroupsSaid :=
  OpenClaim.holds_of_wide 8 Try.f8 rfl rfl rfl rfl rfl rfl rfl ⟨rfl, rfl, rfl, rfl, rfl⟩ rfl rfl rfl rfl rfl (by kernel_rfl) Try.func8 (by kernel_rfl)
    (of_decide_eq_true (by kernel_rfl)) (by unfold Func.isWrapper; first | (rw [if_pos (by decide +kernel)]; kernel_rfl) | (rw [if_neg (by decide +kernel)]; exact ⟨rfl, rfl⟩))
    (fun os started H enc _ => groupslaw_lifted os started H enc)
#print axioms groupslaw_holds
end Go.Proofs.Ytialohbnhiechaa
