/- The contract of Parse. Conditions: a text of at most 1000 bytes; the library's variable MaxLen holds an integer. -/
import Derived.Laws.AppendOwnNone
import Derived.Deep.AppendLies
import Derived.LoopN
import Derived.Test.YtmgjbbkccgncgaaDoorLPMath
namespace Go.Proofs.YtmgjbbkccgncgaaDoor
open Go.RowKit

/-- The library's variable that its searches read holds an integer. -/
def MaxAt (w : World) : Prop := 0 < w.heap.size ∧ ∃ m, w.cell? ⟨0, 0, none⟩ = some (.int .i64 m)
theorem MaxAt.below {w w' : World} (h : MaxAt w) (hb : Below w.heap.size w w') : MaxAt w' :=
  ⟨Nat.lt_of_lt_of_le h.1 hb.size, h.2.imp fun _ e => (hb.cell (p := ⟨0, 0, none⟩) h.1).trans e⟩

theorem dropWhile_le (p : UInt8 → Bool) : ∀ l : Bs, (l.dropWhile p).length ≤ l.length
  | [] => Nat.le_refl _
  | x :: l => by
    rw [List.dropWhile_cons]
    split
    · have := dropWhile_le p l; simp only [List.length_cons]; omega
    · exact Nat.le_refl _
theorem trimB_le (s : ByteArray) : (trimB s).size ≤ s.size := by
  unfold trimB
  have e : (⟨(Lib.trimS s.data.toList [123, 125]).toArray⟩ : ByteArray).size = (Lib.trimS s.data.toList [123, 125]).length := List.size_toArray ..
  rw [e, ← ba_size s]
  unfold Lib.trimS Lib.trimLeftS Lib.trimRightS
  refine Nat.le_trans (dropWhile_le _ _) ?_
  rw [List.length_reverse]
  refine Nat.le_trans (dropWhile_le _ _) ?_
  rw [List.length_reverse]
  exact Nat.le_refl _
theorem split_le (sep : ByteArray) : ∀ (k : Nat) (s : ByteArray), ∀ p ∈ Lib.splitB sep 0 k s, p.size ≤ s.size
  | 0, s, p, h => by
    rw [Lib.splitB_zero, List.mem_singleton] at h
    rw [h]
    exact Nat.le_refl _
  | k + 1, s, p, h => by
    unfold Lib.splitB at h
    split at h
    · rw [List.mem_singleton] at h
      rw [h]
      exact Nat.le_refl _
    · rcases List.mem_cons.1 h with rfl | h
      · rw [ByteArray.size_extract]; omega
      · have := split_le sep k _ p h
        rw [ByteArray.size_extract] at this
        omega
theorem parts_le {s p : ByteArray} (h : p ∈ partsB s) : p.size ≤ s.size := Nat.le_trans (split_le _ _ _ p h) (trimB_le s)
theorem parts_len (s : ByteArray) : (partsB s).length ≤ 9 := by
  have := Lib.splitB_length_le ⟨#[44]⟩ 0 (min 9 ((trimB s).size + 1) - 1) (trimB s)
  unfold partsB
  omega
theorem toArray_size (l : Bs) : (⟨l.toArray⟩ : ByteArray).size = l.length := List.size_toArray ..
theorem cut_le1 (a b : Bs) : (Lib.cut a b).1.length ≤ a.length := by
  unfold Lib.cut
  split
  · exact List.length_take_le' ..
  · exact Nat.le_refl _
theorem cut_le2 (a b : Bs) : (Lib.cut a b).2.1.length ≤ a.length := by
  unfold Lib.cut
  split
  · show (a.drop _).length ≤ _
    rw [List.length_drop]; omega
  · exact Nat.zero_le _
theorem sufB_le (p : ByteArray) : (sufB p).size ≤ p.size := by
  unfold sufB
  rw [toArray_size, ← ba_size p]
  exact Lib.trimSuffix_le _ _
theorem pair_le (p : ByteArray) : (pairOf p).1.size ≤ p.size ∧ (pairOf p).2.size ≤ p.size := by
  have h := sufB_le p
  have e := ba_size (sufB p)
  unfold pairOf
  have h1 := cut_le1 (sufB p).data.toList [61, 34]
  have h2 := cut_le2 (sufB p).data.toList [61, 34]
  exact ⟨by rw [toArray_size (Lib.cut (sufB p).data.toList [61, 34]).1]; omega, by rw [toArray_size (Lib.cut (sufB p).data.toList [61, 34]).2.1]; omega⟩
theorem pairs_sz {s : ByteArray} (hs : s.size ≤ 1000) (k : Nat) : Sz (((partsB s).take k).map pairOf) := by
  intro t ht
  obtain ⟨p, hp, rfl⟩ := List.mem_map.1 ht
  have h1 := parts_le (List.mem_of_mem_take hp)
  have h2 := pair_le p
  omega

theorem trim_any (s : ByteArray) (w : World) (hs : s.size ≤ 1000) : Calls Tryd.prog 24 #[.string s, .string ⟨#[123, 125]⟩] w fun e w' => e = .returned (.string (trimB s)) ∧ Below w.heap.size w w' :=
  Any.strings_Trim_laid Tryd.trimL (by kernel_rfl) s ⟨#[123, 125]⟩ w (by omega) (by decide) (ascii_of_all (by decide))
theorem parts_cells {w : World} {l : List ByteArray} {n : Nat} (hl : l.length ≤ n) : SCells (w.alloc (.cells (Lib.cellsOf l n) 9)) w.heap.size l := by
  refine ⟨by simp, fun j x hj => ?_⟩
  have hj' := (List.getElem?_eq_some_iff.1 hj).1
  refine (World.cell?_alloc_mark w _ _ _ j).trans ?_
  unfold Lib.cellsOf
  rw [List.getElem?_toArray, List.getElem?_append_left (by simpa using hj'), List.getElem?_map, hj]
  rfl
theorem split_any (s : ByteArray) (w : World) (hs : s.size ≤ 1000) (hm : MaxAt w) : Calls Tryd.prog 23 #[.string (trimB s), .string ⟨#[44]⟩, .int .i64 9] w fun e w' =>
    ∃ g c, e = .returned (.slice (some ⟨g, 0, none⟩) (partsB s).length c) ∧ SCells w' g (partsB s) ∧ Below w.heap.size w w' := by
  obtain ⟨-, m, hm⟩ := hm
  have hl := trimB_le s
  refine (Tryd.strings_SplitN (trimB s) ⟨#[44]⟩ 9 m w (by omega) hm (by decide) (by omega) (by omega)).mono ?_
  rintro e w' ⟨rfl, rfl⟩
  refine ⟨w.heap.size, _, rfl, parts_cells ?_, (Below.refl _ w).alloc (Nat.le_refl _) _⟩
  have := Lib.splitB_length_le ⟨#[44]⟩ 0 (min 9 ((trimB s).size + 1) - 1) (trimB s)
  omega
theorem suf_any (p : ByteArray) (w : World) (hs : p.size ≤ 1000) : Calls Tryd.prog 26 #[.string p, .string ⟨#[34]⟩] w fun e w' => e = .returned (.string (sufB p)) ∧ w = w' :=
  (Tryd.strings_TrimSuffix p ⟨#[34]⟩ w (by omega)).mono fun _ _ ⟨he, hw⟩ => ⟨he, hw.symm⟩
theorem cut_any (p : ByteArray) (w : World) (hs : p.size ≤ 1000) (hm : MaxAt w) : Calls Tryd.prog 25 #[.string (sufB p), .string ⟨#[61, 34]⟩] w fun e w' =>
    (∃ f, e = .returned (.tuple #[.string (pairOf p).1, .string (pairOf p).2, .bool f])) ∧ ∃ n, w' = w.drewN n := by
  obtain ⟨-, m, hm⟩ := hm
  have hl := sufB_le p
  exact (Tryd.strings_Cut (sufB p) ⟨#[61, 34]⟩ m w (by omega) hm).mono fun _ _ ⟨he, hw⟩ => ⟨⟨_, he⟩, hw⟩

theorem emptyT_list : emptyT.toList = [123, 125] := by rw [ByteArray.toList_eq]; rfl
/-- What a parser of texts answers. -/
def ParR (s : ByteArray) (x : List L2) (w : World) (e : Ending) (w' : World) : Prop := ∃ v, e = .returned (.tuple #[v, .int .i64 (errP s x)]) ∧ LsAt w' v (ansP s x) ∧ Below w.heap.size w w'
theorem par_bad {s : ByteArray} {x : List L2} {w w' : World} (h : okP s x = false) (hb : Below w.heap.size w w') : ParR s x w (.returned (.tuple #[.slice none 0 0, .int .i64 2])) w' := by
  refine ⟨.slice none 0 0, ?_, ?_, hb⟩
  · unfold errP; rw [h]; rfl
  · unfold ansP; rw [h]; exact .nil
theorem par_good {s : ByteArray} {x : List L2} {w w' : World} {v : Value} (h : okP s x = true) (hv : LsAt w' v x) (hb : Below w.heap.size w w') : ParR s x w (.returned (.tuple #[v, .int .i64 0])) w' := by
  refine ⟨v, ?_, ?_, hb⟩
  · unfold errP; rw [if_pos h]
  · unfold ansP; rw [if_pos h]; exact hv
theorem ok_no1 {s : ByteArray} {x : List L2} (h : validB x = false) : okP s x = false := by unfold okP; rw [h]; rfl
theorem ok_no2 {s : ByteArray} {x : List L2} (h : textB x ≠ s) : okP s x = false := by unfold okP; rw [decide_eq_false h, Bool.and_false]
theorem ok_yes {s : ByteArray} {x : List L2} (h : validB x = true) (h2 : textB x = s) : okP s x = true := by unfold okP; rw [h, decide_eq_true h2]; rfl
theorem pairs_snoc {l : List ByteArray} {k : Nat} {p : ByteArray} (h : l[k]? = some p) : (l.take (k + 1)).map pairOf = (l.take k).map pairOf ++ [pairOf p] := by
  rw [List.take_add_one, h, List.map_append]; rfl

set_option maxRecDepth 100000 in
set_option maxHeartbeats 8000000 in
theorem parse_any (s : ByteArray) (w : World) (hs : s.size ≤ 1000) (hm : MaxAt w) : Calls Tryd.prog 7 #[.string s] w (ParR s (parP s) w) := by
  obtain ⟨il, hi, hz0, hz1, hz2⟩ := info_parts Tryd.infoLabel
  have HM := Lib.hid hm
  have HN := Lib.hid (text_any (.slice none 0 0) [] w .nil (by decide) (sz_ex _ rfl))
  have H4 := Lib.hid nil_text
  clear hm
  go_enter Tryd.func7, Tryd.ntmps7
  go_wp2_with fail
  (with_reducible refine HN.out.mono ?_)
  rintro e w1 ⟨rfl, hb⟩
  rw [H4.out]
  have HB1 := Lib.hid hb
  clear hb HN H4
  by_cases he : s = emptyT
  · have e1 := str_yes he
    rw [emptyT_list] at e1
    have HX := Lib.hid (show parP s = [] by unfold parP; rw [if_pos he])
    have HV := Lib.hid (valid_any (.slice none 0 0) [] w1 .nil (by decide) (sz_ex _ rfl))
    clear he
    cases hvb : validB ([])
    · have HE := Lib.hid (ok_no1 (s := s) hvb)
      rw [hvb] at HV
      go_wp2_with fail
      (with_reducible refine HV.out.mono ?_)
      rintro e wa ⟨rfl, hb⟩
      go_wp2
      go_ret2
      rw [HX.out]; exact par_bad HE.out (below_st (HB1.out) hb)
    · have HVB := Lib.hid hvb
      rw [hvb] at HV
      have HTX := Lib.hid (fun (W : World) (hb : Below w1.heap.size w1 W) => text_any (.slice none 0 0) ([]) W (LsAt.below (LsAt.nil) hb) (by first | omega | decide) (by first | exact HZ.out | exact sz_ex _ rfl))
      have HLL := Lib.hid (fun (W : World) (hb : Below w1.heap.size w1 W) => LsAt.below (LsAt.nil) hb)
      by_cases ht : textB ([]) = s
      · have HE := Lib.hid (ok_yes HVB.out ht)
        have e2 := str_yes ht
        obtain ⟨tx, htx⟩ : ∃ tx, textB ([]) = tx := ⟨_, rfl⟩
        rw [htx] at HTX e2
        clear ht htx
        go_wp2_with fail
        (with_reducible refine HV.out.mono ?_)
        rintro e wa ⟨rfl, hb⟩
        have HB := Lib.hid hb
        clear hb
        go_wp2_with fail
        (with_reducible refine (HTX.out wa HB.out).mono ?_)
        rintro e wb ⟨rfl, hb⟩
        have HB2 := Lib.hid (below_st HB.out hb)
        clear hb
        go_wp2
        go_ret2
        rw [HX.out]; exact par_good HE.out (HLL.out wb HB2.out) (below_st (HB1.out) HB2.out)
      · have HE := Lib.hid (ok_no2 ht)
        have e2 := str_no ht
        obtain ⟨tx, htx⟩ : ∃ tx, textB ([]) = tx := ⟨_, rfl⟩
        rw [htx] at HTX e2
        clear ht htx
        go_wp2_with fail
        (with_reducible refine HV.out.mono ?_)
        rintro e wa ⟨rfl, hb⟩
        have HB := Lib.hid hb
        clear hb
        go_wp2_with fail
        (with_reducible refine (HTX.out wa HB.out).mono ?_)
        rintro e wb ⟨rfl, hb⟩
        have HB2 := Lib.hid (below_st HB.out hb)
        clear hb
        go_wp2
        go_ret2
        rw [HX.out]; exact par_bad HE.out (below_st (HB1.out) HB2.out)
  · have e1 := str_no he
    rw [emptyT_list] at e1
    have HX := Lib.hid (show parP s = (partsB s).map pairOf by unfold parP; rw [if_neg he])
    have HT := Lib.hid (trim_any s w1 hs)
    clear he
    go_wp2_with fail
    (with_reducible refine HT.out.mono ?_)
    rintro e w2 ⟨rfl, hb⟩
    have hB2 := below_st HB1.out hb
    have HSP := Lib.hid (split_any s w2 hs (HM.out.below hB2))
    have HB2 := Lib.hid hB2
    clear hb hB2 HT
    go_wp2_with fail
    (with_reducible refine HSP.out.mono ?_)
    rintro e w3 ⟨g, c, rfl, hS, hb⟩
    have HS := Lib.hid hS
    have hB3 := below_st HB2.out hb
    have HB3 := Lib.hid hB3
    have hl9 := parts_len s
    have HPL := Lib.hid (fun p (h : p ∈ partsB s) => parts_le h)
    have HPZ := Lib.hid (pairs_sz hs)
    obtain ⟨P, hP⟩ : ∃ P, partsB s = P := ⟨_, rfl⟩
    rw [hP] at HX HS hl9 HPL HPZ ⊢
    clear hb hB3 HSP hS hP
    go_wp2_with fail
    go_loopw [4, 17] (fun x i wr => ∃ (k : Nat) (sb : Value), sb = x ∧ k ≤ P.length ∧ i = .int .i64 k ∧ wr.ownsRow w3.heap.size 41 2 sb ((P.take k).map pairOf).length (((P.take k).map pairOf).flatMap cells2) ∧ Below w3.heap.size w3 wr) (fun _ i _ => P.length - (intOf i).toNat)
    case atStart => exact ⟨0, _, rfl, Nat.zero_le _, rfl, World.ownsRow_nil _ _ _ _, Below.refl _ _⟩
    case round =>
      obtain ⟨k, sb, rfl, hk, rfl, hown, hB⟩ := hrel
      by_cases hlt : k < P.length
      · obtain ⟨p, hp⟩ : ∃ p, P[k]? = some p := ⟨_, List.getElem?_eq_getElem hlt⟩
        have c0 := (HS.out.below HS.out.1 hB).2 k p hp
        have hp1 : p.size ≤ 1000 := Nat.le_trans (HPL.out p (List.mem_of_getElem? hp)) hs
        have HK := Lib.hid (pairs_snoc hp)
        have hBw := below_st HB3.out hB
        have HMr := Lib.hid (HM.out.below hBw)
        have HSU := Lib.hid (suf_any p wr hp1)
        have HCU := Lib.hid (cut_any p wr hp1 HMr.out)
        obtain ⟨n, hn⟩ : ∃ n, (pairOf p).1 = n := ⟨_, rfl⟩
        obtain ⟨v, hv⟩ : ∃ v, (pairOf p).2 = v := ⟨_, rfl⟩
        have hpp : pairOf p = (n, v) := by rw [← hn, ← hv]
        rw [hn, hv] at HCU
        rw [hpp] at HK
        have i0 : (0 : Int) ≤ (k : Int) := by omega
        have i1 : (k : Int) < (P.length : Int) := by omega
        have kl : ((P.take k).map pairOf).length = k := by rw [List.length_map, List.length_take]; omega
        obtain ⟨m, hm⟩ : ∃ m, (P.take k).map pairOf = m := ⟨_, rfl⟩
        rw [hm] at HK hown kl
        have HKL := Lib.hid kl
        have kl' : m.length ≤ 9 := by omega
        clear hm hp hn hv hpp kl hBw
        go_wp2_with fail
        (with_reducible refine HSU.out.mono ?_)
        rintro e w' ⟨rfl, rfl⟩
        go_wp2_with fail
        (with_reducible refine HCU.out.mono ?_)
        rintro e w' ⟨⟨f, rfl⟩, nd, rfl⟩
        have hBd : Below w3.heap.size w3 (wr.drewN nd) := below_draw hB nd
        have hownd : (wr.drewN nd).ownsRow w3.heap.size 41 2 sb m.length (m.flatMap cells2) := hown
        obtain ⟨wq, hwq⟩ : ∃ wq : World, wr.drewN nd = wq := ⟨_, rfl⟩
        rw [hwq] at hBd hownd ⊢
        clear hwq hB hown c0 HCU HSU
        go_wp2_with (at_builtin; refine wpList_append_own _ rfl _ _ 23 rfl w3.heap.size 41 il (.agg #[.string ⟨#[]⟩, .string ⟨#[]⟩]) 2 32 Tryd.underlying23 hi hz0 hz1 hz2 rfl (by decide) sb _ _ rfl (hownd.alloc _) ⟨wq.heap.size, 0, none⟩ 1 1 [.string n, .string v] rfl rfl (World.news_of_block (cs := #[.string n, .string v]) (t := 41) (fr := (0, 0)) (heap_alloc_new wq _)) (by simp [Value.oneCell']) (by unfold maxLen; omega) (by omega) (by have := hBd.size; simp; omega) ?_; intro v3 w4 hown4 hgrow4 _)
        go_roundw
        case rel => exact ⟨k + 1, v3, rfl, by omega, by go_num, by rw [HK.out, List.length_append, List.flatMap_append]; exact hown4, (hBd.alloc hBd.size _).grown hgrow4 (by have := hBd.size; simp; omega) (fun j hj => (hownd.lt j hj).1)⟩
        case measure => simp [intOf]; omega
      · obtain rfl : k = P.length := by omega
        have hz := HPZ.out P.length
        rw [List.take_length] at hown hz
        have hLS := LsAt.of_owns hown
        have hBw := below_st HB3.out hB
        have HL := Lib.hid hLS
        have HBw := Lib.hid hBw
        have hll : (P.map pairOf).length ≤ 1000 := by rw [List.length_map]; omega
        have HZ := Lib.hid hz
        obtain ⟨x, hx⟩ : ∃ x, P.map pairOf = x := ⟨_, rfl⟩
        rw [hx] at HX HL hll HZ
        have HV := Lib.hid (valid_any sb x wr HL.out hll HZ.out)
        clear hx hz hown hLS hBw hB
        cases hvb : validB x
        · have HE := Lib.hid (ok_no1 (s := s) hvb)
          rw [hvb] at HV
          go_wp2_with fail
          (with_reducible refine HV.out.mono ?_)
          rintro e wa ⟨rfl, hb⟩
          go_wp2
          go_ret2
          rw [HX.out]; exact par_bad HE.out (below_st (HBw.out) hb)
        · have HVB := Lib.hid hvb
          rw [hvb] at HV
          have HTX := Lib.hid (fun (W : World) (hb : Below wr.heap.size wr W) => text_any (sb) x W (LsAt.below (HL.out) hb) (by first | omega | decide) (by first | exact HZ.out | exact sz_ex _ rfl))
          have HLL := Lib.hid (fun (W : World) (hb : Below wr.heap.size wr W) => LsAt.below (HL.out) hb)
          by_cases ht : textB x = s
          · have HE := Lib.hid (ok_yes HVB.out ht)
            have e2 := str_yes ht
            obtain ⟨tx, htx⟩ : ∃ tx, textB x = tx := ⟨_, rfl⟩
            rw [htx] at HTX e2
            clear ht htx
            go_wp2_with fail
            (with_reducible refine HV.out.mono ?_)
            rintro e wa ⟨rfl, hb⟩
            have HB := Lib.hid hb
            clear hb
            go_wp2_with fail
            (with_reducible refine (HTX.out wa HB.out).mono ?_)
            rintro e wb ⟨rfl, hb⟩
            have HB2 := Lib.hid (below_st HB.out hb)
            clear hb
            go_wp2
            go_ret2
            rw [HX.out]; exact par_good HE.out (HLL.out wb HB2.out) (below_st (HBw.out) HB2.out)
          · have HE := Lib.hid (ok_no2 ht)
            have e2 := str_no ht
            obtain ⟨tx, htx⟩ : ∃ tx, textB x = tx := ⟨_, rfl⟩
            rw [htx] at HTX e2
            clear ht htx
            go_wp2_with fail
            (with_reducible refine HV.out.mono ?_)
            rintro e wa ⟨rfl, hb⟩
            have HB := Lib.hid hb
            clear hb
            go_wp2_with fail
            (with_reducible refine (HTX.out wa HB.out).mono ?_)
            rintro e wb ⟨rfl, hb⟩
            have HB2 := Lib.hid (below_st HB.out hb)
            clear hb
            go_wp2
            go_ret2
            rw [HX.out]; exact par_bad HE.out (below_st (HBw.out) HB2.out)
end Go.Proofs.YtmgjbbkccgncgaaDoor
