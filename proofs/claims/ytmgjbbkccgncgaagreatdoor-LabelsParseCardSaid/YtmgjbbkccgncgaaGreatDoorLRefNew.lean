/- The contract of the reference's New. Conditions: lists and strings of bounded length. -/
import Derived.Laws.AppendOwnNone
import Derived.Deep.AppendLies
import Derived.LoopN
import Derived.Test.YtmgjbbkccgncgaaGreatDoorLNew
namespace Go.Proofs.YtmgjbbkccgncgaaGreatDoor
open Go.RowKit

theorem insL_split {t : L2} : ∀ {S : List L2} (j : Nat), (∀ s ∈ S.take j, cmpS s.1 t.1 < 0) → (∀ s, S[j]? = some s → ¬ cmpS s.1 t.1 < 0) → insL t S = S.take j ++ t :: S.drop j
  | [], j, _, _ => by simp [insL]
  | s :: S, 0, _, h => by
    unfold insL
    rw [if_neg (h s rfl)]
    rfl
  | s :: S, j + 1, h1, h2 => by
    unfold insL
    rw [if_pos (h1 s (by simp)), insL_split j (fun x hx => h1 x (by simp [hx])) (fun x hx => h2 x (by simpa using hx))]
    rfl
/-- Whether a name has come before, seen from the place that it would take among the sorted ones. -/
theorem twice_at {pre S : List L2} {n : ByteArray} {j : Nat} (hp : S.Perm pre) (hs : Srt S) (h1 : ∀ s ∈ S.take j, cmpS s.1 n < 0) (h2 : ∀ s, S[j]? = some s → ¬ cmpS s.1 n < 0) :
    (pre.any fun s => decide (s.1 = n)) = (match S[j]? with | some s => decide (s.1 = n) | none => false) := by
  have hany : (pre.any fun s => decide (s.1 = n)) = (S.any fun s => decide (s.1 = n)) := by
    rw [Bool.eq_iff_iff, List.any_eq_true, List.any_eq_true]
    constructor
    · rintro ⟨s, hm, he⟩; exact ⟨s, hp.mem_iff.2 hm, he⟩
    · rintro ⟨s, hm, he⟩; exact ⟨s, hp.mem_iff.1 hm, he⟩
  rw [hany, Bool.eq_iff_iff, List.any_eq_true]
  constructor
  · rintro ⟨s, hm, he⟩
    have he : s.1 = n := of_decide_eq_true he
    obtain ⟨i, hi, hsi⟩ := List.getElem_of_mem hm
    rcases Nat.lt_trichotomy i j with hij | hij | hij
    · have := h1 s (by rw [← hsi]; exact List.mem_take_iff_getElem.2 ⟨i, by omega, rfl⟩)
      rw [he, cmpS_self] at this
      omega
    · subst hij
      rw [List.getElem?_eq_getElem hi, hsi]
      exact decide_eq_true he
    · have hj : j < S.length := by omega
      have h3 := h2 S[j] (List.getElem?_eq_getElem hj)
      have h4 := List.pairwise_iff_getElem.1 hs j i hj hi hij
      unfold ltN at h4
      rw [hsi, he] at h4
      exact absurd h4 h3
  · cases hj : S[j]? with
    | none => simp
    | some s => exact fun h => ⟨s, List.mem_of_getElem? hj, h⟩
theorem cells2_take {S : List L2} {j : Nat} {n v : ByteArray} (h : S[j]? = some (n, v)) : (S.take (j + 1)).flatMap cells2 = (S.take j).flatMap cells2 ++ [.string n, .string v] := by
  rw [List.take_add_one, h, List.flatMap_append]
  rfl
theorem take_lt_snoc {S : List L2} {j : Nat} {n v nm : ByteArray} (h : ∀ s ∈ S.take j, cmpS s.1 nm < 0) (hj : S[j]? = some (n, v)) (hn : cmpS n nm < 0) : ∀ s ∈ S.take (j + 1), cmpS s.1 nm < 0 := by
  intro s hs
  rw [List.take_add_one, hj] at hs
  rcases List.mem_append.1 hs with h1 | h1
  · exact h s h1
  · simp at h1
    subst h1
    exact hn
theorem dist_snoc {it : List L2} {k : Nat} {n v : ByteArray} (h : Dist (it.take k)) (hj : it[k]? = some (n, v)) (hb : badE (it.take k) (n, v) = 0) : Dist (it.take (k + 1)) := by
  have h1 := firstBad_dist [(n, v)] (it.take k) h (by rw [firstBad, if_pos hb]; rfl)
  rw [List.take_add_one, hj]
  exact h1
theorem cells2_drop {S : List L2} {g j : Nat} {W : World} (h : LCells W g 0 S) : ∀ i u, ((S.drop j).flatMap cells2)[i]? = some u → W.cell? ((⟨g, j * 2, none⟩ : Addr).add i) = some u := by
  intro i u hu
  have hi : i < ((S.drop j).flatMap cells2).length := (List.getElem?_eq_some_iff.1 hu).1
  rw [cells2_length, List.length_drop] at hi
  have hL : LCells W g (j * 2) (S.drop j) := fun p n v hp => by
    rw [List.getElem?_drop] at hp
    have := h (j + p) n v hp
    rw [show 0 + (j + p) * 2 = j * 2 + p * 2 by omega] at this
    exact this
  have := owned_cells hL i u hu
  unfold Addr.add
  split
  · rename_i h0; subst h0; simpa using this
  · exact this

theorem owns_weak2 {W : World} {a b e size n : Nat} {v : Value} {xs : List Value} (h : W.ownsRow a e size v n xs) (hb : b ≤ a) : W.ownsRow b e size v n xs := by
  refine ⟨h.1, ?_⟩
  rcases h.2 with h2 | ⟨g, cap, cur, e1, hg, rest⟩
  · exact .inl h2
  · exact .inr ⟨g, cap, cur, e1, Nat.le_trans hb hg, rest⟩
theorem LsAt.cells {W : World} {g off l c : Nat} {it : List L2} (h : LsAt W (.slice (some ⟨g, off, none⟩) l c) it) : LCells W g off it := by
  rcases h with ⟨e, -⟩ | ⟨g', off', c', e, -, -, hL⟩
  · cases e
  · simp only [Value.slice.injEq, Option.some.injEq, Addr.mk.injEq] at e
    obtain ⟨⟨rfl, rfl, -⟩, -, -⟩ := e
    exact hL
theorem LCells.zero {W : World} {g : Nat} {it : List L2} (h : LCells W g 0 it) {j : Nat} {n v : ByteArray} (hj : it[j]? = some (n, v)) : W.cell? ⟨g, j * 2, none⟩ = some (.string n) ∧ W.cell? ⟨g, j * 2 + 1, none⟩ = some (.string v) := by
  have := h j n v hj
  rw [Nat.zero_add] at this
  exact this
theorem less_yes {a b : ByteArray} (h : cmpS a b < 0) : Op.bytesLess a.toList b.toList = true := by rw [less_cmp]; exact decide_eq_true h
theorem less_no {a b : ByteArray} (h : ¬ cmpS a b < 0) : Op.bytesLess a.toList b.toList = false := by rw [less_cmp]; exact decide_eq_false h
/-- The new list that a round has built. -/
theorem round_owns {W : World} {base : Nat} {v4 : Value} {S : List L2} {n v : ByteArray} {j k : Nat} {zs : List Value} (h : W.ownsRow base 32 2 v4 (j + 1 + (k - j)) zs) (hz : zs = ((S.take j).flatMap cells2 ++ [.string n, .string v]) ++ (S.drop j).flatMap cells2) (hjk : j ≤ k)
    (hlow : ∀ s ∈ S.take j, cmpS s.1 n < 0) (hup : ∀ s, S[j]? = some s → ¬ cmpS s.1 n < 0) : W.ownsRow base 32 2 v4 (k + 1) ((insL (n, v) S).flatMap cells2) := by
  rw [insL_split j hlow hup]
  rw [hz] at h
  rw [show j + 1 + (k - j) = k + 1 by omega] at h
  have e : ((S.take j).flatMap cells2 ++ [Value.string n, Value.string v]) ++ (S.drop j).flatMap cells2 = (S.take j ++ (n, v) :: S.drop j).flatMap cells2 := by
    rw [List.flatMap_append, List.flatMap_cons, List.append_assoc]
    rfl
  rw [e] at h
  exact h

set_option maxRecDepth 100000 in
set_option maxHeartbeats 16000000 in
theorem refnew_any (sv : Value) (it : List L2) (w : World) (hI : LsAt w sv it) (hlen : it.length ≤ 1000) (hz : Sz it) :
    Calls Tryz.prog 47 #[sv] w (NewR it w) := by
  obtain ⟨a, c, rfl, hlc⟩ := hI.slice
  obtain ⟨il, hi, hz0, hz1, hz2⟩ := info_parts Tryz.infoLabel
  by_cases h8 : it.length ≤ 8
  · have HI := Lib.hid hI
    have HZ := Lib.hid hz
    clear hI hz
    go_enter Tryz.func47, Tryz.ntmps47
    go_wp2
    go_loopw [4, 5] (fun x i wr => ∃ (k : Nat) (sb : Value), sb = x ∧ k ≤ it.length ∧ i = .int .i64 k ∧ firstBad (it.take k) (it.drop k) = firstBad [] it ∧ Dist (it.take k) ∧ wr.ownsRow w.heap.size 32 2 sb k ((sortL (it.take k)).flatMap cells2) ∧ Below w.heap.size w wr) (fun _ i _ => it.length - (intOf i).toNat)
    case atStart => exact ⟨0, _, rfl, Nat.zero_le _, rfl, rfl, List.Pairwise.nil, World.ownsRow_nil _ _ _ _, Below.refl _ _⟩
    case round =>
      obtain ⟨k, sb, rfl, hk, rfl, hf, hd, hown, hB⟩ := hrel
      have HF := Lib.hid hf
      have HD := Lib.hid hd
      clear hf hd
      by_cases hlt : k < it.length
      · obtain ⟨n, v, hj⟩ := label_at hlt
        obtain ⟨zn, zv⟩ := HZ.out.at hj
        have hIr := HI.out.below hB
        have hall := hIr.all (by intro e; rw [e] at hlt; simp at hlt)
        obtain ⟨g, off, rfl, -, hgs, hL⟩ := hall
        obtain ⟨c0, c1⟩ := hL k n v hj
        have HL := Lib.hid hL
        have HJ := Lib.hid hj
        clear hL hj hIr
        go_wp2_with fail
        refine (refname_any n _ (by omega)).mono ?_
        rintro e w1 ⟨rfl, hb⟩
        have HW1 := Lib.hid hb
        have c0' := ((HL.out.below hgs hb) k n v HJ.out).1
        have c1' := ((HL.out.below hgs hb) k n v HJ.out).2
        clear c0 c1 hb
        cases en : nameB n
        · have HE := Lib.hid (newE_at h8 HF.out HJ.out (badE_name en) (by omega))
          go_wp2
          go_ret2
          exact newR_bad rfl HE.out (by omega) (below_st hB HW1.out)
        · have HN := Lib.hid en
          by_cases hv1 : 1 ≤ v.size
          · have e1 := empty_no hv1
            have e2 := isEmpty_no hv1
            go_wp2_with fail
            refine (refvalue_any v _ (by omega)).mono ?_
            rintro e w2 ⟨rfl, hb⟩
            have hW2 := below_st HW1.out hb
            have HW2 := Lib.hid hW2
            clear c0' c1' hb hW2 HW1
            cases ev : valB v
            · have HE := Lib.hid (newE_at h8 HF.out HJ.out (badE_val HN.out ev) (by omega))
              go_wp2
              go_ret2
              exact newR_bad rfl HE.out (by omega) (below_st hB HW2.out)
            · have HV := Lib.hid ev
              have hSl : (sortL (it.take k)).length = k := by rw [(sortL_perm _).length_eq, List.length_take]; omega
              obtain ⟨S, hS⟩ : ∃ S, sortL (it.take k) = S := ⟨_, rfl⟩
              have hSo : LsAt wr sb S := LsAt.of_owns (by rw [← hS, hSl]; exact hown)
              have HSP := Lib.hid (show S.Perm (it.take k) by rw [← hS]; exact sortL_perm _)
              have HSS := Lib.hid (show Srt S by rw [← hS]; exact sortL_srt HD.out)
              have HSN := Lib.hid (show sortL (it.take (k + 1)) = insL (n, v) S by rw [← hS, ← sortL_snoc, List.take_add_one, HJ.out]; rfl)
              rw [hS] at hSl
              have HSL := Lib.hid hSl
              have HLS := Lib.hid (hSo.below HW2.out)
              have hsh : (∃ gS cS, sb = .slice (some ⟨gS, 0, none⟩) k cS ∧ k ≤ cS ∧ gS < wr.heap.size ∧ w.heap.size ≤ gS) ∨ (sb = .slice none 0 0 ∧ k = 0) := by
                rcases hown.2 with ⟨h1, h2⟩ | ⟨gS, cS, cur, h1, h2, h3, h4, -⟩
                · exact .inr ⟨h1, h2⟩
                · exact .inl ⟨gS, cS, h1, h4, (Array.getElem?_eq_some_iff.1 h3).1, h2⟩
              have hB2 := below_st hB HW2.out
              have HB2 := Lib.hid hB2
              have k8 : k ≤ 8 := by omega
              have cL : ∀ W, Below w2.heap.size w2 W → W.cell? ⟨g, off + k * 2, none⟩ = some (.string n) ∧ W.cell? ⟨g, off + k * 2 + 1, none⟩ = some (.string v) := fun W hb => (HL.out.below hgs (below_st HW2.out hb)) k n v HJ.out
              have CL := Lib.hid cL
              have i0 : (0 : Int) ≤ (k : Int) := by omega
              have i1 : (k : Int) < (it.length : Int) := by omega
              clear hS hSl hSo hown hB2 cL hB
              rcases hsh with ⟨gS, cS, rfl, hcS, hgS, -⟩ | ⟨rfl, rfl⟩
              · have HLC := Lib.hid HLS.out.cells
                have hgw : gS < w2.heap.size := Nat.lt_of_lt_of_le hgS HW2.out.size
                obtain ⟨wo, rfl⟩ : ∃ wo : World, wo = wr := ⟨_, rfl⟩
                go_wp2_with fail
                go_loopw [6, 7] (fun x jv wl => ∃ (j : Nat) (nb : Value), nb = x ∧ j ≤ k ∧ jv = .int .i64 j ∧ (∀ s ∈ S.take j, cmpS s.1 n < 0) ∧ wl.ownsRow w2.heap.size 32 2 nb j ((S.take j).flatMap cells2) ∧ Below w2.heap.size w2 wl) (fun _ jv _ => k - (intOf jv).toNat)
                case atStart => exact ⟨0, _, rfl, Nat.zero_le _, rfl, by simp, World.ownsRow_nil _ _ _ _, Below.refl _ _⟩
                case round =>
                  obtain ⟨j, nb, rfl, hjk, rfl, hlow, hnb, hB⟩ := hrel
                  have HLOW := Lib.hid hlow
                  obtain ⟨c0, c1⟩ := CL.out _ hB
                  by_cases hjl : j < k
                  · obtain ⟨n', v', hsj⟩ := label_at (it := S) (k := j) (by have := HSL.out; omega)
                    obtain ⟨d0, d1⟩ := (HLC.out.below hgw hB).zero hsj
                    have HSJ := Lib.hid hsj
                    have j1 : (j : Int) < (k : Int) := by omega
                    have jd : decide ((j : Int) < (k : Int)) = true := decide_eq_true j1
                    clear hsj
                    by_cases hl : cmpS n' n < 0
                    · have eL := less_yes hl
                      have HLOW2 := Lib.hid (take_lt_snoc HLOW.out HSJ.out hl)
                      have HTK := Lib.hid (cells2_take HSJ.out)
                      clear hl
                      go_wp2_with fail
                      go_quiet (fail)
                      obtain ⟨wq, hwq⟩ : ∃ wq : World, wr.drewN nq = wq := ⟨_, rfl⟩
                      have hBq : Below w2.heap.size w2 wq := by rw [← hwq]; exact below_draw hB _
                      have hnq : wq.ownsRow w2.heap.size 32 2 nb j ((S.take j).flatMap cells2) := by rw [← hwq]; exact hnb
                      have d0q : wq.cell? ⟨gS, j * 2, none⟩ = some (.string n') := by rw [← hwq]; exact d0
                      have d1q : wq.cell? ⟨gS, j * 2 + 1, none⟩ = some (.string v') := by rw [← hwq]; exact d1
                      rw [hwq]
                      clear hwq d0 d1 c0 c1 hB hnb
                      go_wp2_with (at_builtin; refine wpList_append_own _ rfl (.tmp 56) (.tmp 61) 25 rfl w2.heap.size 32 il (.agg #[.string ⟨#[]⟩, .string ⟨#[]⟩]) 2 32 Tryz.underlying25 hi hz0 hz1 hz2 rfl (by decide) nb j ((S.take j).flatMap cells2) rfl (hnq.alloc _) ⟨wq.heap.size, 0, none⟩ 1 1 [.string n', .string v'] rfl rfl (World.news_of_block (cs := #[.string n', .string v']) (t := 32) (fr := (0, 0)) (heap_alloc_new wq _)) (by simp [Value.oneCell']) (by unfold maxLen; omega) (by omega) (by have := hBq.size; simp; omega) ?_; intro v3 w3 hown3 hgrow3 _)
                      go_roundw
                      case rel => exact ⟨j + 1, v3, rfl, by omega, by go_num, HLOW2.out, by rw [HTK.out]; exact hown3, (hBq.alloc hBq.size _).grown hgrow3 (by have := hBq.size; simp; omega) (fun j hj => (hnq.lt j hj).1)⟩
                      case measure => simp [intOf]; omega
                    · have eL := less_no hl
                      have HUP := Lib.hid (show ∀ s, S[j]? = some s → ¬ cmpS s.1 n < 0 by intro s hs; rw [HSJ.out] at hs; cases hs; exact hl)
                      have HTW := Lib.hid (twice_at HSP.out HSS.out HLOW.out HUP.out)
                      clear hl
                      go_wp2_with fail
                      go_quiet (fail)
                      have hBd := below_draw hB nq
                      obtain ⟨wp, hwp⟩ : ∃ wp : World, wr.drewN nq = wp := ⟨_, rfl⟩
                      have hBp : Below w2.heap.size w2 wp := by rw [← hwp]; exact hBd
                      have hnp : wp.ownsRow w2.heap.size 32 2 nb j ((S.take j).flatMap cells2) := by rw [← hwp]; exact hnb
                      have d0q : wp.cell? ⟨gS, j * 2, none⟩ = some (.string n') := by rw [← hwp]; exact d0
                      have c0q : wp.cell? ⟨g, off + k * 2, none⟩ = some (.string n) := by rw [← hwp]; exact c0
                      rw [hwp]
                      clear hwp d0 d1 c0 c1 hB hnb hBd
                      by_cases he : n' = n
                      · have eE := str_yes he
                        have HE := Lib.hid (newE_at h8 HF.out HJ.out (badE_twice HN.out hv1 HV.out (by rw [HTW.out, HSJ.out]; exact decide_eq_true he)) (by omega))
                        clear he
                        go_wp2_with fail
                        go_quiet (fail)
                        go_wp2
                        go_ret2
                        exact newR_bad rfl HE.out (by omega) (HB2.out.trans ((below_draw hBp _).mono HB2.out.size))
                      · have eE := str_no he
                        have HBE := Lib.hid (badE_ok HN.out hv1 HV.out (show ((it.take k).any fun s => decide (s.1 = n)) = false by rw [HTW.out, HSJ.out]; exact decide_eq_false he))
                        have HFS := Lib.hid (firstBad_miss HJ.out HBE.out)
                        have HDS := Lib.hid (dist_snoc HD.out HJ.out HBE.out)
                        clear he
                        go_wp2_with fail
                        go_quiet (fail)
                        obtain ⟨wq, hwq⟩ : ∃ wq : World, wp.drewN nq = wq := ⟨_, rfl⟩
                        have hBq : Below w2.heap.size w2 wq := by rw [← hwq]; exact below_draw hBp _
                        have hnq : wq.ownsRow w2.heap.size 32 2 nb j ((S.take j).flatMap cells2) := by rw [← hwq]; exact hnp
                        obtain ⟨c0, c1⟩ := CL.out _ hBq
                        rw [hwq]
                        clear hwq d0q c0q hBp hnp
                        go_wp2_with (first | (at_builtin; refine wpList_append_own _ rfl (.tmp 82) (.tmp 87) 25 rfl w2.heap.size 32 il (.agg #[.string ⟨#[]⟩, .string ⟨#[]⟩]) 2 32 Tryz.underlying25 hi hz0 hz1 hz2 rfl (by decide) nb j ((S.take j).flatMap cells2) rfl (hnq.alloc _) ⟨wq.heap.size, 0, none⟩ 1 1 [.string n, .string v] rfl rfl (World.news_of_block (cs := #[.string n, .string v]) (t := 32) (fr := (0, 0)) (heap_alloc_new wq _)) (by simp [Value.oneCell']) (by unfold maxLen; omega) (by omega) (by have := hBq.size; simp; omega) ?_; intro v3 w3 hown3 hgrow3 _; have hB3 : Below w2.heap.size w2 w3 := (hBq.alloc hBq.size _).grown hgrow3 (by have := hBq.size; simp; omega) (fun j hj => (hnq.lt j hj).1)) | (at_builtin; refine wpList_append_own _ rfl (.tmp 89) (.tmp 92) 25 rfl w2.heap.size 32 il (.agg #[.string ⟨#[]⟩, .string ⟨#[]⟩]) 2 32 Tryz.underlying25 hi hz0 hz1 hz2 rfl (by decide) v3 _ _ rfl hown3 ⟨gS, j * 2, none⟩ (k - j) (cS - j) ((S.drop j).flatMap cells2) rfl (by rw [cells2_length, List.length_drop, HSL.out]) (cells2_drop (HLC.out.below hgw hB3)) (cells2_one _) (by unfold maxLen; omega) (by omega) hB3.size ?_; intro v4 w4 hown4 hgrow4 _; have hB4 : Below w2.heap.size w2 w4 := hB3.grown hgrow4 hB3.size (fun j hj => (hown3.lt j hj).1)))
                        go_roundw
                        case rel => exact ⟨k + 1, v4, rfl, by omega, by go_num, HFS.out.symm.trans HF.out, HDS.out, by rw [HSN.out]; exact owns_weak2 (round_owns hown4 rfl (by omega) HLOW.out (fun s hs => by have := HUP.out s hs; omega)) HB2.out.size, HB2.out.trans (hB4.mono HB2.out.size)⟩
                        case measure => simp [intOf]; omega
                  · obtain rfl : k = j := by omega
                    have HUP := Lib.hid (show ∀ s, S[k]? = some s → ¬ cmpS s.1 n < 0 by intro s hs; have := (List.getElem?_eq_some_iff.1 hs).1; have := HSL.out; omega)
                    have HTW := Lib.hid (twice_at HSP.out HSS.out HLOW.out HUP.out)
                    have HBE := Lib.hid (badE_ok HN.out hv1 HV.out (show ((it.take k).any fun s => decide (s.1 = n)) = false by rw [HTW.out, List.getElem?_eq_none (by rw [HSL.out]; exact Nat.le_refl _)]))
                    have HFS := Lib.hid (firstBad_miss HJ.out HBE.out)
                    have HDS := Lib.hid (dist_snoc HD.out HJ.out HBE.out)
                    have jd : decide ((k : Int) < (k : Int)) = false := by simp
                    go_wp2_with fail
                    go_quiet (fail)
                    obtain ⟨wp, hwp⟩ : ∃ wp : World, wr.drewN nq = wp := ⟨_, rfl⟩
                    have hBp : Below w2.heap.size w2 wp := by rw [← hwp]; exact below_draw hB _
                    have hnp : wp.ownsRow w2.heap.size 32 2 nb k ((S.take k).flatMap cells2) := by rw [← hwp]; exact hnb
                    rw [hwp]
                    clear hwp c0 c1 hB hnb
                    go_wp2_with fail
                    go_quiet (fail)
                    obtain ⟨wq, hwq⟩ : ∃ wq : World, wp.drewN nq = wq := ⟨_, rfl⟩
                    have hBq : Below w2.heap.size w2 wq := by rw [← hwq]; exact below_draw hBp _
                    have hnq : wq.ownsRow w2.heap.size 32 2 nb k ((S.take k).flatMap cells2) := by rw [← hwq]; exact hnp
                    obtain ⟨c0, c1⟩ := CL.out _ hBq
                    rw [hwq]
                    clear hwq hBp hnp
                    by_cases hck : cS = k
                    · obtain rfl : k = cS := hck.symm
                      go_wp2_with (first | (at_builtin; refine wpList_append_own _ rfl (.tmp 82) (.tmp 87) 25 rfl w2.heap.size 32 il (.agg #[.string ⟨#[]⟩, .string ⟨#[]⟩]) 2 32 Tryz.underlying25 hi hz0 hz1 hz2 rfl (by decide) nb k ((S.take k).flatMap cells2) rfl (hnq.alloc _) ⟨wq.heap.size, 0, none⟩ 1 1 [.string n, .string v] rfl rfl (World.news_of_block (cs := #[.string n, .string v]) (t := 32) (fr := (0, 0)) (heap_alloc_new wq _)) (by simp [Value.oneCell']) (by unfold maxLen; omega) (by omega) (by have := hBq.size; simp; omega) ?_; intro v3 w3 hown3 hgrow3 _; have hB3 : Below w2.heap.size w2 w3 := (hBq.alloc hBq.size _).grown hgrow3 (by have := hBq.size; simp; omega) (fun j hj => (hnq.lt j hj).1)) | (at_builtin; refine wpList_append_own _ rfl (.tmp 89) (.tmp 92) 25 rfl w2.heap.size 32 il (.agg #[.string ⟨#[]⟩, .string ⟨#[]⟩]) 2 32 Tryz.underlying25 hi hz0 hz1 hz2 rfl (by decide) v3 _ _ rfl hown3 ⟨gS, 0, none⟩ 0 0 ((S.drop k).flatMap cells2) rfl (by rw [cells2_length, List.length_drop, HSL.out]; omega) (fun i u hu => by rw [List.drop_eq_nil_of_le (by rw [HSL.out]; exact Nat.le_refl _)] at hu; simp at hu) (cells2_one _) (by unfold maxLen; omega) (by omega) hB3.size ?_; intro v4 w4 hown4 hgrow4 _; have hB4 : Below w2.heap.size w2 w4 := hB3.grown hgrow4 hB3.size (fun j hj => (hown3.lt j hj).1)))
                      go_roundw
                      case rel => exact ⟨k + 1, v4, rfl, by omega, by go_num, HFS.out.symm.trans HF.out, HDS.out, by rw [HSN.out]; exact owns_weak2 (round_owns (j := k) (by rw [Nat.sub_self]; exact hown4) rfl (by omega) HLOW.out (fun s hs => by have := HUP.out s hs; omega)) HB2.out.size, HB2.out.trans (hB4.mono HB2.out.size)⟩
                      case measure => simp [intOf]; omega
                    · have hck' : k < cS := by omega
                      have hck2 : ¬ cS = k := hck
                      go_wp2_with (first | (at_builtin; refine wpList_append_own _ rfl (.tmp 82) (.tmp 87) 25 rfl w2.heap.size 32 il (.agg #[.string ⟨#[]⟩, .string ⟨#[]⟩]) 2 32 Tryz.underlying25 hi hz0 hz1 hz2 rfl (by decide) nb k ((S.take k).flatMap cells2) rfl (hnq.alloc _) ⟨wq.heap.size, 0, none⟩ 1 1 [.string n, .string v] rfl rfl (World.news_of_block (cs := #[.string n, .string v]) (t := 32) (fr := (0, 0)) (heap_alloc_new wq _)) (by simp [Value.oneCell']) (by unfold maxLen; omega) (by omega) (by have := hBq.size; simp; omega) ?_; intro v3 w3 hown3 hgrow3 _; have hB3 : Below w2.heap.size w2 w3 := (hBq.alloc hBq.size _).grown hgrow3 (by have := hBq.size; simp; omega) (fun j hj => (hnq.lt j hj).1)) | (at_builtin; refine wpList_append_own _ rfl (.tmp 89) (.tmp 92) 25 rfl w2.heap.size 32 il (.agg #[.string ⟨#[]⟩, .string ⟨#[]⟩]) 2 32 Tryz.underlying25 hi hz0 hz1 hz2 rfl (by decide) v3 _ _ rfl hown3 ⟨gS, k * 2, none⟩ 0 (cS - k) ((S.drop k).flatMap cells2) rfl (by rw [cells2_length, List.length_drop, HSL.out]; omega) (fun i u hu => by rw [List.drop_eq_nil_of_le (by rw [HSL.out]; exact Nat.le_refl _)] at hu; simp at hu) (cells2_one _) (by unfold maxLen; omega) (by omega) hB3.size ?_; intro v4 w4 hown4 hgrow4 _; have hB4 : Below w2.heap.size w2 w4 := hB3.grown hgrow4 hB3.size (fun j hj => (hown3.lt j hj).1)))
                      go_roundw
                      case rel => exact ⟨k + 1, v4, rfl, by omega, by go_num, HFS.out.symm.trans HF.out, HDS.out, by rw [HSN.out]; exact owns_weak2 (round_owns (j := k) (by rw [Nat.sub_self]; exact hown4) rfl (by omega) HLOW.out (fun s hs => by have := HUP.out s hs; omega)) HB2.out.size, HB2.out.trans (hB4.mono HB2.out.size)⟩
                      case measure => simp [intOf]; omega
              · have hS0 : S = [] := List.eq_nil_of_length_eq_zero HSL.out
                subst hS0
                have HBE := Lib.hid (badE_ok HN.out hv1 HV.out (show ((it.take 0).any fun s => decide (s.1 = n)) = false by rw [List.take_zero]; rfl))
                have HFS := Lib.hid (firstBad_miss HJ.out HBE.out)
                have HDS := Lib.hid (dist_snoc HD.out HJ.out HBE.out)
                obtain ⟨wo, rfl⟩ : ∃ wo : World, wo = wr := ⟨_, rfl⟩
                go_wp2_with fail
                refine wp_loop_rounds 1 ?_
                rw [rounds_succ]
                go_wp2_with fail
                go_quiet (fail)
                obtain ⟨wp, hwp⟩ : ∃ wp : World, w2.drewN nq = wp := ⟨_, rfl⟩
                have hBp : Below w2.heap.size w2 wp := by rw [← hwp]; exact below_draw (Below.refl _ _) _
                rw [hwp]
                clear hwp
                go_wp2_with fail
                go_quiet (fail)
                obtain ⟨wq, hwq⟩ : ∃ wq : World, wp.drewN nq = wq := ⟨_, rfl⟩
                have hBq : Below w2.heap.size w2 wq := by rw [← hwq]; exact below_draw hBp _
                obtain ⟨c0, c1⟩ := CL.out _ hBq
                rw [Nat.zero_mul, Nat.add_zero] at c0 c1
                rw [hwq]
                clear hwq hBp
                have hnq := World.ownsRow_nil wq w2.heap.size 32 2
                go_wp2_with (first | (at_builtin; refine wpList_append_own _ rfl (.tmp 82) (.tmp 87) 25 rfl w2.heap.size 32 il (.agg #[.string ⟨#[]⟩, .string ⟨#[]⟩]) 2 32 Tryz.underlying25 hi hz0 hz1 hz2 rfl (by decide) (.slice none 0 0) 0 [] rfl (hnq.alloc _) ⟨wq.heap.size, 0, none⟩ 1 1 [.string n, .string v] rfl rfl (World.news_of_block (cs := #[.string n, .string v]) (t := 32) (fr := (0, 0)) (heap_alloc_new wq _)) (by simp [Value.oneCell']) (by unfold maxLen; omega) (by omega) (by have := hBq.size; simp; omega) ?_; intro v3 w3 hown3 hgrow3 _; have hB3 : Below w2.heap.size w2 w3 := (hBq.alloc hBq.size _).grown hgrow3 (by have := hBq.size; simp; omega) (fun j hj => (hnq.lt j hj).1)) | (at_builtin; refine wpList_append_own_none rfl (.tmp 89) (.tmp 92) 25 rfl w2.heap.size 32 il 2 Tryz.underlying25 hi v3 _ _ rfl hown3 rfl ?_))
                go_roundw
                case rel => exact ⟨1, v3, rfl, by omega, rfl, HFS.out.symm.trans HF.out, HDS.out, by rw [HSN.out]; exact owns_weak2 hown3 HB2.out.size, HB2.out.trans (hB3.mono HB2.out.size)⟩
                case measure => simp [intOf]; omega
          · have e1 := empty_is hv1
            have e2 := isEmpty_is hv1
            have HE := Lib.hid (newE_at h8 HF.out HJ.out (badE_empty HN.out hv1) (by omega))
            go_wp2
            go_ret2
            exact newR_bad rfl HE.out (by omega) (below_st hB HW1.out)
      · obtain rfl : k = it.length := by omega
        have HE := Lib.hid (show newE it = 0 by
          unfold newE
          rw [if_neg (by omega), ← HF.out, List.drop_length]; rfl)
        rw [List.take_length] at hown
        have hs : (sortL it).length = it.length := (sortL_perm it).length_eq
        have HO := Lib.hid (show wr.ownsRow w.heap.size 32 2 sb (sortL it).length ((sortL it).flatMap cells2) by rw [hs]; exact hown)
        clear hown hs
        go_wp2
        go_ret2
        refine ⟨sb, by rw [HE.out]; rfl, ?_, hB⟩
        unfold newL
        rw [if_pos HE.out]
        exact LsAt.of_owns HO.out
  · have HE := Lib.hid (show newE it = 4 by unfold newE; rw [if_pos (by omega)])
    go_enter Tryz.func47, Tryz.ntmps47
    go_wp2
    go_ret2
    exact newR_bad rfl HE.out (by omega) (Below.refl _ _)
end Go.Proofs.YtmgjbbkccgncgaaGreatDoor
