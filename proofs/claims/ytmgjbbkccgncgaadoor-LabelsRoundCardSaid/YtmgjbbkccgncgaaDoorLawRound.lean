/- The walk of LabelsRound. Conditions: the library's variable MaxLen holds an integer. -/
import Derived.Laws.AppendOwnNone
import Derived.Test.YtmgjbbkccgncgaaDoorBytes
import Derived.Test.YtmgjbbkccgncgaaDoorLParses
import Derived.Test.YtmgjbbkccgncgaaDoorLHelp
namespace Go.Proofs.YtmgjbbkccgncgaaDoor
open Go.RowKit

/-- The hash of a text. -/
def hashT (s : ByteArray) : Int := bytesI [108, 97, 98, 101, 108, 115] s.data.toList
theorem hash_any (s : ByteArray) (w : World) (hs : s.size ≤ 100000) : ∃ (cap : Nat) (C : Array Value),
    (convert 9 34 (.string s)).run Tryd.prog w = .ok (.slice (some ⟨w.heap.size, 0, none⟩) s.size cap) (w.drew.alloc (.cells C 5 (C.size, C.size + 1))) ∧
    Calls Tryd.prog 10 #[.string ⟨#[108, 97, 98, 101, 108, 115]⟩, .slice (some ⟨w.heap.size, 0, none⟩) s.size cap] (w.alloc (.cells C 5 (C.size, C.size + 1))).drew fun e w' => e = .returned (.int .u64 (hashT s)) ∧ Below w.heap.size w w' := by
  obtain ⟨cap, C, hc, hC, hcv⟩ := conv_bytes w s
  refine ⟨cap, C, hcv, ?_⟩
  have hl : s.data.toList.length = s.size := ba_size s
  have hI : BytesAt (w.drew.alloc (.cells C 5 (C.size, C.size + 1))).heap.size (w.drew.alloc (.cells C 5 (C.size, C.size + 1))) (.slice (some ⟨w.heap.size, 0, none⟩) s.data.toList.length cap) s.data.toList :=
    .inr ⟨w.heap.size, 0, cap, rfl, by rw [hl]; exact hc, by simp, fun j hj => by
      rw [Nat.zero_add]
      refine (World.cell?_alloc_mark w.drew _ _ _ j).trans ?_
      rw [hC j (by rw [← hl]; exact hj)]⟩
  have h := bytes_any ⟨#[108, 97, 98, 101, 108, 115]⟩ s.data.toList (some ⟨w.heap.size, 0, none⟩) cap _ (by decide) (by omega) hI
  rw [hl] at h
  refine h.mono fun e w' ⟨he, hb⟩ => ⟨he, ?_⟩
  have h0 : Below w.heap.size w (w.drew.alloc (.cells C 5 (C.size, C.size + 1))) := (Below.refl _ w).drew.alloc (by simp) _
  exact h0.trans (hb.mono h0.size)

theorem turn_new {it tl : List L2} (hS : SetOf 6 it) (hp : tl.Perm it) : newE tl = 0 ∧ newL tl = it := by
  have hl := hp.length_eq
  have h0 : newE tl = 0 := newE_zero (by have := hS.2.1; omega) (fun t ht => hS.good t (hp.mem_iff.1 ht))
    ((List.Perm.pairwise_iff (R := fun s t : L2 => s.1 ≠ t.1) (fun h => Ne.symm h) hp).2 (Dist.of_srt hS.1))
  exact ⟨h0, (newL_of h0 hp.symm hS.1).symm⟩
theorem SetOf.valid {it : List L2} (hS : SetOf 6 it) : validB it = true := valid_of (by have := hS.2.1; omega) hS.good hS.1
theorem u64_self (x : Int) : (x == x) = true := by simp

theorem cells2_drop5 {S : List L2} {g j : Nat} {W : World} (h : LCells W g 0 S) : ∀ i u, ((S.drop j).flatMap cells2)[i]? = some u → W.cell? ((⟨g, j * 2, none⟩ : Addr).add i) = some u := cells2_drop h
theorem cells2_take5 {S : List L2} {g j : Nat} {W : World} (h : LCells W g 0 S) : ∀ i u, ((S.take j).flatMap cells2)[i]? = some u → W.cell? ((⟨g, 0, none⟩ : Addr).add i) = some u := by
  intro i u hu
  have e : S.flatMap cells2 = (S.take j).flatMap cells2 ++ (S.drop j).flatMap cells2 := by rw [← List.flatMap_append, List.take_append_drop]
  have hi := (List.getElem?_eq_some_iff.1 hu).1
  have hu2 : (S.flatMap cells2)[i]? = some u := by rw [e, List.getElem?_append_left hi]; exact hu
  have h2 := owned_cells (off := 0) h i u hu2
  rw [Nat.zero_add] at h2
  have ea : (⟨g, 0, none⟩ : Addr).add i = ⟨g, i, none⟩ := by simp [Addr.add]; omega
  rw [ea]
  exact h2
theorem take_perm (it : List L2) (k : Nat) : (it.drop k ++ it.take k).Perm it := by
  have h := List.perm_append_comm (l₁ := it.drop k) (l₂ := it.take k)
  rwa [List.take_append_drop] at h

theorem own_all {W : World} {base : Nat} {v : Value} {it : List L2} (h : W.ownsRow base 41 2 v (0 + 0 + it.length) (([] ++ []) ++ (it.take it.length).flatMap cells2)) :
    W.ownsRow base 41 2 v (it.length - it.length + min it.length it.length) ((it.drop it.length).flatMap cells2 ++ (it.take it.length).flatMap cells2) := by
  have e1 : it.length - it.length + min it.length it.length = 0 + 0 + it.length := by omega
  rw [e1, List.drop_length]
  exact h
def IsNil (v : Value) : Prop := v = .slice none 0 0
/-- What lies ready behind the appends. -/
def Turned (w w4 : World) (it : List L2) (v4 : Value) : Prop := ∃ tl : List L2, tl.Perm it ∧ LsAt w4 v4 tl ∧ Below w.heap.size w w4

set_option maxRecDepth 100000 in
set_option maxHeartbeats 16000000 in
theorem lround_walk (v0 : Value) (zs : List Int) (v1 : Value) (ys : List Int) (n : Int) (w : World) (hI : IntsIn w v0 zs) (hJ : IntsIn w v1 ys) (a1 : -9223372036854775808 ≤ n) (a2 : n ≤ 9223372036854775807) (hm : MaxAt w) :
    Calls Tryd.prog 3 #[v0, v1, .int .i64 n] w fun e w' => e = .returned (.bool true) ∧ Below w.heap.size w w' := by
  obtain ⟨il, hi, hz0, hz1, hz2⟩ := info_parts Tryd.infoLabel
  have HI := Lib.hid hI
  have HJ := Lib.hid hJ
  have HM := Lib.hid hm
  have HX := Lib.hid (fun (x : ByteArray) (hx : x.size ≤ 100000) W => hash_any x W hx)
  clear hI hJ hm
  go_enter Tryd.func3, Tryd.ntmps3
  go_wp2_with fail
  refine (set_any v0 zs w HI.out).mono ?_
  rintro e w1 ⟨va, it, rfl, hO, hSo, hb⟩
  have HB1 := Lib.hid hb
  have HS := Lib.hid hSo
  have HO := Lib.hid hO
  have h6 : it.length ≤ 6 := hSo.2.1
  clear hb hSo hO
  have hshape : ∃ a c, va = .slice a it.length c := by
    rcases HO.out.2 with ⟨h1, h2⟩ | ⟨g, cap, cur, h1, -⟩
    · exact ⟨none, 0, by rw [h1, h2]⟩
    · exact ⟨_, cap, h1⟩
  have hcase : (va = .slice none 0 0 ∧ it = []) ∨ ∃ g cap, va = .slice (some ⟨g, 0, none⟩) it.length cap ∧ it.length ≤ cap ∧ g < w1.heap.size ∧ LCells w1 g 0 it := by
    rcases LsAt.of_owns HO.out with h | ⟨g, off, c, e, hl, hg, hc⟩
    · exact .inl h
    · rcases HO.out.2 with ⟨h1, h2⟩ | ⟨g', cap, cur, h1, -⟩
      · rw [h1] at e; cases e
      · rw [e] at h1
        simp only [Value.slice.injEq, Option.some.injEq, Addr.mk.injEq] at h1
        obtain ⟨⟨rfl, rfl, -⟩, -, rfl⟩ := h1
        exact .inr ⟨_, _, e, hl, hg, hc⟩
  have HC := Lib.hid hcase
  have HLA := Lib.hid (LsAt.of_owns HO.out)
  clear hcase
  obtain ⟨aa, ac, rfl⟩ := hshape
  go_wp2_with fail
  refine (set_any v1 ys w1 (HJ.out.below HB1.out)).mono ?_
  rintro e w2 ⟨vb, jt, rfl, hO2, hSo2, hb⟩
  have HB2 := Lib.hid (below_st HB1.out hb)
  have HB12 := Lib.hid hb
  have HS2 := Lib.hid hSo2
  have j6 : jt.length ≤ 6 := hSo2.2.1
  have HLB := Lib.hid (LsAt.of_owns hO2)
  obtain ⟨ba, bc, rfl, -⟩ := HLB.out.slice
  clear hb hSo2 hO2 HO
  have w61 : IntKind.i64.wrap ((it.length : Int) + 1) = (it.length : Int) + 1 := by rw [IntKind.wrap_i64]; omega
  have HA := Lib.hid (fun W => around_any n ((it.length : Int) + 1) W a1 a2 (by omega) (by omega))
  have k0 := aroundI_lo n ((it.length : Int) + 1) (by omega)
  have k1 := aroundI_hi n ((it.length : Int) + 1) (by omega)
  obtain ⟨q, hq⟩ : ∃ q, aroundI n ((it.length : Int) + 1) = q := ⟨_, rfl⟩
  rw [hq] at HA k0 k1
  obtain ⟨k, rfl⟩ := Int.eq_ofNat_of_zero_le k0
  have k2 : (k : Int) ≤ (it.length : Int) := by omega
  have k3 : k ≤ it.length := by omega
  clear hq k1 a1 a2
  go_wp2_with fail
  (with_reducible refine (HA.out _).mono ?_)
  rintro e w' ⟨rfl, rfl⟩
  have HN := Lib.hid (fun (v : Value) (tl : List L2) (W : World) (hp : tl.Perm it) (hl : LsAt W v tl) => new_any v tl W hl (by have := hp.length_eq; omega) (fun t ht => HS.out.sz t (hp.mem_iff.1 ht)))
  have hnil := World.ownsRow_nil w2 w2.heap.size 41 2
  rcases HC.out with ⟨ea, eit⟩ | ⟨g, cap, ea, hlc, hg, hcells⟩
  · have hk0 : k = 0 := by rw [eit] at k3; simpa using k3
    subst hk0
    simp only [Value.slice.injEq] at ea
    obtain ⟨rfl, el, rfl⟩ := ea
    have HT := Lib.hid (show Turned w2 w2 it (.slice none 0 0) from ⟨[], by rw [eit], .nil, Below.refl _ _⟩)
    have HP := Lib.hid (show IsNil (.slice none 0 0) from rfl)
    have HEL := Lib.hid el
    have HC := Lib.hid True.intro
    clear eit el k2 k3 k0 h6
    go_wp2_with (at_builtin; refine wpList_append_own_none rfl _ _ 23 rfl w2.heap.size 41 il 2 Tryd.underlying23 hi _ _ _ rfl hnil (by first | rfl | exact (show Value.slice none it.length 0 = .slice none 0 0 by rw [HEL.out])) ?_)
    have h6 : it.length ≤ 6 := by rw [HEL.out]; omega
    obtain ⟨tl, htp, htl, hbt⟩ := HT.out
    have hN := HN.out (.slice none 0 0) tl w2 htp htl
    unfold NewR at hN
    obtain ⟨hn0, hn1⟩ := turn_new HS.out htp
    rw [hn0, hn1] at hN
    have HNN := Lib.hid hN
    have HBT := Lib.hid hbt
    clear hN hn0 hn1 htp htl hbt HT
    (with_reducible refine HNN.out.mono ?_)
    rintro e w5 ⟨vc, rfl, hLc, hb⟩
    obtain ⟨ca, cc, rfl, -⟩ := hLc.slice
    have h25 : Below w2.heap.size w2 w5 := below_st HBT.out hb
    have HB5 := Lib.hid (below_st HB2.out h25)
    have HLA5 := Lib.hid ((HLA.out.below HB12.out).below h25)
    have HLB5 := Lib.hid (HLB.out.below h25)
    have HLC5 := Lib.hid hLc
    have hM5 := HM.out.below HB5.out
    have HM5 := Lib.hid hM5
    have TA := Lib.hid (fun (W : World) (hb : Below w5.heap.size w5 W) => text_any (.slice none it.length 0) it W (HLA5.out.below hb) (by omega) HS.out.sz)
    have TB := Lib.hid (fun (W : World) (hb : Below w5.heap.size w5 W) => text_any (.slice ba jt.length bc) jt W (HLB5.out.below hb) (by omega) HS2.out.sz)
    have TC := Lib.hid (fun (W : World) (hb : Below w5.heap.size w5 W) => text_any (.slice ca it.length cc) it W (HLC5.out.below hb) (by omega) HS.out.sz)
    have SAC := Lib.hid (fun (W : World) (hb : Below w5.heap.size w5 W) => same_any none ca 0 cc it it W (HLA5.out.below hb) (HLC5.out.below hb) (by omega) (by omega))
    have SAB := Lib.hid (fun (W : World) (hb : Below w5.heap.size w5 W) => same_any none ba 0 bc it jt W (HLA5.out.below hb) (HLB5.out.below hb) (by omega) (by omega))
    have z1 := HS.out.text HS.out.2.1
    have z2 := HS2.out.text HS2.out.2.1
    have PA := Lib.hid (fun (W : World) (hb : Below w5.heap.size w5 W) => parse_any (textB it) W (by omega) (HM5.out.below hb))
    have hpt := parse_text HS.out.valid
    unfold ParR at PA
    rw [hpt.1, hpt.2] at PA
    rw [sameL_of rfl] at SAC
    have HQ := Lib.hid (show (textB it = textB jt) ↔ it = jt from ⟨fun h => text_inj HS.out.valid HS2.out.valid h, fun h => by rw [h]⟩)
    obtain ⟨T1, hT1⟩ : ∃ T1, textB it = T1 := ⟨_, rfl⟩
    obtain ⟨T2, hT2⟩ : ∃ T2, textB jt = T2 := ⟨_, rfl⟩
    rw [hT1] at TA TC PA HQ z1
    rw [hT2] at TB HQ z2
    have HX1 := Lib.hid (fun W => HX.out T1 (by omega) W)
    have HX2 := Lib.hid (fun W => HX.out T2 (by omega) W)
    have x11 : (hashT T1 == hashT T1) = true := u64_self _
    obtain ⟨X1, hX1⟩ : ∃ X1, hashT T1 = X1 := ⟨_, rfl⟩
    obtain ⟨X2, hX2⟩ : ∃ X2, hashT T2 = X2 := ⟨_, rfl⟩
    have HXX := Lib.hid (show it = jt → X1 = X2 by intro h; rw [← hX1, ← hX2, HQ.out.2 h])
    rw [hX1] at HX1 x11
    rw [hX2] at HX2
    have b5 : Below w5.heap.size w5 w5 := Below.refl _ _
    have BZ := Lib.hid b5
    clear hT1 hT2 hX1 hX2 hpt hM5 h25 hLc hb HLA HLB HBT HNN HN b5 HX
    go_wp2_with fail
    (with_reducible refine (TA.out w5 BZ.out).mono ?_)
    rintro e w6 ⟨rfl, hb⟩
    have HB6 := Lib.hid hb
    clear hb
    go_wp2_with fail
    (with_reducible refine (PA.out w6 HB6.out).mono ?_)
    rintro e w7 ⟨vd, rfl, hLd, hb⟩
    obtain ⟨da, dc, rfl, -⟩ := hLd.slice
    have HB7 := Lib.hid (below_st HB6.out hb)
    have HLD := Lib.hid hLd
    clear hb hLd HB6
    go_wp2_with fail
    (with_reducible refine (SAC.out w7 HB7.out).mono ?_)
    rintro e w8 ⟨rfl, hb⟩
    have HB8 := Lib.hid (below_st HB7.out hb)
    have hSD := same_any none da 0 dc it it w8 (HLA5.out.below HB8.out) (HLD.out.below hb) (by omega) (by omega)
    rw [sameL_of rfl] at hSD
    have SAD := Lib.hid hSD
    clear hb HB7 hSD
    go_wp2_with fail
    (with_reducible refine SAD.out.mono ?_)
    rintro e w9 ⟨rfl, hb⟩
    have HB9 := Lib.hid (below_st HB8.out hb)
    clear hb HB8 SAD HLD
    go_wp2_with fail
    (with_reducible refine (SAB.out w9 HB9.out).mono ?_)
    rintro e wa ⟨rfl, hb⟩
    have HBa := Lib.hid (below_st HB9.out hb)
    clear hb HB9 SAB SAC PA
    cases hq : sameL it jt
    all_goals
      first
        | (have hij : it = jt := of_decide_eq_true hq
           have eT := str_yes (HQ.out.2 hij)
           have eX : (X1 == X2) = true := by rw [HXX.out hij]; exact u64_self _
           clear hij)
        | (have hij : it ≠ jt := of_decide_eq_false hq
           have eT := str_no (fun h => hij (HQ.out.1 h))
           clear hij)
      clear hq
      go_wp2_with fail
      (with_reducible refine (TA.out wa HBa.out).mono ?_)
      rintro e wb ⟨rfl, hb⟩
      have HBb := Lib.hid (below_st HBa.out hb)
      clear hb
      obtain ⟨cap1, C1, hcv1, hcall1⟩ := HX1.out wb
      have HC1 := Lib.hid hcall1
      clear hcall1
      go_wp2_with fail
      (with_reducible refine HC1.out.mono ?_)
      rintro e wc ⟨rfl, hb⟩
      have HBc := Lib.hid (below_st HBb.out hb)
      clear hb HC1 hcv1
      go_wp2_with fail
      (with_reducible refine (TB.out wc HBc.out).mono ?_)
      rintro e wd ⟨rfl, hb⟩
      have HBd := Lib.hid (below_st HBc.out hb)
      clear hb
      obtain ⟨cap2, C2, hcv2, hcall2⟩ := HX2.out wd
      have HC2 := Lib.hid hcall2
      clear hcall2
      go_wp2_with fail
      (with_reducible refine HC2.out.mono ?_)
      rintro e we ⟨rfl, hb⟩
      have HBe := Lib.hid (below_st HBd.out hb)
      clear hb HC2 hcv2
      go_wp2_with fail
      (with_reducible refine (TA.out we HBe.out).mono ?_)
      rintro e wf ⟨rfl, hb⟩
      have HBf := Lib.hid (below_st HBe.out hb)
      clear hb
      go_wp2_with fail
      (with_reducible refine (TB.out wf HBf.out).mono ?_)
      rintro e wg ⟨rfl, hb⟩
      have HBg := Lib.hid (below_st HBf.out hb)
      clear hb
      go_wp2_with fail
      (with_reducible refine (TC.out wg HBg.out).mono ?_)
      rintro e wh ⟨rfl, hb⟩
      have HBh := Lib.hid (below_st HBg.out hb)
      clear hb
      obtain ⟨cap3, C3, hcv3, hcall3⟩ := HX1.out wh
      have HC3 := Lib.hid hcall3
      clear hcall3
      go_wp2_with fail
      (with_reducible refine HC3.out.mono ?_)
      rintro e wi ⟨rfl, hb⟩
      have HBi := Lib.hid (below_st HBh.out hb)
      clear hb HC3 hcv3
      go_wp2_with fail
      refine (lives_any wi).mono ?_
      rintro e wj ⟨rfl, hb⟩
      have HBj := Lib.hid (below_st HBi.out hb)
      clear hb
      go_wp2
      go_ret
      exact ⟨rfl, below_st HB5.out HBj.out⟩
  · simp only [Value.slice.injEq, true_and] at ea
    obtain ⟨rfl, hac⟩ := ea
    have hac' := hac.symm
    subst hac'
    have hg2 : g < w2.heap.size := Nat.lt_of_lt_of_le hg HB12.out.size
    have HL2 := Lib.hid (hcells.below hg HB12.out)
    have k4 : (0 : Int) ≤ (it.length : Int) - (k : Int) := by omega
    by_cases hck : k < cap
    · have hck1 : (k : Int) < (cap : Int) := by omega
      go_wp2_with (first
        | (at_builtin; refine wpList_append_own _ rfl (.tmp 27) (.tmp 30) 23 rfl w2.heap.size 41 il (.agg #[.string ⟨#[]⟩, .string ⟨#[]⟩]) 2 32 Tryd.underlying23 hi hz0 hz1 hz2 rfl (by decide) (.slice none 0 0) 0 [] rfl hnil ⟨g, k * 2, none⟩ (it.length - k) (cap - k) ((it.drop k).flatMap cells2) rfl (by rw [cells2_length, List.length_drop]) (cells2_drop5 HL2.out) (cells2_one _) (by unfold maxLen; omega) (by omega) (Nat.le_refl _) ?_; intro v3 w3 hown3 hgrow3 _; have hB3 : Below w2.heap.size w2 w3 := (Below.refl _ w2).grown hgrow3 (Nat.le_refl _) (fun j hj => by cases hj))
        | (at_builtin; refine wpList_append_own _ rfl (.tmp 32) (.tmp 35) 23 rfl w2.heap.size 41 il (.agg #[.string ⟨#[]⟩, .string ⟨#[]⟩]) 2 32 Tryd.underlying23 hi hz0 hz1 hz2 rfl (by decide) v3 _ _ rfl hown3 ⟨g, 0, none⟩ k cap ((it.take k).flatMap cells2) rfl (by rw [cells2_length, List.length_take]; omega) (cells2_take5 (HL2.out.below hg2 hB3)) (cells2_one _) (by unfold maxLen; omega) (by omega) hB3.size ?_; intro v4 w4 hown4 hgrow4 _; have hB4 : Below w2.heap.size w2 w4 := hB3.grown hgrow4 hB3.size (fun j hj => (hown3.lt j hj).1)))
      have HT := Lib.hid (show Turned w2 w4 it v4 from ⟨it.drop k ++ it.take k, take_perm it k, LsAt.of_owns (by rw [List.length_append, List.length_drop, List.length_take, List.flatMap_append]; rw [Nat.min_eq_left k3, ← Nat.zero_add (it.length - k)]; exact hown4), hB4⟩)
      clear hown4 hgrow4 hown3 hgrow3 hB3 hB4 HL2 hcells
      obtain ⟨tl, htp, htl, hbt⟩ := HT.out
      have hN := HN.out v4 tl w4 htp htl
      unfold NewR at hN
      obtain ⟨hn0, hn1⟩ := turn_new HS.out htp
      rw [hn0, hn1] at hN
      have HNN := Lib.hid hN
      have HBT := Lib.hid hbt
      clear hN hn0 hn1 htp htl hbt HT
      (with_reducible refine HNN.out.mono ?_)
      rintro e w5 ⟨vc, rfl, hLc, hb⟩
      obtain ⟨ca, cc, rfl, -⟩ := hLc.slice
      have h25 : Below w2.heap.size w2 w5 := below_st HBT.out hb
      have HB5 := Lib.hid (below_st HB2.out h25)
      have HLA5 := Lib.hid ((HLA.out.below HB12.out).below h25)
      have HLB5 := Lib.hid (HLB.out.below h25)
      have HLC5 := Lib.hid hLc
      have hM5 := HM.out.below HB5.out
      have HM5 := Lib.hid hM5
      have TA := Lib.hid (fun (W : World) (hb : Below w5.heap.size w5 W) => text_any (.slice (some ⟨g, 0, none⟩) it.length cap) it W (HLA5.out.below hb) (by omega) HS.out.sz)
      have TB := Lib.hid (fun (W : World) (hb : Below w5.heap.size w5 W) => text_any (.slice ba jt.length bc) jt W (HLB5.out.below hb) (by omega) HS2.out.sz)
      have TC := Lib.hid (fun (W : World) (hb : Below w5.heap.size w5 W) => text_any (.slice ca it.length cc) it W (HLC5.out.below hb) (by omega) HS.out.sz)
      have SAC := Lib.hid (fun (W : World) (hb : Below w5.heap.size w5 W) => same_any (some ⟨g, 0, none⟩) ca cap cc it it W (HLA5.out.below hb) (HLC5.out.below hb) (by omega) (by omega))
      have SAB := Lib.hid (fun (W : World) (hb : Below w5.heap.size w5 W) => same_any (some ⟨g, 0, none⟩) ba cap bc it jt W (HLA5.out.below hb) (HLB5.out.below hb) (by omega) (by omega))
      have z1 := HS.out.text HS.out.2.1
      have z2 := HS2.out.text HS2.out.2.1
      have PA := Lib.hid (fun (W : World) (hb : Below w5.heap.size w5 W) => parse_any (textB it) W (by omega) (HM5.out.below hb))
      have hpt := parse_text HS.out.valid
      unfold ParR at PA
      rw [hpt.1, hpt.2] at PA
      rw [sameL_of rfl] at SAC
      have HQ := Lib.hid (show (textB it = textB jt) ↔ it = jt from ⟨fun h => text_inj HS.out.valid HS2.out.valid h, fun h => by rw [h]⟩)
      obtain ⟨T1, hT1⟩ : ∃ T1, textB it = T1 := ⟨_, rfl⟩
      obtain ⟨T2, hT2⟩ : ∃ T2, textB jt = T2 := ⟨_, rfl⟩
      rw [hT1] at TA TC PA HQ z1
      rw [hT2] at TB HQ z2
      have HX1 := Lib.hid (fun W => HX.out T1 (by omega) W)
      have HX2 := Lib.hid (fun W => HX.out T2 (by omega) W)
      have x11 : (hashT T1 == hashT T1) = true := u64_self _
      obtain ⟨X1, hX1⟩ : ∃ X1, hashT T1 = X1 := ⟨_, rfl⟩
      obtain ⟨X2, hX2⟩ : ∃ X2, hashT T2 = X2 := ⟨_, rfl⟩
      have HXX := Lib.hid (show it = jt → X1 = X2 by intro h; rw [← hX1, ← hX2, HQ.out.2 h])
      rw [hX1] at HX1 x11
      rw [hX2] at HX2
      have b5 : Below w5.heap.size w5 w5 := Below.refl _ _
      have BZ := Lib.hid b5
      clear hT1 hT2 hX1 hX2 hpt hM5 h25 hLc hb HLA HLB HBT HNN HN b5 HX
      go_wp2_with fail
      (with_reducible refine (TA.out w5 BZ.out).mono ?_)
      rintro e w6 ⟨rfl, hb⟩
      have HB6 := Lib.hid hb
      clear hb
      go_wp2_with fail
      (with_reducible refine (PA.out w6 HB6.out).mono ?_)
      rintro e w7 ⟨vd, rfl, hLd, hb⟩
      obtain ⟨da, dc, rfl, -⟩ := hLd.slice
      have HB7 := Lib.hid (below_st HB6.out hb)
      have HLD := Lib.hid hLd
      clear hb hLd HB6
      go_wp2_with fail
      (with_reducible refine (SAC.out w7 HB7.out).mono ?_)
      rintro e w8 ⟨rfl, hb⟩
      have HB8 := Lib.hid (below_st HB7.out hb)
      have hSD := same_any (some ⟨g, 0, none⟩) da cap dc it it w8 (HLA5.out.below HB8.out) (HLD.out.below hb) (by omega) (by omega)
      rw [sameL_of rfl] at hSD
      have SAD := Lib.hid hSD
      clear hb HB7 hSD
      go_wp2_with fail
      (with_reducible refine SAD.out.mono ?_)
      rintro e w9 ⟨rfl, hb⟩
      have HB9 := Lib.hid (below_st HB8.out hb)
      clear hb HB8 SAD HLD
      go_wp2_with fail
      (with_reducible refine (SAB.out w9 HB9.out).mono ?_)
      rintro e wa ⟨rfl, hb⟩
      have HBa := Lib.hid (below_st HB9.out hb)
      clear hb HB9 SAB SAC PA
      cases hq : sameL it jt
      all_goals
        first
          | (have hij : it = jt := of_decide_eq_true hq
             have eT := str_yes (HQ.out.2 hij)
             have eX : (X1 == X2) = true := by rw [HXX.out hij]; exact u64_self _
             clear hij)
          | (have hij : it ≠ jt := of_decide_eq_false hq
             have eT := str_no (fun h => hij (HQ.out.1 h))
             clear hij)
        clear hq
        go_wp2_with fail
        (with_reducible refine (TA.out wa HBa.out).mono ?_)
        rintro e wb ⟨rfl, hb⟩
        have HBb := Lib.hid (below_st HBa.out hb)
        clear hb
        obtain ⟨cap1, C1, hcv1, hcall1⟩ := HX1.out wb
        have HC1 := Lib.hid hcall1
        clear hcall1
        go_wp2_with fail
        (with_reducible refine HC1.out.mono ?_)
        rintro e wc ⟨rfl, hb⟩
        have HBc := Lib.hid (below_st HBb.out hb)
        clear hb HC1 hcv1
        go_wp2_with fail
        (with_reducible refine (TB.out wc HBc.out).mono ?_)
        rintro e wd ⟨rfl, hb⟩
        have HBd := Lib.hid (below_st HBc.out hb)
        clear hb
        obtain ⟨cap2, C2, hcv2, hcall2⟩ := HX2.out wd
        have HC2 := Lib.hid hcall2
        clear hcall2
        go_wp2_with fail
        (with_reducible refine HC2.out.mono ?_)
        rintro e we ⟨rfl, hb⟩
        have HBe := Lib.hid (below_st HBd.out hb)
        clear hb HC2 hcv2
        go_wp2_with fail
        (with_reducible refine (TA.out we HBe.out).mono ?_)
        rintro e wf ⟨rfl, hb⟩
        have HBf := Lib.hid (below_st HBe.out hb)
        clear hb
        go_wp2_with fail
        (with_reducible refine (TB.out wf HBf.out).mono ?_)
        rintro e wg ⟨rfl, hb⟩
        have HBg := Lib.hid (below_st HBf.out hb)
        clear hb
        go_wp2_with fail
        (with_reducible refine (TC.out wg HBg.out).mono ?_)
        rintro e wh ⟨rfl, hb⟩
        have HBh := Lib.hid (below_st HBg.out hb)
        clear hb
        obtain ⟨cap3, C3, hcv3, hcall3⟩ := HX1.out wh
        have HC3 := Lib.hid hcall3
        clear hcall3
        go_wp2_with fail
        (with_reducible refine HC3.out.mono ?_)
        rintro e wi ⟨rfl, hb⟩
        have HBi := Lib.hid (below_st HBh.out hb)
        clear hb HC3 hcv3
        go_wp2_with fail
        refine (lives_any wi).mono ?_
        rintro e wj ⟨rfl, hb⟩
        have HBj := Lib.hid (below_st HBi.out hb)
        clear hb
        go_wp2
        go_ret
        exact ⟨rfl, below_st HB5.out HBj.out⟩
    · have e1 : k = it.length := by omega
      have e2 : cap = it.length := by omega
      subst e1
      subst e2
      go_wp2_with (first
        | (at_builtin; refine wpList_append_own _ rfl (.tmp 27) (.tmp 30) 23 rfl w2.heap.size 41 il (.agg #[.string ⟨#[]⟩, .string ⟨#[]⟩]) 2 32 Tryd.underlying23 hi hz0 hz1 hz2 rfl (by decide) (.slice none 0 0) 0 [] rfl hnil ⟨g, 0, none⟩ 0 0 [] rfl rfl (fun i u hu => by simp at hu) (fun u hu => by simp at hu) (by unfold maxLen; omega) (by omega) (Nat.le_refl _) ?_; intro v3 w3 hown3 hgrow3 _; have hB3 : Below w2.heap.size w2 w3 := (Below.refl _ w2).grown hgrow3 (Nat.le_refl _) (fun j hj => by cases hj))
        | (at_builtin; refine wpList_append_own _ rfl (.tmp 32) (.tmp 35) 23 rfl w2.heap.size 41 il (.agg #[.string ⟨#[]⟩, .string ⟨#[]⟩]) 2 32 Tryd.underlying23 hi hz0 hz1 hz2 rfl (by decide) v3 _ _ rfl hown3 ⟨g, 0, none⟩ it.length it.length ((it.take it.length).flatMap cells2) rfl (by rw [cells2_length, List.length_take]; omega) (cells2_take5 (HL2.out.below hg2 hB3)) (cells2_one _) (by unfold maxLen; omega) (by omega) hB3.size ?_; intro v4 w4 hown4 hgrow4 _; have hB4 : Below w2.heap.size w2 w4 := hB3.grown hgrow4 hB3.size (fun j hj => (hown3.lt j hj).1)))
      have HT := Lib.hid (show Turned w2 w4 it v4 from ⟨it.drop it.length ++ it.take it.length, take_perm it it.length, LsAt.of_owns (by rw [List.length_append, List.length_drop, List.length_take, List.flatMap_append]; exact own_all hown4), hB4⟩)
      clear hown4 hgrow4 hown3 hgrow3 hB3 hB4 HL2 hcells
      obtain ⟨tl, htp, htl, hbt⟩ := HT.out
      have hN := HN.out v4 tl w4 htp htl
      unfold NewR at hN
      obtain ⟨hn0, hn1⟩ := turn_new HS.out htp
      rw [hn0, hn1] at hN
      have HNN := Lib.hid hN
      have HBT := Lib.hid hbt
      clear hN hn0 hn1 htp htl hbt HT
      (with_reducible refine HNN.out.mono ?_)
      rintro e w5 ⟨vc, rfl, hLc, hb⟩
      obtain ⟨ca, cc, rfl, -⟩ := hLc.slice
      have h25 : Below w2.heap.size w2 w5 := below_st HBT.out hb
      have HB5 := Lib.hid (below_st HB2.out h25)
      have HLA5 := Lib.hid ((HLA.out.below HB12.out).below h25)
      have HLB5 := Lib.hid (HLB.out.below h25)
      have HLC5 := Lib.hid hLc
      have hM5 := HM.out.below HB5.out
      have HM5 := Lib.hid hM5
      have TA := Lib.hid (fun (W : World) (hb : Below w5.heap.size w5 W) => text_any (.slice (some ⟨g, 0, none⟩) it.length it.length) it W (HLA5.out.below hb) (by omega) HS.out.sz)
      have TB := Lib.hid (fun (W : World) (hb : Below w5.heap.size w5 W) => text_any (.slice ba jt.length bc) jt W (HLB5.out.below hb) (by omega) HS2.out.sz)
      have TC := Lib.hid (fun (W : World) (hb : Below w5.heap.size w5 W) => text_any (.slice ca it.length cc) it W (HLC5.out.below hb) (by omega) HS.out.sz)
      have SAC := Lib.hid (fun (W : World) (hb : Below w5.heap.size w5 W) => same_any (some ⟨g, 0, none⟩) ca it.length cc it it W (HLA5.out.below hb) (HLC5.out.below hb) (by omega) (by omega))
      have SAB := Lib.hid (fun (W : World) (hb : Below w5.heap.size w5 W) => same_any (some ⟨g, 0, none⟩) ba it.length bc it jt W (HLA5.out.below hb) (HLB5.out.below hb) (by omega) (by omega))
      have z1 := HS.out.text HS.out.2.1
      have z2 := HS2.out.text HS2.out.2.1
      have PA := Lib.hid (fun (W : World) (hb : Below w5.heap.size w5 W) => parse_any (textB it) W (by omega) (HM5.out.below hb))
      have hpt := parse_text HS.out.valid
      unfold ParR at PA
      rw [hpt.1, hpt.2] at PA
      rw [sameL_of rfl] at SAC
      have HQ := Lib.hid (show (textB it = textB jt) ↔ it = jt from ⟨fun h => text_inj HS.out.valid HS2.out.valid h, fun h => by rw [h]⟩)
      obtain ⟨T1, hT1⟩ : ∃ T1, textB it = T1 := ⟨_, rfl⟩
      obtain ⟨T2, hT2⟩ : ∃ T2, textB jt = T2 := ⟨_, rfl⟩
      rw [hT1] at TA TC PA HQ z1
      rw [hT2] at TB HQ z2
      have HX1 := Lib.hid (fun W => HX.out T1 (by omega) W)
      have HX2 := Lib.hid (fun W => HX.out T2 (by omega) W)
      have x11 : (hashT T1 == hashT T1) = true := u64_self _
      obtain ⟨X1, hX1⟩ : ∃ X1, hashT T1 = X1 := ⟨_, rfl⟩
      obtain ⟨X2, hX2⟩ : ∃ X2, hashT T2 = X2 := ⟨_, rfl⟩
      have HXX := Lib.hid (show it = jt → X1 = X2 by intro h; rw [← hX1, ← hX2, HQ.out.2 h])
      rw [hX1] at HX1 x11
      rw [hX2] at HX2
      have b5 : Below w5.heap.size w5 w5 := Below.refl _ _
      have BZ := Lib.hid b5
      clear hT1 hT2 hX1 hX2 hpt hM5 h25 hLc hb HLA HLB HBT HNN HN b5 HX
      go_wp2_with fail
      (with_reducible refine (TA.out w5 BZ.out).mono ?_)
      rintro e w6 ⟨rfl, hb⟩
      have HB6 := Lib.hid hb
      clear hb
      go_wp2_with fail
      (with_reducible refine (PA.out w6 HB6.out).mono ?_)
      rintro e w7 ⟨vd, rfl, hLd, hb⟩
      obtain ⟨da, dc, rfl, -⟩ := hLd.slice
      have HB7 := Lib.hid (below_st HB6.out hb)
      have HLD := Lib.hid hLd
      clear hb hLd HB6
      go_wp2_with fail
      (with_reducible refine (SAC.out w7 HB7.out).mono ?_)
      rintro e w8 ⟨rfl, hb⟩
      have HB8 := Lib.hid (below_st HB7.out hb)
      have hSD := same_any (some ⟨g, 0, none⟩) da it.length dc it it w8 (HLA5.out.below HB8.out) (HLD.out.below hb) (by omega) (by omega)
      rw [sameL_of rfl] at hSD
      have SAD := Lib.hid hSD
      clear hb HB7 hSD
      go_wp2_with fail
      (with_reducible refine SAD.out.mono ?_)
      rintro e w9 ⟨rfl, hb⟩
      have HB9 := Lib.hid (below_st HB8.out hb)
      clear hb HB8 SAD HLD
      go_wp2_with fail
      (with_reducible refine (SAB.out w9 HB9.out).mono ?_)
      rintro e wa ⟨rfl, hb⟩
      have HBa := Lib.hid (below_st HB9.out hb)
      clear hb HB9 SAB SAC PA
      cases hq : sameL it jt
      all_goals
        first
          | (have hij : it = jt := of_decide_eq_true hq
             have eT := str_yes (HQ.out.2 hij)
             have eX : (X1 == X2) = true := by rw [HXX.out hij]; exact u64_self _
             clear hij)
          | (have hij : it ≠ jt := of_decide_eq_false hq
             have eT := str_no (fun h => hij (HQ.out.1 h))
             clear hij)
        clear hq
        go_wp2_with fail
        (with_reducible refine (TA.out wa HBa.out).mono ?_)
        rintro e wb ⟨rfl, hb⟩
        have HBb := Lib.hid (below_st HBa.out hb)
        clear hb
        obtain ⟨cap1, C1, hcv1, hcall1⟩ := HX1.out wb
        have HC1 := Lib.hid hcall1
        clear hcall1
        go_wp2_with fail
        (with_reducible refine HC1.out.mono ?_)
        rintro e wc ⟨rfl, hb⟩
        have HBc := Lib.hid (below_st HBb.out hb)
        clear hb HC1 hcv1
        go_wp2_with fail
        (with_reducible refine (TB.out wc HBc.out).mono ?_)
        rintro e wd ⟨rfl, hb⟩
        have HBd := Lib.hid (below_st HBc.out hb)
        clear hb
        obtain ⟨cap2, C2, hcv2, hcall2⟩ := HX2.out wd
        have HC2 := Lib.hid hcall2
        clear hcall2
        go_wp2_with fail
        (with_reducible refine HC2.out.mono ?_)
        rintro e we ⟨rfl, hb⟩
        have HBe := Lib.hid (below_st HBd.out hb)
        clear hb HC2 hcv2
        go_wp2_with fail
        (with_reducible refine (TA.out we HBe.out).mono ?_)
        rintro e wf ⟨rfl, hb⟩
        have HBf := Lib.hid (below_st HBe.out hb)
        clear hb
        go_wp2_with fail
        (with_reducible refine (TB.out wf HBf.out).mono ?_)
        rintro e wg ⟨rfl, hb⟩
        have HBg := Lib.hid (below_st HBf.out hb)
        clear hb
        go_wp2_with fail
        (with_reducible refine (TC.out wg HBg.out).mono ?_)
        rintro e wh ⟨rfl, hb⟩
        have HBh := Lib.hid (below_st HBg.out hb)
        clear hb
        obtain ⟨cap3, C3, hcv3, hcall3⟩ := HX1.out wh
        have HC3 := Lib.hid hcall3
        clear hcall3
        go_wp2_with fail
        (with_reducible refine HC3.out.mono ?_)
        rintro e wi ⟨rfl, hb⟩
        have HBi := Lib.hid (below_st HBh.out hb)
        clear hb HC3 hcv3
        go_wp2_with fail
        refine (lives_any wi).mono ?_
        rintro e wj ⟨rfl, hb⟩
        have HBj := Lib.hid (below_st HBi.out hb)
        clear hb
        go_wp2
        go_ret
        exact ⟨rfl, below_st HB5.out HBj.out⟩
end Go.Proofs.YtmgjbbkccgncgaaDoor
