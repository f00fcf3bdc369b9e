/- Statement LabelsSelective: Match looks at the labels that its matchers name alone, is the conjunction of its matchers', and its kinds agree with Get. Conditions: none. -/
import Derived.Deep.AppendLies
import Derived.Deep.DeepCutAuto
import Derived.Laws.AppendOwnNone
import Derived.Test.YtmgjbbkccgncgaaLOpen
import Derived.Test.YtmgjbbkccgncgaaLKeep
import Derived.Test.YtmgjbbkccgncgaaLMatchers
namespace Go.Proofs.Ytmgjbbkccgncgaa
open Go.ChangeShapes Go.WideShapes Go.ChangeAt Go.RowKit

theorem getL_keep (it : List L2) {ss : List ByteArray} {n : ByteArray} (hn : n ∈ ss) : getL (keepL it ss) n = getL it n := by
  induction it with
  | nil => rfl
  | cons t it ih =>
    obtain ⟨a, b⟩ := t
    by_cases h : a = n
    · subst h
      have hk : keepL ((a, b) :: it) ss = (a, b) :: keepL it ss := by unfold keepL; rw [List.filter_cons, if_pos (inL_iff.2 hn)]
      rw [hk]
      simp [getL]
    · have h2 : getL ((a, b) :: it) n = getL it n := by simp [getL, h]
      rw [h2, ← ih]
      unfold keepL
      rw [List.filter_cons]
      split
      · simp [getL, h]
      · rfl
theorem match_keep (it : List L2) (ms : List M3) : matchB (keepL it (ms.map (·.1))) ms = matchB it ms := by
  unfold matchB
  apply Bool.eq_iff_iff.2
  simp only [List.all_eq_true]
  constructor
  · intro h t ht
    have := h t ht
    rwa [getL_keep it (List.mem_map_of_mem ht)] at this
  · intro h t ht
    rw [getL_keep it (List.mem_map_of_mem ht)]
    exact h t ht
theorem match_append (it : List L2) (a b : List M3) : matchB it (a ++ b) = (matchB it a && matchB it b) := List.all_append
theorem pref_self (s : ByteArray) : prefB s s = true := by
  unfold prefB
  simp

theorem match_one (it : List L2) (n u : ByteArray) (k : Int) : matchB it [(n, k, u)] = holdsB k u (getL it n) := by
  simp [matchB]
theorem mcells_news {W : World} {g : Nat} {ms : List M3} (h : MCells W g ms) : ∀ j u, (ms.flatMap cells3)[j]? = some u → W.cell? ((⟨g, 0, none⟩ : Addr).add j) = some u := by
  intro j u hj
  have hd : j = j / 3 * 3 + j % 3 := by omega
  rw [hd, cells3_flat ms (j / 3) (j % 3) (by omega)] at hj
  obtain ⟨t, ht, hu⟩ := Option.bind_eq_some_iff.1 hj
  obtain ⟨n, k, v⟩ := t
  obtain ⟨h0, h1, h2⟩ := h.2 (j / 3) n k v ht
  rw [add_plain, Nat.zero_add, hd]
  have hm : j % 3 = 0 ∨ j % 3 = 1 ∨ j % 3 = 2 := by omega
  rcases hm with hm | hm | hm <;> rw [hm] at hu ⊢ <;> simp [cells3] at hu <;> subst hu
  · exact h0
  · exact h1
  · exact h2
theorem msAt_cases {W : World} {a : Option Addr} {c : Nat} {ms : List M3} (h : MsAt W (.slice a ms.length c) ms) : (a = none ∧ c = 0 ∧ ms = []) ∨ ∃ g, a = some ⟨g, 0, none⟩ ∧ ∀ j u, (ms.flatMap cells3)[j]? = some u → W.cell? ((⟨g, 0, none⟩ : Addr).add j) = some u := by
  rcases h with ⟨e, rfl⟩ | ⟨g, c', e, -, hc⟩
  · simp only [Value.slice.injEq] at e
    exact .inl ⟨e.1, e.2.2, rfl⟩
  · simp only [Value.slice.injEq] at e
    exact .inr ⟨g, e.1, mcells_news hc⟩

set_option maxRecDepth 100000 in
set_option maxHeartbeats 16000000 in
theorem sel_walk (sl : Value) (ls : List Int) (sm : Value) (ms : List Int) (sn : Value) (ns : List Int) (which : Int) (w : World) (hI1 : IntsIn w sl ls) (hI2 : IntsIn w sm ms) (hI3 : IntsIn w sn ns) (hk : (Lit.int .i64 which).wf = true) :
    Calls Try.prog 9 #[sl, sm, sn, .int .i64 which] w fun e w' => e = .returned (.bool true) ∧ Below w.heap.size w w' := by
  obtain ⟨il, hi, hz0, hz1, hz2⟩ := info_parts Try.infoMatcher
  obtain ⟨is, si, sz0, sz1, sz2⟩ := info_parts Try.infoStr
  obtain ⟨k0, k1⟩ := wf64 hk
  have H2 := Lib.hid hI2
  have H3 := Lib.hid hI3
  go_enter Try.func9, Try.ntmps9
  go_wp2_with fail
  refine (set_any sl ls w hI1).mono ?_
  rintro e w1 ⟨av, it, rfl, hO, hS, hB1⟩
  have HI := Lib.hid (LsAt.of_owns hO)
  have na : it.length ≤ 6 := hS.2.1
  clear hI1 hI2 hI3 hO hS hk
  go_wp2_with fail
  refine (matchers_any sm ms w1 (H2.out.below hB1)).mono ?_
  rintro e w2 ⟨bv, a, rfl, hO, hM, hb⟩
  have HI2 := Lib.hid (HI.out.below hb)
  have HA := Lib.hid (MsAt.of_owns hO)
  have la : a.length ≤ 3 := hM.1
  have hB2 := below_st hB1 hb
  clear hO hM hb hB1 HI H2
  go_wp2_with fail
  refine (matchers_any sn ns w2 (H3.out.below hB2)).mono ?_
  rintro e w3 ⟨cv, b, rfl, hO, hM, hb⟩
  have HI3 := Lib.hid (HI2.out.below hb)
  have HA3 := Lib.hid (HA.out.below hb)
  have HB3 := Lib.hid (MsAt.of_owns hO)
  have lb : b.length ≤ 3 := hM.1
  have HW3 := Lib.hid (below_st hB2 hb)
  have HN3 := Lib.hid (H3.out.below (below_st hB2 hb))
  clear hO hM hb hB2 HI2 HA H3
  obtain ⟨ia, ic, rfl, -⟩ := HI3.out.slice
  obtain ⟨aa, ac, rfl⟩ := HA3.out.slice
  obtain ⟨ba, bc, rfl⟩ := HB3.out.slice
  go_wp2
  go_loopw [12, 13] (fun x i wr => ∃ (k : Nat) (sb : Value), sb = x ∧ k ≤ a.length ∧ i = .int .i64 k ∧ wr.ownsRow w3.heap.size 9 1 sb k (((a.take k).map (·.1)).map Value.string) ∧ Below w3.heap.size w3 wr) (fun _ i _ => a.length - (intOf i).toNat)
  case atStart => exact ⟨0, _, rfl, Nat.zero_le _, rfl, World.ownsRow_nil _ _ _ _, Below.refl _ _⟩
  case round =>
    obtain ⟨k, sb, rfl, hk, rfl, hown, hB⟩ := hrel
    by_cases hlt : k < a.length
    · obtain ⟨x, q, v, hx⟩ := matcher_at hlt
      obtain ⟨g, rfl, hgs, c0, -, -⟩ := (HA3.out.below hB).get hx
      have HX := Lib.hid (show ((a.take (k + 1)).map (·.1)).map Value.string = ((a.take k).map (·.1)).map Value.string ++ [.string x] by rw [List.take_add_one, hx]; simp)
      have i0 : (0 : Int) ≤ (k : Int) := by omega
      have i1 : (k : Int) < (a.length : Int) := by omega
      clear hx
      go_wp2_with (at_builtin; refine wpList_append_own _ rfl _ _ 46 rfl w3.heap.size 9 is (.string ⟨#[]⟩) 1 16 Try.underlying46 si sz0 sz1 sz2 rfl (by decide) sb k _ rfl (hown.alloc _) ⟨wr.heap.size, 0, none⟩ 1 1 [.string x] rfl rfl (cell_one_new _ _ _) (by simp [Value.oneCell']) (by unfold maxLen; omega) (by omega) (by have := hB.size; simp; omega) ?_; intro v3 w3 hown3 hgrow3 _)
      go_roundw
      case rel => exact ⟨k + 1, v3, rfl, by omega, by go_num, by rw [HX.out]; exact hown3, (hB.alloc hB.size _).grown hgrow3 (by have := hB.size; simp; omega) (fun j hj => (hown.lt j hj).1)⟩
      case measure => simp [intOf]; omega
    · obtain rfl : k = a.length := by omega
      rw [List.take_length] at hown
      have hls : (a.map (·.1)).length = a.length := List.length_map _
      have HSS := Lib.hid (SsAt.of_owns (ss := a.map (·.1)) (by rw [hls]; exact hown))
      have HI4 := Lib.hid (HI3.out.below hB)
      have HA4 := Lib.hid (HA3.out.below hB)
      have HB4 := Lib.hid (HB3.out.below hB)
      have HW4 := Lib.hid (below_st HW3.out hB)
      have HN4 := Lib.hid (HN3.out.below hB)
      have hge : ¬ (a.length : Int) < (a.length : Int) := by omega
      obtain ⟨sa, sc, rfl⟩ := HSS.out.slice
      rw [hls] at HSS ⊢
      clear hown hB HI3 HA3 HB3 HW3 HN3 hlt hls
      obtain ⟨w4, rfl⟩ : ∃ w4 : World, w4 = wr := ⟨_, rfl⟩
      go_upto_region 10 with fail
      go_cut [14] (fun x wx => wx.ownsRow w4.heap.size 24 3 x a.length (a.flatMap cells3) ∧ Below w4.heap.size w4 wx)
      case first =>
        rcases msAt_cases HA4.out with ⟨rfl, rfl, hnil⟩ | ⟨ga, rfl, hnw⟩
        · have hown0 : w4.ownsRow w4.heap.size 24 3 (.slice none 0 0) 0 [] := World.ownsRow_nil _ _ _ _
          have HLA := Lib.hid (show a.length = 0 by rw [hnil]; rfl)
          have HNIL := Lib.hid hnil
          clear hnil
          go_wp2_with (at_builtin; refine wpList_append_own_none rfl _ _ 50 rfl w4.heap.size 24 il 3 Try.underlying50 hi _ _ _ rfl hown0 (show Value.slice none a.length 0 = .slice none 0 0 by rw [HLA.out]) ?_)
          go_meet
          case rel => exact ⟨by rw [HNIL.out]; exact hown0, Below.refl _ _⟩
        · have hown0 : w4.ownsRow w4.heap.size 24 3 (.slice none 0 0) 0 [] := World.ownsRow_nil _ _ _ _
          go_wp2_with (at_builtin; refine wpList_append_own _ rfl _ _ 50 rfl w4.heap.size 24 il (.agg #[.string ⟨#[]⟩, .int .i64 0, .string ⟨#[]⟩]) 3 40 Try.underlying50 hi hz0 hz1 hz2 rfl (by decide) (.slice none 0 0) 0 [] rfl hown0 ⟨ga, 0, none⟩ a.length ac (a.flatMap cells3) rfl (cells3_length _) hnw (cells3_one _) (by unfold maxLen; omega) (by omega) (Nat.le_refl _) ?_; intro v5 w5 hown5 hgrow5 _)
          go_meet
          case rel => exact ⟨by simpa using hown5, (Below.refl _ _).grown hgrow5 (Nat.le_refl _) (fun j hj => (hown0.lt j hj).1)⟩
      case rest =>
        obtain ⟨hown, hB5⟩ := hcut
        obtain ⟨w5, hw5⟩ : ∃ w5 : World, wc = w5 := ⟨_, rfl⟩
        rw [hw5] at hown hB5 ⊢
        clear hw5
        go_upto_region 11 with fail
        go_cut [14] (fun x wx => MsAt wx x (a ++ b) ∧ Below w4.heap.size w4 wx)
        case first =>
          rcases msAt_cases (HB4.out.below hB5) with ⟨rfl, rfl, hnil⟩ | ⟨gb, rfl, hnw⟩
          · have HLB := Lib.hid (show b.length = 0 by rw [hnil]; rfl)
            have HNIL := Lib.hid hnil
            clear hnil
            go_wp2_with (at_builtin; refine wpList_append_own_none rfl _ _ 50 rfl w4.heap.size 24 il 3 Try.underlying50 hi _ _ _ rfl hown (show Value.slice none b.length 0 = .slice none 0 0 by rw [HLB.out]) ?_)
            go_meet
            case rel => exact ⟨by rw [HNIL.out, List.append_nil]; exact MsAt.of_owns hown, hB5⟩
          · go_wp2_with (at_builtin; refine wpList_append_own _ rfl _ _ 50 rfl w4.heap.size 24 il (.agg #[.string ⟨#[]⟩, .int .i64 0, .string ⟨#[]⟩]) 3 40 Try.underlying50 hi hz0 hz1 hz2 rfl (by decide) u14 a.length (a.flatMap cells3) rfl hown ⟨gb, 0, none⟩ b.length bc (b.flatMap cells3) rfl (cells3_length _) hnw (cells3_one _) (by unfold maxLen; omega) (by omega) hB5.size ?_; intro v6 w6 hown6 hgrow6 _)
            go_meet
            case rel => exact ⟨MsAt.of_owns (by rw [List.length_append, List.flatMap_append]; exact hown6), hB5.grown hgrow6 hB5.size (fun j hj => (hown.lt j hj).1)⟩
        case rest =>
          obtain ⟨hMC, hB6⟩ := hcut
          obtain ⟨ca, cc, rfl⟩ := hMC.slice
          have hcl : (a ++ b).length ≤ 6 := by rw [List.length_append]; omega
          have hcm := match_append it a b
          obtain ⟨c, hc⟩ : ∃ c, a ++ b = c := ⟨_, rfl⟩
          rw [hc] at hMC hcl hcm ⊢
          obtain ⟨xa, hxa⟩ : ∃ x, matchB it a = x := ⟨_, rfl⟩
          obtain ⟨xb, hxb⟩ : ∃ x, matchB it b = x := ⟨_, rfl⟩
          rw [hxa, hxb] at hcm
          have HXA := Lib.hid hxa
          have HXB := Lib.hid hxb
          have HCM := Lib.hid hcm
          have HXK := Lib.hid ((match_keep it a).trans hxa)
          have HI6 := Lib.hid (HI4.out.below hB6)
          have HA6 := Lib.hid (HA4.out.below hB6)
          have HB6 := Lib.hid (HB4.out.below hB6)
          have HS6 := Lib.hid (HSS.out.below hB6)
          have HC6 := Lib.hid hMC
          have HW6 := Lib.hid (below_st HW4.out hB6)
          have HN6 := Lib.hid (HN4.out.below hB6)
          clear hc hxa hxb hcm hMC hB6 hown hB5 HI4 HA4 HB4 HSS HW4 HN4 hge
          obtain ⟨w6, hw6⟩ : ∃ w6 : World, wc = w6 := ⟨_, rfl⟩
          rw [hw6] at HI6 HA6 HB6 HS6 HC6 HW6 HN6 ⊢
          clear hw6
          have T1 := Lib.hid (match_any _ _ it a w6 HI6.out HA6.out (by omega) (by omega))
          rw [HXA.out] at T1
          go_wp2_with fail
          (with_reducible refine T1.out.mono ?_)
          rintro e w7 ⟨rfl, h7⟩
          clear T1
          go_upto_region 13 with fail
          go_cut [68] (fun x wx => x = .bool false ∧ Below w6.heap.size w6 wx)
          case first =>
            have K := Lib.hid (keep_any _ _ it (a.map (·.1)) w7 (HI6.out.below h7) (HS6.out.below h7) (by omega) (by rw [List.length_map]; omega))
            go_wp2_with fail
            (with_reducible refine K.out.mono ?_)
            rintro e w8 ⟨kv, rfl, hO, hb⟩
            have h8 := below_st h7 hb
            have T2 := Lib.hid (match_any _ _ (keepL it (a.map (·.1))) a w8 (LsAt.of_owns hO) (HA6.out.below h8) (by have := keepL_len it (a.map (·.1)); omega) (by omega))
            rw [HXK.out] at T2
            clear K hO hb h7
            go_wp2_with fail
            (with_reducible refine T2.out.mono ?_)
            rintro e w9 ⟨rfl, hb⟩
            have h9 := below_st h8 hb
            have T3 := Lib.hid (match_any _ _ it c w9 (HI6.out.below h9) (HC6.out.below h9) (by omega) (by omega))
            rw [HCM.out] at T3
            clear T2 hb h8
            clear HXA HXK HCM
            cases xa
            · rw [Bool.false_and] at T3
              go_wp2_with fail
              (with_reducible refine T3.out.mono ?_)
              rintro e w10 ⟨rfl, hb⟩
              have h10 := below_st h9 hb
              clear T3 hb h9
              go_wp2_with fail
              go_meet
              case rel => exact ⟨rfl, h10⟩
            · rw [Bool.true_and] at T3
              go_wp2_with fail
              (with_reducible refine T3.out.mono ?_)
              rintro e w10 ⟨rfl, hb⟩
              have h10 := below_st h9 hb
              have T4 := Lib.hid (match_any _ _ it b w10 (HI6.out.below h10) (HB6.out.below h10) (by omega) (by omega))
              rw [HXB.out] at T4
              clear T3 hb h9
              go_wp2_with fail
              (with_reducible refine T4.out.mono ?_)
              rintro e w11 ⟨rfl, hb⟩
              have h11 := below_st h10 hb
              clear T4 hb h10
              go_wp2_with fail
              go_meet
              case rel => exact ⟨rfl, h11⟩
          case rest =>
            obtain ⟨rfl, h8⟩ := hcut
            have HI8 := Lib.hid (HI6.out.below h8)
            have HW8 := Lib.hid (below_st HW6.out h8)
            have HN8 := Lib.hid (HN6.out.below h8)
            clear h8 h7 HI6 HA6 HB6 HS6 HC6 HW6 HN6 HXA HXB HXK HCM
            obtain ⟨w8, hw8⟩ : ∃ w8 : World, wc = w8 := ⟨_, rfl⟩
            rw [hw8] at HI8 HW8 HN8 ⊢
            clear hw8
            go_wp2_with fail
            refine (names_any w8).mono ?_
            rintro e w9 ⟨rfl, rfl⟩
            have hN := Blk.new w8 9 (rowS namesL)
            have p0 := aroundI_lo which 6 (by omega)
            have p1 := aroundI_hi which 6 (by omega)
            have hAr := around_any which 6 (w8.alloc (.cells (rowS namesL) 9)) k0 k1 (by omega) (by omega)
            obtain ⟨p, hp⟩ := Int.eq_ofNat_of_zero_le p0
            rw [hp] at p1 hAr
            obtain ⟨nm, hnm⟩ : ∃ n, namesL[p]? = some n := ⟨_, List.getElem?_eq_getElem (by show p < 6; omega)⟩
            have c0 := rowS_cell hN hnm
            have hb := (Below.refl _ w8).alloc (Nat.le_refl _) (.cells (rowS namesL) 9)
            have HI9 := Lib.hid (HI8.out.below hb)
            have HW9 := Lib.hid (below_st HW8.out hb)
            have HN9 := Lib.hid (HN8.out.below hb)
            obtain ⟨w9, hw9⟩ : ∃ w9 : World, w8.alloc (.cells (rowS namesL) 9) = w9 := ⟨_, rfl⟩
            rw [hw9] at hAr c0 HI9 HW9 HN9 ⊢
            have HAR := Lib.hid hAr
            have P0 : (0 : Int) ≤ (p : Int) := by omega
            clear hN hw9 hp hb hnm hAr p0 HI8 HW8 HN8 k0 k1
            go_wp2_with fail
            (with_reducible refine HAR.out.mono ?_)
            rintro e w' ⟨rfl, rfl⟩
            go_wp2_with fail
            refine (set_any sn ns _ HN9.out).mono ?_
            rintro e w10 ⟨uv, ut, rfl, hO, hS, hb⟩
            have HU := Lib.hid (LsAt.of_owns hO)
            have nu : ut.length ≤ 6 := hS.2.1
            have HI10 := Lib.hid (HI9.out.below hb)
            have HW10 := Lib.hid (below_st HW9.out hb)
            clear hO hS hb HI9 HW9 HN9 HAR c0
            obtain ⟨ua, uc, rfl, -⟩ := HU.out.slice
            have T := Lib.hid (get_any _ uc ut nm w10 HU.out (by omega))
            obtain ⟨u, hu⟩ : ∃ u, getL ut nm = u := ⟨_, rfl⟩
            rw [hu] at T
            go_wp2_with fail
            (with_reducible refine T.out.mono ?_)
            rintro e w11 ⟨rfl, hb⟩
            have HI11 := Lib.hid (HI10.out.below hb)
            have HW11 := Lib.hid (below_st HW10.out hb)
            clear hb T hu HU HI10 HW10
            have HG := Lib.hid (fun (W : World) (hb : Below w11.heap.size w11 W) => later3 hb (get_any _ ic it nm W (HI11.out.below hb) (by omega)))
            have HM := Lib.hid (fun (q : Int) (W : World) (hb : Below w11.heap.size w11 W) => later3 ((hb.alloc hb.size (.cells #[.string nm, .int .i64 q, .string u] 24))) (match_any _ _ it [(nm, q, u)] _ (HI11.out.below (hb.alloc hb.size _)) (msAt_new W 24 nm u q) (by omega) (by simp)))
            obtain ⟨G, hG⟩ : ∃ G, getL it nm = G := ⟨_, rfl⟩
            have hone : ∀ q, matchB it [(nm, q, u)] = holdsB q u G := fun q => by rw [match_one, hG]
            rw [hG] at HG
            have M0 := Lib.hid (fun (W : World) (hb : Below w11.heap.size w11 W) => HM.out 0 W hb)
            have M1 := Lib.hid (fun (W : World) (hb : Below w11.heap.size w11 W) => HM.out 1 W hb)
            have M2 := Lib.hid (fun (W : World) (hb : Below w11.heap.size w11 W) => HM.out 2 W hb)
            simp only [hone] at M0 M1 M2
            have v0 : holdsB 0 u G = decide (G = u) := rfl
            have v1 : holdsB 1 u G = decide (G ≠ u) := rfl
            have v2 : holdsB 2 u G = prefB G u := rfl
            rw [v0] at M0
            rw [v1] at M1
            rw [v2] at M2
            clear hone hG HM v0 v1 v2
            have LV := Lib.hid (fun (W : World) (hb : Below w11.heap.size w11 W) => later3 hb (lives_any W))
            by_cases hE : G = u
            · subst hE
              rw [pref_self] at M2
              simp only [decide_true, ne_eq, not_true_eq_false, decide_false] at M0 M1
              have hd : (G.toList == G.toList) = true := str_yes rfl
              go_wp2_with fail
              (with_reducible refine (M0.out _ (Below.refl _ _)).mono ?_)
              rintro e w12 ⟨rfl, h12⟩
              go_wp2_with fail
              (with_reducible refine (M1.out _ h12).mono ?_)
              rintro e w13 ⟨rfl, h13⟩
              go_wp2_with fail
              (with_reducible refine (M2.out _ h13).mono ?_)
              rintro e w14 ⟨rfl, h14⟩
              go_wp2_with fail
              (with_reducible refine (HG.out _ h14).mono ?_)
              rintro e w15 ⟨rfl, h15⟩
              go_wp2_with fail
              (with_reducible refine (LV.out _ h15).mono ?_)
              rintro e w16 ⟨rfl, h16⟩
              go_wp2
              go_ret
              exact ⟨rfl, below_st HW11.out h16⟩
            · have hd : (G.toList == u.toList) = false := str_no hE
              rw [decide_eq_false hE] at M0
              rw [decide_eq_true (show G ≠ u from hE)] at M1
              clear hE
              obtain ⟨xp, hxp⟩ : ∃ x, prefB G u = x := ⟨_, rfl⟩
              rw [hxp] at M2
              clear hxp
              go_wp2_with fail
              (with_reducible refine (M0.out _ (Below.refl _ _)).mono ?_)
              rintro e w12 ⟨rfl, h12⟩
              go_wp2_with fail
              (with_reducible refine (M1.out _ h12).mono ?_)
              rintro e w13 ⟨rfl, h13⟩
              go_wp2_with fail
              (with_reducible refine (M2.out _ h13).mono ?_)
              rintro e w14 ⟨rfl, h14⟩
              go_wp2_with fail
              (with_reducible refine (HG.out _ h14).mono ?_)
              rintro e w15 ⟨rfl, h15⟩
              go_wp2_with fail
              (with_reducible refine (LV.out _ h15).mono ?_)
              rintro e w16 ⟨rfl, h16⟩
              go_wp2
              go_ret
              exact ⟨rfl, below_st HW11.out h16⟩
set_option maxRecDepth 100000 in
theorem sel_lifted (os : Os) (started : os.Started) (H : Type) (enc : TypeId × Value → H) :
    ReturnsInHanded {} Try.checked os 9 .any (Rows.labelsSelectiveSpec.pre6 enc Try.prog Try.f9 Rows.labelsSelectiveRow.domain false) (Rows.labelsSelectiveSpec.post enc Try.prog Try.f9 false true false false) := by
  refine returnsInHanded_of_change_sized (C := Try.checked) Try.own started (by kernel_rfl) Try.func9
    (ChangeSpec.witness6 (enc := enc) (C := Try.checked) false ⟨#[], #[.slice none 0 0, .slice none 0 0, .slice none 0 0, .int .i64 0], []⟩ 8 (by kernel_rfl) (by kernel_rfl) (by kernel_rfl) (by kernel_rfl)) ?_
  intro W base args ds gs before hval0 hW _ hsz0 _
  have hsz : (DataW.weightsEach Try.prog (Try.f9.params.toList ++ Rows.labelsSelectiveSpec.plain.varTypes Try.prog) (ds ++ gs)).all (· ≤ reachBytes) = true := hsz0
  clear hsz0
  have hval : ∀ (j : Nat) t v, Try.f9.params[j]? = some t → args[j]? = some v → Value.okWide Try.prog W .any base t v := hval0
  have hW' := hW
  obtain ⟨p, q, hA0, hV, rfl, _, _⟩ := hW
  have hA : DataW.TrodAll enc Try.prog W 0 (fun _ => true) true Try.f9.params.toList args.toList ds p := hA0
  rw [Try.params9] at hA hval hsz
  obtain ⟨v0, vs0, d0, ds0, p0, q0, hargs, rfl, rfl, h0, r0⟩ := trodAll_cons hA
  obtain ⟨v1, vs1, d1, ds1, p1, q1, rfl, rfl, rfl, h1, r1⟩ := trodAll_cons r0
  obtain ⟨v2, vs2, d2, ds2, p2, q2, rfl, rfl, rfl, h2, r2⟩ := trodAll_cons r1
  obtain ⟨v3, vs3, d3, ds3, p3, q3, rfl, rfl, rfl, h3, r3⟩ := trodAll_cons r2
  obtain ⟨rfl, rfl, rfl⟩ := trodAll_nil r3
  obtain rfl : args = #[v0, v1, v2, v3] := by cases args; simp_all
  obtain ⟨rfl, rfl⟩ := trodVars_none hV
  obtain ⟨zs0, hI0⟩ := open_ints5 (hval 0 30 v0 rfl rfl) h0 (fun x hx => by simpa using hW'.lt x (by simp [hx])) hsz (j := 0) rfl rfl
  obtain ⟨zs1, hI1⟩ := open_ints5 (hval 1 30 v1 rfl rfl) h1 (fun x hx => by simpa using hW'.lt x (by simp [hx])) hsz (j := 1) rfl rfl
  obtain ⟨zs2, hI2⟩ := open_ints5 (hval 2 30 v2 rfl rfl) h2 (fun x hx => by simpa using hW'.lt x (by simp [hx])) hsz (j := 2) rfl rfl
  obtain ⟨a3, rfl, rfl, rfl, w3⟩ := open_int Try.underlying3 (hval 3 3 v3 rfl rfl) h3
  clear hA0 hval0
  have hwalk := sel_walk v0 zs0 v1 zs1 v2 zs2 a3 W hI0 hI1 hI2 w3
  refine hwalk.mono fun e W' ⟨he, hB⟩ => ?_
  subst he
  exact ⟨_, rfl, law_post (by kernel_rfl) (by kernel_rfl) rfl hW' rfl hB⟩

theorem sel_holds : Rows.LabelsSelectiveSaid :=
  OpenClaim.holds_of_wide 9 Try.f9 rfl rfl rfl rfl rfl rfl rfl ⟨rfl, rfl, rfl, rfl, rfl⟩ rfl rfl rfl rfl rfl (by kernel_rfl) Try.func9 (by kernel_rfl)
    (of_decide_eq_true (by kernel_rfl)) (by unfold Func.isWrapper; first | (rw [if_pos (by decide +kernel)]; kernel_rfl) | (rw [if_neg (by decide +kernel)]; exact ⟨rfl, rfl⟩))
    (fun os started H enc _ => sel_lifted os started H enc)
#print axioms sel_holds
end Go.Proofs.Ytmgjbbkccgncgaa
