/- Statement LabelsText: Text and Get are what the reference model gives, for every list of labels and all lists made from numbers. Conditions: none. -/
import Derived.Deep.RegionHeld3
import Derived.Deep.RegionLaw
import Derived.Deep.AppendLies
import Derived.Test.YtmgjbbkccgncgaaLOpen
import Derived.Test.YtmgjbbkccgncgaaLGood
namespace Go.Proofs.Ytmgjbbkccgncgaa
open Go.ChangeShapes Go.WideShapes Go.ChangeAt Go.RowKit

/-- Few labels of few bytes. -/
def Few (it : List L2) : Prop := ∀ t ∈ it, t.1.size ≤ 10 ∧ t.2.size ≤ 10
theorem Few.sz {it : List L2} (h : Few it) : Sz it := fun t ht => by have := h t ht; omega
theorem Few.snoc {it : List L2} (h : Few it) (n v : ByteArray) : Few (it ++ [(shortB n 10, shortB v 10)]) := fun t ht => by
  rcases List.mem_append.1 ht with h1 | h1
  · exact h t h1
  · rw [List.mem_singleton] at h1
    subst h1
    exact ⟨shortB_size _ _, shortB_size _ _⟩
theorem short10 (s : ByteArray) (w : World) (hs : s.size ≤ 9223372036854775807) : Calls Try.prog 10 #[.string s, .int .i64 10] w fun e w' => e = .returned (.string (shortB s 10)) ∧ w = w' := short_fn s 10 w hs (by omega)
theorem later2 {P : Program} {f : Nat} {args : Array Value} {x : Value} {w0 W : World} (hW : Below w0.heap.size w0 W) (h : Calls P f args W fun e w' => e = .returned x ∧ Below W.heap.size W w') : Calls P f args W fun e w' => e = .returned x ∧ Below w0.heap.size w0 w' :=
  h.mono fun _ _ ⟨he, hb⟩ => ⟨he, below_st hW hb⟩

set_option maxRecDepth 100000 in
set_option maxHeartbeats 16000000 in
theorem text_walk (sv : Value) (l : List L2) (zv : Value) (zs : List Int) (nm : ByteArray) (w : World) (hL : LabsIn w sv l) (hI : IntsIn w zv zs) (_ : nm.size ≤ 140737488351232) :
    Calls Try.prog 5 #[sv, zv, .string nm] w fun e w' => e = .returned (.bool true) ∧ Below w.heap.size w w' := by
  obtain ⟨il, hi, hz0, hz1, hz2⟩ := info_parts Try.infoLabel
  obtain ⟨a, c, rfl, hll, hel⟩ := hL
  have HEL := Lib.hid hel
  have HI := Lib.hid hI
  clear hel hI
  go_enter Try.func5, Try.ntmps5
  go_wp2
  go_loopw [7, 8] (fun x i wr => ∃ (k : Nat) (it : List L2) (sb : Value), sb = x ∧ k ≤ 6 ∧ k ≤ l.length ∧ i = .int .i64 k ∧ it.length = k ∧ wr.ownsRow w.heap.size 40 2 sb it.length (it.flatMap cells2) ∧ Few it ∧ Below w.heap.size w wr) (fun _ i _ => 6 - (intOf i).toNat)
  case atStart => exact ⟨0, [], _, rfl, by omega, Nat.zero_le _, rfl, rfl, World.ownsRow_nil _ _ _ _, by intro t ht; simp at ht, Below.refl _ _⟩
  case round =>
    obtain ⟨k, it, sb, rfl, hk6, hkl, rfl, hil, hown, hfew, hB⟩ := hrel
    have HIL := Lib.hid hil
    have HFW := Lib.hid hfew
    have hile : it.length ≤ 6 := by omega
    clear hil hfew
    by_cases hlt : k < l.length ∧ k < 6
    · obtain ⟨hl1, hl2⟩ := hlt
      obtain ⟨n, v, hj⟩ := label_at hl1
      obtain ⟨⟨g, off, rfl, hgs, c0, c1⟩, zn, zv⟩ := HEL.out k n v hj
      have c0 := (hB.cell (p := ⟨g, off + k * 2, none⟩) hgs).trans c0
      have c1 := (hB.cell (p := ⟨g, off + k * 2 + 1, none⟩) hgs).trans c1
      have SN := Lib.hid (fun W => short10 n W zn)
      have SV := Lib.hid (fun W => short10 v W zv)
      obtain ⟨sn, hsn⟩ : ∃ s, shortB n 10 = s := ⟨_, rfl⟩
      obtain ⟨sv, hsv⟩ : ∃ s, shortB v 10 = s := ⟨_, rfl⟩
      have HF2 := Lib.hid (HFW.out.snoc n v)
      rw [hsn, hsv] at HF2
      rw [hsn] at SN
      rw [hsv] at SV
      have i0 : (0 : Int) ≤ (k : Int) := by omega
      have i1 : (k : Int) < (l.length : Int) := by omega
      have i2 : (k : Int) < 6 := by omega
      clear hj zn zv hsn hsv
      go_wp2_with fail
      go_region_law (first | (refine step_append_lies _ (by rfl) _ _ _ (by rfl) w.heap.size 40 il (.agg #[.string ⟨#[]⟩, .string ⟨#[]⟩]) 2 32 Try.underlying31 hi hz0 hz1 hz2 rfl (by decide) sb it.length (it.flatMap cells2) (by rfl) ((hown.alloc _).drew) ⟨wr.heap.size, 0, none⟩ 1 1 [.string sn, .string sv] (by rfl) (by rfl) (World.news_of_block (cs := #[.string sn, .string sv]) (t := 40) (fr := (0, 0)) (heap_alloc_new wr _)) (by simp [Value.oneCell']) (by omega) (by unfold maxLen; omega) (by omega) (by have := hB.size; simp; omega) (wr.heap.size + 1) (by simp) ?_; intro g2 cap2 w4 hown4 hgrow hat hlt4) | (go_simp; go_at_call 10; first | ((with_reducible refine (SN.out _).mono ?_); rintro e w' ⟨rfl, rfl⟩) | ((with_reducible refine (SV.out _).mono ?_); rintro e w' ⟨rfl, rfl⟩)))
      all_goals
        have hB4 : Below w.heap.size w w4 := ((hB.alloc hB.size _).drew).grown hgrow (by have := hB.size; simp; omega) (fun j hj => (hown.lt j hj).1)
        clear hgrow hat hlt4
        go_wp2
        go_roundw
        case rel => exact ⟨k + 1, it ++ [(sn, sv)], _, rfl, by omega, by omega, by go_num, by rw [List.length_append, HIL.out]; rfl, by rw [List.length_append, List.flatMap_append]; exact hown4, HF2.out, hB4⟩
        case measure => simp [intOf]; omega
    · have hnot : ¬ ((k : Int) < (l.length : Int) ∧ (k : Int) < 6) := by omega
      have HLS := Lib.hid (LsAt.of_owns hown)
      have HB := Lib.hid hB
      have hl16 : it.length ≤ 1000 := by omega
      have HD := Lib.hid (dirty_any zv zs wr (HI.out.below hB))
      by_cases hl1 : k < l.length
      all_goals
        first
          | have hk6' : ¬ ((k : Int) < 6) := by omega
          | skip
        clear hlt hnot hown hB
        go_wp2_with fail
        (with_reducible refine HD.out.mono ?_)
        rintro e w1 ⟨d, jt, rfl, hO, hDo, hB1⟩
        have HL := Lib.hid (LsAt.of_owns hO)
        have HZ := Lib.hid hDo.sz
        have hn : jt.length ≤ 10 := hDo.1
        have HB1 := Lib.hid (below_st HB.out hB1)
        have HF1 := Lib.hid (HLS.out.below hB1)
        obtain ⟨da, dc, rfl, -⟩ := HL.out.slice
        obtain ⟨fa, fc, rfl, -⟩ := HF1.out.slice
        clear hO hDo hB1 HD
        go_wp2_with fail
        go_loopw [10] (fun i wr => ∃ q : Nat, q ≤ jt.length ∧ i = .int .i64 q ∧ Below w1.heap.size w1 wr) (fun i _ => jt.length - (intOf i).toNat)
        case atStart => exact ⟨0, Nat.zero_le _, rfl, Below.refl _ _⟩
        case round =>
          obtain ⟨q, hq, rfl, hB⟩ := hrel
          by_cases hlt : q < jt.length
          · obtain ⟨n, v, hj⟩ := label_at hlt
            have hLr := HL.out.below hB
            obtain ⟨g, off, rfl, hgs, c0, c1⟩ := hLr.get hj
            obtain ⟨w0, rfl⟩ : ∃ w0 : World, w0 = wr := ⟨_, rfl⟩
            have keep : ∀ W : World, Below w0.heap.size w0 W → W.cell? ⟨g, off + q * 2, none⟩ = some (.string n) := fun W hb => (hb.cell (p := ⟨g, off + q * 2, none⟩) hgs).trans c0
            have Keep := Lib.hid keep
            have G1 := Lib.hid (fun (W : World) (hb : Below w0.heap.size w0 W) => later2 hb (get_any _ dc jt n W (hLr.below hb) (by omega)))
            have G2 := Lib.hid (fun (W : World) (hb : Below w0.heap.size w0 W) => later2 hb (refget_any _ dc jt n W (hLr.below hb) (by omega)))
            have HBw := Lib.hid hB
            have h00 := Below.refl w0.heap.size w0
            have h0d : Below w0.heap.size w0 w0.drew := h00.drew
            have i0 : (0 : Int) ≤ (q : Int) := by omega
            have i1 : (q : Int) < (jt.length : Int) := by omega
            clear keep hLr hj hB c1
            go_wp2_with fail
            go_region_held3 (fun W => W.cell? ⟨g, off + q * 2, none⟩ = some (.string n)) (exact Keep.out _ (by with_reducible assumption))
              (first | (go_at_call 25; (with_reducible refine (G1.out _ (by with_reducible assumption)).mono ?_); rintro e w' ⟨rfl, hb⟩; have c0 := Keep.out _ hb) |
                (go_at_call 26; (with_reducible refine (G2.out _ (by with_reducible assumption)).mono ?_); rintro e w' ⟨rfl, hb⟩; have c0 := Keep.out _ hb))
            all_goals
              go_wp2
              go_roundw
              case rel => exact ⟨q + 1, by omega, by go_num, below_st HBw.out (by with_reducible assumption)⟩
              case measure => simp [intOf]; omega
          · have hql : jt.length = q := by omega
            have hge : ¬ ((q : Int) < (jt.length : Int)) := by omega
            have HFr := Lib.hid (HF1.out.below hB)
            have HLr := Lib.hid (HL.out.below hB)
            have HBr := Lib.hid (below_st HB1.out hB)
            have fsz := HFW.out.sz
            have T1 := Lib.hid (text_any _ it wr HFr.out hl16 fsz)
            clear hlt hql hB fsz
            go_wp2_with fail
            (with_reducible refine T1.out.mono ?_)
            rintro e w2 ⟨rfl, hb⟩
            have T2 := Lib.hid (reftext_any _ it w2 (HFr.out.below hb) hl16 HFW.out.sz)
            have HF2 := Lib.hid (HFr.out.below hb)
            have HL2 := Lib.hid (HLr.out.below hb)
            have HB2 := Lib.hid (below_st HBr.out hb)
            obtain ⟨tf, htf⟩ : ∃ x, textB it = x := ⟨_, rfl⟩
            rw [htf] at T2 ⊢
            clear hb htf
            go_wp2_with fail
            (with_reducible refine T2.out.mono ?_)
            rintro e w3 ⟨rfl, hb⟩
            have T3 := Lib.hid (text_any _ jt w3 (HL2.out.below hb) (by omega) HZ.out)
            have HF3 := Lib.hid (HF2.out.below hb)
            have HL3 := Lib.hid (HL2.out.below hb)
            have HB3 := Lib.hid (below_st HB2.out hb)
            clear hb
            go_wp2_with fail
            (with_reducible refine T3.out.mono ?_)
            rintro e w4 ⟨rfl, hb⟩
            have T4 := Lib.hid (reftext_any _ jt w4 (HL3.out.below hb) (by omega) HZ.out)
            have HF4 := Lib.hid (HF3.out.below hb)
            have HB4 := Lib.hid (below_st HB3.out hb)
            obtain ⟨td, htd⟩ : ∃ x, textB jt = x := ⟨_, rfl⟩
            rw [htd] at T4 ⊢
            clear hb htd
            go_wp2_with fail
            (with_reducible refine T4.out.mono ?_)
            rintro e w5 ⟨rfl, hb⟩
            have T5 := Lib.hid (get_any _ fc it nm w5 (HF4.out.below hb) (by omega))
            have HF5 := Lib.hid (HF4.out.below hb)
            have HB5 := Lib.hid (below_st HB4.out hb)
            clear hb
            go_wp2_with fail
            (with_reducible refine T5.out.mono ?_)
            rintro e w6 ⟨rfl, hb⟩
            have T6 := Lib.hid (refget_any _ fc it nm w6 (HF5.out.below hb) (by omega))
            have HB6 := Lib.hid (below_st HB5.out hb)
            obtain ⟨gv, hgv⟩ : ∃ x, getL it nm = x := ⟨_, rfl⟩
            rw [hgv] at T6 ⊢
            clear hb hgv
            go_wp2_with fail
            (with_reducible refine T6.out.mono ?_)
            rintro e w7 ⟨rfl, hb⟩
            have HB7 := Lib.hid (below_st HB6.out hb)
            clear hb
            go_wp2_with fail
            refine (lives_any _).mono ?_
            rintro e w8 ⟨rfl, hb⟩
            go_wp2
            go_ret
            exact ⟨rfl, below_st HB7.out hb⟩

set_option maxRecDepth 100000 in
theorem text_lifted (os : Os) (started : os.Started) (H : Type) (enc : TypeId × Value → H) :
    ReturnsInHanded {} Try.checked os 5 .any (Rows.labelsTextSpec.pre6 enc Try.prog Try.f5 Rows.labelsTextRow.domain false) (Rows.labelsTextSpec.post enc Try.prog Try.f5 false true false false) := by
  refine returnsInHanded_of_change_sized (C := Try.checked) Try.own started (by kernel_rfl) Try.func5
    (ChangeSpec.witness6 (enc := enc) (C := Try.checked) false ⟨#[], #[.slice none 0 0, .slice none 0 0, .string ⟨#[]⟩], []⟩ 8 (by kernel_rfl) (by kernel_rfl) (by kernel_rfl) (by kernel_rfl)) ?_
  intro W base args ds gs before hval0 hW _ hsz0 _
  have hsz : (DataW.weightsEach Try.prog (Try.f5.params.toList ++ Rows.labelsTextSpec.plain.varTypes Try.prog) (ds ++ gs)).all (· ≤ reachBytes) = true := hsz0
  clear hsz0
  have hval : ∀ (j : Nat) t v, Try.f5.params[j]? = some t → args[j]? = some v → Value.okWide Try.prog W .any base t v := hval0
  have hW' := hW
  obtain ⟨p, q, hA0, hV, rfl, _, _⟩ := hW
  have hA : DataW.TrodAll enc Try.prog W 0 (fun _ => true) true Try.f5.params.toList args.toList ds p := hA0
  rw [Try.params5] at hA hval hsz
  obtain ⟨v0, vs0, d0, ds0, p0, q0, hargs, rfl, rfl, h0, r0⟩ := trodAll_cons hA
  obtain ⟨v1, vs1, d1, ds1, p1, q1, rfl, rfl, rfl, h1, r1⟩ := trodAll_cons r0
  obtain ⟨v2, vs2, d2, ds2, p2, q2, rfl, rfl, rfl, h2, r2⟩ := trodAll_cons r1
  obtain ⟨rfl, rfl, rfl⟩ := trodAll_nil r2
  obtain rfl : args = #[v0, v1, v2] := by cases args; simp_all
  obtain ⟨rfl, rfl⟩ := trodVars_none hV
  obtain ⟨l0, hL0⟩ := open_labs5 (hval 0 31 v0 rfl rfl) h0 (fun x hx => by simpa using hW'.lt x (by simp [hx]))
  obtain ⟨zs1, hI1⟩ := open_ints5 (hval 1 30 v1 rfl rfl) h1 (fun x hx => by simpa using hW'.lt x (by simp [hx])) hsz (j := 1) rfl rfl
  obtain ⟨s2, rfl, rfl, rfl, _⟩ := Go.ChangeMaps.open_string Try.underlying9 (hval 2 9 v2 rfl rfl) h2
  have hs2 : s2.size ≤ 140737488351232 := sized_string hsz (j := 2) (t := 9) rfl rfl
  clear hA0 hval0
  have hwalk := text_walk v0 l0 v1 zs1 s2 W hL0 hI1 hs2
  refine hwalk.mono fun e W' ⟨he, hB⟩ => ?_
  subst he
  exact ⟨_, rfl, law_post (by kernel_rfl) (by kernel_rfl) rfl hW' rfl hB⟩

theorem text_holds : Rows.LabelsTextSaid :=
  OpenClaim.holds_of_wide 5 Try.f5 rfl rfl rfl rfl rfl rfl rfl ⟨rfl, rfl, rfl, rfl, rfl⟩ rfl rfl rfl rfl rfl (by kernel_rfl) Try.func5 (by kernel_rfl)
    (of_decide_eq_true (by kernel_rfl)) (by unfold Func.isWrapper; first | (rw [if_pos (by decide +kernel)]; kernel_rfl) | (rw [if_neg (by decide +kernel)]; exact ⟨rfl, rfl⟩))
    (fun os started H enc _ => text_lifted os started H enc)
#print axioms text_holds
end Go.Proofs.Ytmgjbbkccgncgaa
