/- Statement HashOneLabel: changing one byte of the label changes the sum. Conditions: none. -/
import Derived.Deep.RegionHeld3
import Derived.Test.YtialohbnhiechaaWordLaw
import Derived.Test.YtialohbnhiechaaGroupLaw
namespace Go.Proofs.Ytialohbnhiechaa
open Go.ChangeShapes Go.WideShapes Go.ChangeAt Go.RowKit

theorem label_fact (X : List UInt8) (l : List Int) (k : Nat) (o : UInt8) (hk : k < X.length) (hX : X.length ≤ 140737488351232) (hl : l.length ≤ 140737488351232) : ((sumI X l == sumI (X.set k (X[k] ^^^ o)) l) == (ofByte o == 0)) = true := by
  by_cases h : o = 0
  · subst h
    rw [UInt8.xor_zero, List.set_getElem_self]
    simp [ofByte]
  · have hne : X ≠ X.set k (X[k] ^^^ o) := by
      intro e
      have h1 : X[k] = (X.set k (X[k] ^^^ o))[k]'(by rw [List.length_set]; exact hk) := by
        have := congrArg (fun l : List UInt8 => l[k]?) e
        simp only [List.getElem?_set_self hk, List.getElem?_eq_getElem hk, Option.some.injEq] at this
        rw [List.getElem_set_self]; exact this
      rw [List.getElem_set_self] at h1
      have h2 : X[k] ^^^ X[k] = X[k] ^^^ (X[k] ^^^ o) := by rw [← h1]
      rw [UInt8.xor_self, ← UInt8.xor_assoc, UInt8.xor_self, UInt8.zero_xor] at h2
      exact h h2.symm
    have h1 : sumI X l ≠ sumI (X.set k (X[k] ^^^ o)) l := fun e => hne (label_group (k / 8) (by rw [List.length_set]) hX hl (by unfold nWords; omega) (fun i hi => by rw [set_other X k i _ (by rintro rfl; exact hi rfl)]) e)
    have e1 : (sumI X l == sumI (X.set k (X[k] ^^^ o)) l) = false := beq_eq_false_iff_ne.2 h1
    have e2 : (ofByte o == 0) = false := beq_eq_false_iff_ne.2 (fun e => h (ofByte_inj (q := 0) e))
    rw [e1, e2]; rfl
/-- A conversion of bytes to a string, at whatever world. -/
theorem conv_back {W : World} {b off l cap : Nat} {X : List UInt8} (hl : l = X.length) (hc : ∀ j, j < X.length → W.cell? ⟨b, off + j, none⟩ = some (.int .u8 ((X[j]?.getD 0).toNat : Int))) :
    (convert 30 9 (.slice (some ⟨b, off, none⟩) l cap)).run Try.prog W = .ok (.string ⟨X.toArray⟩) W := by
  subst hl
  exact run_convert_bytes_back W 30 9 5 ⟨b, off, none⟩ cap X Try.underlying30 Try.underlying5 Try.underlying9 (fun j hj => by
    have h := hc j hj
    rw [List.getElem?_eq_getElem hj] at h
    rw [add_plain]
    exact h)
theorem conv_from {w0 W : World} {a : Option Addr} {l cap : Nat} {X : List UInt8} (h1 : 1 ≤ X.length) (hR : RowAt .u8 w0.heap.size w0 (.slice a l cap) (X.map ofByte)) (hW : Below w0.heap.size w0 W) :
    (convert 30 9 (.slice a l cap)).run Try.prog W = .ok (.string ⟨X.toArray⟩) W := by
  rcases bytesAt_of_row (hR.below hW) with ⟨_, rfl⟩ | ⟨b, off, c, e, _, _, hc⟩
  · simp at h1
  · simp only [Value.slice.injEq] at e
    obtain ⟨rfl, rfl, rfl⟩ := e
    exact conv_back rfl hc
theorem sum_label (w0 W : World) (X : List UInt8) (a : Option Addr) (l cap : Nat) (zs : List Int) (hR : RowAt .i64 w0.heap.size w0 (.slice a l cap) zs) (hz : zs.length ≤ 140737488351232) (hX : X.length ≤ 140737488351232) (hW : Below w0.heap.size w0 W) :
    Calls Try.prog 13 #[.string ⟨X.toArray⟩, .slice a l cap] W fun e w' => e = .returned (.int .u64 (sumI X zs)) ∧ Below w0.heap.size w0 w' :=
  sum_from w0 W ⟨X.toArray⟩ a l cap zs (by simpa [ByteArray.size] using hX) hR hz hW

set_option maxRecDepth 100000 in
set_option maxHeartbeats 4000000 in
theorem labellaw_walk (s : ByteArray) (a : Option Addr) (cap : Nat) (zs : List Int) (i z : Int) (w : World) (hs : s.size ≤ 140737488351232) (hz : zs.length ≤ 140737488351232) (_ : ∀ z ∈ zs, (Lit.int .i64 z).wf = true) (hI : InAt .i64 w.heap.size w (.slice a zs.length cap) zs) (hi' : (Lit.int .i64 i).wf = true) (hv' : (Lit.int .u8 z).wf = true) :
    Calls Try.prog 7 #[.string s, .slice a zs.length cap, .int .i64 i, .int .u8 z] w fun e w' => e = .returned (.bool true) ∧ Below w.heap.size w w' := by
  have hi2 := in_of_i64 hi'
  obtain ⟨o8, rfl⟩ := byte_of hv'
  clear hi' hv'
  go_enter Try.func7, Try.ntmps7
  go_wp2_with fail
  refine (ints_row a cap zs 6 w hz (by omega) (by omega) hI).mono ?_
  rintro e w1 ⟨a1, c1, rfl, hr1, hB1⟩
  have hle : (zs.take (6 : Int).toNat).length ≤ 6 := List.length_take_le _ _
  obtain ⟨ys, hys⟩ : ∃ ys, zs.take (6 : Int).toNat = ys := ⟨_, rfl⟩
  rw [hys] at hr1 hle
  rw [hys]
  clear hys hI
  go_wp2_with fail
  refine (short_any s 29 w1 hs (by omega) (by omega)).mono ?_
  rintro e w' ⟨⟨s', rfl, hs'⟩, rfl⟩
  obtain ⟨lc, C, hlc, hC, hcv⟩ := conv_bytes w1 (s' ++ { data := #[120] })
  have hTs : (s' ++ { data := #[120] } : ByteArray).size = s'.size + 1 := by rw [ByteArray.size_append]; rfl
  have hTl : (s' ++ { data := #[120] } : ByteArray).data.toList.length = s'.size + 1 := hTs
  rw [hTs] at hcv hC hlc
  clear hTs
  obtain ⟨X, hX⟩ : ∃ X, (s' ++ { data := #[120] } : ByteArray).data.toList = X := ⟨_, rfl⟩
  rw [hX] at hC hTl
  clear hX
  obtain ⟨la, hla⟩ : ∃ la, s'.size + 1 = la := ⟨_, rfl⟩
  rw [hla] at hcv hC hlc hTl
  have hla1 : 1 ≤ la := by omega
  have hla2 : la ≤ 30 := by omega
  have HXl := Lib.hid hTl
  clear hla hTl
  have hra : RowAt .u8 (w1.heap.size + 1) (w1.alloc (.cells C 5 (C.size, C.size + 1))).drew (.slice (some ⟨w1.heap.size, 0, none⟩) la lc) (X.map ofByte) :=
    .inr ⟨_, _, _, by rw [List.length_map, HXl.out], by rw [List.length_map, HXl.out]; exact hlc, by omega, fun j hj => by
      rw [List.length_map, HXl.out] at hj
      rw [Nat.zero_add]
      refine (World.cell?_alloc_mark w1 C _ _ j).trans ?_
      rw [hC j hj, List.getElem?_map, List.getElem?_eq_getElem (by rw [HXl.out]; exact hj)]
      rfl⟩
  go_wp2_with fail
  obtain ⟨w2, hw2⟩ : ∃ w2, (w1.alloc (.cells C 5 (C.size, C.size + 1))).drew = w2 := ⟨_, rfl⟩
  have hs12 : w2.heap.size = w1.heap.size + 1 := by rw [← hw2]; simp
  have hB12 : Below w1.heap.size w1 w2 := by rw [← hw2]; exact ((Below.refl _ w1).alloc (Nat.le_refl _) _).drew
  rw [hw2] at hra ⊢
  rw [← hs12] at hra
  have hB2 := below_then hB1 hB12
  replace hr1 := hr1.below hB12
  clear hw2 hcv hC hlc hB1
  obtain ⟨g, hg⟩ : ∃ g, w1.heap.size = g := ⟨_, rfl⟩
  rw [hg] at hra ⊢
  have hg2 : g < w2.heap.size := by omega
  have h1r := hr1.at.below (Below.refl w2.heap.size w2)
  clear hg hs12 hB12
  have hIA := few_row (some ⟨g, 0, none⟩) lc X 30 w2 (by rw [HXl.out]; omega) (by omega) (by omega) (n₀ := w2.heap.size) (.inl (by rw [HXl.out]; exact hra))
  have htk : X.take (30 : Int).toNat = X := List.take_of_length_le (by rw [HXl.out]; exact hla2)
  rw [htk, HXl.out] at hIA
  clear htk
  refine hIA.mono ?_
  rintro e w3 ⟨a3, c3, rfl, hr3, hB⟩
  clear hIA
  obtain ⟨g3, rfl⟩ := row_some hr3 (by rw [List.length_map, HXl.out]; exact hla1)
  have hB3 := below_then hB2 hB
  have hg3 := hr3.lt
  have hs2 := hB2.size
  clear hB2
  go_wp2_with fail
  refine (around_any i la w3 hi2.1 hi2.2 (by omega) (by omega)).mono ?_
  rintro e w' ⟨rfl, rfl⟩
  obtain ⟨k, hk⟩ := Int.eq_ofNat_of_zero_le (aroundI_lo i la (by omega))
  have hkl := aroundI_hi i la (by omega)
  rw [hk] at hkl ⊢
  clear hk
  have hkl' : k < la := by omega
  have hkX : k < X.length := by rw [HXl.out]; exact hkl'
  have hkM : k < (X.map ofByte).length := by rw [List.length_map]; exact hkX
  have hMl : la = (X.map ofByte).length := by rw [List.length_map, HXl.out]
  have HMl := Lib.hid hMl
  clear hMl
  have hc3 := hr3.cell HMl.out k hkM
  rw [List.getElem_map] at hc3
  have hf3 := hr3.free HMl.out k
  have hRY := hr3.stored HMl.out k (ofByte (X[k] ^^^ o8))
  rw [map_set_byte, ← byte_xor] at hRY
  have hB4 : Below w.heap.size w (w3.setCell ⟨g3, k, none⟩ (.int .u8 (bits .xor .u8 (ofByte X[k]) (ofByte o8)))) := hB3.setCell (p := ⟨g3, k, none⟩) (by show w.heap.size ≤ g3; omega) _
  have hB24 : Below w2.heap.size w2 (w3.setCell ⟨g3, k, none⟩ (.int .u8 (bits .xor .u8 (ofByte X[k]) (ofByte o8)))) := hB.setCell (p := ⟨g3, k, none⟩) (by show w2.heap.size ≤ g3; omega) _
  go_wp2_with fail
  obtain ⟨w0, hw0⟩ : ∃ w0, w3.setCell ⟨g3, k, none⟩ (.int .u8 (bits .xor .u8 (ofByte X[k]) (ofByte o8))) = w0 := ⟨_, rfl⟩
  rw [hw0] at hRY hB4 hB24 ⊢
  clear hw0 hB3 hc3 hf3 hB hr3
  obtain ⟨Y, hY⟩ : ∃ Y, X.set k (X[k] ^^^ o8) = Y := ⟨_, rfl⟩
  have hfact := label_fact X ys k o8 hkX (by rw [HXl.out]; omega) (by omega)
  rw [hY] at hRY hfact
  have hYX : Y.length = la := by rw [← hY, List.length_set, HXl.out]
  have Hfact := Lib.hid hfact
  have HYl := Lib.hid hYX
  clear hY hfact hYX
  have RA := (hra.below hB24).mono hB24.size
  have RB := hRY.at
  have RW := (h1r.below hB24).mono hB24.size
  have hlX : X.length ≤ 140737488351232 := by rw [HXl.out]; omega
  have hlY : Y.length ≤ 140737488351232 := by rw [HYl.out]; omega
  have hlz : ys.length ≤ 140737488351232 := by omega
  clear hra hRY h1r hr1 hB24
  have cvA := fun (W : World) (hW : Below w0.heap.size w0 W) => conv_from (by rw [HXl.out]; exact hla1) RA hW
  have cvB := fun (W : World) (hW : Below w0.heap.size w0 W) => conv_from (by rw [HYl.out]; exact hla1) RB hW
  have h00 := Below.refl w0.heap.size w0
  have h1 := Hfact.out
  go_region_held3 (fun w' => Below w0.heap.size w0 w') (first | assumption | exact Below.drew (by assumption))
    (first | (go_at_call 15; refine (lives_from w0 _ (by assumption)).mono ?_; rintro e w' ⟨rfl, hb⟩) | (go_at_call 13; refine (sum_label w0 _ _ _ _ _ _ (by assumption) (by assumption) (by assumption) (by assumption)).mono ?_; rintro e w' ⟨rfl, hb⟩))
  all_goals go_wp2
  all_goals go_ret
  all_goals exact ⟨rfl, below_then hB4 (by assumption)⟩

set_option maxRecDepth 100000 in
theorem labellaw_lifted (os : Os) (started : os.Started) (H : Type) (enc : TypeId × Value → H) :
    ReturnsInHanded {} Try.checked os 7 .any (Rows.hashOneLabelSpec.pre6 enc Try.prog Try.f7 Rows.hashOneLabelRow.domain false) (Rows.hashOneLabelSpec.post enc Try.prog Try.f7 false true false false) := by
  refine returnsInHanded_of_change_sized (C := Try.checked) Try.own started (by kernel_rfl) Try.func7
    (ChangeSpec.witness6 (enc := enc) (C := Try.checked) false ⟨#[], #[.string ⟨#[]⟩, .slice none 0 0, .int .i64 0, .int .u8 0], []⟩ 8 (by kernel_rfl) (by kernel_rfl) (by kernel_rfl) (by kernel_rfl)) ?_
  intro W base args ds gs before hval0 hW _ hsz0 _
  have hsz : (DataW.weightsEach Try.prog (Try.f7.params.toList ++ Rows.hashOneLabelSpec.plain.varTypes Try.prog) (ds ++ gs)).all (· ≤ reachBytes) = true := hsz0
  clear hsz0
  have hval : ∀ (j : Nat) t v, Try.f7.params[j]? = some t → args[j]? = some v → Value.okWide Try.prog W .any base t v := hval0
  have hW' := hW
  obtain ⟨p, q, hA0, hV, rfl, _, _⟩ := hW
  have hA : DataW.TrodAll enc Try.prog W 0 (fun _ => true) true Try.f7.params.toList args.toList ds p := hA0
  rw [Try.params7] at hA hval hsz
  obtain ⟨v0, vs0, d0, ds0, p0, q0, hargs, rfl, rfl, h0, r0⟩ := trodAll_cons hA
  obtain ⟨v1, vs1, d1, ds1, p1, q1, rfl, rfl, rfl, h1, r1⟩ := trodAll_cons r0
  obtain ⟨v2, vs2, d2, ds2, p2, q2, rfl, rfl, rfl, h2, r2⟩ := trodAll_cons r1
  obtain ⟨v3, vs3, d3, ds3, p3, q3, rfl, rfl, rfl, h3, r3⟩ := trodAll_cons r2
  obtain ⟨rfl, rfl, rfl⟩ := trodAll_nil r3
  obtain rfl : args = #[v0, v1, v2, v3] := by cases args; simp_all
  obtain ⟨rfl, rfl⟩ := trodVars_none hV
  obtain ⟨s0, rfl, rfl, rfl, _⟩ := Go.ChangeMaps.open_string Try.underlying9 (hval 0 9 v0 rfl rfl) h0
  have hs0 : s0.size ≤ 140737488351232 := sized_string hsz (j := 0) (t := 9) rfl rfl
  obtain ⟨a1, c1, zs1, rfl, hI1, hw1, hz1⟩ := open_row Try.underlying22 Try.underlying3 Try.cellsInt Try.bytesInt (hval 1 22 v1 rfl rfl) h1 (fun x hx => by simpa using hW'.lt x (by simp [hx])) hsz (j := 1) rfl rfl
  obtain ⟨a2, rfl, rfl, rfl, w2⟩ := open_int Try.underlying3 (hval 2 3 v2 rfl rfl) h2
  obtain ⟨a3, rfl, rfl, rfl, w3⟩ := open_int Try.underlying5 (hval 3 5 v3 rfl rfl) h3
  clear hA0 hval0
  have hwalk := labellaw_walk s0 a1 c1 zs1 a2 a3 W hs0 (by omega) hw1 hI1 w2 w3
  refine hwalk.mono fun e W' ⟨he, hB⟩ => ?_
  subst he
  exact ⟨_, rfl, law_post (by kernel_rfl) (by kernel_rfl) rfl hW' rfl hB⟩

theorem labellaw_holds : Rows.HashOneLabelSaid :=
  OpenClaim.holds_of_wide 7 Try.f7 rfl rfl rfl rfl rfl rfl rfl ⟨rfl, rfl, rfl, rfl, rfl⟩ rfl rfl rfl rfl rfl (by kernel_rfl) Try.func7 (by kernel_rfl)
    (of_decide_eq_true (by kernel_rfl)) (by unfold Func.isWrapper; first | (rw [if_pos (by decide +kernel)]; kernel_rfl) | (rw [if_neg (by decide +kernel)]; exact ⟨rfl, rfl⟩))
    (fun os started H enc _ => labellaw_lifted os started H enc)
#print axioms labellaw_holds
end Go.Proofs.Ytialohbnhiechaa
