/- Statement HashOneWord: replacing one element by another value changes the sum, and replacing it by itself does not. Conditions: none. -/
import Derived.Deep.RegionHeld3
import Derived.Test.YtialohbnhiechaaOwn
import Derived.Test.YtialohbnhiechaaInj
namespace Go.Proofs.Ytialohbnhiechaa
open Go.ChangeShapes Go.WideShapes Go.ChangeAt Go.RowKit

theorem below_append' {w W w1 : World} (hB : Below w.heap.size w W) (tmp : Obj) {v : Value} {base e n : Nat} {xs : List Value} (hown : W.ownsRow base e 1 v n xs) (hbase : w.heap.size ≤ base) (hgrow : (W.alloc tmp).grownBy w1 v.ownBlock) : Below w.heap.size w w1 :=
  (hB.alloc hB.size tmp).grown hgrow (by have := hB.size; simp; omega) (fun j hj => Nat.le_trans hbase (hown.lt j hj).1)
theorem in_of_i64 {a : Int} (h : (Lit.int .i64 a).wf = true) : InI a := by
  have h1 : IntKind.i64.min = -9223372036854775808 := rfl
  have h2 : IntKind.i64.max = 9223372036854775807 := rfl
  simp only [Lit.wf, Bool.and_eq_true, decide_eq_true_eq] at h
  exact ⟨by omega, by omega⟩
theorem word_fact (L : List UInt8) (A : List Int) (k : Nat) (v : Int) (hk : k < A.length) (hA : ∀ z ∈ A, InI z) (hv : InI v) : ((sumI L A == sumI L (A.set k v)) == (A[k] == v)) = true := by
  by_cases h : A[k] = v
  · have e : A.set k v = A := by rw [← h]; exact List.set_getElem_self hk
    rw [e]; simp [h]
  · have h1 : sumI L A ≠ sumI L (A.set k v) := by
      intro he
      rw [List.set_eq_take_append_cons_drop, if_pos hk] at he
      have e2 : A = A.take k ++ A[k] :: A.drop (k + 1) := by
        rw [← List.drop_eq_getElem_cons hk, List.take_append_drop]
      have he2 : sumI L (A.take k ++ A[k] :: A.drop (k + 1)) = sumI L (A.take k ++ v :: A.drop (k + 1)) := by rw [← e2]; exact he
      exact h (sumI_one L _ _ _ _ (hA _ (List.getElem_mem hk)) hv he2)
    have e1 : (sumI L A == sumI L (A.set k v)) = false := beq_eq_false_iff_ne.2 h1
    have e2 : (A[k] == v) = false := beq_eq_false_iff_ne.2 h
    rw [e1, e2]; rfl
theorem RowAt.length {k : IntKind} {n₀ : Nat} {W : World} {a : Option Addr} {l cap : Nat} {zs : List Int} (h : RowAt k n₀ W (.slice a l cap) zs) : l = zs.length := by
  rcases h with ⟨e, rfl⟩ | ⟨b, off, c', e, _⟩
  · simp at e; exact e.2.1
  · simp at e; exact e.2.1
/-- Sum at a later world. -/
theorem sum_from (w0 W : World) (s : ByteArray) (a : Option Addr) (l cap : Nat) (zs : List Int) (hs : s.size ≤ 140737488351232) (hR : RowAt .i64 w0.heap.size w0 (.slice a l cap) zs) (hz : zs.length ≤ 140737488351232) (hW : Below w0.heap.size w0 W) :
    Calls Try.prog 13 #[.string s, .slice a l cap] W fun e w' => e = .returned (.int .u64 (sumI s.data.toList zs)) ∧ Below w0.heap.size w0 w' := by
  obtain rfl := hR.length
  exact (sum_any s zs a cap W hs hz ((hR.below hW).mono hW.size)).mono fun e w' ⟨he, hB⟩ => ⟨he, below_then hW hB⟩
theorem held {p : Prop} {w0 W : World} (h : p ∧ Below w0.heap.size w0 W) : Below w0.heap.size w0 W := h.2
theorem lives_from (w0 W : World) (hW : Below w0.heap.size w0 W) : Calls Try.prog 15 #[] W fun e w' => e = .returned (.bool true) ∧ Below w0.heap.size w0 w' :=
  (lives_any W).mono fun _ _ ⟨he, hB⟩ => ⟨he, below_then hW hB⟩

set_option maxRecDepth 100000 in
set_option maxHeartbeats 4000000 in
theorem wordlaw_walk (s : ByteArray) (a : Option Addr) (cap : Nat) (zs : List Int) (i v : Int) (w : World) (hs : s.size ≤ 140737488351232) (hz : zs.length ≤ 140737488351232) (hzi : ∀ z ∈ zs, (Lit.int .i64 z).wf = true) (hI : InAt .i64 w.heap.size w (.slice a zs.length cap) zs) (hi' : (Lit.int .i64 i).wf = true) (hv' : (Lit.int .i64 v).wf = true) :
    Calls Try.prog 5 #[.string s, .slice a zs.length cap, .int .i64 i, .int .i64 v] w fun e w' => e = .returned (.bool true) ∧ Below w.heap.size w w' := by
  obtain ⟨i0, hi, hz0, hz1, hz2⟩ := info_parts Try.infoInt
  have hi2 := in_of_i64 hi'
  have hv2 := in_of_i64 hv'
  clear hi' hv'
  go_enter Try.func5, Try.ntmps5
  go_wp2_with fail
  refine (short_any s 20 w hs (by omega) (by omega)).mono ?_
  rintro e w' ⟨⟨s', rfl, hs'⟩, rfl⟩
  go_wp2_with fail
  refine (ints_row a cap zs 9 w hz (by omega) (by omega) hI).mono ?_
  rintro e w1 ⟨a1, c1, rfl, hr1, hB1⟩
  have hle : (zs.take (9 : Int).toNat).length ≤ 9 := List.length_take_le _ _
  have hin : ∀ z ∈ zs.take (9 : Int).toNat ++ [7], InI z := by
    intro z hz'
    rcases List.mem_append.1 hz' with h | h
    · exact in_of_i64 (hzi z (List.mem_of_mem_take h))
    · simp at h; subst h; exact ⟨by omega, by omega⟩
  obtain ⟨ys, hys⟩ : ∃ ys, zs.take (9 : Int).toNat = ys := ⟨_, rfl⟩
  rw [hys] at hr1 hle hin
  rw [hys]
  clear hys hI hzi
  have hown : w1.ownsRow w.heap.size 3 1 (.slice a1 ys.length c1) ys.length (ys.map (Value.int .i64)) := hr1
  go_wp2_with (at_builtin; refine wpList_append_own _ rfl _ _ 22 rfl w.heap.size 3 i0 (.int .i64 0) 1 8 Try.underlying22 hi hz0 hz1 hz2 rfl (by decide) _ _ _ rfl (hown.alloc _) ⟨w1.heap.size, 0, none⟩ 1 1 [.int .i64 7] rfl rfl (cell_one_new _ _ _) (by simp [Value.oneCell']) (by unfold maxLen; omega) (by omega) (by have := hB1.size; simp; omega) ?_; intro v' w2 hown' hgrow hnn; clear hnn; obtain ⟨g, c2, rfl⟩ := slice_succ hown')
  have hB2 := below_append' hB1 _ hown (Nat.le_refl _) hgrow
  have hr2 := row_appended hown'
  have hAl : (ys ++ [(7 : Int)]).length = ys.length + 1 := by rw [List.length_append, List.length_singleton]
  obtain ⟨A, hA⟩ : ∃ A, ys ++ [(7 : Int)] = A := ⟨_, rfl⟩
  rw [hA] at hr2 hin hAl
  obtain ⟨la, hla⟩ : ∃ la, ys.length + 1 = la := ⟨_, rfl⟩
  rw [hla] at hr2 hAl
  rw [hla]
  have hla2 : la ≤ 10 := by omega
  have hla1 : 1 ≤ la := by omega
  have HAl := Lib.hid hAl
  clear hA hla hown hown' hgrow hB1 hr1 hle hAl
  have htk : A.take (10 : Int).toNat = A := List.take_of_length_le (by rw [HAl.out]; exact hla2)
  have hIA := ints_row (some ⟨g, 0, none⟩) c2 A 10 w2 (by rw [HAl.out]; omega) (by omega) (by omega) (n₀ := w2.heap.size) (.inl (by rw [HAl.out]; exact hr2.at))
  rw [htk, HAl.out] at hIA
  clear htk
  refine hIA.mono ?_
  rintro e w3 ⟨a3, c3, rfl, hr3, hB⟩
  clear hIA
  obtain ⟨g3, rfl⟩ := row_some hr3 (by rw [HAl.out]; exact hla1)
  have hB3 := below_then hB2 hB
  have hg := hr2.lt
  have hg3 := hr3.lt
  have hr2' := hr2.below hB
  clear hB hB2 hr2
  go_wp2_with fail
  refine (around_any i la w3 hi2.1 hi2.2 (by omega) (by omega)).mono ?_
  rintro e w' ⟨rfl, rfl⟩
  obtain ⟨k, hk⟩ := Int.eq_ofNat_of_zero_le (aroundI_lo i la (by omega))
  have hkl := aroundI_hi i la (by omega)
  rw [hk] at hkl ⊢
  clear hk
  have hkl' : k < la := by omega
  have hkA : k < A.length := by rw [HAl.out]; exact hkl'
  have hc3 := hr3.cell HAl.out.symm k hkA
  have hf3 := hr3.free HAl.out.symm k
  have hRA : Row .i64 3 w.heap.size (w3.setCell ⟨g3, k, none⟩ (.int .i64 v)) (.slice (some ⟨g, 0, none⟩) la c2) A := hr2'.other (base' := w2.heap.size) (fun b hb => by simp [Value.ownBlock] at hb; omega) hg3.1
  have hRB := hr3.stored HAl.out.symm k v
  have hB4 : Below w.heap.size w (w3.setCell ⟨g3, k, none⟩ (.int .i64 v)) := hB3.setCell (p := ⟨g3, k, none⟩) (by show w.heap.size ≤ g3; omega) _
  have hcA := hRA.cell HAl.out.symm k hkA
  have hfact := word_fact s'.data.toList A k v hkA hin hv2
  have Hfact := Lib.hid hfact
  have HcA := Lib.hid hcA
  clear hfact hin hcA hr3 hr2'
  go_wp2_with fail
  obtain ⟨w0, hw0⟩ : ∃ w0, w3.setCell ⟨g3, k, none⟩ (.int .i64 v) = w0 := ⟨_, rfl⟩
  have hc0 := HcA.out
  rw [hw0] at hRA hRB hB4 hc0 ⊢
  clear hw0 HcA hB3 hc3 hf3
  have hlA : A.length ≤ 140737488351232 := by rw [HAl.out]; omega
  have hlB : (A.set k v).length ≤ 140737488351232 := by rw [List.length_set]; exact hlA
  have hs2 : s'.size ≤ 140737488351232 := by omega
  have RA := hRA.at
  have RB := hRB.at
  have hga : g < w0.heap.size := hRA.lt.2
  have hk0 : (0 : Int) ≤ (k : Int) := by omega
  have hk1 : (k : Int) < (la : Int) := by omega
  have keep : ∀ W : World, Below w0.heap.size w0 W → W.cell? ⟨g, k, none⟩ = some (.int .i64 A[k]) ∧ Below w0.heap.size w0 W := fun W hW => ⟨(hW.cell (p := ⟨g, k, none⟩) hga).trans hc0, hW⟩
  have Keep := Lib.hid keep
  have h00 := Below.refl w0.heap.size w0
  have h1 := Hfact.out
  clear keep hRA hRB hg hg3
  go_region_held3 (fun w' => w'.cell? ⟨g, k, none⟩ = some (.int .i64 A[k]) ∧ Below w0.heap.size w0 w') (first | exact Keep.out _ (by assumption) | exact Keep.out _ (Below.drew (by assumption)))
    (first | (go_at_call 15; refine (lives_from w0 _ (by first | assumption | exact held (by assumption))).mono ?_; rintro e w' ⟨rfl, hb⟩) | (go_at_call 13; refine (sum_from w0 _ _ _ _ _ _ hs2 (by assumption) (by assumption) (by first | assumption | exact held (by assumption))).mono ?_; rintro e w' ⟨rfl, hb⟩))
  all_goals go_wp2
  all_goals go_ret
  all_goals exact ⟨rfl, below_then hB4 (by first | assumption | exact held (by assumption))⟩

set_option maxRecDepth 100000 in
theorem wordlaw_lifted (os : Os) (started : os.Started) (H : Type) (enc : TypeId × Value → H) :
    ReturnsInHanded {} Try.checked os 5 .any (Rows.hashOneWordSpec.pre6 enc Try.prog Try.f5 Rows.hashOneWordRow.domain false) (Rows.hashOneWordSpec.post enc Try.prog Try.f5 false true false false) := by
  refine returnsInHanded_of_change_sized (C := Try.checked) Try.own started (by kernel_rfl) Try.func5
    (ChangeSpec.witness6 (enc := enc) (C := Try.checked) false ⟨#[], #[.string ⟨#[]⟩, .slice none 0 0, .int .i64 0, .int .i64 0], []⟩ 8 (by kernel_rfl) (by kernel_rfl) (by kernel_rfl) (by kernel_rfl)) ?_
  intro W base args ds gs before hval0 hW _ hsz0 _
  have hsz : (DataW.weightsEach Try.prog (Try.f5.params.toList ++ Rows.hashOneWordSpec.plain.varTypes Try.prog) (ds ++ gs)).all (· ≤ reachBytes) = true := hsz0
  clear hsz0
  have hval : ∀ (j : Nat) t v, Try.f5.params[j]? = some t → args[j]? = some v → Value.okWide Try.prog W .any base t v := hval0
  have hW' := hW
  obtain ⟨p, q, hA0, hV, rfl, _, _⟩ := hW
  have hA : DataW.TrodAll enc Try.prog W 0 (fun _ => true) true Try.f5.params.toList args.toList ds p := hA0
  rw [Try.params5] at hA hval hsz
  obtain ⟨v0, vs0, d0, ds0, p0, q0, hargs, rfl, rfl, h0, r0⟩ := trodAll_cons hA
  obtain ⟨v1, vs1, d1, ds1, p1, q1, rfl, rfl, rfl, h1, r1⟩ := trodAll_cons r0
  obtain ⟨v2, vs2, d2, ds2, p2, q2, rfl, rfl, rfl, h2, r2⟩ := trodAll_cons r1
  obtain ⟨v3, vs3, d3, ds3, p3, q3, rfl, rfl, rfl, h3, r3⟩ := trodAll_cons r2
  obtain ⟨rfl, rfl, rfl⟩ := trodAll_nil r3
  obtain rfl : args = #[v0, v1, v2, v3] := by cases args; simp_all
  obtain ⟨rfl, rfl⟩ := trodVars_none hV
  obtain ⟨s0, rfl, rfl, rfl, _⟩ := Go.ChangeMaps.open_string Try.underlying9 (hval 0 9 v0 rfl rfl) h0
  have hs0 : s0.size ≤ 140737488351232 := sized_string hsz (j := 0) (t := 9) rfl rfl
  obtain ⟨a1, c1, zs1, rfl, hI1, hw1, hz1⟩ := open_row Try.underlying22 Try.underlying3 Try.cellsInt Try.bytesInt (hval 1 22 v1 rfl rfl) h1 (fun x hx => by simpa using hW'.lt x (by simp [hx])) hsz (j := 1) rfl rfl
  obtain ⟨a2, rfl, rfl, rfl, w2⟩ := open_int Try.underlying3 (hval 2 3 v2 rfl rfl) h2
  obtain ⟨a3, rfl, rfl, rfl, w3⟩ := open_int Try.underlying3 (hval 3 3 v3 rfl rfl) h3
  clear hA0 hval0
  have hwalk := wordlaw_walk s0 a1 c1 zs1 a2 a3 W hs0 (by omega) hw1 hI1 w2 w3
  refine hwalk.mono fun e W' ⟨he, hB⟩ => ?_
  subst he
  exact ⟨_, rfl, law_post (by kernel_rfl) (by kernel_rfl) rfl hW' rfl hB⟩

theorem wordlaw_holds : Rows.HashOneWordSaid :=
  OpenClaim.holds_of_wide 5 Try.f5 rfl rfl rfl rfl rfl rfl rfl ⟨rfl, rfl, rfl, rfl, rfl⟩ rfl rfl rfl rfl rfl (by kernel_rfl) Try.func5 (by kernel_rfl)
    (of_decide_eq_true (by kernel_rfl)) (by unfold Func.isWrapper; first | (rw [if_pos (by decide +kernel)]; kernel_rfl) | (rw [if_neg (by decide +kernel)]; exact ⟨rfl, rfl⟩))
    (fun os started H enc _ => wordlaw_lifted os started H enc)
#print axioms wordlaw_holds
end Go.Proofs.Ytialohbnhiechaa
