/- Statement LabelsNew: New and Valid are what the reference model gives, for all lists of labels made from numbers. Conditions: none. -/
import Derived.Test.YtmgjbbkccgncgaaLOpen
import Derived.Test.YtmgjbbkccgncgaaLGood
namespace Go.Proofs.Ytmgjbbkccgncgaa
open Go.ChangeShapes Go.WideShapes Go.ChangeAt Go.RowKit

set_option maxRecDepth 100000 in
set_option maxHeartbeats 8000000 in
theorem new_walk (sv : Value) (zs : List Int) (w : World) (hI : IntsIn w sv zs) :
    Calls Try.prog 4 #[sv] w fun e w' => e = .returned (.bool true) ∧ Below w.heap.size w w' := by
  go_enter Try.func4, Try.ntmps4
  go_wp2_with fail
  refine (dirty_any sv zs w hI).mono ?_
  rintro e w1 ⟨d, it, rfl, hO, hD, hB1⟩
  have HL := Lib.hid (LsAt.of_owns hO)
  have HZ := Lib.hid hD.sz
  have hn : it.length ≤ 10 := hD.1
  clear hI hO hD
  go_wp2_with fail
  refine (new_any d it w1 HL.out (by omega) HZ.out).mono ?_
  rintro e w2 ⟨a, rfl, ha, hb⟩
  have HL2 := Lib.hid (HL.out.below hb)
  have hB2 := below_st hB1 hb
  have HA := Lib.hid ha
  clear ha hb HL hB1
  go_wp2_with fail
  refine (refnew_any d it w2 HL2.out (by omega) HZ.out).mono ?_
  rintro e w3 ⟨b, rfl, ha, hb⟩
  have HL3 := Lib.hid (HL2.out.below hb)
  have HA3 := Lib.hid (HA.out.below hb)
  have hB3 := below_st hB2 hb
  have HC3 := Lib.hid ha
  obtain ⟨x, hx⟩ : ∃ x, newE it = x := ⟨_, rfl⟩
  have HX := Lib.hid hx
  obtain ⟨m, hm⟩ : ∃ m, newL it = m := ⟨_, rfl⟩
  have HM := Lib.hid hm
  have hml := newL_len it
  rw [hm] at HA3 HC3 hml
  rw [hx]
  clear ha hb HL2 hB2 hx hm HA
  obtain ⟨aa, ac, rfl, -⟩ := HA3.out.slice
  obtain ⟨ba, bc, rfl, -⟩ := HC3.out.slice
  have HS := Lib.hid (same_any aa ba ac bc m m w3 HA3.out HC3.out (by omega) (by omega))
  rw [sameL_of rfl] at HS
  go_wp2_with fail
  (with_reducible refine HS.out.mono ?_)
  rintro e w4 ⟨rfl, hb⟩
  have HL4 := Lib.hid (HL3.out.below hb)
  have HC4 := Lib.hid (HC3.out.below hb)
  have hB4 := below_st hB3 hb
  clear hb HL3 HA3 HC3 hB3 HS
  go_wp2_with fail
  refine (valid_any d it w4 HL4.out (by omega) HZ.out).mono ?_
  rintro e w5 ⟨rfl, hb⟩
  have HL5 := Lib.hid (HL4.out.below hb)
  have HC5 := Lib.hid (HC4.out.below hb)
  have hB5 := below_st hB4 hb
  clear hb HL4 HC4 hB4
  obtain ⟨y, hy⟩ : ∃ y, validB it = y := ⟨_, rfl⟩
  have HY := Lib.hid hy
  rw [hy]
  clear hy
  go_wp2_with fail
  refine (refvalid_any d it w5 HL5.out (by omega) HZ.out).mono ?_
  rintro e w6 ⟨rfl, hb⟩
  have HC6 := Lib.hid (HC5.out.below hb)
  have hB6 := below_st hB5 hb
  rw [HY.out]
  clear hb HL5 HC5 hB5
  by_cases h0 : x = 0
  · have e0 : (x != 0) = false := by simp [h0]
    have HV := Lib.hid (valid_any (.slice ba m.length bc) m w6 HC6.out (by omega) (by rw [← HM.out]; exact newL_sz HZ.out))
    rw [show validB m = true by rw [← HM.out]; exact newL_valid (by rw [HX.out, h0])] at HV
    clear h0
    go_wp2_with fail
    (with_reducible refine HV.out.mono ?_)
    rintro e w7 ⟨rfl, hb⟩
    have hB7 := below_st hB6 hb
    clear hb hB6
    go_wp2_with fail
    refine (lives_any _).mono ?_
    rintro e w8 ⟨rfl, hb⟩
    go_wp2
    go_ret
    exact ⟨rfl, below_st hB7 hb⟩
  · have e0 : (x != 0) = true := by simp [h0]
    clear h0
    go_wp2_with fail
    refine (lives_any _).mono ?_
    rintro e w8 ⟨rfl, hb⟩
    go_wp2
    go_ret
    exact ⟨rfl, below_st hB6 hb⟩

set_option maxRecDepth 100000 in
theorem new_lifted (os : Os) (started : os.Started) (H : Type) (enc : TypeId × Value → H) :
    ReturnsInHanded {} Try.checked os 4 .any (Rows.labelsNewSpec.pre6 enc Try.prog Try.f4 Rows.labelsNewRow.domain false) (Rows.labelsNewSpec.post enc Try.prog Try.f4 false true false false) := by
  refine returnsInHanded_of_change_sized (C := Try.checked) Try.own started (by kernel_rfl) Try.func4
    (ChangeSpec.witness6 (enc := enc) (C := Try.checked) false ⟨#[], #[.slice none 0 0], []⟩ 8 (by kernel_rfl) (by kernel_rfl) (by kernel_rfl) (by kernel_rfl)) ?_
  intro W base args ds gs before hval0 hW _ hsz0 _
  have hsz : (DataW.weightsEach Try.prog (Try.f4.params.toList ++ Rows.labelsNewSpec.plain.varTypes Try.prog) (ds ++ gs)).all (· ≤ reachBytes) = true := hsz0
  clear hsz0
  have hval : ∀ (j : Nat) t v, Try.f4.params[j]? = some t → args[j]? = some v → Value.okWide Try.prog W .any base t v := hval0
  have hW' := hW
  obtain ⟨p, q, hA0, hV, rfl, _, _⟩ := hW
  have hA : DataW.TrodAll enc Try.prog W 0 (fun _ => true) true Try.f4.params.toList args.toList ds p := hA0
  rw [Try.params4] at hA hval hsz
  obtain ⟨v0, vs0, d0, ds0, p0, q0, hargs, rfl, rfl, h0, r0⟩ := trodAll_cons hA
  obtain ⟨rfl, rfl, rfl⟩ := trodAll_nil r0
  obtain rfl : args = #[v0] := by cases args; simp_all
  obtain ⟨rfl, rfl⟩ := trodVars_none hV
  obtain ⟨zs0, hI0⟩ := open_ints5 (hval 0 30 v0 rfl rfl) h0 (fun x hx => by simpa using hW'.lt x (by simp [hx])) hsz (j := 0) rfl rfl
  clear hA0 hval0
  have hwalk := new_walk v0 zs0 W hI0
  refine hwalk.mono fun e W' ⟨he, hB⟩ => ?_
  subst he
  exact ⟨_, rfl, law_post (by kernel_rfl) (by kernel_rfl) rfl hW' rfl hB⟩

theorem new_holds : Rows.LabelsNewSaid :=
  OpenClaim.holds_of_wide 4 Try.f4 rfl rfl rfl rfl rfl rfl rfl ⟨rfl, rfl, rfl, rfl, rfl⟩ rfl rfl rfl rfl rfl (by kernel_rfl) Try.func4 (by kernel_rfl)
    (of_decide_eq_true (by kernel_rfl)) (by unfold Func.isWrapper; first | (rw [if_pos (by decide +kernel)]; kernel_rfl) | (rw [if_neg (by decide +kernel)]; exact ⟨rfl, rfl⟩))
    (fun os started H enc _ => new_lifted os started H enc)
#print axioms new_holds
end Go.Proofs.Ytmgjbbkccgncgaa
