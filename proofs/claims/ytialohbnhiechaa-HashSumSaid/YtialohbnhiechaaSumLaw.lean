/- Statement HashSum: Sum of any label and integers is what the reference model gives. Conditions: none. -/
import Derived.Test.YtialohbnhiechaaOpen
namespace Go.Proofs.Ytialohbnhiechaa
open Go.ChangeShapes Go.WideShapes Go.ChangeAt Go.RowKit

set_option maxRecDepth 100000 in
set_option maxHeartbeats 2000000 in
theorem sumlaw_walk (s : ByteArray) (a : Option Addr) (cap : Nat) (zs : List Int) (w : World) (hs : s.size ≤ 140737488351232) (hz : zs.length ≤ 140737488351232) (hI : InAt .i64 w.heap.size w (.slice a zs.length cap) zs) :
    Calls Try.prog 3 #[.string s, .slice a zs.length cap] w fun e w' => e = .returned (.bool true) ∧ Below w.heap.size w w' := by
  go_enter Try.func3, Try.ntmps3
  go_wp2_with fail
  refine (short_any s 40 w hs (by omega) (by omega)).mono ?_
  rintro e w' ⟨⟨s', rfl, hs'⟩, rfl⟩
  go_wp2_with fail
  refine (ints_in a cap zs 12 w hz (by omega) (by omega) hI).mono ?_
  rintro e w1 ⟨v, rfl, hown, hB1⟩
  have hr := rowAt_of_owns hown
  have hle : (zs.take (12 : Int).toNat).length ≤ 12 := List.length_take_le _ _
  obtain ⟨ys, hys⟩ : ∃ ys, zs.take (12 : Int).toNat = ys := ⟨_, rfl⟩
  rw [hys] at hr hle
  clear hys hown hI
  obtain ⟨a', cap', rfl⟩ := hr.slice
  go_wp2_with fail
  refine (sum_any s' ys a' cap' w1 (by omega) (by omega) hr).mono ?_
  rintro e w2 ⟨rfl, hB⟩
  have hB2 := below_then hB1 hB
  have hr2 := (hr.below hB).mono hB.size
  clear hB hB1 hr
  go_wp2_with fail
  refine (refsum_any s' ys a' cap' w2 (by omega) (by omega) hr2).mono ?_
  rintro e w3 ⟨rfl, hB⟩
  have hB3 := below_then hB2 hB
  clear hB hB2 hr2
  have h1 : (sumI s'.data.toList ys == sumI s'.data.toList ys) = true := beq_self_eq_true _
  go_wp2_with fail
  clear h1
  refine (sum_any s' [] none 0 w3 (by omega) (by simp) (.inl ⟨rfl, rfl⟩)).mono ?_
  rintro e w4 ⟨rfl, hB⟩
  have hB4 := below_then hB3 hB
  clear hB hB3
  go_wp2_with fail
  refine (refsum_any s' [] none 0 w4 (by omega) (by simp) (.inl ⟨rfl, rfl⟩)).mono ?_
  rintro e w5 ⟨rfl, hB⟩
  have hB5 := below_then hB4 hB
  clear hB hB4
  have h2 : (sumI s'.data.toList [] == sumI s'.data.toList []) = true := beq_self_eq_true _
  go_wp2_with fail
  clear h2
  refine (lives_any _).mono ?_
  rintro e w6 ⟨rfl, hB⟩
  have hB6 := below_then hB5 hB
  clear hB hB5
  go_wp2
  go_ret
  exact ⟨rfl, hB6⟩

set_option maxRecDepth 100000 in
theorem sumlaw_lifted (os : Os) (started : os.Started) (H : Type) (enc : TypeId × Value → H) :
    ReturnsInHanded {} Try.checked os 3 .any (Rows.hashSumSpec.pre6 enc Try.prog Try.f3 Rows.hashSumRow.domain false) (Rows.hashSumSpec.post enc Try.prog Try.f3 false true false false) := by
  refine returnsInHanded_of_change_sized (C := Try.checked) Try.own started (by kernel_rfl) Try.func3
    (ChangeSpec.witness6 (enc := enc) (C := Try.checked) false ⟨#[], #[.string ⟨#[]⟩, .slice none 0 0], []⟩ 8 (by kernel_rfl) (by kernel_rfl) (by kernel_rfl) (by kernel_rfl)) ?_
  intro W base args ds gs before hval0 hW _ hsz0 _
  have hsz : (DataW.weightsEach Try.prog (Try.f3.params.toList ++ Rows.hashSumSpec.plain.varTypes Try.prog) (ds ++ gs)).all (· ≤ reachBytes) = true := hsz0
  clear hsz0
  have hval : ∀ (j : Nat) t v, Try.f3.params[j]? = some t → args[j]? = some v → Value.okWide Try.prog W .any base t v := hval0
  have hW' := hW
  obtain ⟨p, q, hA0, hV, rfl, _, _⟩ := hW
  have hA : DataW.TrodAll enc Try.prog W 0 (fun _ => true) true Try.f3.params.toList args.toList ds p := hA0
  rw [Try.params3] at hA hval hsz
  obtain ⟨v0, vs0, d0, ds0, p0, q0, hargs, rfl, rfl, h0, r0⟩ := trodAll_cons hA
  obtain ⟨v1, vs1, d1, ds1, p1, q1, rfl, rfl, rfl, h1, r1⟩ := trodAll_cons r0
  obtain ⟨rfl, rfl, rfl⟩ := trodAll_nil r1
  obtain rfl : args = #[v0, v1] := by cases args; simp_all
  obtain ⟨rfl, rfl⟩ := trodVars_none hV
  obtain ⟨s, rfl, rfl, rfl, _⟩ := Go.ChangeMaps.open_string Try.underlying9 (hval 0 9 v0 rfl rfl) h0
  have hs : s.size ≤ 140737488351232 := sized_string hsz (j := 0) (t := 9) rfl rfl
  obtain ⟨a1, c1, zs, rfl, hI, _, hz⟩ := open_row Try.underlying22 Try.underlying3 Try.cellsInt Try.bytesInt (hval 1 22 v1 rfl rfl) h1 (fun x hx => by simpa using hW'.lt x (by simp [hx])) hsz (j := 1) rfl rfl
  clear hA0 hval0
  refine (sumlaw_walk s a1 c1 zs W hs (by omega) hI).mono fun e W' ⟨he, hB⟩ => ?_
  subst he
  exact ⟨_, rfl, law_post (by kernel_rfl) (by kernel_rfl) rfl hW' rfl hB⟩

theorem sumlaw_holds : Rows.HashSumSaid :=
  OpenClaim.holds_of_wide 3 Try.f3 rfl rfl rfl rfl rfl rfl rfl ⟨rfl, rfl, rfl, rfl, rfl⟩ rfl rfl rfl rfl rfl (by kernel_rfl) Try.func3 (by kernel_rfl)
    (of_decide_eq_true (by kernel_rfl)) (by unfold Func.isWrapper; first | (rw [if_pos (by decide +kernel)]; kernel_rfl) | (rw [if_neg (by decide +kernel)]; exact ⟨rfl, rfl⟩))
    (fun os started H enc _ => sumlaw_lifted os started H enc)
#print axioms sumlaw_holds
end Go.Proofs.Ytialohbnhiechaa
