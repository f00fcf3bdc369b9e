/- Statement HashArguments: hashing leaves its arguments, and repeats. Conditions: none. -/
import Derived.Test.YtialohbnhiechaaOwn
namespace Go.Proofs.Ytialohbnhiechaa
open Go.ChangeShapes Go.WideShapes Go.ChangeAt Go.RowKit

theorem samebytes_row (a a' : Option Addr) (cap cap' : Nat) (xs : List UInt8) (w : World) (hx : xs.length ≤ 17592186044404) (hX : RowAt .u8 w.heap.size w (.slice a xs.length cap) (xs.map ofByte)) (hY : RowAt .u8 w.heap.size w (.slice a' xs.length cap') (xs.map ofByte)) :
    Calls Try.prog 22 #[.slice a xs.length cap, .slice a' xs.length cap'] w fun e w' => e = .returned (.bool true) ∧ Below w.heap.size w w' := by
  have h := samebytes_any a a' cap cap' (xs.map ofByte) (xs.map ofByte) w (by rw [List.length_map]; exact hx) (by rw [List.length_map]; exact hX) (by rw [List.length_map]; exact hY)
  rw [List.length_map, sameL_self] at h
  exact h

set_option maxRecDepth 100000 in
set_option maxHeartbeats 2000000 in
theorem argslaw_walk (a : Option Addr) (cap : Nat) (zs : List Int) (b : Option Addr) (cap' : Nat) (bs : List UInt8) (w : World) (hz : zs.length ≤ 140737488351232) (_ : ∀ z ∈ zs, (Lit.int .i64 z).wf = true) (hI : InAt .i64 w.heap.size w (.slice a zs.length cap) zs) (hb : bs.length ≤ 140737488351232) (hJ : InAt .u8 w.heap.size w (.slice b bs.length cap') (bs.map ofByte)) :
    Calls Try.prog 10 #[.slice a zs.length cap, .slice b bs.length cap'] w fun e w' => e = .returned (.bool true) ∧ Below w.heap.size w w' := by
  go_enter Try.func10, Try.ntmps10
  go_wp2_with fail
  refine (ints_row a cap zs 10 w hz (by omega) (by omega) hI).mono ?_
  rintro e w1 ⟨a1, c1, rfl, hr1, hB1⟩
  have hle : (zs.take (10 : Int).toNat).length ≤ 10 := List.length_take_le _ _
  obtain ⟨ys, hys⟩ : ∃ ys, zs.take (10 : Int).toNat = ys := ⟨_, rfl⟩
  rw [hys] at hr1 hle
  rw [hys]
  have Hys := Lib.hid hys
  clear hys
  go_wp2_with fail
  refine (few_row b cap' bs 30 w1 hb (by omega) (by omega) (hJ.below hB1)).mono ?_
  rintro e w2 ⟨a2, c2, rfl, hr2, hB⟩
  have hle2 : (bs.take (30 : Int).toNat).length ≤ 30 := List.length_take_le _ _
  obtain ⟨cs, hcs⟩ : ∃ cs, bs.take (30 : Int).toNat = cs := ⟨_, rfl⟩
  rw [hcs] at hr2 hle2
  rw [hcs]
  have Hcs := Lib.hid hcs
  clear hcs
  have hB2 := below_then hB1 hB
  replace hr1 := hr1.below hB
  clear hB hB1
  go_wp2_with fail
  refine (sum_any ⟨#[115, 97, 109, 101]⟩ ys a1 c1 w2 (by decide) (by omega) hr1.at).mono ?_
  rintro e w3 ⟨rfl, hB⟩
  have hB3 := below_then hB2 hB
  replace hr1 := hr1.below hB
  replace hr2 := hr2.below hB
  clear hB hB2
  go_wp2_with fail
  refine (bytes_any ⟨#[115, 97, 109, 101]⟩ cs a2 c2 w3 (by decide) (by omega) (bytesAt_of_row hr2.at)).mono ?_
  rintro e w4 ⟨rfl, hB⟩
  have hB4 := below_then hB3 hB
  replace hr1 := hr1.below hB
  replace hr2 := hr2.below hB
  clear hB hB3
  go_wp2_with fail
  refine (ints_row a cap zs 10 w4 hz (by omega) (by omega) (hI.below hB4)).mono ?_
  rintro e w5 ⟨a3, c3, rfl, hr3, hB⟩
  rw [Hys.out] at hr3
  rw [Hys.out]
  have hB5 := below_then hB4 hB
  replace hr1 := hr1.below hB
  replace hr2 := hr2.below hB
  clear hB hB4
  go_wp2_with fail
  have hsi := sameints_any a1 a3 c1 c3 ys ys w5 (by omega) hr1.at hr3.at
  rw [sameL_self] at hsi
  refine hsi.mono ?_
  rintro e w6 ⟨rfl, hB⟩
  have hB6 := below_then hB5 hB
  replace hr1 := hr1.below hB
  replace hr2 := hr2.below hB
  clear hB hB5 hsi hr3
  go_wp2_with fail
  refine (few_row b cap' bs 30 w6 hb (by omega) (by omega) (hJ.below hB6)).mono ?_
  rintro e w7 ⟨a4, c4, rfl, hr4, hB⟩
  rw [Hcs.out] at hr4
  rw [Hcs.out]
  have hB7 := below_then hB6 hB
  replace hr1 := hr1.below hB
  replace hr2 := hr2.below hB
  clear hB hB6
  go_wp2_with fail
  refine (samebytes_row a2 a4 c2 c4 cs w7 (by omega) hr2.at hr4.at).mono ?_
  rintro e w8 ⟨rfl, hB⟩
  have hB8 := below_then hB7 hB
  replace hr1 := hr1.below hB
  replace hr2 := hr2.below hB
  clear hB hB7 hr4
  go_wp2_with fail
  refine (sum_any ⟨#[115, 97, 109, 101]⟩ ys a1 c1 w8 (by decide) (by omega) hr1.at).mono ?_
  rintro e w9 ⟨rfl, hB⟩
  have hB9 := below_then hB8 hB
  replace hr2 := hr2.below hB
  clear hB hB8 hr1
  have h1 : (sumI [115, 97, 109, 101] ys == sumI [115, 97, 109, 101] ys) = true := beq_self_eq_true _
  go_wp2_with fail
  clear h1
  refine (bytes_any ⟨#[115, 97, 109, 101]⟩ cs a2 c2 w9 (by decide) (by omega) (bytesAt_of_row hr2.at)).mono ?_
  rintro e w10 ⟨rfl, hB⟩
  have hB10 := below_then hB9 hB
  clear hB hB9 hr2
  have h1 : (bytesI [115, 97, 109, 101] cs == bytesI [115, 97, 109, 101] cs) = true := beq_self_eq_true _
  go_wp2_with fail
  clear h1
  refine (lives_any _).mono ?_
  rintro e w11 ⟨rfl, hB⟩
  have hB11 := below_then hB10 hB
  clear hB hB10
  go_wp2
  go_ret
  exact ⟨rfl, hB11⟩

set_option maxRecDepth 100000 in
theorem argslaw_lifted (os : Os) (started : os.Started) (H : Type) (enc : TypeId × Value → H) :
    ReturnsInHanded {} Try.checked os 10 .any (Rows.hashArgumentsSpec.pre6 enc Try.prog Try.f10 Rows.hashArgumentsRow.domain false) (Rows.hashArgumentsSpec.post enc Try.prog Try.f10 false true false false) := by
  refine returnsInHanded_of_change_sized (C := Try.checked) Try.own started (by kernel_rfl) Try.func10
    (ChangeSpec.witness6 (enc := enc) (C := Try.checked) false ⟨#[], #[.slice none 0 0, .slice none 0 0], []⟩ 8 (by kernel_rfl) (by kernel_rfl) (by kernel_rfl) (by kernel_rfl)) ?_
  intro W base args ds gs before hval0 hW _ hsz0 _
  have hsz : (DataW.weightsEach Try.prog (Try.f10.params.toList ++ Rows.hashArgumentsSpec.plain.varTypes Try.prog) (ds ++ gs)).all (· ≤ reachBytes) = true := hsz0
  clear hsz0
  have hval : ∀ (j : Nat) t v, Try.f10.params[j]? = some t → args[j]? = some v → Value.okWide Try.prog W .any base t v := hval0
  have hW' := hW
  obtain ⟨p, q, hA0, hV, rfl, _, _⟩ := hW
  have hA : DataW.TrodAll enc Try.prog W 0 (fun _ => true) true Try.f10.params.toList args.toList ds p := hA0
  rw [Try.params10] at hA hval hsz
  obtain ⟨v0, vs0, d0, ds0, p0, q0, hargs, rfl, rfl, h0, r0⟩ := trodAll_cons hA
  obtain ⟨v1, vs1, d1, ds1, p1, q1, rfl, rfl, rfl, h1, r1⟩ := trodAll_cons r0
  obtain ⟨rfl, rfl, rfl⟩ := trodAll_nil r1
  obtain rfl : args = #[v0, v1] := by cases args; simp_all
  obtain ⟨rfl, rfl⟩ := trodVars_none hV
  obtain ⟨a0, c0, zs0, rfl, hI0, hw0, hz0⟩ := open_row Try.underlying22 Try.underlying3 Try.cellsInt Try.bytesInt (hval 0 22 v0 rfl rfl) h0 (fun x hx => by simpa using hW'.lt x (by simp [hx])) hsz (j := 0) rfl rfl
  obtain ⟨a1, c1, zs1, rfl, hI1, hw1, hz1⟩ := open_row Try.underlying30 Try.underlying5 Try.cellsU8 Try.bytesU8 (hval 1 30 v1 rfl rfl) h1 (fun x hx => by simpa using hW'.lt x (by simp [hx])) hsz (j := 1) rfl rfl
  obtain ⟨bs1, rfl⟩ := bytes_of zs1 hw1
  rw [List.length_map] at hI1 hz1
  clear hA0 hval0
  have hwalk := argslaw_walk a0 c0 zs0 a1 c1 bs1 W (by omega) hw0 hI0 (by omega) hI1
  try rw [List.length_map] at hW'
  try rw [List.length_map]
  refine hwalk.mono fun e W' ⟨he, hB⟩ => ?_
  subst he
  exact ⟨_, rfl, law_post (by kernel_rfl) (by kernel_rfl) rfl hW' rfl hB⟩

theorem argslaw_holds : Rows.HashArgumentsSaid :=
  OpenClaim.holds_of_wide 10 Try.f10 rfl rfl rfl rfl rfl rfl rfl ⟨rfl, rfl, rfl, rfl, rfl⟩ rfl rfl rfl rfl rfl (by kernel_rfl) Try.func10 (by kernel_rfl)
    (of_decide_eq_true (by kernel_rfl)) (by unfold Func.isWrapper; first | (rw [if_pos (by decide +kernel)]; kernel_rfl) | (rw [if_neg (by decide +kernel)]; exact ⟨rfl, rfl⟩))
    (fun os started H enc _ => argslaw_lifted os started H enc)
#print axioms argslaw_holds
end Go.Proofs.Ytialohbnhiechaa
