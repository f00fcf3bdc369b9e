/- Statement HashBytes: Bytes of any label and bytes, and Pair of any hashes, are what the reference model gives. Conditions: none. -/
import Derived.Test.YtialohbnhiechaaOwn
namespace Go.Proofs.Ytialohbnhiechaa
open Go.ChangeShapes Go.WideShapes Go.ChangeAt Go.RowKit

set_option maxRecDepth 100000 in
set_option maxHeartbeats 2000000 in
theorem byteslaw_walk (s : ByteArray) (a : Option Addr) (cap : Nat) (bs : List UInt8) (x y : Int) (w : World) (hs : s.size ≤ 140737488351232) (hb : bs.length ≤ 140737488351232) (hI : InAt .u8 w.heap.size w (.slice a bs.length cap) (bs.map ofByte)) (_ : (Lit.int .u64 x).wf = true) (_ : (Lit.int .u64 y).wf = true) :
    Calls Try.prog 4 #[.string s, .slice a bs.length cap, .int .u64 x, .int .u64 y] w fun e w' => e = .returned (.bool true) ∧ Below w.heap.size w w' := by
  go_enter Try.func4, Try.ntmps4
  go_wp2_with fail
  refine (short_any s 20 w hs (by omega) (by omega)).mono ?_
  rintro e w' ⟨⟨s', rfl, hs'⟩, rfl⟩
  go_wp2_with fail
  refine (few_row a cap bs 60 w hb (by omega) (by omega) hI).mono ?_
  rintro e w1 ⟨a', cap', rfl, hrow, hB1⟩
  have hr := bytesAt_of_row hrow.at
  have hle : (bs.take (60 : Int).toNat).length ≤ 60 := List.length_take_le _ _
  obtain ⟨ys, hys⟩ : ∃ ys, bs.take (60 : Int).toNat = ys := ⟨_, rfl⟩
  rw [hys] at hr hle
  rw [hys]
  clear hys hrow hI
  go_wp2_with fail
  refine (bytes_any s' ys a' cap' w1 (by omega) (by omega) hr).mono ?_
  rintro e w2 ⟨rfl, hB⟩
  have hB2 := below_then hB1 hB
  have hr2 := (hr.below hB).mono hB.size
  clear hB hB1 hr
  go_wp2_with fail
  refine (refbytes_any s' ys a' cap' w2 (by omega) (by omega) hr2).mono ?_
  rintro e w3 ⟨rfl, hB⟩
  have hB3 := below_then hB2 hB
  clear hB hB2 hr2
  have h1 : (bytesI s'.data.toList ys == bytesI s'.data.toList ys) = true := beq_self_eq_true _
  go_wp2_with fail
  clear h1
  refine (pair_any x y w3).mono ?_
  rintro e w4 ⟨rfl, hB⟩
  have hB4 := below_then hB3 hB
  clear hB hB3
  go_wp2_with fail
  refine (refpair_any x y w4).mono ?_
  rintro e w5 ⟨rfl, hB⟩
  have hB5 := below_then hB4 hB
  clear hB hB4
  have h2 : (pairI x y == pairI x y) = true := beq_self_eq_true _
  go_wp2_with fail
  clear h2
  refine (lives_any _).mono ?_
  rintro e w6 ⟨rfl, hB⟩
  have hB6 := below_then hB5 hB
  clear hB hB5
  go_wp2
  go_ret
  exact ⟨rfl, hB6⟩

set_option maxRecDepth 100000 in
theorem byteslaw_lifted (os : Os) (started : os.Started) (H : Type) (enc : TypeId × Value → H) :
    ReturnsInHanded {} Try.checked os 4 .any (Rows.hashBytesSpec.pre6 enc Try.prog Try.f4 Rows.hashBytesRow.domain false) (Rows.hashBytesSpec.post enc Try.prog Try.f4 false true false false) := by
  refine returnsInHanded_of_change_sized (C := Try.checked) Try.own started (by kernel_rfl) Try.func4
    (ChangeSpec.witness6 (enc := enc) (C := Try.checked) false ⟨#[], #[.string ⟨#[]⟩, .slice none 0 0, .int .u64 0, .int .u64 0], []⟩ 8 (by kernel_rfl) (by kernel_rfl) (by kernel_rfl) (by kernel_rfl)) ?_
  intro W base args ds gs before hval0 hW _ hsz0 _
  have hsz : (DataW.weightsEach Try.prog (Try.f4.params.toList ++ Rows.hashBytesSpec.plain.varTypes Try.prog) (ds ++ gs)).all (· ≤ reachBytes) = true := hsz0
  clear hsz0
  have hval : ∀ (j : Nat) t v, Try.f4.params[j]? = some t → args[j]? = some v → Value.okWide Try.prog W .any base t v := hval0
  have hW' := hW
  obtain ⟨p, q, hA0, hV, rfl, _, _⟩ := hW
  have hA : DataW.TrodAll enc Try.prog W 0 (fun _ => true) true Try.f4.params.toList args.toList ds p := hA0
  rw [Try.params4] at hA hval hsz
  obtain ⟨v0, vs0, d0, ds0, p0, q0, hargs, rfl, rfl, h0, r0⟩ := trodAll_cons hA
  obtain ⟨v1, vs1, d1, ds1, p1, q1, rfl, rfl, rfl, h1, r1⟩ := trodAll_cons r0
  obtain ⟨v2, vs2, d2, ds2, p2, q2, rfl, rfl, rfl, h2, r2⟩ := trodAll_cons r1
  obtain ⟨v3, vs3, d3, ds3, p3, q3, rfl, rfl, rfl, h3, r3⟩ := trodAll_cons r2
  obtain ⟨rfl, rfl, rfl⟩ := trodAll_nil r3
  obtain rfl : args = #[v0, v1, v2, v3] := by cases args; simp_all
  obtain ⟨rfl, rfl⟩ := trodVars_none hV
  obtain ⟨s0, rfl, rfl, rfl, _⟩ := Go.ChangeMaps.open_string Try.underlying9 (hval 0 9 v0 rfl rfl) h0
  have hs0 : s0.size ≤ 140737488351232 := sized_string hsz (j := 0) (t := 9) rfl rfl
  obtain ⟨a1, c1, zs1, rfl, hI1, hw1, hz1⟩ := open_row Try.underlying30 Try.underlying5 Try.cellsU8 Try.bytesU8 (hval 1 30 v1 rfl rfl) h1 (fun x hx => by simpa using hW'.lt x (by simp [hx])) hsz (j := 1) rfl rfl
  obtain ⟨bs1, rfl⟩ := bytes_of zs1 hw1
  rw [List.length_map] at hI1 hz1
  obtain ⟨a2, rfl, rfl, rfl, w2⟩ := open_int Try.underlying25 (hval 2 25 v2 rfl rfl) h2
  obtain ⟨a3, rfl, rfl, rfl, w3⟩ := open_int Try.underlying25 (hval 3 25 v3 rfl rfl) h3
  clear hA0 hval0
  have hwalk := byteslaw_walk s0 a1 c1 bs1 a2 a3 W hs0 (by omega) hI1 w2 w3
  try rw [List.length_map] at hW'
  try rw [List.length_map]
  refine hwalk.mono fun e W' ⟨he, hB⟩ => ?_
  subst he
  exact ⟨_, rfl, law_post (by kernel_rfl) (by kernel_rfl) rfl hW' rfl hB⟩

theorem byteslaw_holds : Rows.HashBytesSaid :=
  OpenClaim.holds_of_wide 4 Try.f4 rfl rfl rfl rfl rfl rfl rfl ⟨rfl, rfl, rfl, rfl, rfl⟩ rfl rfl rfl rfl rfl (by kernel_rfl) Try.func4 (by kernel_rfl)
    (of_decide_eq_true (by kernel_rfl)) (by unfold Func.isWrapper; first | (rw [if_pos (by decide +kernel)]; kernel_rfl) | (rw [if_neg (by decide +kernel)]; exact ⟨rfl, rfl⟩))
    (fun os started H enc _ => byteslaw_lifted os started H enc)
#print axioms byteslaw_holds
end Go.Proofs.Ytialohbnhiechaa
