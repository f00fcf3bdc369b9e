/- Statement LabelsNames: Name, Value and ValidMatcher are what the reference model gives, for every string and matcher. Conditions: none. -/
import Derived.Deep.RegionHeld3
import Derived.Test.YtmgjbbkccgncgaaLOpen
namespace Go.Proofs.Ytmgjbbkccgncgaa
open Go.ChangeShapes Go.WideShapes Go.ChangeAt Go.RowKit

/-- A contract at any later world. -/
theorem later {P : Program} {f : Nat} {args : Array Value} {x : Value} {w0 W : World} (hW : Below w0.heap.size w0 W) (h : Calls P f args W fun e w' => e = .returned x ∧ Below W.heap.size W w') : Calls P f args W fun e w' => e = .returned x ∧ Below w0.heap.size w0 w' :=
  h.mono fun _ _ ⟨he, hb⟩ => ⟨he, below_st hW hb⟩

set_option maxRecDepth 100000 in
set_option maxHeartbeats 8000000 in
theorem names_walk (a b : ByteArray) (kind : Int) (w : World) (ha : a.size ≤ 140737488351232) (hb : b.size ≤ 140737488351232) (hk : (Lit.int .i64 kind).wf = true) :
    Calls Try.prog 3 #[.string a, .string b, .int .i64 kind] w fun e w' => e = .returned (.bool true) ∧ Below w.heap.size w w' := by
  obtain ⟨k0, k1⟩ := wf64 hk
  clear hk
  go_enter Try.func3, Try.ntmps3
  go_wp2_with fail
  refine (short_any a 20 w ha (by omega) (by omega)).mono ?_
  rintro e w' ⟨⟨s, rfl, hs⟩, rfl⟩
  go_wp2_with fail
  refine (short_any b 20 w hb (by omega) (by omega)).mono ?_
  rintro e w' ⟨⟨v, rfl, hv⟩, rfl⟩
  have hA := Blk.new w 24 #[.string s, .int .i64 kind, .string v]
  have hW : Below w.heap.size w (w.alloc (.cells #[.string s, .int .i64 kind, .string v] 24)) := (Below.refl _ w).alloc (Nat.le_refl _) _
  have HA := Lib.hid hA
  have HW := Lib.hid hW
  clear hA hW
  go_wp2_with fail
  refine (around_any kind 4 _ k0 k1 (by omega) (by omega)).mono ?_
  rintro e w' ⟨rfl, rfl⟩
  obtain ⟨q, hq⟩ : ∃ q, aroundI kind 4 = q := ⟨_, rfl⟩
  rw [hq]
  clear hq
  have hA2 := HA.out.alloc (.cells #[.string ⟨#[97]⟩, .int .i64 q, .string v] 24)
  have hC := Blk.new (w.alloc (.cells #[.string s, .int .i64 kind, .string v] 24)) 24 #[.string ⟨#[97]⟩, .int .i64 q, .string v]
  have hW2 := HW.out.alloc HW.out.size (.cells #[.string ⟨#[97]⟩, .int .i64 q, .string v] 24)
  rw [World.size_alloc] at hC
  have HA2 := Lib.hid hA2
  have HC := Lib.hid hC
  have HW2 := Lib.hid hW2
  clear hA2 hC hW2
  go_wp2_with fail
  obtain ⟨w0, hw0⟩ : ∃ w0 : World, (w.alloc (.cells #[.string s, .int .i64 kind, .string v] 24)).alloc (.cells #[.string ⟨#[97]⟩, .int .i64 q, .string v] 24) = w0 := ⟨_, rfl⟩
  rw [hw0] at HA2 HC HW2 ⊢
  clear hw0 HA HW
  have keep : ∀ W : World, Below w0.heap.size w0 W → W.cell? ⟨w.heap.size, 0, none⟩ = some (.string s) ∧ W.cell? ⟨w.heap.size, 1, none⟩ = some (.int .i64 kind) ∧ W.cell? ⟨w.heap.size, 2, none⟩ = some (.string v) ∧ W.cell? ⟨w.heap.size + 1, 0, none⟩ = some (.string ⟨#[97]⟩) ∧ W.cell? ⟨w.heap.size + 1, 1, none⟩ = some (.int .i64 q) ∧ W.cell? ⟨w.heap.size + 1, 2, none⟩ = some (.string v) := fun W hB =>
    ⟨(HA2.out.below hB HA2.out.lt).cell 0, (HA2.out.below hB HA2.out.lt).cell 1, (HA2.out.below hB HA2.out.lt).cell 2, (HC.out.below hB HC.out.lt).cell 0, (HC.out.below hB HC.out.lt).cell 1, (HC.out.below hB HC.out.lt).cell 2⟩
  have zs : s.size ≤ 140737488351232 := by omega
  have zv : v.size ≤ 140737488351232 := by omega
  have N1 := Lib.hid (fun (W : World) (hB : Below w0.heap.size w0 W) => later hB (name_any s W zs))
  have N2 := Lib.hid (fun (W : World) (hB : Below w0.heap.size w0 W) => later hB (refname_any s W zs))
  have V1 := Lib.hid (fun (W : World) (hB : Below w0.heap.size w0 W) => later hB (value_any v W zv))
  have V2 := Lib.hid (fun (W : World) (hB : Below w0.heap.size w0 W) => later hB (refvalue_any v W zv))
  have M1 := Lib.hid (fun (n : ByteArray) (x : Int) (hn : n.size ≤ 140737488351232) (W : World) (hB : Below w0.heap.size w0 W) => later hB (vm_any n v x W hn zv))
  have M2 := Lib.hid (fun (n : ByteArray) (x : Int) (hn : n.size ≤ 140737488351232) (W : World) (hB : Below w0.heap.size w0 W) => later hB (refvm_any n v x W hn zv))
  have LV := Lib.hid (fun (W : World) (hB : Below w0.heap.size w0 W) => later hB (lives_any W))
  have z97 : (⟨#[97]⟩ : ByteArray).size ≤ 140737488351232 := by decide
  have h00 := Below.refl w0.heap.size w0
  have h0d : Below w0.heap.size w0 w0.drew := h00.drew
  obtain ⟨c0, c1, c2, c3, c4, c5⟩ := keep w0 h00
  have Keep := Lib.hid keep
  clear keep HA2 HC
  go_region_held3 (fun W => W.cell? ⟨w.heap.size, 0, none⟩ = some (.string s) ∧ W.cell? ⟨w.heap.size, 1, none⟩ = some (.int .i64 kind) ∧ W.cell? ⟨w.heap.size, 2, none⟩ = some (.string v) ∧ W.cell? ⟨w.heap.size + 1, 0, none⟩ = some (.string ⟨#[97]⟩) ∧ W.cell? ⟨w.heap.size + 1, 1, none⟩ = some (.int .i64 q) ∧ W.cell? ⟨w.heap.size + 1, 2, none⟩ = some (.string v)) (exact Keep.out _ (by with_reducible assumption))
    (first | (go_at_call 12; (with_reducible refine (N1.out _ (by with_reducible assumption)).mono ?_); rintro e w' ⟨rfl, hb⟩; obtain ⟨c0, c1, c2, c3, c4, c5⟩ := Keep.out _ hb) |
      (go_at_call 13; (with_reducible refine (N2.out _ (by with_reducible assumption)).mono ?_); rintro e w' ⟨rfl, hb⟩; obtain ⟨c0, c1, c2, c3, c4, c5⟩ := Keep.out _ hb) |
      (go_at_call 14; (with_reducible refine (V1.out _ (by with_reducible assumption)).mono ?_); rintro e w' ⟨rfl, hb⟩; obtain ⟨c0, c1, c2, c3, c4, c5⟩ := Keep.out _ hb) |
      (go_at_call 15; (with_reducible refine (V2.out _ (by with_reducible assumption)).mono ?_); rintro e w' ⟨rfl, hb⟩; obtain ⟨c0, c1, c2, c3, c4, c5⟩ := Keep.out _ hb) |
      (go_at_call 16; (with_reducible refine (M1.out _ _ (by with_reducible assumption) _ (by with_reducible assumption)).mono ?_); rintro e w' ⟨rfl, hb⟩; obtain ⟨c0, c1, c2, c3, c4, c5⟩ := Keep.out _ hb) |
      (go_at_call 17; (with_reducible refine (M2.out _ _ (by with_reducible assumption) _ (by with_reducible assumption)).mono ?_); rintro e w' ⟨rfl, hb⟩; obtain ⟨c0, c1, c2, c3, c4, c5⟩ := Keep.out _ hb) |
      (go_at_call 18; (with_reducible refine (LV.out _ (by with_reducible assumption)).mono ?_); rintro e w' ⟨rfl, hb⟩; obtain ⟨c0, c1, c2, c3, c4, c5⟩ := Keep.out _ hb))
  all_goals
    go_wp2
    go_ret
    exact ⟨rfl, below_st HW2.out (by with_reducible assumption)⟩

set_option maxRecDepth 100000 in
theorem names_lifted (os : Os) (started : os.Started) (H : Type) (enc : TypeId × Value → H) :
    ReturnsInHanded {} Try.checked os 3 .any (Rows.labelsNamesSpec.pre6 enc Try.prog Try.f3 Rows.labelsNamesRow.domain false) (Rows.labelsNamesSpec.post enc Try.prog Try.f3 false true false false) := by
  refine returnsInHanded_of_change_sized (C := Try.checked) Try.own started (by kernel_rfl) Try.func3
    (ChangeSpec.witness6 (enc := enc) (C := Try.checked) false ⟨#[], #[.string ⟨#[]⟩, .string ⟨#[]⟩, .int .i64 0], []⟩ 8 (by kernel_rfl) (by kernel_rfl) (by kernel_rfl) (by kernel_rfl)) ?_
  intro W base args ds gs before hval0 hW _ hsz0 _
  have hsz : (DataW.weightsEach Try.prog (Try.f3.params.toList ++ Rows.labelsNamesSpec.plain.varTypes Try.prog) (ds ++ gs)).all (· ≤ reachBytes) = true := hsz0
  clear hsz0
  have hval : ∀ (j : Nat) t v, Try.f3.params[j]? = some t → args[j]? = some v → Value.okWide Try.prog W .any base t v := hval0
  have hW' := hW
  obtain ⟨p, q, hA0, hV, rfl, _, _⟩ := hW
  have hA : DataW.TrodAll enc Try.prog W 0 (fun _ => true) true Try.f3.params.toList args.toList ds p := hA0
  rw [Try.params3] at hA hval hsz
  obtain ⟨v0, vs0, d0, ds0, p0, q0, hargs, rfl, rfl, h0, r0⟩ := trodAll_cons hA
  obtain ⟨v1, vs1, d1, ds1, p1, q1, rfl, rfl, rfl, h1, r1⟩ := trodAll_cons r0
  obtain ⟨v2, vs2, d2, ds2, p2, q2, rfl, rfl, rfl, h2, r2⟩ := trodAll_cons r1
  obtain ⟨rfl, rfl, rfl⟩ := trodAll_nil r2
  obtain rfl : args = #[v0, v1, v2] := by cases args; simp_all
  obtain ⟨rfl, rfl⟩ := trodVars_none hV
  obtain ⟨s0, rfl, rfl, rfl, _⟩ := Go.ChangeMaps.open_string Try.underlying9 (hval 0 9 v0 rfl rfl) h0
  have hs0 : s0.size ≤ 140737488351232 := sized_string hsz (j := 0) (t := 9) rfl rfl
  obtain ⟨s1, rfl, rfl, rfl, _⟩ := Go.ChangeMaps.open_string Try.underlying9 (hval 1 9 v1 rfl rfl) h1
  have hs1 : s1.size ≤ 140737488351232 := sized_string hsz (j := 1) (t := 9) rfl rfl
  obtain ⟨a2, rfl, rfl, rfl, w2⟩ := open_int Try.underlying3 (hval 2 3 v2 rfl rfl) h2
  clear hA0 hval0
  have hwalk := names_walk s0 s1 a2 W hs0 hs1 w2
  refine hwalk.mono fun e W' ⟨he, hB⟩ => ?_
  subst he
  exact ⟨_, rfl, law_post (by kernel_rfl) (by kernel_rfl) rfl hW' rfl hB⟩

theorem names_holds : Rows.LabelsNamesSaid :=
  OpenClaim.holds_of_wide 3 Try.f3 rfl rfl rfl rfl rfl rfl rfl ⟨rfl, rfl, rfl, rfl, rfl⟩ rfl rfl rfl rfl rfl (by kernel_rfl) Try.func3 (by kernel_rfl)
    (of_decide_eq_true (by kernel_rfl)) (by unfold Func.isWrapper; first | (rw [if_pos (by decide +kernel)]; kernel_rfl) | (rw [if_neg (by decide +kernel)]; exact ⟨rfl, rfl⟩))
    (fun os started H enc _ => names_lifted os started H enc)
#print axioms names_holds
end Go.Proofs.Ytmgjbbkccgncgaa
