/- Statement HashPairs: Pair is injective in each argument, and is the sum of its two words. Conditions: none. -/
import Derived.Test.YtialohbnhiechaaOpen
import Derived.Test.YtialohbnhiechaaInj
namespace Go.Proofs.Ytialohbnhiechaa
open Go.ChangeShapes Go.WideShapes Go.ChangeAt Go.RowKit

theorem pairs_b1 {a b c : Int} (ha : InU a) (hb : InU b) : ((pairI a c == pairI b c) == (a == b)) = true := by
  by_cases h : a = b
  · subst h; simp
  · have h1 : pairI a c ≠ pairI b c := fun e => h (pair_left ha hb e)
    have e1 : (pairI a c == pairI b c) = false := beq_eq_false_iff_ne.2 h1
    have e2 : (a == b) = false := beq_eq_false_iff_ne.2 h
    rw [e1, e2]; rfl
theorem pairs_b2 {a b c : Int} (ha : InU a) (hb : InU b) : ((pairI c a == pairI c b) == (a == b)) = true := by
  by_cases h : a = b
  · subst h; simp
  · have h1 : pairI c a ≠ pairI c b := fun e => h (pair_right ha hb e)
    have e1 : (pairI c a == pairI c b) = false := beq_eq_false_iff_ne.2 h1
    have e2 : (a == b) = false := beq_eq_false_iff_ne.2 h
    rw [e1, e2]; rfl

set_option maxRecDepth 100000 in
set_option maxHeartbeats 2000000 in
theorem pairs_walk (a b c : Int) (ha : InU a) (hb : InU b) (w : World) :
    Calls Try.prog 9 #[.int .u64 a, .int .u64 b, .int .u64 c] w fun e w' => e = .returned (.bool true) ∧ Below w.heap.size w w' := by
  have H1 := Lib.hid (pairs_b1 (c := c) ha hb)
  have H2 := Lib.hid (pairs_b2 (c := c) ha hb)
  go_enter Try.func9, Try.ntmps9
  go_wp2_with fail
  refine (pair_any a c _).mono ?_
  rintro e w1 ⟨rfl, hB1⟩
  go_wp2_with fail
  refine (pair_any b c _).mono ?_
  rintro e w2 ⟨rfl, hB⟩
  have hB2 := below_then hB1 hB
  clear hB1 hB
  have h1 := H1.out
  go_wp2_with fail
  clear h1
  refine (pair_any c a _).mono ?_
  rintro e w3 ⟨rfl, hB⟩
  have hB3 := below_then hB2 hB
  clear hB hB2
  go_wp2_with fail
  refine (pair_any c b _).mono ?_
  rintro e w4 ⟨rfl, hB⟩
  have hB4 := below_then hB3 hB
  clear hB hB3
  have h2 := H2.out
  go_wp2_with fail
  clear h2
  refine (pair_any a b _).mono ?_
  rintro e w5 ⟨rfl, hB⟩
  have hB5 := below_then hB4 hB
  clear hB hB4
  go_wp2_with fail
  refine (sum_any ⟨#[112, 97, 105, 114]⟩ [wrap64 a, wrap64 b] _ _ _ (by decide) (by simp) (by rw [World.size_alloc]; exact rowAt_new w5 .i64 _ [wrap64 a, wrap64 b])).mono ?_
  rintro e w6 ⟨rfl, hB⟩
  have hB6 := below_new hB5 _ hB
  clear hB hB5
  have h3 : (pairI a b == sumI [112, 97, 105, 114] [wrap64 a, wrap64 b]) = true := beq_self_eq_true _
  go_wp2_with fail
  clear h3
  refine (lives_any _).mono ?_
  rintro e w7 ⟨rfl, hB⟩
  have hB7 := below_then hB6 hB
  clear hB hB6
  go_wp2
  go_ret
  exact ⟨rfl, hB7⟩

theorem in_of_wf {a : Int} (h : (Lit.int .u64 a).wf = true) : InU a := by
  have h1 : IntKind.u64.min = 0 := rfl
  have h2 : IntKind.u64.max = 18446744073709551615 := rfl
  simp only [Lit.wf, Bool.and_eq_true, decide_eq_true_eq] at h
  exact ⟨by omega, by omega⟩

set_option maxRecDepth 100000 in
theorem pairs_lifted (os : Os) (started : os.Started) (H : Type) (enc : TypeId × Value → H) :
    ReturnsInHanded {} Try.checked os 9 .any (Rows.hashPairsSpec.pre6 enc Try.prog Try.f9 Rows.hashPairsRow.domain false) (Rows.hashPairsSpec.post enc Try.prog Try.f9 false true false false) := by
  refine returnsInHanded_of_change (C := Try.checked) Try.own started (by kernel_rfl) Try.func9
    (ChangeSpec.witness6 (enc := enc) (C := Try.checked) false ⟨#[], #[.int .u64 0, .int .u64 0, .int .u64 0], []⟩ 8 (by kernel_rfl) (by kernel_rfl) (by kernel_rfl) (by kernel_rfl)) ?_
  intro W base args ds gs before hval0 hW _ _
  have hval : ∀ (j : Nat) t v, Try.f9.params[j]? = some t → args[j]? = some v → Value.okWide Try.prog W .any base t v := hval0
  have hW' := hW
  obtain ⟨p, q, hA0, hV, rfl, _, _⟩ := hW
  have hA : DataW.TrodAll enc Try.prog W 0 (fun _ => true) true Try.f9.params.toList args.toList ds p := hA0
  rw [Try.params9] at hA hval
  obtain ⟨v0, vs0, d0, ds0, p0, q0, hargs, rfl, rfl, h0, r0⟩ := trodAll_cons hA
  obtain ⟨v1, vs1, d1, ds1, p1, q1, rfl, rfl, rfl, h1, r1⟩ := trodAll_cons r0
  obtain ⟨v2, vs2, d2, ds2, p2, q2, rfl, rfl, rfl, h2, r2⟩ := trodAll_cons r1
  obtain ⟨rfl, rfl, rfl⟩ := trodAll_nil r2
  obtain rfl : args = #[v0, v1, v2] := by cases args; simp_all
  obtain ⟨rfl, rfl⟩ := trodVars_none hV
  obtain ⟨a0, rfl, rfl, rfl, w0⟩ := open_int Try.underlying25 (hval 0 25 v0 rfl rfl) h0
  obtain ⟨a1, rfl, rfl, rfl, w1⟩ := open_int Try.underlying25 (hval 1 25 v1 rfl rfl) h1
  obtain ⟨a2, rfl, rfl, rfl, w2⟩ := open_int Try.underlying25 (hval 2 25 v2 rfl rfl) h2
  clear hA0 hval0
  refine (pairs_walk a0 a1 a2 (in_of_wf w0) (in_of_wf w1) W).mono fun e W' ⟨he, hB⟩ => ?_
  subst he
  exact ⟨_, rfl, law_post (by kernel_rfl) (by kernel_rfl) rfl hW' rfl hB⟩

theorem pairs_holds : Rows.HashPairsSaid :=
  OpenClaim.holds_of_wide 9 Try.f9 rfl rfl rfl rfl rfl rfl rfl ⟨rfl, rfl, rfl, rfl, rfl⟩ rfl rfl rfl rfl rfl (by kernel_rfl) Try.func9 (by kernel_rfl)
    (of_decide_eq_true (by kernel_rfl)) (by unfold Func.isWrapper; first | (rw [if_pos (by decide +kernel)]; kernel_rfl) | (rw [if_neg (by decide +kernel)]; exact ⟨rfl, rfl⟩))
    (fun os started H enc _ => pairs_lifted os started H enc)
#print axioms pairs_holds
end Go.Proofs.Ytialohbnhiechaa
