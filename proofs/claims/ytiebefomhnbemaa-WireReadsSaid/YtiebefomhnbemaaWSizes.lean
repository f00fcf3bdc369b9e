/- Statement WireSizes: a varint has one byte for every 7 bits that are needed, and small signed numbers have one byte. Conditions: none. -/
import Derived.Test.YtiebefomhnbemaaWLives
namespace Go.Proofs.Ytiebefomhnbemaa
open Go.ChangeShapes Go.WideShapes Go.ChangeAt Go.RowKit

set_option maxHeartbeats 400000 in
theorem bound_any (n : Int) (w : World) (h1 : -9223372036854775808 ≤ n) (h2 : n ≤ 9223372036854775807) :
    Calls Try.prog 28 #[.int .i64 n, .int .i64 63] w fun e w' => (∃ m : Int, e = .returned (.int .i64 m) ∧ -63 ≤ m ∧ m ≤ 63) ∧ w = w' := by
  go_enter Try.func28, Try.ntmps28
  go_wp2_with fail
  refine (around_any n 127 w h1 h2 (by omega) (by omega)).mono ?_
  rintro e w' ⟨rfl, rfl⟩
  have hlo := aroundI_lo n 127 (by omega)
  have hhi := aroundI_hi n 127 (by omega)
  obtain ⟨r, hr⟩ : ∃ r, aroundI n 127 = r := ⟨_, rfl⟩
  rw [hr] at hlo hhi ⊢
  clear hr
  go_wp2
  go_ret
  exact ⟨⟨r - 63, rfl, by omega, by omega⟩, rfl⟩

/-- How many bytes a number has beyond those that are counted. -/
def restL (n : Nat) : Nat := if n = 0 then 0 else (uv n).length
theorem restL_zero : restL 0 = 0 := rfl
theorem restL_pos (n : Nat) (h : 0 < n) (h64 : n < 18446744073709551616) : restL n = 1 + restL (n / 128) := by
  unfold restL
  rw [if_neg (by omega)]
  by_cases h1 : n < 128
  · rw [if_pos (by omega), uv_small n h1]; rfl
  · rw [if_neg (by omega), uv_big n (by omega) h64, List.length_cons]; omega
theorem uv_restL (n : Nat) (h64 : n < 18446744073709551616) : (uv n).length = 1 + restL (n / 128) := by
  by_cases h1 : n < 128
  · rw [uv_small n h1, show n / 128 = 0 by omega]; rfl
  · unfold restL
    rw [if_neg (by omega), uv_big n (by omega) h64, List.length_cons]; omega
theorem one_byte (m : Int) (h1 : -64 ≤ m) (h2 : m ≤ 63) : (uv (zz m)).length = 1 := by
  have : zz m < 128 := by
    unfold zz
    by_cases h : m < 0
    · rw [if_pos h]; omega
    · rw [if_neg h]; omega
  rw [uv_small _ this]; rfl
theorem in_of_i64 {a : Int} (h : (Lit.int .i64 a).wf = true) : -9223372036854775808 ≤ a ∧ a ≤ 9223372036854775807 := by
  have h1 : IntKind.i64.min = -9223372036854775808 := rfl
  have h2 : IntKind.i64.max = 9223372036854775807 := rfl
  simp only [Lit.wf, Bool.and_eq_true, decide_eq_true_eq] at h
  exact ⟨by omega, by omega⟩
theorem in_of_u64 {a : Int} (h : (Lit.int .u64 a).wf = true) : 0 ≤ a ∧ a ≤ 18446744073709551615 := by
  have h1 : IntKind.u64.min = 0 := rfl
  have h2 : IntKind.u64.max = 18446744073709551615 := rfl
  simp only [Lit.wf, Bool.and_eq_true, decide_eq_true_eq] at h
  exact ⟨by omega, by omega⟩

theorem shr_nat (u : Int) (r : Nat) (h0 : 0 ≤ u) (h1 : u ≤ 18446744073709551615) : ∃ K : Nat, u / 2 ^ r = (K : Int) ∧ K ≤ 18446744073709551615 := by
  obtain ⟨v, rfl⟩ := Int.eq_ofNat_of_zero_le h0
  refine ⟨v / 2 ^ r, by push_cast; rfl, ?_⟩
  have := Nat.div_le_self v (2 ^ r)
  omega

set_option maxRecDepth 100000 in
set_option maxHeartbeats 4000000 in
theorem sizes_walk (u n sh : Int) (w : World) (hu' : (Lit.int .u64 u).wf = true) (hn' : (Lit.int .i64 n).wf = true) (hs' : (Lit.int .i64 sh).wf = true) :
    Calls Try.prog 8 #[.int .u64 u, .int .i64 n, .int .i64 sh] w fun e w' => e = .returned (.bool true) ∧ Below w.heap.size w w' := by
  have hu := in_of_u64 hu'
  have hn := in_of_i64 hn'
  have hs := in_of_i64 hs'
  clear hu' hn' hs'
  go_enter Try.func8, Try.ntmps8
  go_wp2_with fail
  refine (around_any sh 64 w hs.1 hs.2 (by omega) (by omega)).mono ?_
  rintro e w' ⟨rfl, rfl⟩
  have hlo := aroundI_lo sh 64 (by omega)
  have hhi := aroundI_hi sh 64 (by omega)
  obtain ⟨r, hr⟩ := Int.eq_ofNat_of_zero_le hlo
  rw [hr] at hhi ⊢
  clear hr hlo
  obtain ⟨K, hK, hKu⟩ := shr_nat u r hu.1 hu.2
  go_wp2_with fail
  clear hK
  have hlen := uv_restL K (by omega)
  have Hlen := Lib.hid hlen
  clear hlen
  go_loop [8, 9] (fun s t => ∃ sz rest : Nat, s = .int .i64 sz ∧ t = .int .u64 rest ∧ rest < 18446744073709551616 ∧ sz ≤ 10 ∧ sz + restL rest = (uv K).length) (fun _ t => (intOf t).toNat)
  case atStart => exact ⟨1, K / 128, rfl, by go_num, by omega, by omega, Hlen.out.symm⟩
  case round =>
    obtain ⟨sz, rest, rfl, rfl, hr1, hsz, hl⟩ := hrel
    have hul := uv_length K
    by_cases h0 : 0 < rest
    · have hrp := restL_pos rest h0 hr1
      have hl2 : sz + 1 + restL (rest / 128) = (uv K).length := by omega
      have hsz2 : sz + 1 ≤ 10 := by omega
      have Hl2 := Lib.hid hl2
      clear hl hl2 hrp
      go_wp2
      go_round
      case rel => exact ⟨sz + 1, rest / 128, by go_num, by go_num, by omega, hsz2, Hl2.out⟩
      case measure => simp [intOf]; omega
    · obtain rfl : rest = 0 := by omega
      rw [restL_zero, Nat.add_zero] at hl
      have hw0 := Wr.new w.heap.size w (Nat.le_refl _)
      subst hl
      clear hsz
      go_wp2_with fail
      refine (wuint_any w.heap.size w.heap.size (K : Int) [] _ (by omega) (by omega) (by simp) hw0).mono ?_
      rintro e w1 ⟨rfl, hW1, hB1⟩
      rw [Int.toNat_natCast, List.nil_append] at hW1
      replace hB1 := ((Below.refl _ w).alloc (Nat.le_refl _) _).trans hB1
      have hx0 := Wr.new w1.heap.size w1 (Nat.le_refl _)
      clear hw0
      go_wp2_with fail
      refine (bound_any n _ hn.1 hn.2).mono ?_
      rintro e w' ⟨⟨m, rfl, hm1, hm2⟩, rfl⟩
      go_wp2_with fail
      refine (wint_any w1.heap.size w1.heap.size m [] _ (by omega) (by omega) (by simp) hx0).mono ?_
      rintro e w2 ⟨rfl, hX2, hB2⟩
      replace hB2 := ((Below.refl _ w1).alloc (Nat.le_refl _) _).trans hB2
      rw [List.nil_append] at hX2
      have hl1 := one_byte m (by omega) (by omega)
      have hl2 := one_byte (-m) (by omega) (by omega)
      clear hx0
      go_wp2_with fail
      refine (wint_any w1.heap.size w1.heap.size (-m) _ w2 (by omega) (by omega) (by omega) hX2).mono ?_
      rintro e w3 ⟨rfl, hX3, hB3⟩
      replace hB2 := hB2.trans hB3
      clear hX2 hB3
      go_wp2_with fail
      refine (wbool_any w1.heap.size w1.heap.size _ _ w3 (by rw [List.length_append]; omega) hX3).mono ?_
      rintro e w4 ⟨rfl, hX4, hB3⟩
      replace hB2 := hB2.trans hB3
      obtain ⟨X, hX⟩ : ∃ X, uv (zz m) ++ uv (zz (-m)) ++ boolB (decide (0 < m)) = X := ⟨_, rfl⟩
      have hXl : X.length = 3 := by rw [← hX, List.length_append, List.length_append, hl1, hl2]; rfl
      rw [hX] at hX4
      have hW4 := hW1.below hB2
      replace hB1 := below_then hB1 hB2
      clear hX hX3 hl1 hl2 hB2 hB3 hW1
      go_wp2_with fail
      refine (wdone_any _ _ _ w4 (by omega) hW4).mono ?_
      rintro e w5 ⟨v, rfl, hv, hB5⟩
      obtain ⟨a, c, rfl⟩ := hv.slice
      have hX5 := hX4.below hB5
      replace hB1 := below_then hB1 hB5
      clear hv hX4 hB5 hW4
      go_wp2_with fail
      refine (wdone_any _ _ _ w5 (by omega) hX5).mono ?_
      rintro e w6 ⟨v, rfl, hv, hB6⟩
      obtain ⟨a2, c2, rfl⟩ := hv.slice
      replace hB1 := below_then hB1 hB6
      clear hv hX5 hB6
      go_wp2_with fail
      refine (lives_any w6).mono ?_
      rintro e w7 ⟨rfl, hB7⟩
      go_wp2
      go_ret
      exact ⟨rfl, below_then hB1 hB7⟩

set_option maxRecDepth 100000 in
theorem sizes_lifted (os : Os) (started : os.Started) (H : Type) (enc : TypeId × Value → H) :
    ReturnsInHanded {} Try.checked os 8 .any (Rows.wireSizesSpec.pre6 enc Try.prog Try.f8 Rows.wireSizesRow.domain false) (Rows.wireSizesSpec.post enc Try.prog Try.f8 false true false false) := by
  refine returnsInHanded_of_change_sized (C := Try.checked) Try.own started (by kernel_rfl) Try.func8
    (ChangeSpec.witness6 (enc := enc) (C := Try.checked) false ⟨#[], #[.int .u64 0, .int .i64 0, .int .i64 0], []⟩ 8 (by kernel_rfl) (by kernel_rfl) (by kernel_rfl) (by kernel_rfl)) ?_
  intro W base args ds gs before hval0 hW _ hsz0 _
  have hsz : (DataW.weightsEach Try.prog (Try.f8.params.toList ++ Rows.wireSizesSpec.plain.varTypes Try.prog) (ds ++ gs)).all (· ≤ reachBytes) = true := hsz0
  clear hsz0
  have hval : ∀ (j : Nat) t v, Try.f8.params[j]? = some t → args[j]? = some v → Value.okWide Try.prog W .any base t v := hval0
  have hW' := hW
  obtain ⟨p, q, hA0, hV, rfl, _, _⟩ := hW
  have hA : DataW.TrodAll enc Try.prog W 0 (fun _ => true) true Try.f8.params.toList args.toList ds p := hA0
  rw [Try.params8] at hA hval hsz
  obtain ⟨v0, vs0, d0, ds0, p0, q0, hargs, rfl, rfl, h0, r0⟩ := trodAll_cons hA
  obtain ⟨v1, vs1, d1, ds1, p1, q1, rfl, rfl, rfl, h1, r1⟩ := trodAll_cons r0
  obtain ⟨v2, vs2, d2, ds2, p2, q2, rfl, rfl, rfl, h2, r2⟩ := trodAll_cons r1
  obtain ⟨rfl, rfl, rfl⟩ := trodAll_nil r2
  obtain rfl : args = #[v0, v1, v2] := by cases args; simp_all
  obtain ⟨rfl, rfl⟩ := trodVars_none hV
  obtain ⟨a0, rfl, rfl, rfl, w0⟩ := open_int Try.underlying23 (hval 0 23 v0 rfl rfl) h0
  obtain ⟨a1, rfl, rfl, rfl, w1⟩ := open_int Try.underlying3 (hval 1 3 v1 rfl rfl) h1
  obtain ⟨a2, rfl, rfl, rfl, w2⟩ := open_int Try.underlying3 (hval 2 3 v2 rfl rfl) h2
  clear hA0 hval0
  have hwalk := sizes_walk a0 a1 a2 W w0 w1 w2
  refine hwalk.mono fun e W' ⟨he, hB⟩ => ?_
  subst he
  exact ⟨_, rfl, law_post (by kernel_rfl) (by kernel_rfl) rfl hW' rfl hB⟩

theorem sizes_holds : Rows.WireSizesSaid :=
  OpenClaim.holds_of_wide 8 Try.f8 rfl rfl rfl rfl rfl rfl rfl ⟨rfl, rfl, rfl, rfl, rfl⟩ rfl rfl rfl rfl rfl (by kernel_rfl) Try.func8 (by kernel_rfl)
    (of_decide_eq_true (by kernel_rfl)) (by unfold Func.isWrapper; first | (rw [if_pos (by decide +kernel)]; kernel_rfl) | (rw [if_neg (by decide +kernel)]; exact ⟨rfl, rfl⟩))
    (fun os started H enc _ => sizes_lifted os started H enc)
#print axioms sizes_holds
end Go.Proofs.Ytiebefomhnbemaa
