/- Statement WireHash: hashes of encodings of equal lengths are equal if and only if the numbers are. Conditions: none. -/
import Derived.Test.YtiebefomhnbemaaWSizes
import Derived.Test.YtiebefomhnbemaaBytes
import Derived.Test.YtiebefomhnbemaaInj
namespace Go.Proofs.Ytiebefomhnbemaa
open Go.ChangeShapes Go.WideShapes Go.ChangeAt Go.RowKit

theorem uv_inj (m n : Nat) (hm : m < 18446744073709551616) (hn : n < 18446744073709551616) (h : uv m = uv n) : m = n := by
  have h1 := rU_uv m [] hm
  have h2 := rU_uv n [] hn
  rw [h, h2] at h1
  simp only [Prod.mk.injEq] at h1
  exact h1.1.symm
theorem shr56 (u : Int) (r : Nat) (hr : r < 56) (h0 : 0 ≤ u) (h1 : u ≤ 18446744073709551615) : ∃ K : Nat, u / 2 ^ (8 + r) = (K : Int) ∧ K < 72057594037927936 := by
  obtain ⟨v, rfl⟩ := Int.eq_ofNat_of_zero_le h0
  refine ⟨v / 2 ^ (8 + r), by push_cast; rfl, ?_⟩
  refine Nat.div_lt_of_lt_mul ?_
  have h2 : 2 ^ 8 ≤ 2 ^ (8 + r) := Nat.pow_le_pow_right (by decide) (by omega)
  have h3 : 2 ^ 8 * 72057594037927936 ≤ 2 ^ (8 + r) * 72057594037927936 := Nat.mul_le_mul_right _ h2
  have h4 : 2 ^ 8 * 72057594037927936 = 18446744073709551616 := by decide
  omega
theorem hash_fact (L : List UInt8) (M N : Nat) (hM : M < 72057594037927936) (hN : N < 72057594037927936) (hl : (uv M).length = (uv N).length) : ((bytesI L (uv M) == bytesI L (uv N)) == ((M : Int) == (N : Int))) = true := by
  by_cases h : M = N
  · subst h; simp
  · have h1 := uv_length8 M hM
    have h2 : bytesI L (uv M) ≠ bytesI L (uv N) := by
      intro e
      have hp := uv_pos M
      refine h (uv_inj M N (by omega) (by omega) (bytes_group 0 hl (by unfold nWords; omega) (fun i hi => ?_) e))
      rw [List.getElem?_eq_none (by omega), List.getElem?_eq_none (by omega)]
    have e1 : (bytesI L (uv M) == bytesI L (uv N)) = false := beq_eq_false_iff_ne.2 h2
    have e2 : ((M : Int) == (N : Int)) = false := beq_eq_false_iff_ne.2 (by omega)
    rw [e1, e2]; rfl

set_option maxRecDepth 100000 in
set_option maxHeartbeats 4000000 in
theorem wirehash_walk (a b sh : Int) (lab : ByteArray) (w : World) (ha' : (Lit.int .u64 a).wf = true) (hb' : (Lit.int .u64 b).wf = true) (hs' : (Lit.int .i64 sh).wf = true) (hlab : lab.size ≤ 140737488351232) :
    Calls Try.prog 10 #[.int .u64 a, .int .u64 b, .int .i64 sh, .string lab] w fun e w' => e = .returned (.bool true) ∧ Below w.heap.size w w' := by
  have ha := in_of_u64 ha'
  have hb := in_of_u64 hb'
  have hs := in_of_i64 hs'
  clear ha' hb' hs'
  go_enter Try.func10, Try.ntmps10
  go_wp2_with fail
  refine (around_any sh 56 w hs.1 hs.2 (by omega) (by omega)).mono ?_
  rintro e w' ⟨rfl, rfl⟩
  have hlo := aroundI_lo sh 56 (by omega)
  have hhi := aroundI_hi sh 56 (by omega)
  obtain ⟨r, hr⟩ := Int.eq_ofNat_of_zero_le hlo
  rw [hr] at hhi ⊢
  clear hr hlo
  obtain ⟨M, hM, hMu⟩ := shr56 a r (by omega) ha.1 ha.2
  obtain ⟨N, hN, hNu⟩ := shr56 b r (by omega) hb.1 hb.2
  have hx0 := Wr.new w.heap.size w (Nat.le_refl _)
  go_wp2_with fail
  refine (wuint_any w.heap.size w.heap.size (M : Int) [] _ (by omega) (by omega) (by simp) hx0).mono ?_
  rintro e w1 ⟨rfl, hW1, hB1⟩
  rw [Int.toNat_natCast, List.nil_append] at hW1
  replace hB1 := ((Below.refl _ w).alloc (Nat.le_refl _) _).trans hB1
  have hy0 := Wr.new w1.heap.size w1 (Nat.le_refl _)
  clear hx0
  go_wp2_with fail
  refine (wuint_any w1.heap.size w1.heap.size (N : Int) [] _ (by omega) (by omega) (by simp) hy0).mono ?_
  rintro e w2 ⟨rfl, hY2, hB2⟩
  rw [Int.toNat_natCast, List.nil_append] at hY2
  replace hB2 := ((Below.refl _ w1).alloc (Nat.le_refl _) _).trans hB2
  have hW2 := hW1.below hB2
  replace hB1 := below_then hB1 hB2
  have hlM := uv_length8 M hMu
  have hlN := uv_length8 N hNu
  have hpM := uv_pos M
  have hpN := uv_pos N
  clear hy0 hW1 hB2
  go_wp2_with fail
  refine (wdone_any _ _ _ w2 (by omega) hW2).mono ?_
  rintro e w3 ⟨v, rfl, hv, hB3⟩
  obtain ⟨a3, c3, rfl⟩ := hv.slice
  have hY3 := hY2.below hB3
  replace hB1 := below_then hB1 hB3
  clear hW2 hY2 hB3
  go_wp2_with fail
  refine (wdone_any _ _ _ w3 (by omega) hY3).mono ?_
  rintro e w4 ⟨v, rfl, hv4, hB4⟩
  obtain ⟨a4, c4, rfl⟩ := hv4.slice
  have hv3 := hv.below hB4
  replace hB1 := below_then hB1 hB4
  clear hv hY3 hB4
  go_wp2_with fail
  refine (short_any lab 20 w4 hlab (by omega) (by omega)).mono ?_
  rintro e w' ⟨⟨s', rfl, hs'⟩, rfl⟩
  have hP := bytesAt_of_row hv3.row.at
  have hQ := bytesAt_of_row hv4.row.at
  clear hv3 hv4
  by_cases hl : (uv M).length = (uv N).length
  · have hfact := hash_fact s'.data.toList M N hMu hNu hl
    have hne : (((uv M).length : Int) != ((uv N).length : Int)) = false := by rw [hl]; simp
    have Hl := Lib.hid hl
    clear hl
    go_wp2_with fail
    refine (bytes_any s' (uv M) a3 c3 w4 (by omega) (by omega) hP).mono ?_
    rintro e w5 ⟨rfl, hB5⟩
    have hQ5 := hQ.below hB5
    replace hB1 := below_then hB1 hB5
    go_wp2_with fail
    refine (bytes_any s' (uv N) a4 c4 w5 (by omega) (by omega) (hQ5.mono hB5.size)).mono ?_
    rintro e w6 ⟨rfl, hB6⟩
    replace hB1 := below_then hB1 hB6
    clear hP hQ hQ5 hB5 hB6
    go_wp2_with fail
    refine (lives_any w6).mono ?_
    rintro e w7 ⟨rfl, hB7⟩
    go_wp2
    go_ret
    exact ⟨rfl, below_then hB1 hB7⟩
  · have hne : (((uv M).length : Int) != ((uv N).length : Int)) = true := by rw [bne_iff_ne]; omega
    have hMN : ((M : Int) != (N : Int)) = true := by
      rw [bne_iff_ne]
      intro e
      have : M = N := by omega
      exact hl (by rw [this])
    clear hl hP hQ
    go_wp2_with fail
    refine (lives_any w4).mono ?_
    rintro e w7 ⟨rfl, hB7⟩
    go_wp2
    go_ret
    exact ⟨rfl, below_then hB1 hB7⟩

set_option maxRecDepth 100000 in
theorem wirehash_lifted (os : Os) (started : os.Started) (H : Type) (enc : TypeId × Value → H) :
    ReturnsInHanded {} Try.checked os 10 .any (Rows.wireHashSpec.pre6 enc Try.prog Try.f10 Rows.wireHashRow.domain false) (Rows.wireHashSpec.post enc Try.prog Try.f10 false true false false) := by
  refine returnsInHanded_of_change_sized (C := Try.checked) Try.own started (by kernel_rfl) Try.func10
    (ChangeSpec.witness6 (enc := enc) (C := Try.checked) false ⟨#[], #[.int .u64 0, .int .u64 0, .int .i64 0, .string ⟨#[]⟩], []⟩ 8 (by kernel_rfl) (by kernel_rfl) (by kernel_rfl) (by kernel_rfl)) ?_
  intro W base args ds gs before hval0 hW _ hsz0 _
  have hsz : (DataW.weightsEach Try.prog (Try.f10.params.toList ++ Rows.wireHashSpec.plain.varTypes Try.prog) (ds ++ gs)).all (· ≤ reachBytes) = true := hsz0
  clear hsz0
  have hval : ∀ (j : Nat) t v, Try.f10.params[j]? = some t → args[j]? = some v → Value.okWide Try.prog W .any base t v := hval0
  have hW' := hW
  obtain ⟨p, q, hA0, hV, rfl, _, _⟩ := hW
  have hA : DataW.TrodAll enc Try.prog W 0 (fun _ => true) true Try.f10.params.toList args.toList ds p := hA0
  rw [Try.params10] at hA hval hsz
  obtain ⟨v0, vs0, d0, ds0, p0, q0, hargs, rfl, rfl, h0, r0⟩ := trodAll_cons hA
  obtain ⟨v1, vs1, d1, ds1, p1, q1, rfl, rfl, rfl, h1, r1⟩ := trodAll_cons r0
  obtain ⟨v2, vs2, d2, ds2, p2, q2, rfl, rfl, rfl, h2, r2⟩ := trodAll_cons r1
  obtain ⟨v3, vs3, d3, ds3, p3, q3, rfl, rfl, rfl, h3, r3⟩ := trodAll_cons r2
  obtain ⟨rfl, rfl, rfl⟩ := trodAll_nil r3
  obtain rfl : args = #[v0, v1, v2, v3] := by cases args; simp_all
  obtain ⟨rfl, rfl⟩ := trodVars_none hV
  obtain ⟨a0, rfl, rfl, rfl, w0⟩ := open_int Try.underlying23 (hval 0 23 v0 rfl rfl) h0
  obtain ⟨a1, rfl, rfl, rfl, w1⟩ := open_int Try.underlying23 (hval 1 23 v1 rfl rfl) h1
  obtain ⟨a2, rfl, rfl, rfl, w2⟩ := open_int Try.underlying3 (hval 2 3 v2 rfl rfl) h2
  obtain ⟨s3, rfl, rfl, rfl, _⟩ := Go.ChangeMaps.open_string Try.underlying9 (hval 3 9 v3 rfl rfl) h3
  have hs3 : s3.size ≤ 140737488351232 := sized_string hsz (j := 3) (t := 9) rfl rfl
  clear hA0 hval0
  have hwalk := wirehash_walk a0 a1 a2 s3 W w0 w1 w2 hs3
  refine hwalk.mono fun e W' ⟨he, hB⟩ => ?_
  subst he
  exact ⟨_, rfl, law_post (by kernel_rfl) (by kernel_rfl) rfl hW' rfl hB⟩

theorem wirehash_holds : Rows.WireHashSaid :=
  OpenClaim.holds_of_wide 10 Try.f10 rfl rfl rfl rfl rfl rfl rfl ⟨rfl, rfl, rfl, rfl, rfl⟩ rfl rfl rfl rfl rfl (by kernel_rfl) Try.func10 (by kernel_rfl)
    (of_decide_eq_true (by kernel_rfl)) (by unfold Func.isWrapper; first | (rw [if_pos (by decide +kernel)]; kernel_rfl) | (rw [if_neg (by decide +kernel)]; exact ⟨rfl, rfl⟩))
    (fun os started H enc _ => wirehash_lifted os started H enc)
#print axioms wirehash_holds
end Go.Proofs.Ytiebefomhnbemaa
