/- Statement LabelsOrder: Compare is what the reference model gives, antisymmetric, transitive, and 0 only for equal lists. Conditions: none. -/
import Derived.Test.YtmgjbbkccgncgaaLOpen
import Derived.Test.YtmgjbbkccgncgaaLGood
import Derived.Test.YtmgjbbkccgncgaaLCmp
namespace Go.Proofs.Ytmgjbbkccgncgaa
open Go.ChangeShapes Go.WideShapes Go.ChangeAt Go.RowKit

theorem sameL_cmp (a b : List L2) : sameL a b = (cmpL a b == 0) := by
  by_cases h : a = b
  · rw [sameL_of h, h, cmpL_self]; rfl
  · rw [sameL_not h, beq_eq_false_iff_ne.2 (fun e => h (cmpL_zero e))]
theorem cmpL_le {a b c : List L2} (h : cmpL a b ≤ 0) (k : cmpL b c ≤ 0) : cmpL a c ≤ 0 := by
  by_cases h1 : cmpL a b = 0
  · rw [cmpL_zero h1]; exact k
  · by_cases k1 : cmpL b c = 0
    · rw [← cmpL_zero k1]; exact h
    · have := cmpL_trans (show cmpL a b < 0 by omega) (show cmpL b c < 0 by omega)
      omega
theorem cmpL_ge {a b c : List L2} (h : 0 ≤ cmpL a b) (k : 0 ≤ cmpL b c) : 0 ≤ cmpL a c := by
  have h1 := cmpL_anti a b
  have h2 := cmpL_anti b c
  have h3 := cmpL_anti a c
  have := cmpL_le (a := c) (b := b) (c := a) (by omega) (by omega)
  omega

set_option maxRecDepth 100000 in
set_option maxHeartbeats 16000000 in
theorem order_walk (sl : Value) (ls : List Int) (sm : Value) (ms : List Int) (sn : Value) (ns : List Int) (w : World) (hI1 : IntsIn w sl ls) (hI2 : IntsIn w sm ms) (hI3 : IntsIn w sn ns) :
    Calls Try.prog 6 #[sl, sm, sn] w fun e w' => e = .returned (.bool true) ∧ Below w.heap.size w w' := by
  have H2 := Lib.hid hI2
  have H3 := Lib.hid hI3
  go_enter Try.func6, Try.ntmps6
  go_wp2_with fail
  refine (set_any sl ls w hI1).mono ?_
  rintro e w1 ⟨av, a, rfl, hO, hS, hB1⟩
  have HA := Lib.hid (LsAt.of_owns hO)
  have na : a.length ≤ 6 := hS.2.1
  clear hI1 hI2 hI3 hO hS
  go_wp2_with fail
  refine (dirty_any sm ms w1 (H2.out.below hB1)).mono ?_
  rintro e w2 ⟨bv, b, rfl, hO, hD, hb⟩
  have HA2 := Lib.hid (HA.out.below hb)
  have HB := Lib.hid (LsAt.of_owns hO)
  have nb : b.length ≤ 10 := hD.1
  have hB2 := below_st hB1 hb
  clear hO hD hb hB1 HA
  go_wp2_with fail
  refine (set_any sn ns w2 (H3.out.below hB2)).mono ?_
  rintro e w3 ⟨cv, c, rfl, hO, hS, hb⟩
  have HA3 := Lib.hid (HA2.out.below hb)
  have HB3 := Lib.hid (HB.out.below hb)
  have HC3 := Lib.hid (LsAt.of_owns hO)
  have nc : c.length ≤ 6 := hS.2.1
  have hB3 := below_st hB2 hb
  clear hO hS hb hB2 HA2 HB H2 H3
  obtain ⟨aa, ac, rfl, -⟩ := HA3.out.slice
  obtain ⟨ba, bc, rfl, -⟩ := HB3.out.slice
  obtain ⟨ca, cc, rfl, -⟩ := HC3.out.slice
  have hxr := cmpL_range a b
  have hyr := cmpL_range b c
  have hzr := cmpL_range a c
  have e1 := cmpL_anti a b
  have e2 := cmpL_anti a c
  have s1 := sameL_cmp a c
  have s2 := sameL_cmp a b
  have hle : cmpL a b ≤ 0 → cmpL b c ≤ 0 → cmpL a c ≤ 0 := cmpL_le
  have hge : 0 ≤ cmpL a b → 0 ≤ cmpL b c → 0 ≤ cmpL a c := cmpL_ge
  obtain ⟨x, hx⟩ : ∃ x, cmpL a b = x := ⟨_, rfl⟩
  obtain ⟨y, hy⟩ : ∃ y, cmpL b c = y := ⟨_, rfl⟩
  obtain ⟨z, hz⟩ : ∃ z, cmpL a c = z := ⟨_, rfl⟩
  rw [hx] at hxr e1 s2 hle hge
  rw [hy] at hyr hle hge
  rw [hz] at hzr e2 s1 hle hge
  have HX := Lib.hid hx
  have HY := Lib.hid hy
  have HZ := Lib.hid hz
  have E1 := Lib.hid e1
  have E2 := Lib.hid e2
  have S1 := Lib.hid s1
  have S2 := Lib.hid s2
  have f1 : 0 < x ∨ 0 < y ∨ z ≤ 0 := by
    by_cases p : x ≤ 0
    · by_cases q : y ≤ 0
      · exact .inr (.inr (hle p q))
      · exact .inr (.inl (by omega))
    · exact .inl (by omega)
  have f2 : x < 0 ∨ y < 0 ∨ 0 ≤ z := by
    by_cases p : 0 ≤ x
    · by_cases q : 0 ≤ y
      · exact .inr (.inr (hge p q))
      · exact .inr (.inl (by omega))
    · exact .inl (by omega)
  have F1 := Lib.hid f1
  have F2 := Lib.hid f2
  have x0 : -1 ≤ x := by omega
  have x1 : x ≤ 1 := by omega
  have z0 : -1 ≤ z := by omega
  have z1 : z ≤ 1 := by omega
  have KA := Lib.hid (fun (W : World) (hb : Below w3.heap.size w3 W) => HA3.out.below hb)
  have KB := Lib.hid (fun (W : World) (hb : Below w3.heap.size w3 W) => HB3.out.below hb)
  have KC := Lib.hid (fun (W : World) (hb : Below w3.heap.size w3 W) => HC3.out.below hb)
  have HB0 := Lib.hid hB3
  have h00 := Below.refl w3.heap.size w3
  clear hx hy hz e1 e2 s1 s2 hxr hyr hzr hle hge f1 f2 HA3 HB3 HC3 hB3
  have R := Lib.hid (compare_any aa ba ac bc a b w3 (KA.out _ h00) (KB.out _ h00) (by omega) (by omega))
  rw [HX.out] at R
  go_wp2_with fail
  (with_reducible refine R.out.mono ?_)
  rintro e w4 ⟨rfl, hb⟩
  have h4 := below_st h00 hb
  clear hb R h00
  have R := Lib.hid (compare_any ba ca bc cc b c w4 (KB.out _ h4) (KC.out _ h4) (by omega) (by omega))
  rw [HY.out] at R
  go_wp2_with fail
  (with_reducible refine R.out.mono ?_)
  rintro e w5 ⟨rfl, hb⟩
  have h5 := below_st h4 hb
  clear hb R h4
  have R := Lib.hid (compare_any aa ca ac cc a c w5 (KA.out _ h5) (KC.out _ h5) (by omega) (by omega))
  rw [HZ.out] at R
  go_wp2_with fail
  (with_reducible refine R.out.mono ?_)
  rintro e w6 ⟨rfl, hb⟩
  have h6 := below_st h5 hb
  clear hb R h5
  have R := Lib.hid (refcompare_any aa ba ac bc a b w6 (KA.out _ h6) (KB.out _ h6) (by omega) (by omega))
  rw [HX.out] at R
  go_wp2_with fail
  (with_reducible refine R.out.mono ?_)
  rintro e w7 ⟨rfl, hb⟩
  have h7 := below_st h6 hb
  clear hb R h6
  have R := Lib.hid (compare_any ba aa bc ac b a w7 (KB.out _ h7) (KA.out _ h7) (by omega) (by omega))
  rw [E1.out] at R
  go_wp2_with fail
  (with_reducible refine R.out.mono ?_)
  rintro e w8 ⟨rfl, hb⟩
  have h8 := below_st h7 hb
  clear hb R h7
  have R := Lib.hid (refcompare_any aa ca ac cc a c w8 (KA.out _ h8) (KC.out _ h8) (by omega) (by omega))
  rw [HZ.out] at R
  go_wp2_with fail
  (with_reducible refine R.out.mono ?_)
  rintro e w9 ⟨rfl, hb⟩
  have h9 := below_st h8 hb
  clear hb R h8
  have R := Lib.hid (compare_any ca aa cc ac c a w9 (KC.out _ h9) (KA.out _ h9) (by omega) (by omega))
  rw [E2.out] at R
  go_wp2_with fail
  (with_reducible refine R.out.mono ?_)
  rintro e w10 ⟨rfl, hb⟩
  have h10 := below_st h9 hb
  clear hb R h9
  have f1 := F1.out
  have f2 := F2.out
  go_wp2_with fail
  all_goals
    have R := Lib.hid (same_any aa ca ac cc a c w10 (KA.out _ h10) (KC.out _ h10) (by omega) (by omega))
    rw [S1.out] at R
    (with_reducible refine R.out.mono ?_)
    rintro e w11 ⟨rfl, hb⟩
    have h11 := below_st h10 hb
    clear hb R h10
    have R := Lib.hid (same_any aa ba ac bc a b w11 (KA.out _ h11) (KB.out _ h11) (by omega) (by omega))
    rw [S2.out] at R
    go_wp2_with fail
    (with_reducible refine R.out.mono ?_)
    rintro e w12 ⟨rfl, hb⟩
    have h12 := below_st h11 hb
    clear hb R h11
    have R := Lib.hid (compare_any aa aa ac ac a a w12 (KA.out _ h12) (KA.out _ h12) (by omega) (by omega))
    rw [cmpL_self] at R
    go_wp2_with fail
    (with_reducible refine R.out.mono ?_)
    rintro e w13 ⟨rfl, hb⟩
    have h13 := below_st h12 hb
    clear hb R h12
    go_wp2_with fail
    refine (lives_any _).mono ?_
    rintro e w14 ⟨rfl, hb⟩
    go_wp2
    go_ret
    exact ⟨rfl, below_st HB0.out (below_st h13 hb)⟩

set_option maxRecDepth 100000 in
theorem order_lifted (os : Os) (started : os.Started) (H : Type) (enc : TypeId × Value → H) :
    ReturnsInHanded {} Try.checked os 6 .any (Rows.labelsOrderSpec.pre6 enc Try.prog Try.f6 Rows.labelsOrderRow.domain false) (Rows.labelsOrderSpec.post enc Try.prog Try.f6 false true false false) := by
  refine returnsInHanded_of_change_sized (C := Try.checked) Try.own started (by kernel_rfl) Try.func6
    (ChangeSpec.witness6 (enc := enc) (C := Try.checked) false ⟨#[], #[.slice none 0 0, .slice none 0 0, .slice none 0 0], []⟩ 8 (by kernel_rfl) (by kernel_rfl) (by kernel_rfl) (by kernel_rfl)) ?_
  intro W base args ds gs before hval0 hW _ hsz0 _
  have hsz : (DataW.weightsEach Try.prog (Try.f6.params.toList ++ Rows.labelsOrderSpec.plain.varTypes Try.prog) (ds ++ gs)).all (· ≤ reachBytes) = true := hsz0
  clear hsz0
  have hval : ∀ (j : Nat) t v, Try.f6.params[j]? = some t → args[j]? = some v → Value.okWide Try.prog W .any base t v := hval0
  have hW' := hW
  obtain ⟨p, q, hA0, hV, rfl, _, _⟩ := hW
  have hA : DataW.TrodAll enc Try.prog W 0 (fun _ => true) true Try.f6.params.toList args.toList ds p := hA0
  rw [Try.params6] at hA hval hsz
  obtain ⟨v0, vs0, d0, ds0, p0, q0, hargs, rfl, rfl, h0, r0⟩ := trodAll_cons hA
  obtain ⟨v1, vs1, d1, ds1, p1, q1, rfl, rfl, rfl, h1, r1⟩ := trodAll_cons r0
  obtain ⟨v2, vs2, d2, ds2, p2, q2, rfl, rfl, rfl, h2, r2⟩ := trodAll_cons r1
  obtain ⟨rfl, rfl, rfl⟩ := trodAll_nil r2
  obtain rfl : args = #[v0, v1, v2] := by cases args; simp_all
  obtain ⟨rfl, rfl⟩ := trodVars_none hV
  obtain ⟨zs0, hI0⟩ := open_ints5 (hval 0 30 v0 rfl rfl) h0 (fun x hx => by simpa using hW'.lt x (by simp [hx])) hsz (j := 0) rfl rfl
  obtain ⟨zs1, hI1⟩ := open_ints5 (hval 1 30 v1 rfl rfl) h1 (fun x hx => by simpa using hW'.lt x (by simp [hx])) hsz (j := 1) rfl rfl
  obtain ⟨zs2, hI2⟩ := open_ints5 (hval 2 30 v2 rfl rfl) h2 (fun x hx => by simpa using hW'.lt x (by simp [hx])) hsz (j := 2) rfl rfl
  clear hA0 hval0
  have hwalk := order_walk v0 zs0 v1 zs1 v2 zs2 W hI0 hI1 hI2
  refine hwalk.mono fun e W' ⟨he, hB⟩ => ?_
  subst he
  exact ⟨_, rfl, law_post (by kernel_rfl) (by kernel_rfl) rfl hW' rfl hB⟩

theorem order_holds : Rows.LabelsOrderSaid :=
  OpenClaim.holds_of_wide 6 Try.f6 rfl rfl rfl rfl rfl rfl rfl ⟨rfl, rfl, rfl, rfl, rfl⟩ rfl rfl rfl rfl rfl (by kernel_rfl) Try.func6 (by kernel_rfl)
    (of_decide_eq_true (by kernel_rfl)) (by unfold Func.isWrapper; first | (rw [if_pos (by decide +kernel)]; kernel_rfl) | (rw [if_neg (by decide +kernel)]; exact ⟨rfl, rfl⟩))
    (fun os started H enc _ => order_lifted os started H enc)
#print axioms order_holds
end Go.Proofs.Ytmgjbbkccgncgaa
