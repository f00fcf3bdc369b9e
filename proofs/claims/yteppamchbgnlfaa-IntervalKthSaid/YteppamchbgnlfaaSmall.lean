/- The reference's Small fractions and Small intervals. Conditions: numbers of 64 bits. -/
import Derived.Test.YteppamchbgnlfaaVal
namespace Go.Proofs.Yteppamchbgnlfaa
open Go.RowKit

set_option maxRecDepth 100000 in
set_option maxHeartbeats 4000000 in
theorem small_any (n : Int) (w : World) (h1 : -9223372036854775808 ≤ n) (h2 : n ≤ 9223372036854775807) :
    Calls Try.prog 62 #[.int .i64 n] w fun e w' => (∃ r1 r2 : Int, e = .returned (.agg #[.int .i64 r1, .int .i64 r2]) ∧ Sm 50 12 r1 r2) ∧ Below w.heap.size w w' := by
  have AR := fun W => around_any n 1000000007 W h1 h2 (by decide) (by decide)
  have k0 := aroundI_lo n 1000000007 (by decide)
  have k1 := aroundI_hi n 1000000007 (by decide)
  generalize aroundI n 1000000007 = k at AR k0 k1
  obtain ⟨u, hu⟩ : ∃ u, k % 101 - 50 = u := ⟨_, rfl⟩
  obtain ⟨v, hv⟩ : ∃ v, 1 + k / 101 % 12 = v := ⟨_, rfl⟩
  have u0 : -50 ≤ u := by omega
  have u1 : u ≤ 50 := by omega
  have v0 : 1 ≤ v := by omega
  have v1 : v ≤ 12 := by omega
  obtain ⟨r1, r2, g, hr, hvr, -, -, -, b1, b2⟩ := new_small (n := u) (d := v) (by omega) (by omega) (by omega)
  have NW := fun W => rnew_any u v W (by omega) (by omega) (by omega) (by omega)
  rw [hr] at NW
  unfold RV at NW
  simp only at NW
  have t1 : k.tmod 101 = k % 101 := Int.tmod_eq_emod_of_nonneg k0
  have t2 : k.tdiv 101 = k / 101 := Int.tdiv_eq_ediv_of_nonneg k0
  have t3 : (k / 101).tmod 12 = k / 101 % 12 := Int.tmod_eq_emod_of_nonneg (by omega)
  have AR := Lib.hid AR
  have NW := Lib.hid NW
  have hst := C1.start w
  have HR := Lib.hid (show Sm 50 12 r1 r2 from ⟨hvr, by omega, by have := hvr.1; omega⟩)
  have HU := Lib.hid hu
  have HV := Lib.hid hv
  clear hr hvr b1 b2 h1 h2 hu hv
  go_enter Try.func62, Try.ntmps62
  go_wp2_with fail
  refine (AR.out _).mono ?_
  rintro e w1 ⟨rfl, rfl⟩
  go_wp2_with fail
  rw [HU.out, HV.out]
  refine (NW.out _).mono ?_
  rintro e w1 ⟨rfl, hB⟩
  have h1 := hst.call hB
  obtain ⟨c0, c1, c2, c3⟩ := h1.cells
  have H1 := Lib.hid h1
  have hz := h1.2.2
  clear h1 hB hst
  go_wp2
  exact ret_one (p := 2) (by kernel_rfl) rfl (H1.out.putal r1 r2 _).1 ⟨⟨r1, r2, rfl, HR.out⟩, (H1.out.putal r1 r2 _).2⟩

/-- A new list of two fractions reads as them. -/
theorem fsAt_two (w : World) (a b c d : Int) : FsAt (w.alloc (.cells #[.int .i64 a, .int .i64 b, .int .i64 c, .int .i64 d] 23)) (.slice (some ⟨w.heap.size, 0, none⟩) 2 2) [(a, b), (c, d)] := by
  refine .inr ⟨_, 0, 2, rfl, by simp, by simp, fun j x hj => ?_⟩
  have hB := Blk.new w 23 #[.int .i64 a, .int .i64 b, .int .i64 c, .int .i64 d]
  match j, hj with
  | 0, hj => simp at hj; subst hj; exact ⟨hB.cell 0, hB.cell 1⟩
  | 1, hj => simp at hj; subst hj; exact ⟨hB.cell 2, hB.cell 3⟩
  | j + 2, hj => simp at hj
theorem vl_two {a b c d : Int} (h : vP a b) (k : vP c d) : VL [(a, b), (c, d)] := by
  intro x hx
  simp only [List.mem_cons, List.mem_nil_iff, or_false] at hx
  rcases hx with rfl | rfl
  · exact h
  · exact k
/-- A valid interval with small ends. -/
def SmI (A B : Nat) (a b c d : Int) : Prop := Sm A B a b ∧ Sm A B c d ∧ rv a b ≤ rv c d
theorem SmI.vI {A B : Nat} {a b c d : Int} (h : SmI A B a b c d) : vI a b c d := ⟨⟨h.1.1, h.2.1.1⟩, (cmp_le h.1.1 h.2.1.1).2 h.2.2⟩
/-- The interval from the lesser to the greater of two fractions. -/
theorem two_ends {A B : Nat} {a b c d : Int} (h : Sm A B a b) (k : Sm A B c d) : SmI A B (minL [(a, b), (c, d)]).1 (minL [(a, b), (c, d)]).2 (maxL [(a, b), (c, d)]).1 (maxL [(a, b), (c, d)]).2 ∧
    (∀ q : Rat, (q ≤ rv a b → q ≤ rv c d → q ≤ rv (minL [(a, b), (c, d)]).1 (minL [(a, b), (c, d)]).2) ∧ (rv a b ≤ q → rv c d ≤ q → rv (maxL [(a, b), (c, d)]).1 (maxL [(a, b), (c, d)]).2 ≤ q)) := by
  have hv := vl_two h.1 k.1
  have h1 := minL_is (by simp) hv
  have h2 := maxL_is (by simp) hv
  have m1 := h1.1
  have m2 := h2.1
  have hle := h1.2 _ m2
  obtain ⟨⟨p1, p2⟩, hp⟩ : ∃ x, minL [(a, b), (c, d)] = x := ⟨_, rfl⟩
  obtain ⟨⟨q1, q2⟩, hq⟩ : ∃ x, maxL [(a, b), (c, d)] = x := ⟨_, rfl⟩
  rw [hp] at m1 hle ⊢
  rw [hq] at m2 hle ⊢
  have s1 : Sm A B p1 p2 := by
    simp only [List.mem_cons, List.mem_nil_iff, or_false, Prod.mk.injEq] at m1
    rcases m1 with ⟨rfl, rfl⟩ | ⟨rfl, rfl⟩ <;> assumption
  have s2 : Sm A B q1 q2 := by
    simp only [List.mem_cons, List.mem_nil_iff, or_false, Prod.mk.injEq] at m2
    rcases m2 with ⟨rfl, rfl⟩ | ⟨rfl, rfl⟩ <;> assumption
  refine ⟨⟨s1, s2, (cmp_le s1.1 s2.1).1 hle⟩, fun q => ⟨fun e1 e2 => ?_, fun e1 e2 => ?_⟩⟩
  · simp only [List.mem_cons, List.mem_nil_iff, or_false, Prod.mk.injEq] at m1
    rcases m1 with ⟨rfl, rfl⟩ | ⟨rfl, rfl⟩ <;> assumption
  · simp only [List.mem_cons, List.mem_nil_iff, or_false, Prod.mk.injEq] at m2
    rcases m2 with ⟨rfl, rfl⟩ | ⟨rfl, rfl⟩ <;> assumption

set_option maxRecDepth 100000 in
set_option maxHeartbeats 8000000 in
theorem ismall_any (n m : Int) (w : World) (h1 : -9223372036854775808 ≤ n ∧ n ≤ 9223372036854775807) (h2 : -9223372036854775808 ≤ m ∧ m ≤ 9223372036854775807) :
    Calls Try.prog 42 #[.int .i64 n, .int .i64 m] w fun e w' => (∃ a b c d : Int, e = .returned (.agg #[.int .i64 a, .int .i64 b, .int .i64 c, .int .i64 d]) ∧ SmI 50 12 a b c d) ∧ Below w.heap.size w w' := by
  have S1 := Lib.hid (fun W => small_any n W h1.1 h1.2)
  have S2 := Lib.hid (fun W => small_any m W h2.1 h2.2)
  obtain ⟨hR, hW⟩ := start1 w 25 #[.int .i64 0, .int .i64 0, .int .i64 0, .int .i64 0]
  clear h1 h2
  go_enter Try.func42, Try.ntmps42
  go_wp2_with fail
  (with_reducible refine (S1.out _).mono ?_)
  rintro e w1 ⟨⟨a, b, rfl, ha⟩, hb⟩
  replace hR := hR.below hb hR.lt
  replace hW := below_st hW hb
  clear hb
  have HA := Lib.hid ha
  clear ha
  go_wp2_with fail
  (with_reducible refine (S2.out _).mono ?_)
  rintro e w2 ⟨⟨c, d, rfl, hc⟩, hb⟩
  replace hR := hR.below hb hR.lt
  replace hW := below_st hW hb
  clear hb
  have HT := Lib.hid (two_ends HA.out hc).1
  have FR := Lib.hid (from_any _ [(a, b), (c, d)] _ (fsAt_two w2 a b c d) (vl_two HA.out.1 hc.1) (by simp) (by simp))
  obtain ⟨⟨p1, p2⟩, hp⟩ : ∃ x, minL [(a, b), (c, d)] = x := ⟨_, rfl⟩
  obtain ⟨⟨q1, q2⟩, hq⟩ : ∃ x, maxL [(a, b), (c, d)] = x := ⟨_, rfl⟩
  rw [hp, hq] at FR HT
  have hR2 := hR.alloc (.cells #[.int .i64 a, .int .i64 b, .int .i64 c, .int .i64 d] 23)
  have hW2 := hW.alloc hW.size (.cells #[.int .i64 a, .int .i64 b, .int .i64 c, .int .i64 d] 23)
  clear hp hq hc hR hW S1 S2
  go_wp2_with fail
  (with_reducible refine FR.out.mono ?_)
  rintro e w3 ⟨rfl, hb⟩
  have hR3 := hR2.below hb hR2.lt
  have hW3 := below_st hW2 hb
  have r0 := hR3.cell 0
  have r1 := hR3.cell 1
  have r2 := hR3.cell 2
  have r3 := hR3.cell 3
  have fr := hR3.frozen
  have HR := Lib.hid (And.intro hR3 hW3)
  clear hR2 hW2 hb FR hR3 hW3
  go_wp2
  exact ret_iv1 (p := 4) (by kernel_rfl) rfl (put4 HR.out.1 HR.out.2 (Nat.le_refl _) p1 p2 q1 q2).1 ⟨⟨p1, p2, q1, q2, rfl, HT.out⟩, (put4 HR.out.1 HR.out.2 (Nat.le_refl _) p1 p2 q1 q2).2⟩
end Go.Proofs.Yteppamchbgnlfaa
