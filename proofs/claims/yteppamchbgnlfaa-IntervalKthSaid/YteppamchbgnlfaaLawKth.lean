/- The walk of IntervalKth. Conditions: numbers of 64 bits. -/
import Derived.Test.YteppamchbgnlfaaRKth
import Derived.Test.YteppamchbgnlfaaOpenIs
import Derived.Test.YteppamchbgnlfaaLives4
namespace Go.Proofs.Yteppamchbgnlfaa
open Go.RowKit

/-- Both Kth answer the same. -/
theorem kth_both (F : List I4) (h12 : F.length ≤ 12) (hwl : WL F) (k : Int) : ∃ r1 r2 r3 r4 r5 : Int,
    (∀ sv W, IsAt W sv F → Calls Try.prog 20 #[sv, .int .i64 k] W fun e w' => e = .returned (.tuple #[.agg #[.int .i64 r1, .int .i64 r2, .int .i64 r3, .int .i64 r4], .int .i64 r5]) ∧ Below W.heap.size W w') ∧
    (∀ sv W, IsAt W sv F → Calls Try.prog 21 #[sv, .int .i64 k] W fun e w' => e = .returned (.tuple #[.agg #[.int .i64 r1, .int .i64 r2, .int .i64 r3, .int .i64 r4], .int .i64 r5]) ∧ Below W.heap.size W w') := by
  by_cases h : k < 1 ∨ (F.length : Int) < k
  · refine ⟨0, 0, 0, 0, 1, fun sv W hI => ?_, fun sv W hI => ?_⟩
    · obtain ⟨a, c, rfl⟩ := hI.slice
      exact ikth_out a F.length c k W h
    · obtain ⟨a, c, rfl⟩ := hI.slice
      exact rkth_out a F.length c k W h
  · obtain ⟨K, rfl⟩ : ∃ K : Nat, k = (K : Int) + 1 := ⟨(k - 1).toNat, by omega⟩
    obtain ⟨⟨r1, r2, r3, r4, r5⟩, hr⟩ : ∃ r, kthR F ((K : Int) + 1) = r := ⟨_, rfl⟩
    refine ⟨r1, r2, r3, r4, r5, fun sv W hI => ?_, fun sv W hI => ?_⟩
    · obtain ⟨a, c, rfl⟩ := hI.slice
      have j := ikth_in F F.length rfl h12 hwl a c K (by omega) W hI
      rw [hr] at j
      exact j
    · obtain ⟨a, c, rfl⟩ := hI.slice
      have j := rkth_in F F.length rfl h12 hwl a c K (by omega) W hI
      rw [hr] at j
      exact j

set_option maxRecDepth 100000 in
set_option maxHeartbeats 16000000 in
/-- Behind the two copies: two rounds, the comparison, the examples. -/
theorem law_kth (L : List I4) (a : Option Addr) (cap : Nat) (k : Int) (w : World) (hI : IvsIn w a cap L) (hwl : WL L) (hk : -9223372036854775808 ≤ k ∧ k ≤ 9223372036854775807) :
    Calls Try.prog 4 #[.slice a L.length cap, .int .i64 k] w fun e w' => e = .returned (.bool true) ∧ Below w.heap.size w w' := by
  obtain ⟨il, hi0, hz0, hz1, hz2⟩ := info_parts Try.infoIv
  obtain ⟨n, hn⟩ : ∃ n, L.length = n := ⟨_, rfl⟩
  obtain ⟨m, hm⟩ : ∃ m, min n 12 = m := ⟨_, rfl⟩
  have hmn : m ≤ n := by omega
  have hm12 : m ≤ 12 := by omega
  have hlc : n ≤ cap := by rw [← hn]; exact hI.1
  have hcm : cap ≤ 9223372036854775807 := hI.2.1
  have hFl : (L.take m).length = m := by rw [List.length_take]; omega
  have hwF : WL (L.take m) := fun x hx => hwl x (List.mem_of_mem_take hx)
  have KB := Lib.hid (fun kk : Int => kth_both (L.take m) (by rw [hFl]; exact hm12) hwF kk)
  have AR := Lib.hid (fun W => around_any k 12 W hk.1 hk.2 (by decide) (by decide))
  have HFL := Lib.hid hFl
  have HI := Lib.hid hI
  rw [hn]
  have m0 : (0 : Int) ≤ (m : Int) := by omega
  have mc : (m : Int) ≤ (cap : Int) := by omega
  have n0 : (0 : Int) ≤ (n : Int) := by omega
  have hmI : min (n : Int) 12 = (m : Int) := by omega
  clear hm
  have m1 : (m : Int) ≤ 12 := by omega
  have own_is : ∀ (W : World) (v : Value) (base : Nat), W.ownsRow base 25 4 v (0 + m) ([] ++ flatI (L.take m)) → ∃ a1 c1, v = .slice a1 m c1 ∧ IsAt W (.slice a1 m c1) (L.take m) := fun W v base h => by
    rw [Nat.zero_add, List.nil_append, ← hFl, show flatI (L.take (L.take m).length) = flatI (L.take m) by rw [hFl]] at h
    have hA := owns_isAt h
    obtain ⟨a1, c1, rfl⟩ := hA.slice
    exact ⟨a1, c1, by rw [hFl], by rw [hFl] at hA; exact hA⟩
  have OW := Lib.hid own_is
  have part : ∀ ad, a = some ad → ∀ j u, (flatI (L.take m))[j]? = some u → w.cell? (ad.add j) = some u := by
    rintro ad rfl j u hu
    have hne : L ≠ [] := fun e => by rw [e] at hu; simp [flatI] at hu
    obtain ⟨g, off, rfl, hg, hC⟩ := hI.cells hne
    have := hC.part 0 m j u (by simpa using hu)
    simpa using this
  have PT := Lib.hid part
  clear hI hwl hFl hwF own_is part
  go_enter Try.func4, Try.ntmps4
  go_upto_region 2 with fail
  go_cut [5] (fun s5 wx => ∃ a1 c1, s5 = .slice a1 m c1 ∧ IsAt wx (.slice a1 m c1) (L.take m) ∧ Below w.heap.size w wx)
  case first =>
    cases a with
    | none =>
      have hc0 : cap = 0 := HI.out.2.2.1 rfl
      subst hc0
      have hm0 : m = 0 := by omega
      subst hm0
      go_wp2_with (at_builtin; refine wpList_append_own_none rfl (.tmp 14) (.tmp 19) 33 rfl w.heap.size 25 il 4 Try.underlying33 hi0 _ _ _ rfl (World.ownsRow_nil w w.heap.size 25 4) rfl ?_)
      go_meet
      case rel => exact ⟨none, 0, rfl, .inl ⟨rfl, by simp⟩, Below.refl _ _⟩
    | some ad =>
      have PT1 := Lib.hid (PT.out ad rfl)
      go_wp2_with (at_builtin; refine wpList_append_own_at _ rfl (.tmp 14) (.tmp 19) 33 rfl w.heap.size 25 il (.agg #[.int .i64 0, .int .i64 0, .int .i64 0, .int .i64 0]) 4 32 Try.underlying33 hi0 hz0 hz1 hz2 rfl (by decide) (.slice none 0 0) 0 [] rfl (World.ownsRow_nil w _ _ _) ad m cap (flatI (L.take m)) rfl (by rw [flatI_len, HFL.out]; omega) PT1.out (flatI_one _) (by unfold maxLen; omega) (by omega) (Nat.le_refl _) ?_; intro v3 w3 hown3 hgrow3 hnil3 hob3)
      have hB3 : Below w.heap.size w w3 := (Below.refl _ w).grown hgrow3 (Nat.le_refl _) (fun j hj => by cases hj)
      have HO := Lib.hid (OW.out _ _ _ hown3)
      have HB3 := Lib.hid hB3
      clear hown3 hgrow3 hnil3 hob3 hB3
      go_wp2_with fail
      go_meet
      case rel =>
        obtain ⟨a1, c1, e, h⟩ := HO.out
        exact ⟨a1, c1, e, h, HB3.out⟩
  case rest =>
    obtain ⟨a1, c1, rfl, hA, hB⟩ := hcut
    obtain ⟨wA, rfl⟩ : ∃ wA : World, wA = wc := ⟨_, rfl⟩
    have HA := Lib.hid hA
    have HB := Lib.hid hB
    clear hA hB PT
    go_upto_region 3 with fail
    go_cut [6] (fun s6 wx => ∃ a2 c2, s6 = .slice a2 m c2 ∧ IsAt wx (.slice a2 m c2) (L.take m) ∧ Below wA.heap.size wA wx)
    case first =>
      cases a1 with
      | none =>
        have hm0 : m = 0 ∧ c1 = 0 := by
          rcases HA.out with ⟨e, -⟩ | ⟨g, off, c, e, -⟩
          · cases e; exact ⟨rfl, rfl⟩
          · cases e
        obtain ⟨rfl, rfl⟩ := hm0
        go_wp2_with (at_builtin; refine wpList_append_own_none rfl (.tmp 21) (.tmp 22) 33 rfl wA.heap.size 25 il 4 Try.underlying33 hi0 _ _ _ rfl (World.ownsRow_nil wA wA.heap.size 25 4) rfl ?_)
        go_meet
        case rel => exact ⟨none, 0, rfl, .inl ⟨rfl, by simp⟩, Below.refl _ _⟩
      | some ad =>
        have PT1 : Hid (∀ j u, (flatI (L.take m))[j]? = some u → wA.cell? (ad.add j) = some u) := by
          rcases HA.out with ⟨e, -⟩ | ⟨g, off, c, e, hl, hg, hC⟩
          · cases e
          · have e' : ad = ⟨g, off, none⟩ := by simp only [Value.slice.injEq, Option.some.injEq] at e; exact e.1
            subst e'
            refine Lib.hid fun j u hu => ?_
            have := hC.part 0 m j u (by rw [List.drop_zero, List.take_of_length_le (by rw [HFL.out]; omega)]; exact hu)
            simpa using this
        go_wp2_with (at_builtin; refine wpList_append_own_at _ rfl (.tmp 21) (.tmp 22) 33 rfl wA.heap.size 25 il (.agg #[.int .i64 0, .int .i64 0, .int .i64 0, .int .i64 0]) 4 32 Try.underlying33 hi0 hz0 hz1 hz2 rfl (by decide) (.slice none 0 0) 0 [] rfl (World.ownsRow_nil wA _ _ _) ad m c1 (flatI (L.take m)) rfl (by rw [flatI_len, HFL.out]; omega) PT1.out (flatI_one _) (by unfold maxLen; omega) (by omega) (Nat.le_refl _) ?_; intro v3 w3 hown3 hgrow3 hnil3 hob3)
        have hB3 : Below wA.heap.size wA w3 := (Below.refl _ wA).grown hgrow3 (Nat.le_refl _) (fun j hj => by cases hj)
        have HO := Lib.hid (OW.out _ _ _ hown3)
        have HB3 := Lib.hid hB3
        clear hown3 hgrow3 hnil3 hob3 hB3
        go_wp2_with fail
        go_meet
        case rel =>
          obtain ⟨a2, c2, e, h⟩ := HO.out
          exact ⟨a2, c2, e, h, HB3.out⟩
    case rest =>
      obtain ⟨a2, c2, rfl, hC, hB2⟩ := hcut
      obtain ⟨wB, rfl⟩ : ∃ wB : World, wB = wc := ⟨_, rfl⟩
      have HC := Lib.hid hC
      have HB2 := Lib.hid hB2
      clear hC hB2
      go_wp2_with fail
      go_loopw [7] (fun iv wr => ∃ i : Nat, i ≤ 2 ∧ iv = .int .i64 i ∧ Below wB.heap.size wB wr) (fun iv _ => 2 - (intOf iv).toNat)
      case atStart => exact ⟨0, by omega, rfl, Below.refl _ _⟩
      case round =>
        obtain ⟨i, hi, rfl, hB⟩ := hrel
        by_cases hi2 : i < 2
        · rcases (by omega : i = 0 ∨ i = 1) with rfl | rfl
          · obtain ⟨r1, r2, r3, r4, r5, K1, K2⟩ := KB.out (k)
            replace K1 := Lib.hid (K1 (.slice a1 m c1))
            replace K2 := Lib.hid (K2 (.slice a2 m c2))
            have HAr := Lib.hid (HA.out.below (below_st HB2.out hB))
            have HCr := Lib.hid (HC.out.below hB)
            have HBr := Lib.hid hB
            clear hB
            go_wp2_with fail
            (with_reducible refine (K1.out _ HAr.out).mono ?_)
            rintro e u1 ⟨rfl, hb⟩
            have hX := Blk.new u1 25 #[.int .i64 r1, .int .i64 r2, .int .i64 r3, .int .i64 r4]
            have hb1 : Below u1.heap.size u1 (u1.alloc (.cells #[.int .i64 r1, .int .i64 r2, .int .i64 r3, .int .i64 r4] 25)) := (Below.refl _ u1).alloc (Nat.le_refl _) _
            have HC1 := Lib.hid (HCr.out.below (below_st hb hb1))
            have HB1 := Lib.hid (below_st HBr.out (below_st hb hb1))
            clear hb hb1
            go_wp2_with fail
            (with_reducible refine (K2.out _ HC1.out).mono ?_)
            rintro e u2 ⟨rfl, hb⟩
            replace hX := hX.below hb hX.lt
            have x0 := hX.cell 0
            have x1 := hX.cell 1
            have x2 := hX.cell 2
            have x3 := hX.cell 3
            have zx := hX.lt
            have HB3 := Lib.hid ((below_st HB1.out hb).alloc (below_st HB1.out hb).size (.cells #[.int .i64 r1, .int .i64 r2, .int .i64 r3, .int .i64 r4] 25))
            clear hb hX
            go_wp2_with fail
            go_roundw
            case rel => exact ⟨1, by omega, by go_num, HB3.out⟩
            case measure => simp [intOf]
          · have aw1 := aroundI_lo k 12 (by decide)
            have aw2 := aroundI_hi k 12 (by decide)
            obtain ⟨q, hq⟩ : ∃ q, aroundI k 12 = q := ⟨_, rfl⟩
            rw [hq] at aw1 aw2 AR
            clear hq
            obtain ⟨r1, r2, r3, r4, r5, K1, K2⟩ := KB.out (1 + q)
            replace K1 := Lib.hid (K1 (.slice a1 m c1))
            replace K2 := Lib.hid (K2 (.slice a2 m c2))
            have HAr := Lib.hid (HA.out.below (below_st HB2.out hB))
            have HCr := Lib.hid (HC.out.below hB)
            have HBr := Lib.hid hB
            clear hB
            go_wp2_with fail
            (with_reducible refine (AR.out _).mono ?_)
            rintro e w1 ⟨rfl, rfl⟩
            go_wp2_with fail
            (with_reducible refine (K1.out _ HAr.out).mono ?_)
            rintro e u1 ⟨rfl, hb⟩
            have hX := Blk.new u1 25 #[.int .i64 r1, .int .i64 r2, .int .i64 r3, .int .i64 r4]
            have hb1 : Below u1.heap.size u1 (u1.alloc (.cells #[.int .i64 r1, .int .i64 r2, .int .i64 r3, .int .i64 r4] 25)) := (Below.refl _ u1).alloc (Nat.le_refl _) _
            have HC1 := Lib.hid (HCr.out.below (below_st hb hb1))
            have HB1 := Lib.hid (below_st HBr.out (below_st hb hb1))
            clear hb hb1
            go_wp2_with fail
            (with_reducible refine (K2.out _ HC1.out).mono ?_)
            rintro e u2 ⟨rfl, hb⟩
            replace hX := hX.below hb hX.lt
            have x0 := hX.cell 0
            have x1 := hX.cell 1
            have x2 := hX.cell 2
            have x3 := hX.cell 3
            have zx := hX.lt
            have HB3 := Lib.hid ((below_st HB1.out hb).alloc (below_st HB1.out hb).size (.cells #[.int .i64 r1, .int .i64 r2, .int .i64 r3, .int .i64 r4] 25))
            clear hb hX
            go_wp2_with fail
            go_roundw
            case rel => exact ⟨2, by omega, by go_num, HB3.out⟩
            case measure => simp [intOf]
        · obtain rfl : i = 2 := by omega
          have HBr := Lib.hid hB
          clear hB hi hi2
          go_wp2_with fail
          obtain ⟨wC, rfl⟩ : ∃ wC : World, wC = wr := ⟨_, rfl⟩
          go_loopw [13] (fun iv wr => ∃ i : Nat, i ≤ m ∧ iv = .int .i64 i ∧ Below wC.heap.size wC wr) (fun iv _ => m - (intOf iv).toNat)
          case atStart => exact ⟨0, by omega, rfl, Below.refl _ _⟩
          case round =>
            obtain ⟨i, hi, rfl, hB⟩ := hrel
            by_cases him : i < m
            · obtain ⟨x, hx⟩ : ∃ x, (L.take m)[i]? = some x := ⟨_, List.getElem?_eq_getElem (by rw [HFL.out]; exact him)⟩
              have hbB := below_st HBr.out hB
              obtain ⟨g1, o1, rfl, hg1, p0, p1, p2, p3⟩ := (HA.out.below (below_st HB2.out hbB)).get hx
              obtain ⟨g2, o2, rfl, hg2, q0, q1, q2, q3⟩ := (HC.out.below hbB).get hx
              obtain ⟨x1, x2, x3, x4⟩ := x
              simp only at p0 p1 p2 p3 q0 q1 q2 q3
              have HB4 := Lib.hid hB
              have i0 : (0 : Int) ≤ (i : Int) := by omega
              have i1 : (i : Int) < (m : Int) := by omega
              clear hB hbB hx
              go_wp2_with fail
              go_quiet (fail)
              go_wp2_with fail
              go_roundw
              case rel => exact ⟨i + 1, by omega, by go_num, below_draw HB4.out _⟩
              case measure => simp [intOf]; omega
            · obtain rfl : i = m := by omega
              have HB4 := Lib.hid (below_st HBr.out hB)
              clear hB
              go_wp2_with fail
              refine (lives_any _).mono ?_
              rintro e v1 ⟨rfl, hb⟩
              have hW := below_st HB.out (below_st HB2.out (below_st HB4.out hb))
              go_wp2
              go_ret
              exact ⟨rfl, hW⟩
end Go.Proofs.Yteppamchbgnlfaa
