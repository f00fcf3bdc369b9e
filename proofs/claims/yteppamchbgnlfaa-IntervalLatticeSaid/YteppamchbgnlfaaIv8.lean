/- The reference's Contains. Conditions: numbers of 64 bits. -/
import Derived.Test.YteppamchbgnlfaaIv3
namespace Go.Proofs.Yteppamchbgnlfaa
open Go.RowKit

def rconB (a b c d n m : Int) : Bool := ((vIB a b c d && vB n m) && decide (cmpR a b n m ≤ 0)) && decide (cmpR n m c d ≤ 0)
set_option maxRecDepth 100000 in
set_option maxHeartbeats 4000000 in
theorem rcon_w {a b c d n m : Int} (h : W2 a b) (k : W2 c d) (j : W2 n m) (w : World) :
    Calls Try.prog 17 #[.agg #[.int .i64 a, .int .i64 b, .int .i64 c, .int .i64 d], .agg #[.int .i64 n, .int .i64 m]] w fun e w' => e = .returned (.bool (rconB a b c d n m)) ∧ Below w.heap.size w w' := by
  have V1 := jvalid_w h k
  have V2 := rvalid_w j
  have C1 := rcmp_w h j
  have C2 := rcmp_w j k
  unfold rconB
  obtain ⟨hA, hE, hW⟩ := start2 w 25 #[.int .i64 a, .int .i64 b, .int .i64 c, .int .i64 d] 23 #[.int .i64 n, .int .i64 m]
  clear h k j
  obtain ⟨u, hu⟩ : ∃ u, vIB a b c d = u := ⟨_, rfl⟩
  obtain ⟨v, hv⟩ : ∃ v, vB n m = v := ⟨_, rfl⟩
  obtain ⟨z1, hz1⟩ : ∃ z, cmpR a b n m = z := ⟨_, rfl⟩
  obtain ⟨z2, hz2⟩ : ∃ z, cmpR n m c d = z := ⟨_, rfl⟩
  rw [hu] at V1 ⊢
  rw [hv] at V2 ⊢
  rw [hz1] at C1 ⊢
  rw [hz2] at C2 ⊢
  clear hu hv hz1 hz2
  obtain ⟨y1, hy1⟩ : ∃ y, decide (z1 ≤ 0) = y := ⟨_, rfl⟩
  obtain ⟨y2, hy2⟩ : ∃ y, decide (z2 ≤ 0) = y := ⟨_, rfl⟩
  rw [hy1, hy2]
  replace V1 := Lib.hid V1
  replace V2 := Lib.hid V2
  replace C1 := Lib.hid C1
  replace C2 := Lib.hid C2
  cases u
  · cases v
    all_goals
      clear C1 C2 hy1 hy2
      have cA0 := hA.cell 0
      have cA1 := hA.cell 1
      have cA2 := hA.cell 2
      have cA3 := hA.cell 3
      have zA := hA.lt
      have cE0 := hE.cell 0
      have cE1 := hE.cell 1
      have zE := hE.lt
      go_enter Try.func17, Try.ntmps17
      go_wp2_with fail
      (with_reducible refine (V1.out _).mono ?_)
      rintro e w1 ⟨rfl, hB⟩
      replace hA := hA.below hB hA.lt
      replace hE := hE.below hB hE.lt
      replace hW := below_st hW hB
      clear hB cA0 cA1 cA2 cA3 zA cE0 cE1 zE V1
      have cA0 := hA.cell 0
      have cA1 := hA.cell 1
      have cA2 := hA.cell 2
      have cA3 := hA.cell 3
      have zA := hA.lt
      have cE0 := hE.cell 0
      have cE1 := hE.cell 1
      have zE := hE.lt
      go_wp2_with fail
      (with_reducible refine (V2.out _).mono ?_)
      rintro e w2 ⟨rfl, hB⟩
      replace hA := hA.below hB hA.lt
      replace hE := hE.below hB hE.lt
      replace hW := below_st hW hB
      clear hB cA0 cA1 cA2 cA3 zA cE0 cE1 zE V2
      have cA0 := hA.cell 0
      have cA1 := hA.cell 1
      have cA2 := hA.cell 2
      have cA3 := hA.cell 3
      have zA := hA.lt
      have cE0 := hE.cell 0
      have cE1 := hE.cell 1
      have zE := hE.lt
      have HW := Lib.hid hW
      clear hA hE hW
      go_wp2
      go_ret
      exact ⟨rfl, HW.out⟩
  · cases v
    · clear C1 C2 hy1 hy2
      have cA0 := hA.cell 0
      have cA1 := hA.cell 1
      have cA2 := hA.cell 2
      have cA3 := hA.cell 3
      have zA := hA.lt
      have cE0 := hE.cell 0
      have cE1 := hE.cell 1
      have zE := hE.lt
      go_enter Try.func17, Try.ntmps17
      go_wp2_with fail
      (with_reducible refine (V1.out _).mono ?_)
      rintro e w1 ⟨rfl, hB⟩
      replace hA := hA.below hB hA.lt
      replace hE := hE.below hB hE.lt
      replace hW := below_st hW hB
      clear hB cA0 cA1 cA2 cA3 zA cE0 cE1 zE V1
      have cA0 := hA.cell 0
      have cA1 := hA.cell 1
      have cA2 := hA.cell 2
      have cA3 := hA.cell 3
      have zA := hA.lt
      have cE0 := hE.cell 0
      have cE1 := hE.cell 1
      have zE := hE.lt
      go_wp2_with fail
      (with_reducible refine (V2.out _).mono ?_)
      rintro e w2 ⟨rfl, hB⟩
      replace hA := hA.below hB hA.lt
      replace hE := hE.below hB hE.lt
      replace hW := below_st hW hB
      clear hB cA0 cA1 cA2 cA3 zA cE0 cE1 zE V2
      have cA0 := hA.cell 0
      have cA1 := hA.cell 1
      have cA2 := hA.cell 2
      have cA3 := hA.cell 3
      have zA := hA.lt
      have cE0 := hE.cell 0
      have cE1 := hE.cell 1
      have zE := hE.lt
      have HW := Lib.hid hW
      clear hA hE hW
      go_wp2
      go_ret
      exact ⟨rfl, HW.out⟩
    · cases y1
      · clear C2 hy2
        have cA0 := hA.cell 0
        have cA1 := hA.cell 1
        have cA2 := hA.cell 2
        have cA3 := hA.cell 3
        have zA := hA.lt
        have cE0 := hE.cell 0
        have cE1 := hE.cell 1
        have zE := hE.lt
        go_enter Try.func17, Try.ntmps17
        go_wp2_with fail
        (with_reducible refine (V1.out _).mono ?_)
        rintro e w1 ⟨rfl, hB⟩
        replace hA := hA.below hB hA.lt
        replace hE := hE.below hB hE.lt
        replace hW := below_st hW hB
        clear hB cA0 cA1 cA2 cA3 zA cE0 cE1 zE V1
        have cA0 := hA.cell 0
        have cA1 := hA.cell 1
        have cA2 := hA.cell 2
        have cA3 := hA.cell 3
        have zA := hA.lt
        have cE0 := hE.cell 0
        have cE1 := hE.cell 1
        have zE := hE.lt
        go_wp2_with fail
        (with_reducible refine (V2.out _).mono ?_)
        rintro e w2 ⟨rfl, hB⟩
        replace hA := hA.below hB hA.lt
        replace hE := hE.below hB hE.lt
        replace hW := below_st hW hB
        clear hB cA0 cA1 cA2 cA3 zA cE0 cE1 zE V2
        have cA0 := hA.cell 0
        have cA1 := hA.cell 1
        have cA2 := hA.cell 2
        have cA3 := hA.cell 3
        have zA := hA.lt
        have cE0 := hE.cell 0
        have cE1 := hE.cell 1
        have zE := hE.lt
        go_wp2_with fail
        (with_reducible refine (C1.out _).mono ?_)
        rintro e w3 ⟨rfl, hB⟩
        replace hA := hA.below hB hA.lt
        replace hE := hE.below hB hE.lt
        replace hW := below_st hW hB
        clear hB cA0 cA1 cA2 cA3 zA cE0 cE1 zE C1
        have cA0 := hA.cell 0
        have cA1 := hA.cell 1
        have cA2 := hA.cell 2
        have cA3 := hA.cell 3
        have zA := hA.lt
        have cE0 := hE.cell 0
        have cE1 := hE.cell 1
        have zE := hE.lt
        have HW := Lib.hid hW
        clear hA hE hW
        go_wp2
        go_ret
        exact ⟨rfl, HW.out⟩
      · cases y2
        all_goals
          have cA0 := hA.cell 0
          have cA1 := hA.cell 1
          have cA2 := hA.cell 2
          have cA3 := hA.cell 3
          have zA := hA.lt
          have cE0 := hE.cell 0
          have cE1 := hE.cell 1
          have zE := hE.lt
          go_enter Try.func17, Try.ntmps17
          go_wp2_with fail
          (with_reducible refine (V1.out _).mono ?_)
          rintro e w1 ⟨rfl, hB⟩
          replace hA := hA.below hB hA.lt
          replace hE := hE.below hB hE.lt
          replace hW := below_st hW hB
          clear hB cA0 cA1 cA2 cA3 zA cE0 cE1 zE V1
          have cA0 := hA.cell 0
          have cA1 := hA.cell 1
          have cA2 := hA.cell 2
          have cA3 := hA.cell 3
          have zA := hA.lt
          have cE0 := hE.cell 0
          have cE1 := hE.cell 1
          have zE := hE.lt
          go_wp2_with fail
          (with_reducible refine (V2.out _).mono ?_)
          rintro e w2 ⟨rfl, hB⟩
          replace hA := hA.below hB hA.lt
          replace hE := hE.below hB hE.lt
          replace hW := below_st hW hB
          clear hB cA0 cA1 cA2 cA3 zA cE0 cE1 zE V2
          have cA0 := hA.cell 0
          have cA1 := hA.cell 1
          have cA2 := hA.cell 2
          have cA3 := hA.cell 3
          have zA := hA.lt
          have cE0 := hE.cell 0
          have cE1 := hE.cell 1
          have zE := hE.lt
          go_wp2_with fail
          (with_reducible refine (C1.out _).mono ?_)
          rintro e w3 ⟨rfl, hB⟩
          replace hA := hA.below hB hA.lt
          replace hE := hE.below hB hE.lt
          replace hW := below_st hW hB
          clear hB cA0 cA1 cA2 cA3 zA cE0 cE1 zE C1
          have cA0 := hA.cell 0
          have cA1 := hA.cell 1
          have cA2 := hA.cell 2
          have cA3 := hA.cell 3
          have zA := hA.lt
          have cE0 := hE.cell 0
          have cE1 := hE.cell 1
          have zE := hE.lt
          go_wp2_with fail
          (with_reducible refine (C2.out _).mono ?_)
          rintro e w4 ⟨rfl, hB⟩
          replace hA := hA.below hB hA.lt
          replace hE := hE.below hB hE.lt
          replace hW := below_st hW hB
          clear hB cA0 cA1 cA2 cA3 zA cE0 cE1 zE C2
          have cA0 := hA.cell 0
          have cA1 := hA.cell 1
          have cA2 := hA.cell 2
          have cA3 := hA.cell 3
          have zA := hA.lt
          have cE0 := hE.cell 0
          have cE1 := hE.cell 1
          have zE := hE.lt
          have HW := Lib.hid hW
          clear hA hE hW
          go_wp2
          go_ret
          exact ⟨rfl, HW.out⟩
end Go.Proofs.Yteppamchbgnlfaa
