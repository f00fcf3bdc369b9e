/- The reference's Within. Conditions: numbers of 64 bits. -/
import Derived.Test.YteppamchbgnlfaaIv8
namespace Go.Proofs.Yteppamchbgnlfaa
open Go.RowKit

def rinB (a b c d a' b' c' d' : Int) : Bool := (vIB a b c d && rconB a' b' c' d' a b) && rconB a' b' c' d' c d
set_option maxRecDepth 100000 in
set_option maxHeartbeats 4000000 in
theorem rin_w {a b c d a' b' c' d' : Int} (h : W2 a b) (k : W2 c d) (h' : W2 a' b') (k' : W2 c' d') (w : World) :
    Calls Try.prog 15 #[.agg #[.int .i64 a, .int .i64 b, .int .i64 c, .int .i64 d], .agg #[.int .i64 a', .int .i64 b', .int .i64 c', .int .i64 d']] w fun e w' => e = .returned (.bool (rinB a b c d a' b' c' d')) ∧ Below w.heap.size w w' := by
  have V1 := jvalid_w h k
  have V2 := rcon_w h' k' h
  have V3 := rcon_w h' k' k
  unfold rinB
  obtain ⟨hA, hE, hW⟩ := start2 w 25 #[.int .i64 a, .int .i64 b, .int .i64 c, .int .i64 d] 25 #[.int .i64 a', .int .i64 b', .int .i64 c', .int .i64 d']
  clear h k h' k'
  obtain ⟨u, hu⟩ : ∃ u, vIB a b c d = u := ⟨_, rfl⟩
  obtain ⟨v, hv⟩ : ∃ v, rconB a' b' c' d' a b = v := ⟨_, rfl⟩
  obtain ⟨x, hx⟩ : ∃ x, rconB a' b' c' d' c d = x := ⟨_, rfl⟩
  rw [hu] at V1 ⊢
  rw [hv] at V2 ⊢
  rw [hx] at V3 ⊢
  clear hu hv hx
  replace V1 := Lib.hid V1
  replace V2 := Lib.hid V2
  replace V3 := Lib.hid V3
  cases u <;> cases v <;> cases x
  all_goals
    have cA0 := hA.cell 0
    have cA1 := hA.cell 1
    have cA2 := hA.cell 2
    have cA3 := hA.cell 3
    have zA := hA.lt
    have cE0 := hE.cell 0
    have cE1 := hE.cell 1
    have cE2 := hE.cell 2
    have cE3 := hE.cell 3
    have zE := hE.lt
    go_enter Try.func15, Try.ntmps15
    go_wp2_with fail
    (with_reducible refine (V1.out _).mono ?_)
    rintro e w1 ⟨rfl, hB⟩
    replace hA := hA.below hB hA.lt
    replace hE := hE.below hB hE.lt
    replace hW := below_st hW hB
    clear hB cA0 cA1 cA2 cA3 zA cE0 cE1 cE2 cE3 zE V1
    have cA0 := hA.cell 0
    have cA1 := hA.cell 1
    have cA2 := hA.cell 2
    have cA3 := hA.cell 3
    have zA := hA.lt
    have cE0 := hE.cell 0
    have cE1 := hE.cell 1
    have cE2 := hE.cell 2
    have cE3 := hE.cell 3
    have zE := hE.lt
    go_wp2_with fail
    (with_reducible refine (V2.out _).mono ?_)
    rintro e w2 ⟨rfl, hB⟩
    replace hA := hA.below hB hA.lt
    replace hE := hE.below hB hE.lt
    replace hW := below_st hW hB
    clear hB cA0 cA1 cA2 cA3 zA cE0 cE1 cE2 cE3 zE V2
    have cA0 := hA.cell 0
    have cA1 := hA.cell 1
    have cA2 := hA.cell 2
    have cA3 := hA.cell 3
    have zA := hA.lt
    have cE0 := hE.cell 0
    have cE1 := hE.cell 1
    have cE2 := hE.cell 2
    have cE3 := hE.cell 3
    have zE := hE.lt
    go_wp2_with fail
    (with_reducible refine (V3.out _).mono ?_)
    rintro e w3 ⟨rfl, hB⟩
    replace hA := hA.below hB hA.lt
    replace hE := hE.below hB hE.lt
    replace hW := below_st hW hB
    clear hB cA0 cA1 cA2 cA3 zA cE0 cE1 cE2 cE3 zE V3
    have cA0 := hA.cell 0
    have cA1 := hA.cell 1
    have cA2 := hA.cell 2
    have cA3 := hA.cell 3
    have zA := hA.lt
    have cE0 := hE.cell 0
    have cE1 := hE.cell 1
    have cE2 := hE.cell 2
    have cE3 := hE.cell 3
    have zE := hE.lt
    have HW := Lib.hid hW
    clear hA hE hW
    go_wp2
    go_ret
    exact ⟨rfl, HW.out⟩
end Go.Proofs.Yteppamchbgnlfaa
