/- The law FracParses holds. Conditions: the variables as laid. -/
import Derived.Test.YtegodbbocbkomaaDoorRParse
import Derived.Test.YtegodbbocbkomaaDoorParse
import Derived.Test.YtegodbbocbkomaaDoorLawTexts
namespace Go.Proofs.YtegodbbocbkomaaDoor
open Go.RowKit

set_option maxRecDepth 100000 in
set_option maxHeartbeats 4000000 in
theorem short_any (s : ByteArray) (hs : s.size ≤ 140737488355328) (w : World) :
    Calls Tryd.prog 31 #[.string s, .int .i64 45] w fun e w' => (∃ t : ByteArray, e = .returned (.string t) ∧ t.size ≤ 140737488355328) ∧ Below w.heap.size w w' := by
  by_cases h : 45 < s.size
  · have h1 : (45 : Int) < (s.size : Int) := by omega
    go_enter Tryd.func31, Tryd.ntmps31
    go_wp2
    go_ret
    exact ⟨⟨s.extract 0 45, rfl, by rw [ByteArray.size_extract]; omega⟩, Below.refl _ _⟩
  · have h1 : ¬ (45 : Int) < (s.size : Int) := by omega
    go_enter Tryd.func31, Tryd.ntmps31
    go_wp2
    go_ret
    exact ⟨⟨s, rfl, hs⟩, Below.refl _ _⟩

set_option maxRecDepth 100000 in
set_option maxHeartbeats 8000000 in
theorem law_parses (s : ByteArray) (w : World) (hs : s.size ≤ 140737488355328) (hE : Env w) :
    Calls Tryd.prog 8 #[.string s] w fun e w' => e = .returned (.bool true) ∧ Below w.heap.size w w' := by
  have SH := Lib.hid (fun W => short_any s hs W)
  go_enter Tryd.func8, Tryd.ntmps8
  go_wp2_with fail
  refine (SH.out _).mono ?_
  rintro e w1 ⟨⟨t, rfl, ht⟩, hW⟩
  have hE1 := hE.below hW
  have PA := fun W hE => parse_any t ht W hE
  have RP := fun W => rparse_any t ht W
  obtain ⟨⟨x1, x2, x3⟩, hx⟩ : ∃ x, parseR t.data.toList = x := ⟨_, rfl⟩
  rw [hx] at PA RP
  unfold RV at PA RP
  simp only at PA RP
  replace PA := Lib.hid PA
  replace RP := Lib.hid RP
  clear SH hE hx hs ht
  go_wp2_with fail
  (with_reducible refine (PA.out _ hE1).mono ?_)
  rintro e w2 ⟨rfl, hB⟩
  replace hW := below_st hW hB
  have hE2 := hE1.below hB
  clear hB PA hE1
  go_wp2_with fail
  have hA := Blk.new w2 23 #[.int .i64 x1, .int .i64 x2]
  replace hE2 := hE2.below ((Below.refl w2.heap.size w2).alloc (Nat.le_refl _) (.cells #[.int .i64 x1, .int .i64 x2] 23))
  replace hW := hW.alloc hW.size (.cells #[.int .i64 x1, .int .i64 x2] 23)
  (with_reducible refine (RP.out _).mono ?_)
  rintro e w3 ⟨rfl, hB⟩
  replace hW := below_st hW hB
  replace hA := hA.below hB hA.lt
  have hE3 := hE2.below hB
  clear hB RP hE2
  have a0 := hA.cell 0
  have a1 := hA.cell 1
  have za := hA.lt
  replace hE3 := hE3.below ((Below.refl w3.heap.size w3).alloc (Nat.le_refl _) (.cells #[.int .i64 x1, .int .i64 x2] 23))
  replace hW := hW.alloc hW.size (.cells #[.int .i64 x1, .int .i64 x2] 23)
  have HW := Lib.hid hW
  clear hA hW
  go_wp2_with fail
  (with_reducible refine (lives_any _ hE3).mono ?_)
  rintro e w4 ⟨rfl, hB⟩
  have HB := Lib.hid (below_st HW.out hB)
  clear hB hE3 HW
  go_wp2
  go_ret
  exact ⟨rfl, HB.out⟩
end Go.Proofs.YtegodbbocbkomaaDoor
