/- The law's own examples hold: lives returns true. Conditions: the variables as laid. -/
import Derived.Test.YtkdbffhmnkkbcaaDoorParse
namespace Go.Proofs.YtkdbffhmnkkbcaaDoor
open Go.RowKit

theorem lv_new : newR 6 (-8) = (-3, 4, 0) := by decide
theorem lv_add : addR 1 2 1 3 = (5, 6, 0) := by decide
theorem lv_div : divR (-3) 4 0 1 = (0, 0, 6) := by decide
theorem lv_cmp : cmpR (-3) 4 5 6 = -1 := by decide
theorem lv_dig (k : Nat) (h : k < 10) : Lib.decDigits k = [UInt8.ofNat (48 + k)] := by
  rw [Lib.decDigits, dif_pos h]
theorem lv_text : textL (-3) 4 = [45, 51, 47, 52] := by
  unfold textL
  rw [if_pos (by decide), if_neg (by decide)]
  unfold Lib.itoa
  rw [if_pos (by decide), if_neg (by decide)]
  rw [show (-3 : Int).natAbs = 3 from rfl, show (4 : Int).toNat = 4 from rfl, lv_dig 3 (by decide), lv_dig 4 (by decide)]
  rfl
theorem lv_parse : parseR [50, 47, 52] = (0, 0, 2) := by
  unfold parseR
  rw [show parseO [50, 47, 52] = (some 2, some 4) by decide]
  have h : textL 2 4 = [] := by unfold textL; rw [if_neg (by decide)]
  show (if textL 2 4 = [50, 47, 52] then ((2, 4, 0) : R3) else (0, 0, 2)) = (0, 0, 2)
  rw [h]
  decide

set_option maxRecDepth 100000 in
set_option maxHeartbeats 4000000 in
theorem lives_any (w : World) (hE : Env w) :
    Calls Tryd.prog 15 #[] w fun e w' => e = .returned (.bool true) ∧ Below w.heap.size w w' := by
  have C1 := fun W => new_any 6 (-8) W (by decide) (by decide) (by decide) (by decide)
  have C2 := fun W => add_any 1 2 1 3 W (by decide) (by decide) (by decide) (by decide) (by decide) (by decide) (by decide) (by decide)
  have C3 := fun W => div_any (-3) 4 0 1 W (by decide) (by decide) (by decide) (by decide) (by decide) (by decide) (by decide) (by decide)
  have C4 := fun W hW => parse_any ⟨#[50, 47, 52]⟩ (by decide) W hW
  have C5 := fun W hW => text_any (-3) 4 W (by decide) (by decide) (by decide) (by decide) hW
  have C6 := fun W => cmp_any (-3) 4 5 6 W (by decide) (by decide) (by decide) (by decide) (by decide) (by decide) (by decide) (by decide)
  rw [lv_new] at C1
  rw [lv_add] at C2
  rw [lv_div] at C3
  rw [show (⟨#[50, 47, 52]⟩ : ByteArray).data.toList = [50, 47, 52] from rfl, lv_parse] at C4
  rw [lv_text] at C5
  rw [lv_cmp] at C6
  unfold RV at C1 C2 C3 C4
  unfold str at C5
  have C1 := Lib.hid C1
  have C2 := Lib.hid C2
  have C3 := Lib.hid C3
  have C4 := Lib.hid C4
  have C5 := Lib.hid C5
  have C6 := Lib.hid C6
  have e1 := fun a b c d W => feq_walk a b c d W
  go_enter Tryd.func15, Tryd.ntmps15
  go_wp2_with fail
  refine (C1.out _).mono ?_
  rintro e w1 ⟨rfl, hB⟩
  have hA := Blk.new w1 24 #[.int .i64 (-3), .int .i64 4]
  have hW1 := hB.alloc hB.size (.cells #[.int .i64 (-3), .int .i64 4] 24)
  clear hB
  go_wp2_with fail
  refine (C2.out _).mono ?_
  rintro e w2 ⟨rfl, hB⟩
  have hA2 := hA.below hB hA.lt
  have hW2 := below_st hW1 hB
  clear hA hW1
  have hz : w1.heap.size < w2.heap.size := hA2.lt
  have c0 := hA2.cell 0
  have c1 := hA2.cell 1
  have hA3 := hA2.alloc (.cells #[.int .i64 5, .int .i64 6] 24)
  have hB3 := Blk.new w2 24 #[.int .i64 5, .int .i64 6]
  have hW3 := hW2.alloc hW2.size (.cells #[.int .i64 5, .int .i64 6] 24)
  clear hB
  go_wp2_with fail
  refine (C3.out _).mono ?_
  rintro e w3 ⟨rfl, hB⟩
  have hA4 := (hA3.below hB hA3.lt).alloc (.cells #[.int .i64 0, .int .i64 0] 24)
  have hB4 := (hB3.below hB hB3.lt).alloc (.cells #[.int .i64 0, .int .i64 0] 24)
  have hW4 := (below_st hW3 hB).alloc (below_st hW3 hB).size (.cells #[.int .i64 0, .int .i64 0] 24)
  clear hA3 hB3 hW3 hB c0 c1 hz
  go_wp2_with fail
  refine (C4.out _ (hE.below hW4)).mono ?_
  rintro e w4 ⟨rfl, hB⟩
  have hA5 := hA4.below hB hA4.lt
  have hB5 := hB4.below hB hB4.lt
  have hW5 := below_st hW4 hB
  have hz1 : w1.heap.size < w4.heap.size := hA5.lt
  have hz2 : w2.heap.size < w4.heap.size := hB5.lt
  have c0 := hA5.cell 0
  have c1 := hA5.cell 1
  have c2 := hB5.cell 0
  have c3 := hB5.cell 1
  have hA6 := hA5.alloc (.cells #[.int .i64 0, .int .i64 0] 24)
  have hB6 := hB5.alloc (.cells #[.int .i64 0, .int .i64 0] 24)
  have hW6 := hW5.alloc hW5.size (.cells #[.int .i64 0, .int .i64 0] 24)
  clear hA4 hB4 hW4 hB hA5 hB5 hW5
  go_wp2_with fail
  refine (C5.out _ (hE.below hW6)).mono ?_
  rintro e w5 ⟨rfl, hB⟩
  have hA7 := hA6.below hB hA6.lt
  have hB7 := hB6.below hB hB6.lt
  have hW7 := below_st hW6 hB
  clear hA6 hB6 hW6 hB c0 c1 c2 c3 hz1 hz2
  have c0 := hA7.cell 0
  have c1 := hA7.cell 1
  have c2 := hB7.cell 0
  have c3 := hB7.cell 1
  have HW7 := Lib.hid hW7
  clear hW7
  go_wp2_with fail
  refine (C6.out _).mono ?_
  rintro e w6 ⟨rfl, hB⟩
  have HW8 := Lib.hid (below_st HW7.out hB)
  clear hB
  go_wp2
  go_ret
  exact ⟨rfl, HW8.out⟩
end Go.Proofs.YtkdbffhmnkkbcaaDoor
