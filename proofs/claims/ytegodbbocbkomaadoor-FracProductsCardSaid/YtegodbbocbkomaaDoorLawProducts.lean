/- The law FracProducts holds. Conditions: the variables as laid; numbers of 64 bits. -/
import Derived.Test.YtegodbbocbkomaaDoorRefB
import Derived.Test.YtegodbbocbkomaaDoorField2
namespace Go.Proofs.YtegodbbocbkomaaDoor
open Go.RowKit

set_option maxRecDepth 100000 in
set_option maxHeartbeats 4000000 in
theorem law_products (an ad bn bd : Int) (w : World) (a0 : -9223372036854775808 ≤ an) (a1 : an ≤ 9223372036854775807) (a2 : -9223372036854775808 ≤ ad) (a3 : ad ≤ 9223372036854775807) (b0 : -9223372036854775808 ≤ bn) (b1 : bn ≤ 9223372036854775807) (b2 : -9223372036854775808 ≤ bd) (b3 : bd ≤ 9223372036854775807) (hE : Env w) :
    Calls Tryd.prog 5 #[.agg #[.int .i64 an, .int .i64 ad], .agg #[.int .i64 bn, .int .i64 bd]] w fun e w' => e = .returned (.bool true) ∧ Below w.heap.size w w' := by
  have T1 := fun W => mul_any an ad bn bd W a0 a1 a2 a3 b0 b1 b2 b3
  have T2 := fun W => div_any an ad bn bd W a0 a1 a2 a3 b0 b1 b2 b3
  have T3 := fun W => rmul_any an ad bn bd W a0 a1 a2 a3 b0 b1 b2 b3
  have T4 := fun W => rdiv_any an ad bn bd W a0 a1 a2 a3 b0 b1 b2 b3
  obtain ⟨⟨x1, x2, x3⟩, hrx⟩ : ∃ r, mulR an ad bn bd = r := ⟨_, rfl⟩
  obtain ⟨⟨y1, y2, y3⟩, hry⟩ : ∃ r, divR an ad bn bd = r := ⟨_, rfl⟩
  rw [hrx] at T1
  unfold RV at T1
  simp only at T1
  replace T1 := Lib.hid T1
  rw [hry] at T2
  unfold RV at T2
  simp only at T2
  replace T2 := Lib.hid T2
  rw [hrx] at T3
  unfold RV at T3
  simp only at T3
  replace T3 := Lib.hid T3
  rw [hry] at T4
  unfold RV at T4
  simp only at T4
  replace T4 := Lib.hid T4
  clear hrx hry a0 a1 a2 a3 b0 b1 b2 b3
  have hF : Frs w [] := fun x hx => by cases hx
  have hF := (hF.new an ad).new bn bd
  rw [World.size_alloc] at hF
  have hW : Below w.heap.size w ((w.alloc (.cells #[.int .i64 an, .int .i64 ad] 23)).alloc (.cells #[.int .i64 bn, .int .i64 bd] 23)) := ((Below.refl _ w).alloc (Nat.le_refl _) _).alloc (by simp) _
  have LV := Lib.hid (fun W (h : Below w.heap.size w W) => lives_any W (hE.below h))
  obtain ⟨ca0, ca1, za⟩ := hF.get (g := w.heap.size) (n := an) (d := ad) (by simp)
  obtain ⟨cb0, cb1, zb⟩ := hF.get (g := w.heap.size + 1) (n := bn) (d := bd) (by simp)
  clear hE
  go_enter Tryd.func5, Tryd.ntmps5
  go_wp2_with fail
  refine (T1.out _).mono ?_
  rintro e w1 ⟨rfl, hB⟩
  have hF := hF.below hB
  have hW := below_st hW hB
  clear hB T1 ca0 ca1 za cb0 cb1 zb
  obtain ⟨ca0, ca1, za⟩ := hF.get (g := w.heap.size) (n := an) (d := ad) (by simp)
  obtain ⟨cb0, cb1, zb⟩ := hF.get (g := w.heap.size + 1) (n := bn) (d := bd) (by simp)
  have hF := hF.new x1 x2
  have hW := hW.alloc hW.size (.cells #[.int .i64 x1, .int .i64 x2] 23)
  go_wp2_with fail
  refine (T2.out _).mono ?_
  rintro e w2 ⟨rfl, hB⟩
  have hF := hF.below hB
  have hW := below_st hW hB
  clear hB T2 ca0 ca1 za cb0 cb1 zb
  obtain ⟨ca0, ca1, za⟩ := hF.get (g := w.heap.size) (n := an) (d := ad) (by simp)
  obtain ⟨cb0, cb1, zb⟩ := hF.get (g := w.heap.size + 1) (n := bn) (d := bd) (by simp)
  have hF := hF.new y1 y2
  have hW := hW.alloc hW.size (.cells #[.int .i64 y1, .int .i64 y2] 23)
  go_wp2_with fail
  refine (T3.out _).mono ?_
  rintro e w3 ⟨rfl, hB⟩
  have hF := hF.below hB
  have hW := below_st hW hB
  clear hB T3 ca0 ca1 za cb0 cb1 zb
  obtain ⟨ca0, ca1, za⟩ := hF.get (g := w.heap.size) (n := an) (d := ad) (by simp)
  obtain ⟨cb0, cb1, zb⟩ := hF.get (g := w.heap.size + 1) (n := bn) (d := bd) (by simp)
  have hF := hF.new x1 x2
  have hW := hW.alloc hW.size (.cells #[.int .i64 x1, .int .i64 x2] 23)
  go_wp2_with fail
  refine (T4.out _).mono ?_
  rintro e w4 ⟨rfl, hB⟩
  have hF := hF.below hB
  have hW := below_st hW hB
  clear hB T4 ca0 ca1 za cb0 cb1 zb
  obtain ⟨ca0, ca1, za⟩ := hF.get (g := w.heap.size) (n := an) (d := ad) (by simp)
  obtain ⟨cb0, cb1, zb⟩ := hF.get (g := w.heap.size + 1) (n := bn) (d := bd) (by simp)
  obtain ⟨cr10, cr11, zr1⟩ := hF.get (g := w1.heap.size) (n := x1) (d := x2) (by simp)
  obtain ⟨cr20, cr21, zr2⟩ := hF.get (g := w2.heap.size) (n := y1) (d := y2) (by simp)
  obtain ⟨cr30, cr31, zr3⟩ := hF.get (g := w3.heap.size) (n := x1) (d := x2) (by simp)
  have hW := hW.alloc hW.size (.cells #[.int .i64 y1, .int .i64 y2] 23)
  go_wp2_with fail
  refine (LV.out _ hW).mono ?_
  rintro e wl ⟨rfl, hB⟩
  have HW := Lib.hid (below_st hW hB)
  clear hB
  go_wp2
  go_ret
  exact ⟨rfl, HW.out⟩
end Go.Proofs.YtegodbbocbkomaaDoor
