/- The law FracBetween holds. Conditions: the variables as laid; numbers of 64 bits. -/
import Derived.Test.YtegodbbocbkomaaDoorMid
namespace Go.Proofs.YtegodbbocbkomaaDoor
open Go.RowKit

theorem sgn_mul {z k : Int} (hk : 0 < k) : sgn (z * k) = sgn z := by
  unfold sgn
  rcases Int.lt_trichotomy z 0 with h | h | h
  · rw [if_pos (Int.mul_neg_of_neg_of_pos h hk), if_pos h]
  · subst h; simp
  · have := Int.mul_pos h hk
    rw [if_neg (by omega), if_pos this, if_neg (by omega), if_pos h]

/-- The mediant lies between. -/
theorem between_cmp {an ad bn bd mn md k : Int} (ha : vP an ad) (hb : vP bn bd) (hm : vP mn md) (hk : 0 < k) (e1 : an + bn = mn * k) (e2 : ad + bd = md * k) :
    cmpR an ad mn md = cmpR an ad bn bd ∧ cmpR mn md bn bd = cmpR an ad bn bd := by
  unfold cmpR
  rw [if_pos ⟨ha, hm⟩, if_pos ⟨ha, hb⟩, if_pos ⟨hm, hb⟩]
  constructor
  · rw [← sgn_mul (z := an * md - mn * ad) hk, Int.sub_mul, Int.mul_assoc, ← e2, Int.mul_right_comm, ← e1, Int.mul_add, Int.add_mul]
    congr 1; omega
  · rw [← sgn_mul (z := mn * bd - bn * md) hk, Int.sub_mul, Int.mul_right_comm, ← e1, Int.mul_assoc, ← e2, Int.mul_add, Int.add_mul]
    congr 1
    have : bn * ad = ad * bn := Int.mul_comm _ _
    omega

theorem cmp_from (w0 W : World) (hW : Below w0.heap.size w0 W) (an ad bn bd : Int) (ha : vP an ad) (hb : vP bn bd) :
    Calls Tryd.prog 25 #[.agg #[.int .i64 an, .int .i64 ad], .agg #[.int .i64 bn, .int .i64 bd]] W fun e w' => e = .returned (.int .i64 (cmpR an ad bn bd)) ∧ Below w0.heap.size w0 w' :=
  (cmp_any an ad bn bd W (by have := ha.2.2.1; omega) (by have := ha.2.2.2.1; omega) (by have := ha.1; omega) (by have := ha.2.1; omega) (by have := hb.2.2.1; omega) (by have := hb.2.2.2.1; omega) (by have := hb.1; omega) (by have := hb.2.1; omega)).mono fun e w' ⟨he, hB⟩ => ⟨he, below_step hW hB⟩

set_option maxRecDepth 100000 in
set_option maxHeartbeats 4000000 in
theorem law_between (p q : Int) (w : World) (n0 : -9223372036854775808 ≤ p) (n1 : p ≤ 9223372036854775807) (d0 : -9223372036854775808 ≤ q) (d1 : q ≤ 9223372036854775807) (hE : Env w) :
    Calls Tryd.prog 11 #[.int .i64 p, .int .i64 q] w fun e w' => e = .returned (.bool true) ∧ Below w.heap.size w w' := by
  have M1 := Lib.hid (fun W => middle_any p W n0 n1)
  have M2 := Lib.hid (fun W => middle_any q W d0 d1)
  clear n0 n1 d0 d1
  go_enter Tryd.func11, Tryd.ntmps11
  go_wp2_with fail
  refine (M1.out _).mono ?_
  rintro e w1 ⟨⟨an, ad, rfl, hva, an5, ad5⟩, hB⟩
  have hA := Blk.new w1 23 #[.int .i64 an, .int .i64 ad]
  have hW1 := hB.alloc hB.size (.cells #[.int .i64 an, .int .i64 ad] 23)
  clear hB M1
  go_wp2_with fail
  refine (M2.out _).mono ?_
  rintro e w2 ⟨⟨bn, bd, rfl, hvb, bn5, bd5⟩, hB⟩
  have hA2 := hA.below hB hA.lt
  have hW2 := below_st hW1 hB
  have hz : w1.heap.size < w2.heap.size := hA2.lt
  have c0 := hA2.cell 0
  have c1 := hA2.cell 1
  have hA3 := hA2.alloc (.cells #[.int .i64 bn, .int .i64 bd] 23)
  have hB3 := Blk.new w2 23 #[.int .i64 bn, .int .i64 bd]
  have hW3 := hW2.alloc hW2.size (.cells #[.int .i64 bn, .int .i64 bd] 23)
  clear hB M2 hA hW1 hA2 hW2
  have va1 := hva.1
  have vb1 := hvb.1
  have s1 : IntKind.i64.wrap (an + bn) = an + bn := by rw [IntKind.wrap_i64]; omega
  have s2 : IntKind.i64.wrap (ad + bd) = ad + bd := by rw [IntKind.wrap_i64]; omega
  obtain ⟨mn, md, k, hm, hvm, hk, e1, e2, -, -⟩ := new_small (n := an + bn) (d := ad + bd) (by omega) (by omega) (by omega)
  have NW := fun W => new_any (an + bn) (ad + bd) W (by omega) (by omega) (by omega) (by omega)
  rw [hm] at NW
  unfold RV at NW
  simp only at NW
  obtain ⟨k1, k2⟩ := between_cmp hva hvb hvm hk e1 e2
  have NW := Lib.hid NW
  have X1 := fun w0 W h => cmp_from w0 W h an ad mn md hva hvm
  have X2 := fun w0 W h => cmp_from w0 W h an ad bn bd hva hvb
  have X3 := fun w0 W h => cmp_from w0 W h mn md bn bd hvm hvb
  rw [k1] at X1
  rw [k2] at X3
  generalize cmpR an ad bn bd = c at X1 X2 X3
  have X1 := Lib.hid X1
  have X2 := Lib.hid X2
  have X3 := Lib.hid X3
  clear hm hk e1 e2 k1 k2 hva hvb hvm
  go_wp2_with fail
  refine (NW.out _).mono ?_
  rintro e w3 ⟨rfl, hB⟩
  have hA4 := (hA3.below hB hA3.lt).alloc (.cells #[.int .i64 mn, .int .i64 md] 23)
  have hB4 := (hB3.below hB hB3.lt).alloc (.cells #[.int .i64 mn, .int .i64 md] 23)
  have hC4 := Blk.new w3 23 #[.int .i64 mn, .int .i64 md]
  have hW4 := (below_st hW3 hB).alloc (below_st hW3 hB).size (.cells #[.int .i64 mn, .int .i64 md] 23)
  clear NW hA3 hB3 hW3 hB hz c0 c1 s1 s2 va1 vb1 an5 ad5 bn5 bd5
  go_wp2
  obtain ⟨w0, hw0⟩ : ∃ w0, (w3.alloc (.cells #[.int .i64 mn, .int .i64 md] 23)) = w0 := ⟨_, rfl⟩
  rw [hw0] at hA4 hB4 hC4 hW4 ⊢
  clear hw0
  have keep : ∀ W : World, Below w0.heap.size w0 W → W.cell? ⟨w1.heap.size, 0, none⟩ = some (.int .i64 an) ∧ W.cell? ⟨w1.heap.size, 1, none⟩ = some (.int .i64 ad) ∧ W.cell? ⟨w2.heap.size, 0, none⟩ = some (.int .i64 bn) ∧ W.cell? ⟨w2.heap.size, 1, none⟩ = some (.int .i64 bd) ∧ W.cell? ⟨w3.heap.size, 0, none⟩ = some (.int .i64 mn) ∧ W.cell? ⟨w3.heap.size, 1, none⟩ = some (.int .i64 md) :=
    fun W hW => ⟨(hA4.below hW hA4.lt).cell 0, (hA4.below hW hA4.lt).cell 1, (hB4.below hW hB4.lt).cell 0, (hB4.below hW hB4.lt).cell 1, (hC4.below hW hC4.lt).cell 0, (hC4.below hW hC4.lt).cell 1⟩
  have lv : ∀ W : World, Below w0.heap.size w0 W → Calls Tryd.prog 16 #[] W fun e w' => e = .returned (.bool true) ∧ Below w0.heap.size w0 w' := fun W hW => (lives_any W ((hE.below hW4).below hW)).mono fun e w' ⟨he, hB⟩ => ⟨he, below_step hW hB⟩
  have h00 := Below.refl w0.heap.size w0
  have h0d : Below w0.heap.size w0 w0.drew := h00.drew
  obtain ⟨c0, c1, c2, c3, c4, c5⟩ := keep w0 h00
  have HW := Lib.hid hW4
  have Keep := Lib.hid keep
  have LV := Lib.hid lv
  clear keep lv hW4 hA4 hB4 hC4 hE
  go_region_held3 (fun W => W.cell? ⟨w1.heap.size, 0, none⟩ = some (.int .i64 an) ∧ W.cell? ⟨w1.heap.size, 1, none⟩ = some (.int .i64 ad) ∧ W.cell? ⟨w2.heap.size, 0, none⟩ = some (.int .i64 bn) ∧ W.cell? ⟨w2.heap.size, 1, none⟩ = some (.int .i64 bd) ∧ W.cell? ⟨w3.heap.size, 0, none⟩ = some (.int .i64 mn) ∧ W.cell? ⟨w3.heap.size, 1, none⟩ = some (.int .i64 md)) (exact Keep.out _ (by with_reducible assumption))
    (first | (go_at_call 25; first | ((with_reducible refine (X1.out w0 _ (by with_reducible assumption)).mono ?_); rintro e w' ⟨rfl, hb⟩; obtain ⟨c0, c1, c2, c3, c4, c5⟩ := Keep.out _ hb) | ((with_reducible refine (X2.out w0 _ (by with_reducible assumption)).mono ?_); rintro e w' ⟨rfl, hb⟩; obtain ⟨c0, c1, c2, c3, c4, c5⟩ := Keep.out _ hb) | ((with_reducible refine (X3.out w0 _ (by with_reducible assumption)).mono ?_); rintro e w' ⟨rfl, hb⟩; obtain ⟨c0, c1, c2, c3, c4, c5⟩ := Keep.out _ hb)) |
      (go_at_call 16; (with_reducible refine (LV.out _ (by with_reducible assumption)).mono ?_); rintro e w' ⟨rfl, hb⟩; obtain ⟨c0, c1, c2, c3, c4, c5⟩ := Keep.out _ hb))
  all_goals
    go_wp2
    go_ret
    exact ⟨rfl, below_st HW.out (by with_reducible assumption)⟩
end Go.Proofs.YtegodbbocbkomaaDoor
