/- Package frac: Text and Parse are what the document asks. Conditions: numbers of 64 bits; strings that fit in memory; the variables as laid. -/
import Derived.Test.YtpmndopcemdniaaDoorEnv
import Derived.Test.YtpmndopcemdniaaDoorFrac4
import Derived.Lib.ItoaLen
namespace Go.Proofs.YtpmndopcemdniaaDoor
open Go.RowKit

def textL (n d : Int) : List UInt8 := if vP n d then (if d = 1 then Lib.itoa n else Lib.itoa n ++ 47 :: Lib.itoa d) else []

set_option maxRecDepth 100000 in
set_option maxHeartbeats 4000000 in
theorem text_any (n d : Int) (w : World) (n0 : -9223372036854775808 ≤ n) (n1 : n ≤ 9223372036854775807) (d0 : -9223372036854775808 ≤ d) (d1 : d ≤ 9223372036854775807) (hE : Env w) :
    Calls Tryd.prog 26 #[.agg #[.int .i64 n, .int .i64 d]] w fun e w' => e = .returned (str (textL n d)) ∧ Below w.heap.size w w' := by
  have hA := Blk.new w 45 #[.int .i64 n, .int .i64 d]
  have hW : Below w.heap.size w (w.alloc (.cells #[.int .i64 n, .int .i64 d] 45)) := (Below.refl _ w).alloc (Nat.le_refl _) _
  have c0 := hA.cell 0
  have c1 := hA.cell 1
  by_cases hv : vP n d
  · have e1 : vB n d = true := decide_eq_true hv
    by_cases hd : d = 1
    · subst hd
      have HT := Lib.hid (show textL n 1 = Lib.itoa n by unfold textL; rw [if_pos hv, if_pos rfl])
      clear hv
      go_enter Tryd.func26, Tryd.ntmps26
      go_wp2_with fail
      refine (valid_any n 1 _ n0 n1 d0 d1).mono ?_
      rintro e w1 ⟨rfl, hB⟩
      have hA1 := hA.below hB hA.lt
      have hW1 := below_st hW hB
      rw [e1]
      clear hA hB hW c0 c1
      have c0 := hA1.cell 0
      have c1 := hA1.cell 1
      have IT := Lib.hid (itoa_any n n0 n1 w1 (hE.below hW1))
      have HW1 := Lib.hid hW1
      clear hW1 hA1
      go_wp2_with fail
      refine IT.out.mono ?_
      rintro e w2 ⟨rfl, hB⟩
      have HW2 := Lib.hid (below_st HW1.out hB)
      clear hB
      go_wp2
      go_ret
      exact ⟨by rw [HT.out]; rfl, HW2.out⟩
    · have HT := Lib.hid (show textL n d = Lib.itoa n ++ 47 :: Lib.itoa d by unfold textL; rw [if_pos hv, if_neg hd])
      have hd' : (d == 1) = false := by simpa using hd
      clear hv
      go_enter Tryd.func26, Tryd.ntmps26
      go_wp2_with fail
      refine (valid_any n d _ n0 n1 d0 d1).mono ?_
      rintro e w1 ⟨rfl, hB⟩
      have hA1 := hA.below hB hA.lt
      have hW1 := below_st hW hB
      rw [e1]
      clear hA hB hW c0 c1
      have hE1 := hE.below hW1
      have hAx : ∀ W : World, Below w1.heap.size w1 W → W.cell? ⟨w.heap.size, 0, none⟩ = some (.int .i64 n) ∧ W.cell? ⟨w.heap.size, 1, none⟩ = some (.int .i64 d) := fun W hW => ⟨(hA1.below hW hA1.lt).cell 0, (hA1.below hW hA1.lt).cell 1⟩
      have Keep := Lib.hid hAx
      obtain ⟨sN, hN⟩ : ∃ s : ByteArray, s = ⟨(Lib.itoa n).toArray⟩ := ⟨_, rfl⟩
      obtain ⟨sD, hD⟩ : ∃ s : ByteArray, s = ⟨(Lib.itoa d).toArray⟩ := ⟨_, rfl⟩
      have zN : sN.size ≤ 21 := by rw [hN]; have := Lib.itoa_length_le n n0 n1; simpa [ByteArray.size] using this
      have zD : sD.size ≤ 21 := by rw [hD]; have := Lib.itoa_length_le d d0 d1; simpa [ByteArray.size] using this
      have IN := fun W hW => (itoa_any n n0 n1 W (hE1.below hW)).mono fun e w' (h : _ ∧ _) => (⟨h.1, below_step hW h.2⟩ : _ ∧ Below w1.heap.size w1 w')
      have ID := fun W hW => (itoa_any d d0 d1 W (hE1.below hW)).mono fun e w' (h : _ ∧ _) => (⟨h.1, below_step hW h.2⟩ : _ ∧ Below w1.heap.size w1 w')
      rw [← hN] at IN
      rw [← hD] at ID
      have IN := Lib.hid IN
      have ID := Lib.hid ID
      have HR := Lib.hid (show str (textL n d) = .string ((sN ++ ⟨#[47]⟩) ++ sD) by
        rw [HT.out, hN, hD]; symm; apply str_eq; simp)
      obtain ⟨c0, c1⟩ := hAx w1 (Below.refl _ _)
      have h00 := Below.refl w1.heap.size w1
      have h0d : Below w1.heap.size w1 w1.drew := h00.drew
      have HW1 := Lib.hid hW1
      clear hAx hA1 hE1 hE hN hD hW1
      go_wp2
      go_region_with ((go_at_call 42; first | ((with_reducible refine (IN.out _ (by with_reducible assumption)).mono ?_); rintro e w' ⟨rfl, hb⟩; obtain ⟨c0, c1⟩ := Keep.out _ hb) | ((with_reducible refine (ID.out _ (by with_reducible assumption)).mono ?_); rintro e w' ⟨rfl, hb⟩; obtain ⟨c0, c1⟩ := Keep.out _ hb)))
      all_goals
        go_wp2
        go_ret
        exact ⟨by rw [HR.out]; rfl, below_st HW1.out (by with_reducible assumption)⟩
  · have HT := Lib.hid (show textL n d = [] by unfold textL; rw [if_neg hv])
    have e1 : vB n d = false := decide_eq_false hv
    clear hv
    go_enter Tryd.func26, Tryd.ntmps26
    go_wp2_with fail
    refine (valid_any n d _ n0 n1 d0 d1).mono ?_
    rintro e w1 ⟨rfl, hB⟩
    have hW1 := below_st hW hB
    rw [e1]
    clear hA hB hW c0 c1
    go_wp2
    go_ret
    exact ⟨by rw [HT.out]; rfl, hW1⟩
end Go.Proofs.YtpmndopcemdniaaDoor
