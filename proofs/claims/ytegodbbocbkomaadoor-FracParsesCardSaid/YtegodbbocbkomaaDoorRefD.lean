/- The reference's Decimal and Text. Conditions: numbers of 64 bits. -/
import Derived.Test.YtegodbbocbkomaaDoorText
import Derived.Test.YtegodbbocbkomaaDoorRefS
namespace Go.Proofs.YtegodbbocbkomaaDoor
open Go.RowKit

def decS (k : Nat) (s : List UInt8) : List UInt8 := if k = 0 then s else Lib.decDigits k ++ s
theorem decS_step {k : Nat} (h : ¬ k = 0) (s : List UInt8) : decS k s = decS (k / 10) (UInt8.ofNat (48 + k % 10) :: s) := by
  unfold decS
  rw [if_neg h]
  by_cases h2 : k < 10
  · rw [if_pos (by omega), Lib.decDigits_one h2, Nat.mod_eq_of_lt h2]; rfl
  · rw [if_neg (by omega)]
    conv => lhs; rw [Lib.decDigits]
    rw [dif_neg h2, List.append_assoc]; rfl
theorem digit_at : ∀ d : Nat, d < 10 → (⟨#[48, 49, 50, 51, 52, 53, 54, 55, 56, 57]⟩ : ByteArray).extract d (d + 1) = ⟨#[UInt8.ofNat (48 + d)]⟩ := by
  have h : ∀ d : Fin 10, ((⟨#[48, 49, 50, 51, 52, 53, 54, 55, 56, 57]⟩ : ByteArray).extract d.val (d.val + 1)).data = #[UInt8.ofNat (48 + d.val)] := by decide
  intro d hd
  have := h ⟨d, hd⟩
  exact ByteArray.ext this
theorem str_cons (c : UInt8) (l : List UInt8) : (⟨#[c]⟩ : ByteArray) ++ ⟨l.toArray⟩ = ⟨(c :: l).toArray⟩ := by
  apply str_congr
  simp

theorem decS_len {n : Int} (h0 : -9223372036854775808 ≤ n) (h1 : n ≤ 9223372036854775807) {k : Nat} {l : List UInt8} (h : decS k l = decS n.natAbs []) : l.length ≤ 21 := by
  have e : l.length ≤ (decS k l).length := by unfold decS; split <;> simp
  rw [h] at e
  have z := Lib.itoa_length_le n h0 h1
  unfold Lib.itoa at z
  unfold decS at e
  by_cases hk : n.natAbs = 0
  · rw [if_pos hk] at e
    simp at e
    rw [e]; simp
  · rw [if_neg hk, List.append_nil] at e
    by_cases hn : n < 0
    · rw [if_pos hn, List.length_cons] at z; omega
    · rw [if_neg hn, show n.toNat = n.natAbs by omega] at z; omega
theorem tmod_abs (v : Int) : (v.tmod 10).natAbs = v.natAbs % 10 := by
  rcases Int.lt_or_le v 0 with h | h
  · obtain ⟨m, rfl⟩ : ∃ m : Nat, v = -(m : Int) := ⟨v.natAbs, by omega⟩
    rw [Int.neg_tmod, Int.natAbs_neg, Int.natAbs_neg, Int.tmod_eq_emod_of_nonneg (by omega)]; omega
  · rw [Int.tmod_eq_emod_of_nonneg h]; omega
theorem tdiv_abs (v : Int) : (v.tdiv 10).natAbs = v.natAbs / 10 := by
  rcases Int.lt_or_le v 0 with h | h
  · obtain ⟨m, rfl⟩ : ∃ m : Nat, v = -(m : Int) := ⟨v.natAbs, by omega⟩
    rw [Int.neg_tdiv, Int.natAbs_neg, Int.natAbs_neg, Int.tdiv_eq_ediv_of_nonneg (by omega)]; omega
  · rw [Int.tdiv_eq_ediv_of_nonneg h]; omega
set_option maxRecDepth 100000 in
set_option maxHeartbeats 4000000 in
theorem decimal_any (n : Int) (w : World) (h0 : -9223372036854775808 ≤ n) (h1 : n ≤ 9223372036854775807) :
    Calls Tryd.prog 68 #[.int .i64 n] w fun e w' => e = .returned (str (Lib.itoa n)) ∧ w = w' := by
  by_cases hn : n = 0
  · subst hn
    go_enter Tryd.func68, Tryd.ntmps68
    go_wp2
    go_ret
    exact ⟨by unfold Lib.itoa; rw [if_neg (by decide), Lib.decDigits_one (by decide)]; rfl, rfl⟩
  · have hn1 : (n == 0) = false := by simpa using hn
    have HN := Lib.hid hn
    clear hn
    go_enter Tryd.func68, Tryd.ntmps68
    go_wp2
    go_loop [4, 5] (fun s k => ∃ (b : ByteArray) (v : Int), s = .string b ∧ k = .int .i64 v ∧ decS v.natAbs b.data.toList = decS n.natAbs [] ∧ -9223372036854775808 ≤ v ∧ v ≤ 9223372036854775807) (fun _ k => (intOf k).natAbs)
    case atStart => exact ⟨⟨#[]⟩, n, rfl, rfl, rfl, h0, h1⟩
    case round =>
      obtain ⟨b, v, rfl, rfl, hd, v0, v1⟩ := hrel
      have hl := decS_len h0 h1 hd
      have hz2 : b.size ≤ 21 := by simpa using hl
      have HD := Lib.hid hd
      clear hd hl
      by_cases hv : v = 0
      · subst hv
        have hb : b.data.toList = Lib.decDigits n.natAbs := by
          have := HD.out
          unfold decS at this
          rw [if_pos (by rfl), if_neg (by have := HN.out; omega), List.append_nil] at this
          exact this
        have HB := Lib.hid hb
        clear hb HD
        by_cases hs : n < 0
        · have hs1 : decide (n < 0) = true := decide_eq_true hs
          have hi : Lib.itoa n = 45 :: Lib.decDigits n.natAbs := by unfold Lib.itoa; rw [if_pos hs]
          have HI := Lib.hid hi
          clear hi hs
          go_wp2
          go_ret
          exact ⟨by rw [HI.out, ← HB.out]; show Ending.returned (.string _) = _; congr 1, rfl⟩
        · have hs1 : decide (n < 0) = false := decide_eq_false hs
          have hi : Lib.itoa n = Lib.decDigits n.natAbs := by unfold Lib.itoa; rw [if_neg hs]; congr 1; omega
          have HI := Lib.hid hi
          clear hi hs
          go_wp2
          go_ret
          exact ⟨by rw [HI.out, ← HB.out, str_of]; rfl, rfl⟩
      · have hv1 : (v == 0) = false := by simpa using hv
        have hst := decS_step (k := v.natAbs) (by omega) b.data.toList
        obtain ⟨q, hq⟩ : ∃ q, v.tdiv 10 = q := ⟨_, rfl⟩
        have hqa := tdiv_abs v
        rw [hq] at hqa
        obtain ⟨g, hg⟩ : ∃ g, v.natAbs % 10 = g := ⟨_, rfl⟩
        have hra := tmod_abs v
        rw [hg] at hra hst
        rw [← hqa] at hst
        have HS := Lib.hid (hst.symm.trans HD.out)
        have g9 : g < 10 := by omega
        have q0 : -9223372036854775808 ≤ q := by omega
        have q1 : q ≤ 9223372036854775807 := by omega
        have hlt : q.natAbs < v.natAbs := by omega
        have HX := Lib.hid (digit_at g g9)
        have hw : IntKind.i64.wrap ((g : Int) + 1) = (g : Int) + 1 := by rw [IntKind.wrap_i64]; omega
        have g0 : (0 : Int) ≤ (g : Int) := by omega
        have g1 : (0 : Int) ≤ (g : Int) + 1 := by omega
        have g2 : (g : Int) ≤ (g : Int) + 1 := by omega
        have g3 : (g : Int) + 1 ≤ 10 := by omega
        have g4 : ((g : Int) + 1).toNat = g + 1 := by omega
        have HL := Lib.hid hlt
        clear HD hst hqa hg hlt hv
        by_cases hr : v.tmod 10 < 0
        · have hr2 : v.tmod 10 = -(g : Int) := by omega
          rw [hr2] at hr
          have hr3 : decide (-(g : Int) < 0) = true := decide_eq_true hr
          clear hra
          go_wp2
          go_round
          case rel => exact ⟨_, q, rfl, rfl, by rw [HX.out, ← HS.out]; congr 1, q0, q1⟩
          case measure => exact HL.out
        · have hr2 : v.tmod 10 = (g : Int) := by omega
          clear hr hra
          go_wp2
          go_round
          case rel => exact ⟨_, q, rfl, rfl, by rw [HX.out, ← HS.out]; congr 1, q0, q1⟩
          case measure => exact HL.out

set_option maxRecDepth 100000 in
set_option maxHeartbeats 4000000 in
theorem rtext_any (n d : Int) (w : World) (n0 : -9223372036854775808 ≤ n) (n1 : n ≤ 9223372036854775807) (d0 : -9223372036854775808 ≤ d) (d1 : d ≤ 9223372036854775807) :
    Calls Tryd.prog 30 #[.agg #[.int .i64 n, .int .i64 d]] w fun e w' => e = .returned (str (textL n d)) ∧ Below w.heap.size w w' := by
  have hA := Blk.new w 23 #[.int .i64 n, .int .i64 d]
  have hW : Below w.heap.size w (w.alloc (.cells #[.int .i64 n, .int .i64 d] 23)) := (Below.refl _ w).alloc (Nat.le_refl _) _
  have c0 := hA.cell 0
  have c1 := hA.cell 1
  have VA := fun W => rvalid_any n d W n0 n1 d0 d1
  by_cases hv : vP n d
  · have e1 : vB n d = true := decide_eq_true hv
    rw [e1] at VA
    replace VA := Lib.hid VA
    clear e1
    by_cases hd : d = 1
    · subst hd
      have HT := Lib.hid (show textL n 1 = Lib.itoa n by unfold textL; rw [if_pos hv, if_pos rfl])
      have DE := Lib.hid (fun W => decimal_any n W n0 n1)
      clear hv
      go_enter Tryd.func30, Tryd.ntmps30
      go_wp2_with fail
      refine (VA.out _).mono ?_
      rintro e w1 ⟨rfl, hB⟩
      have hA1 := hA.below hB hA.lt
      have hW1 := below_st hW hB
      clear hA hB hW c0 c1
      have c0 := hA1.cell 0
      have c1 := hA1.cell 1
      have HW1 := Lib.hid hW1
      clear hW1 hA1
      go_wp2_with fail
      refine (DE.out _).mono ?_
      rintro e w2 ⟨rfl, rfl⟩
      go_wp2
      go_ret
      exact ⟨by rw [HT.out]; rfl, HW1.out⟩
    · have HT := Lib.hid (show textL n d = Lib.itoa n ++ 47 :: Lib.itoa d by unfold textL; rw [if_pos hv, if_neg hd])
      have hd' : (d == 1) = false := by simpa using hd
      have DN := fun W => decimal_any n W n0 n1
      have DD := fun W => decimal_any d W d0 d1
      obtain ⟨sN, hN⟩ : ∃ s : ByteArray, s = ⟨(Lib.itoa n).toArray⟩ := ⟨_, rfl⟩
      obtain ⟨sD, hD⟩ : ∃ s : ByteArray, s = ⟨(Lib.itoa d).toArray⟩ := ⟨_, rfl⟩
      have zN : sN.size ≤ 21 := by rw [hN]; have := Lib.itoa_length_le n n0 n1; simpa [ByteArray.size] using this
      have zD : sD.size ≤ 21 := by rw [hD]; have := Lib.itoa_length_le d d0 d1; simpa [ByteArray.size] using this
      unfold str at DN DD
      rw [← hN] at DN
      rw [← hD] at DD
      have HR := Lib.hid (show str (textL n d) = .string ((sN ++ ⟨#[47]⟩) ++ sD) by
        rw [HT.out, hN, hD]; symm; apply str_eq; simp)
      replace DN := Lib.hid DN
      replace DD := Lib.hid DD
      clear hv hN hD
      go_enter Tryd.func30, Tryd.ntmps30
      go_wp2_with fail
      refine (VA.out _).mono ?_
      rintro e w1 ⟨rfl, hB⟩
      have hA1 := hA.below hB hA.lt
      have hW1 := below_st hW hB
      clear hA hB hW c0 c1
      have c0 := hA1.cell 0
      have c1 := hA1.cell 1
      have HW1 := Lib.hid hW1
      clear hW1 hA1
      go_wp2_with fail
      go_region_with ((go_at_call 68; first | ((with_reducible refine (DN.out _).mono ?_); rintro e w' ⟨rfl, rfl⟩) | ((with_reducible refine (DD.out _).mono ?_); rintro e w' ⟨rfl, rfl⟩)))
      all_goals
        go_wp2
        go_ret
        exact ⟨by rw [HR.out]; rfl, HW1.out.drew⟩
  · have HT := Lib.hid (show textL n d = [] by unfold textL; rw [if_neg hv])
    have e1 : vB n d = false := decide_eq_false hv
    rw [e1] at VA
    clear hv e1
    go_enter Tryd.func30, Tryd.ntmps30
    go_wp2_with fail
    refine (VA _).mono ?_
    rintro e w1 ⟨rfl, hB⟩
    have hW1 := below_st hW hB
    clear hA hB hW c0 c1
    go_wp2
    go_ret
    exact ⟨by rw [HT.out]; rfl, hW1⟩
end Go.Proofs.YtegodbbocbkomaaDoor
