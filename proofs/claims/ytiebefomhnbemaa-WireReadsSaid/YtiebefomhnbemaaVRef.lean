/- Contracts of the reference's writing half: Uint, Zigzag, Int, Bool, Raw, Ints, Encode. Conditions: slices of at most a thousand elements. -/
import Derived.Test.YtiebefomhnbemaaVMore
namespace Go.Proofs.Ytiebefomhnbemaa
open Go.RowKit

theorem Bs.push1 {base : Nat} {W w1 : World} {v v' : Value} {tmp : Obj} {xs : List UInt8} {z : Int} (y : UInt8) (h : Bs base W v xs) (hb : base ≤ W.heap.size) (hz : z = ofByte y)
    (hown' : w1.ownsRow base 5 1 v' (xs.length + 1) (u8s xs ++ [.int .u8 z])) (hgrow : (W.alloc tmp).grownBy w1 v.ownBlock) : Bs base w1 v' (xs ++ [y]) ∧ Below base W w1 := by
  subst hz
  refine ⟨?_, ((Below.refl base W).alloc hb tmp).grown hgrow (by simp; omega) (fun j hj => (World.ownsRow.lt h j hj).1)⟩
  unfold Bs
  rw [List.length_append, u8s_append]
  exact hown'
theorem Bs.pushN {base : Nat} {W w1 : World} {v v' : Value} {xs ys : List UInt8} (h : Bs base W v xs) (hb : base ≤ W.heap.size)
    (hown' : w1.ownsRow base 5 1 v' (xs.length + ys.length) (u8s xs ++ u8s ys)) (hgrow : W.grownBy w1 v.ownBlock) : Bs base w1 v' (xs ++ ys) ∧ Below base W w1 := by
  refine ⟨?_, (Below.refl base W).grown hgrow hb (fun j hj => (World.ownsRow.lt h j hj).1)⟩
  unfold Bs
  rw [List.length_append, u8s_append]
  exact hown'
theorem Bs.nil (base : Nat) (W : World) : Bs base W (.slice none 0 0) [] := World.ownsRow_nil _ _ _ _
/-- A nonempty row of bytes as an operand of append. -/
theorem Bs.some {base : Nat} {W : World} {v : Value} {ys : List UInt8} (h : Bs base W v ys) (hp : 1 ≤ ys.length) : ∃ d c, v = .slice (some d) ys.length c ∧ ∀ j u, (u8s ys)[j]? = some u → W.cell? (d.add j) = some u := by
  obtain ⟨a, c, rfl⟩ := h.slice
  rcases h.in.cases with ⟨-, hl, -, -⟩ | ⟨d, rfl, -, hcs⟩
  · omega
  · exact ⟨d, c, rfl, hcs⟩

set_option maxRecDepth 100000 in
set_option maxHeartbeats 1000000 in
theorem refuint_any (n : Nat) (w : World) (hn : n < 18446744073709551616) :
    Calls Try.prog 40 #[.int .u64 n] w fun e w' => ∃ v, e = .returned v ∧ Bs w.heap.size w' v (uv n) ∧ Below w.heap.size w w' := by
  obtain ⟨i0, hi, hz0, hz1, hz2⟩ := info_parts Try.infoU8
  go_enter Try.func40, Try.ntmps40
  go_wp2
  go_loopw [0, 3] (fun x v wr => ∃ (m : Nat) (pre : List UInt8), x = .int .u64 m ∧ m < 18446744073709551616 ∧ pre ++ uv m = uv n ∧ Bs w.heap.size wr v pre ∧ Below w.heap.size w wr) (fun x _ _ => (intOf x).toNat)
  case atStart => exact ⟨n, [], rfl, hn, rfl, Bs.nil _ _, Below.refl _ _⟩
  case round =>
    obtain ⟨m, pre, rfl, hm, hp, hv, hB⟩ := hrel
    have hl : pre.length ≤ 10 := by
      have e := congrArg List.length hp
      have := uv_length n
      rw [List.length_append] at e
      omega
    have Hp := Lib.hid hp
    clear hp
    have hbs : w.heap.size ≤ wr.heap.size := hB.size
    have hr : wr.ownsRow w.heap.size 5 1 u3 pre.length (u8s pre) := hv
    have h256 : (128 : Int) + (m : Int) % 128 ≤ 255 := by omega
    by_cases hlt : 128 ≤ m
    · go_wp2_with (at_builtin; refine wpList_append_own _ rfl _ _ 24 rfl w.heap.size 5 i0 (.int .u8 0) 1 1 Try.underlying24 hi hz0 hz1 hz2 rfl (by decide) _ _ _ rfl (hr.alloc _) ⟨wr.heap.size, 0, none⟩ 1 1 [.int .u8 ((128 : Int) + (m : Int) % 128)] rfl rfl (cell_one_new _ _ _) (by simp [Value.oneCell']) (by unfold maxLen; omega) (by omega) (by simp; omega) ?_; intro v' w1 hown' hgrow hnn; clear hnn; have hP := hv.push1 (UInt8.ofNat (128 + m % 128)) hbs (by rw [ofByte_ofNat _ (by omega)]; omega) hown' hgrow; clear hgrow hown')
      go_roundw
      case rel => exact ⟨m / 128, pre ++ [UInt8.ofNat (128 + m % 128)], by go_num, by omega, by rw [List.append_assoc, List.singleton_append, ← uv_big m hlt hm]; exact Hp.out, hP.1, hB.trans hP.2⟩
      case measure => simp [intOf]; omega
    · go_wp2_with (at_builtin; refine wpList_append_own _ rfl _ _ 24 rfl w.heap.size 5 i0 (.int .u8 0) 1 1 Try.underlying24 hi hz0 hz1 hz2 rfl (by decide) _ _ _ rfl (hr.alloc _) ⟨wr.heap.size, 0, none⟩ 1 1 [.int .u8 (m : Int)] rfl rfl (cell_one_new _ _ _) (by simp [Value.oneCell']) (by unfold maxLen; omega) (by omega) (by simp; omega) ?_; intro v' w1 hown' hgrow hnn; clear hnn; have hP := hv.push1 (UInt8.ofNat m) hbs (by rw [ofByte_ofNat _ (by omega)]) hown' hgrow; clear hgrow hown')
      go_ret
      exact ⟨_, rfl, by rw [← Hp.out, uv_small m (by omega)]; exact hP.1, hB.trans hP.2⟩

set_option maxHeartbeats 1000000 in
theorem refzig_any (n : Int) (w : World) (h0 : -9223372036854775808 ≤ n) (h1 : n ≤ 9223372036854775807) :
    Calls Try.prog 60 #[.int .i64 n] w fun e w' => e = .returned (.int .u64 (zz n : Int)) ∧ w = w' := by
  by_cases hn : n < 0
  · have hz : (zz n : Int) = 2 * (-(n + 1)) + 1 := by unfold zz; rw [if_pos hn]; omega
    rw [hz]
    clear hz
    go_enter Try.func60, Try.ntmps60
    go_wp2
    go_ret
    first | exact ⟨rfl, rfl⟩ | (constructor; go_num; rfl)
  · have hz : (zz n : Int) = 2 * n := by unfold zz; rw [if_neg hn]; omega
    rw [hz]
    clear hz
    go_enter Try.func60, Try.ntmps60
    go_wp2
    go_ret
    first | exact ⟨rfl, rfl⟩ | (constructor; go_num; rfl)

set_option maxHeartbeats 1000000 in
theorem refint_any (n : Int) (w : World) (h0 : -9223372036854775808 ≤ n) (h1 : n ≤ 9223372036854775807) :
    Calls Try.prog 41 #[.int .i64 n] w fun e w' => ∃ v, e = .returned v ∧ Bs w.heap.size w' v (uv (zz n)) ∧ Below w.heap.size w w' := by
  have hz := zz_lt n h0 h1
  go_enter Try.func41, Try.ntmps41
  go_wp2_with fail
  refine (refzig_any n w h0 h1).mono ?_
  rintro e w' ⟨rfl, rfl⟩
  go_wp2_with fail
  refine (refuint_any (zz n) w hz).mono ?_
  rintro e w1 ⟨v, rfl, hv, hB⟩
  go_wp2
  go_ret
  exact ⟨_, rfl, hv, hB⟩

theorem bs_one (W : World) (y : UInt8) (z : Int) (hz : z = ofByte y) : Bs W.heap.size (W.alloc (.cells #[.int .u8 z] 5)) (.slice (some ⟨W.heap.size, 0, none⟩) 1 1) [y] := by
  subst hz
  exact ⟨rfl, .inr ⟨_, 1, #[.int .u8 (ofByte y)], rfl, Nat.le_refl _, heap_alloc_new W _, Nat.le_refl _, by unfold maxLen; omega, rfl, rfl⟩⟩

set_option maxHeartbeats 1000000 in
theorem refbool_any (t : Bool) (w : World) :
    Calls Try.prog 42 #[.bool t] w fun e w' => ∃ v, e = .returned v ∧ Bs w.heap.size w' v (boolB t) ∧ Below w.heap.size w w' := by
  cases t
  · go_enter Try.func42, Try.ntmps42
    go_wp2
    go_ret
    exact ⟨_, rfl, bs_one w 0 0 rfl, (Below.refl _ w).alloc (Nat.le_refl _) _⟩
  · go_enter Try.func42, Try.ntmps42
    go_wp2
    go_ret
    exact ⟨_, rfl, bs_one w 1 1 rfl, (Below.refl _ w).alloc (Nat.le_refl _) _⟩

set_option maxRecDepth 100000 in
set_option maxHeartbeats 1000000 in
theorem refraw_any (n₀ : Nat) (a : Option Addr) (cap : Nat) (zs : List UInt8) (w : World) (hs : zs.length ≤ 1000000) (hn : n₀ ≤ w.heap.size) (hI : BIn n₀ w (.slice a zs.length cap) zs) :
    Calls Try.prog 43 #[.slice a zs.length cap] w fun e w' => ∃ v, e = .returned v ∧ Bs w.heap.size w' v (uv zs.length ++ zs) ∧ Below w.heap.size w w' := by
  obtain ⟨i0, hi, hz0, hz1, hz2⟩ := info_parts Try.infoU8
  go_enter Try.func43, Try.ntmps43
  go_wp2_with fail
  refine (refuint_any zs.length w (by omega)).mono ?_
  rintro e w1 ⟨v, rfl, hv, hB⟩
  have hul := uv_length zs.length
  have hup := uv_pos zs.length
  obtain ⟨ys, hys⟩ : ∃ ys, uv zs.length = ys := ⟨_, rfl⟩
  rw [hys] at hv hul hup
  have Hys := Lib.hid hys
  have hs1 := hB.size
  have hI1 := (hI.mono hn).below hB
  have hr : w1.ownsRow w.heap.size 5 1 v ys.length (u8s ys) := hv
  clear hys hI
  rcases hI1.cases with ⟨rfl, hl, rfl, rfl⟩ | ⟨d, rfl, -, hcs⟩
  · clear hl
    go_wp2_with (at_builtin; refine wpList_append_own_none rfl _ _ 24 rfl w.heap.size 5 i0 1 Try.underlying24 hi _ _ _ rfl hr rfl ?_)
    go_ret
    exact ⟨_, rfl, by rw [Hys.out, List.append_nil]; exact hv, hB⟩
  · have Hcs := Lib.hid hcs
    clear hcs hI1
    go_wp2_with (at_builtin; refine wpList_append_own _ rfl _ _ 24 rfl w.heap.size 5 i0 (.int .u8 0) 1 1 Try.underlying24 hi hz0 hz1 hz2 rfl (by decide) _ _ _ rfl hr d zs.length cap (u8s zs) rfl (by rw [u8s_length, Nat.mul_one]) Hcs.out (u8s_one _) (by unfold maxLen; omega) (by omega) (by omega) ?_; intro v' w2 hown' hgrow hnn; clear hnn; have hP := hv.pushN hs1 hown' hgrow; clear hgrow hown')
    go_ret
    exact ⟨_, rfl, by rw [Hys.out]; exact hP.1, hB.trans hP.2⟩

set_option maxRecDepth 100000 in
set_option maxHeartbeats 1000000 in
theorem refints_any (n₀ : Nat) (a : Option Addr) (cap : Nat) (zs : List Int) (w : World) (hx : zs.length ≤ 10000) (hz : ∀ z ∈ zs, -9223372036854775808 ≤ z ∧ z ≤ 9223372036854775807) (hn : n₀ ≤ w.heap.size) (hI : InAt .i64 n₀ w (.slice a zs.length cap) zs) :
    Calls Try.prog 44 #[.slice a zs.length cap] w fun e w' => ∃ v, e = .returned v ∧ Bs w.heap.size w' v (uv zs.length ++ encL zs) ∧ Below w.heap.size w w' := by
  obtain ⟨i0, hi, hz0, hz1, hz2⟩ := info_parts Try.infoU8
  have Hz := Lib.hid hz
  replace hI := InAt.mono hn hI
  clear hz hn
  go_enter Try.func44, Try.ntmps44
  go_wp2_with fail
  refine (refuint_any zs.length w (by omega)).mono ?_
  rintro e w1 ⟨v1, rfl, hv1, hB1⟩
  have hul := uv_length zs.length
  go_wp2_with fail
  go_loopw [3, 4] (fun v i wr => ∃ k : Nat, k ≤ zs.length ∧ i = .int .i64 k ∧ Bs w.heap.size wr v (uv zs.length ++ encL (zs.take k)) ∧ Below w.heap.size w wr) (fun _ i _ => zs.length - (intOf i).toNat)
  case atStart => exact ⟨0, Nat.zero_le _, rfl, by simpa [encL] using hv1, hB1⟩
  case round =>
    obtain ⟨k, hk, rfl, hv, hB⟩ := hrel
    have hbs := hB.size
    by_cases hlt : k < zs.length
    · have hzk := Hz.out zs[k] (List.getElem_mem hlt)
      have hlen : (uv zs.length ++ encL (zs.take k)).length ≤ 200000 := by
        have h1 := encL_le (zs.take k)
        have h2 : (zs.take k).length = k := by rw [List.length_take]; omega
        rw [List.length_append]
        omega
      obtain ⟨g, off, rfl, hbb, hcx0⟩ := hI.get hlt
      have hcx := (hB.cell (p := ⟨g, off + k, none⟩) hbb).trans hcx0
      have htk : encL (zs.take (k + 1)) = encL (zs.take k) ++ uv (zz zs[k]) := by rw [List.take_succ_eq_append_getElem hlt, encL_snoc]
      have Htk := Lib.hid htk
      obtain ⟨pre, hpre⟩ : ∃ pre, uv zs.length ++ encL (zs.take k) = pre := ⟨_, rfl⟩
      rw [hpre] at hv hlen
      have Hpre := Lib.hid hpre
      have hk0 : (0 : Int) ≤ (k : Int) := by omega
      have hk1 : (k : Int) < (zs.length : Int) := by omega
      clear hcx0 hpre htk
      go_wp2_with fail
      refine (refint_any zs[k] wr hzk.1 hzk.2).mono ?_
      rintro e w2 ⟨v2, rfl, hv2, hB2⟩
      have hvl := uv_length (zz zs[k])
      obtain ⟨d, c, rfl, hcs⟩ := hv2.some (uv_pos _)
      have hvk := (hv.below hB2)
      have hr : w2.ownsRow w.heap.size 5 1 u3 pre.length (u8s pre) := hvk
      have hs2 := hB2.size
      obtain ⟨us, hus⟩ : ∃ us, uv (zz zs[k]) = us := ⟨_, rfl⟩
      rw [hus] at hcs hvl ⊢
      have Hcs := Lib.hid hcs
      have Hus := Lib.hid hus
      clear hcs hv2 hus hcx
      go_wp2_with (at_builtin; refine wpList_append_own _ rfl _ _ 24 rfl w.heap.size 5 i0 (.int .u8 0) 1 1 Try.underlying24 hi hz0 hz1 hz2 rfl (by decide) _ _ _ rfl hr d us.length c (u8s us) rfl (by rw [u8s_length, Nat.mul_one]) Hcs.out (u8s_one _) (by unfold maxLen; omega) (by omega) (by omega) ?_; intro v' w3 hown' hgrow hnn; clear hnn; have hP := hvk.pushN (Nat.le_trans hbs hs2) hown' hgrow; clear hgrow hown')
      go_roundw
      case rel => exact ⟨k + 1, by omega, by go_num, by rw [Htk.out, Hus.out, ← List.append_assoc, Hpre.out]; exact hP.1, (below_then hB hB2).trans hP.2⟩
      case measure => simp [intOf]; omega
    · obtain rfl : k = zs.length := by omega
      rw [List.take_length] at hv
      go_wp2
      go_ret
      exact ⟨_, rfl, hv, hB⟩
end Go.Proofs.Ytiebefomhnbemaa
