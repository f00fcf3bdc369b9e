/- The contract of a writer's Uint. Conditions: a number of 64 bits. -/
import Derived.Test.YtkdbffhmnkkbcaaDoorWMem
import Derived.Test.YtkdbffhmnkkbcaaDoorWBits
namespace Go.Proofs.YtkdbffhmnkkbcaaDoor.W
open Go.RowKit

set_option maxRecDepth 100000 in
set_option maxHeartbeats 1000000 in
theorem wuint_any (base b : Nat) (n : Int) (xs : List UInt8) (w : World) (h0 : 0 ≤ n) (h1 : n ≤ 18446744073709551615) (hx : xs.length ≤ 1000000) (hw : Wr base w b xs) :
    Calls Tryd.prog 19 #[.pointer (some ⟨b, 0, none⟩), .int .u64 n] w fun e w' => e = .returned (.tuple #[]) ∧ Wr base w' b (xs ++ uv n.toNat) ∧ Below base w w' := by
  obtain ⟨i0, hi, hz0, hz1, hz2⟩ := info_parts Tryd.infoU8
  obtain ⟨n, rfl⟩ := Int.eq_ofNat_of_zero_le h0
  rw [Int.toNat_natCast]
  go_enter Tryd.func19, Tryd.ntmps19
  go_wp2
  go_loopw [1] (fun x wr => ∃ (m : Nat) (pre : List UInt8), x = .int .u64 m ∧ m < 18446744073709551616 ∧ pre ++ uv m = uv n ∧ Wr base wr b (xs ++ pre) ∧ Below base w wr) (fun x _ => (intOf x).toNat)
  case atStart => exact ⟨n, [], rfl, by omega, rfl, by rw [List.append_nil]; exact hw, Below.refl _ _⟩
  case round =>
    obtain ⟨m, pre, rfl, hm, hp, ⟨hb, v, hv, hr⟩, hB⟩ := hrel
    have hl : (xs ++ pre).length ≤ 1000010 := by
      have e := congrArg List.length hp
      have := uv_length n
      rw [List.length_append] at e ⊢
      omega
    have Hp := Lib.hid hp
    clear hp
    have hbs : base ≤ wr.heap.size := by have := hv.lt; omega
    by_cases hlt : 128 ≤ m
    · have hc := hv.cell
      go_wp2_with (at_builtin; refine wpList_append_own _ rfl _ _ 26 rfl base 5 i0 (.int .u8 0) 1 1 Tryd.underlying26 hi hz0 hz1 hz2 rfl (by decide) _ _ _ rfl (hr.alloc _) ⟨wr.heap.size, 0, none⟩ 1 1 [.int .u8 (bits .or .u8 (IntKind.u8.wrap (m : Int)) 128)] rfl rfl (cell_one_new _ _ _) (by simp [Value.oneCell']) (by unfold maxLen; omega) (by omega) (by simp; omega) ?_; intro v' w1 hown' hgrow hnn; clear hnn; rw [or_more] at hown'; obtain ⟨g', cap', rfl⟩ := slice_succ hown'; obtain ⟨hv1, hW, hBe⟩ := Wr.pushed (ys := [UInt8.ofNat (128 + m % 128)]) hb hv hr hown' hgrow; have hc1 := hv1.cell; have hf1 := hv1.frozen; rw [List.length_append] at hW hBe; clear hgrow hown')
      go_roundw
      case rel => exact ⟨m / 128, pre ++ [UInt8.ofNat (128 + m % 128)], by go_num, by omega, by rw [List.append_assoc, List.singleton_append, ← uv_big m hlt hm]; exact Hp.out, by rw [← List.append_assoc]; exact hW, hB.trans hBe⟩
      case measure => simp [intOf]; omega
    · have hc := hv.cell
      go_wp2_with (at_builtin; refine wpList_append_own _ rfl _ _ 26 rfl base 5 i0 (.int .u8 0) 1 1 Tryd.underlying26 hi hz0 hz1 hz2 rfl (by decide) _ _ _ rfl (hr.alloc _) ⟨wr.heap.size, 0, none⟩ 1 1 [.int .u8 (m : Int)] rfl rfl (cell_one_new _ _ _) (by simp [Value.oneCell']) (by unfold maxLen; omega) (by omega) (by simp; omega) ?_; intro v' w1 hown' hgrow hnn; clear hnn; rw [← ofByte_ofNat m (by omega)] at hown'; obtain ⟨g', cap', rfl⟩ := slice_succ hown'; obtain ⟨hv1, hW, hBe⟩ := Wr.pushed (ys := [UInt8.ofNat m]) hb hv hr hown' hgrow; have hc1 := hv1.cell; have hf1 := hv1.frozen; rw [List.length_append] at hW hBe; clear hgrow hown')
      go_end0
      exact ⟨rfl, by rw [← Hp.out, uv_small m (by omega), ← List.append_assoc]; exact hW, hB.trans hBe⟩

set_option maxHeartbeats 1000000 in
theorem zigzag_any (n : Int) (w : World) (h0 : -9223372036854775808 ≤ n) (h1 : n ≤ 9223372036854775807) :
    Calls Tryd.prog 20 #[.int .i64 n] w fun e w' => e = .returned (.int .u64 (zz n : Int)) ∧ w = w' := by
  go_enter Tryd.func20, Tryd.ntmps20
  go_wp2
  go_ret
  exact ⟨ret_u64 (zig_bits n h0 h1), rfl⟩
set_option maxHeartbeats 1000000 in
theorem unzigzag_any (z : Int) (w : World) (h0 : 0 ≤ z) (h1 : z ≤ 18446744073709551615) :
    Calls Tryd.prog 24 #[.int .u64 z] w fun e w' => e = .returned (.int .i64 (unzz z.toNat)) ∧ w = w' := by
  have hb := unzig_bits z.toNat (by omega)
  rw [Int.toNat_of_nonneg h0] at hb
  have Hb := Lib.hid hb
  clear hb
  go_enter Tryd.func24, Tryd.ntmps24
  go_wp2
  go_ret
  exact ⟨ret_i64 Hb.out, rfl⟩
end Go.Proofs.YtkdbffhmnkkbcaaDoor.W
