/- Contracts of a writer's other methods. Conditions: strings and slices of at most a million elements. -/
import Derived.Lib.AppendStr
import Derived.Lib.SliceRun
import Derived.Laws.AppendOwnNone
import Derived.Test.YtiebefomhnbemaaWUint
namespace Go.Proofs.Ytiebefomhnbemaa
open Go.RowKit

set_option maxHeartbeats 1000000 in
theorem wint_any (base b : Nat) (n : Int) (xs : List UInt8) (w : World) (h0 : -9223372036854775808 ≤ n) (h1 : n ≤ 9223372036854775807) (hx : xs.length ≤ 1000000) (hw : Wr base w b xs) :
    Calls Try.prog 29 #[.pointer (some ⟨b, 0, none⟩), .int .i64 n] w fun e w' => e = .returned (.tuple #[]) ∧ Wr base w' b (xs ++ uv (zz n)) ∧ Below base w w' := by
  have hz := zz_lt n h0 h1
  go_enter Try.func29, Try.ntmps29
  go_wp2_with fail
  refine (zigzag_any n w h0 h1).mono ?_
  rintro e w' ⟨rfl, rfl⟩
  go_wp2_with fail
  refine (wuint_any base b (zz n : Int) xs w (by omega) (by omega) hx hw).mono ?_
  rintro e w1 ⟨rfl, hW, hB⟩
  go_wp2
  go_end0
  exact ⟨rfl, hW, hB⟩

/-- The byte of a truth value. -/
def boolB (t : Bool) : List UInt8 := [if t then 1 else 0]
set_option maxRecDepth 100000 in
set_option maxHeartbeats 1000000 in
theorem wbool_any (base b : Nat) (t : Bool) (xs : List UInt8) (w : World) (hx : xs.length ≤ 1000000) (hw : Wr base w b xs) :
    Calls Try.prog 30 #[.pointer (some ⟨b, 0, none⟩), .bool t] w fun e w' => e = .returned (.tuple #[]) ∧ Wr base w' b (xs ++ boolB t) ∧ Below base w w' := by
  obtain ⟨i0, hi, hz0, hz1, hz2⟩ := info_parts Try.infoU8
  obtain ⟨hb, v, hv, hr⟩ := hw
  have hbs : base ≤ w.heap.size := by have := hv.lt; omega
  have hc := hv.cell
  cases t
  · go_enter Try.func30, Try.ntmps30
    go_wp2_with (at_builtin; refine wpList_append_own _ rfl _ _ 24 rfl base 5 i0 (.int .u8 0) 1 1 Try.underlying24 hi hz0 hz1 hz2 rfl (by decide) _ _ _ rfl (hr.alloc _) ⟨w.heap.size, 0, none⟩ 1 1 [.int .u8 0] rfl rfl (cell_one_new _ _ _) (by simp [Value.oneCell']) (by unfold maxLen; omega) (by omega) (by simp; omega) ?_; intro v' w1 hown' hgrow hnn; clear hnn; obtain ⟨g', cap', rfl⟩ := slice_succ hown'; obtain ⟨hv1, hW, hBe⟩ := Wr.pushed (ys := [0]) hb hv hr hown' hgrow; have hc1 := hv1.cell; have hf1 := hv1.frozen; clear hgrow hown')
    go_end0
    exact ⟨rfl, hW, hBe⟩
  · go_enter Try.func30, Try.ntmps30
    go_wp2_with (at_builtin; refine wpList_append_own _ rfl _ _ 24 rfl base 5 i0 (.int .u8 0) 1 1 Try.underlying24 hi hz0 hz1 hz2 rfl (by decide) _ _ _ rfl (hr.alloc _) ⟨w.heap.size, 0, none⟩ 1 1 [.int .u8 1] rfl rfl (cell_one_new _ _ _) (by simp [Value.oneCell']) (by unfold maxLen; omega) (by omega) (by simp; omega) ?_; intro v' w1 hown' hgrow hnn; clear hnn; obtain ⟨g', cap', rfl⟩ := slice_succ hown'; obtain ⟨hv1, hW, hBe⟩ := Wr.pushed (ys := [1]) hb hv hr hown' hgrow; have hc1 := hv1.cell; have hf1 := hv1.frozen; clear hgrow hown')
    go_end0
    exact ⟨rfl, hW, hBe⟩

set_option maxRecDepth 100000 in
set_option maxHeartbeats 1000000 in
theorem wtext_any (base b : Nat) (s : ByteArray) (xs : List UInt8) (w : World) (hx : xs.length ≤ 1000000) (hs : s.size ≤ 1000000) (hw : Wr base w b xs) :
    Calls Try.prog 38 #[.pointer (some ⟨b, 0, none⟩), .string s] w fun e w' => e = .returned (.tuple #[]) ∧ Wr base w' b (xs ++ (uv s.size ++ s.data.toList)) ∧ Below base w w' := by
  obtain ⟨i0, hi, hz0, hz1, hz2⟩ := info_parts Try.infoU8
  go_enter Try.func38, Try.ntmps38
  go_wp2_with fail
  refine (wuint_any base b (s.size : Int) xs w (by omega) (by omega) hx hw).mono ?_
  rintro e w1 ⟨rfl, ⟨hb, v, hv, hr⟩, hB⟩
  rw [Int.toNat_natCast] at hr
  have hbs : base ≤ w1.heap.size := by have := hv.lt; omega
  have hc := hv.cell
  have hul := uv_length s.size
  have hup := uv_pos s.size
  have hal : (xs ++ uv s.size).length = xs.length + (uv s.size).length := List.length_append
  obtain ⟨ys, hys⟩ : ∃ ys, xs ++ uv s.size = ys := ⟨_, rfl⟩
  rw [hys] at hr hal
  have Hys := Lib.hid hys
  have hy1 : ys.length ≤ 1000010 := by omega
  have hy2 : 1 ≤ ys.length := by omega
  clear hys hal hul hup
  go_wp2_with (at_builtin; refine Lib.wpList_append_own_string _ rfl _ _ 24 9 rfl base 5 i0 Try.underlying24 Try.underlying9 hi hz0 hz1 hz2 _ _ _ rfl hr s rfl (by unfold maxLen; omega) (by omega) (by omega) ?_; intro v' w2 hown' hgrow hnn; clear hnn; obtain ⟨g', cap', rfl⟩ := slice_pos hown' (by omega); obtain ⟨hv1, hW, hBe⟩ := Wr.pushed0 (ys := s.data.toList) hb hv hr hown' hgrow; have hc1 := hv1.cell; have hf1 := hv1.frozen; clear hgrow hown')
  go_end0
  exact ⟨rfl, by rw [← List.append_assoc, Hys.out]; exact hW, hB.trans hBe⟩

set_option maxRecDepth 100000 in
set_option maxHeartbeats 1000000 in
theorem wraw_any (base b : Nat) (a : Option Addr) (cap : Nat) (zs xs : List UInt8) (w : World) (hx : xs.length ≤ 1000000) (hs : zs.length ≤ 1000000) (hI : BIn base w (.slice a zs.length cap) zs) (hw : Wr base w b xs) :
    Calls Try.prog 31 #[.pointer (some ⟨b, 0, none⟩), .slice a zs.length cap] w fun e w' => e = .returned (.tuple #[]) ∧ Wr base w' b (xs ++ (uv zs.length ++ zs)) ∧ Below base w w' := by
  obtain ⟨i0, hi, hz0, hz1, hz2⟩ := info_parts Try.infoU8
  go_enter Try.func31, Try.ntmps31
  go_wp2_with fail
  refine (wuint_any base b (zs.length : Int) xs w (by omega) (by omega) hx hw).mono ?_
  rintro e w1 ⟨rfl, ⟨hb, v, hv, hr⟩, hB⟩
  rw [Int.toNat_natCast] at hr
  have hbs : base ≤ w1.heap.size := by have := hv.lt; omega
  have hc := hv.cell
  have hul := uv_length zs.length
  have hup := uv_pos zs.length
  have hal : (xs ++ uv zs.length).length = xs.length + (uv zs.length).length := List.length_append
  obtain ⟨ys, hys⟩ : ∃ ys, xs ++ uv zs.length = ys := ⟨_, rfl⟩
  rw [hys] at hr hal
  have Hys := Lib.hid hys
  have hy1 : ys.length ≤ 1000010 := by omega
  have hy2 : 1 ≤ ys.length := by omega
  have hI1 := hI.below hB
  clear hys hal hul hup hI
  rcases hI1.cases with ⟨rfl, hl, rfl, rfl⟩ | ⟨d, rfl, -, hcs⟩
  · obtain ⟨g', cap', rfl⟩ := slice_pos hr (by omega)
    have hf := hv.frozen
    have hW : Wr base (w1.setCell ⟨b, 0, none⟩ (.slice (some ⟨g', 0, none⟩) ys.length cap')) b (ys ++ []) := by
      rw [List.append_nil]
      exact ⟨hb, _, hv.set _, hr.kept (grownBy_setCell' w1 b _) (.inr (hv.not_row (by decide) hr).symm)⟩
    have hBe := (Below.refl base w1).setCell (p := ⟨b, 0, none⟩) hb (.slice (some ⟨g', 0, none⟩) ys.length cap')
    clear hl
    go_wp2_with (at_builtin; refine wpList_append_own_none rfl _ _ 24 rfl base 5 i0 1 Try.underlying24 hi _ _ _ rfl hr rfl ?_)
    go_end0
    exact ⟨rfl, by rw [← List.append_assoc, Hys.out]; exact hW, hB.trans hBe⟩
  · have Hcs := Lib.hid hcs
    clear hcs hI1
    go_wp2_with (at_builtin; refine wpList_append_own _ rfl _ _ 24 rfl base 5 i0 (.int .u8 0) 1 1 Try.underlying24 hi hz0 hz1 hz2 rfl (by decide) _ _ _ rfl hr d zs.length cap (u8s zs) rfl (by rw [u8s_length, Nat.mul_one]) Hcs.out (u8s_one _) (by unfold maxLen; omega) (by omega) (by omega) ?_; intro v' w2 hown' hgrow hnn; clear hnn; obtain ⟨g', cap', rfl⟩ := slice_pos hown' (by omega); obtain ⟨hv1, hW, hBe⟩ := Wr.pushed0 (ys := zs) hb hv hr hown' hgrow; have hc1 := hv1.cell; have hf1 := hv1.frozen; clear hgrow hown')
    go_end0
    exact ⟨rfl, by rw [← List.append_assoc, Hys.out]; exact hW, hB.trans hBe⟩

theorem encL_snoc (zs : List Int) (z : Int) : encL (zs ++ [z]) = encL zs ++ uv (zz z) := by simp [encL]
set_option maxRecDepth 100000 in
set_option maxHeartbeats 1000000 in
theorem wints_any (base b : Nat) (a : Option Addr) (cap : Nat) (zs : List Int) (xs : List UInt8) (w : World) (hx : xs.length + 10 * zs.length + 10 ≤ 1000000) (hz : ∀ z ∈ zs, -9223372036854775808 ≤ z ∧ z ≤ 9223372036854775807) (hI : InAt .i64 base w (.slice a zs.length cap) zs) (hw : Wr base w b xs) :
    Calls Try.prog 32 #[.pointer (some ⟨b, 0, none⟩), .slice a zs.length cap] w fun e w' => e = .returned (.tuple #[]) ∧ Wr base w' b (xs ++ (uv zs.length ++ encL zs)) ∧ Below base w w' := by
  have Hz := Lib.hid hz
  clear hz
  go_enter Try.func32, Try.ntmps32
  go_wp2_with fail
  refine (wuint_any base b (zs.length : Int) xs w (by omega) (by omega) (by omega) hw).mono ?_
  rintro e w1 ⟨rfl, hW1, hB1⟩
  rw [Int.toNat_natCast] at hW1
  have hul := uv_length zs.length
  go_wp2_with fail
  go_loopw [13] (fun i wr => ∃ k : Nat, k ≤ zs.length ∧ i = .int .i64 k ∧ Wr base wr b (xs ++ uv zs.length ++ encL (zs.take k)) ∧ Below base w wr) (fun i _ => zs.length - (intOf i).toNat)
  case atStart => exact ⟨0, Nat.zero_le _, rfl, by simpa [encL] using hW1, hB1⟩
  case round =>
    obtain ⟨k, hk, rfl, hW, hB⟩ := hrel
    by_cases hlt : k < zs.length
    · have hzk := Hz.out zs[k] (List.getElem_mem hlt)
      have hlen : (xs ++ uv zs.length ++ encL (zs.take k)).length ≤ 1000000 := by
        have h1 := encL_le (zs.take k)
        have h2 : (zs.take k).length = k := by rw [List.length_take]; omega
        rw [List.length_append, List.length_append]
        omega
      rcases hI with hI | ⟨d, c, e, h0⟩
      · obtain ⟨g, off, rfl, hbb, hcx0⟩ := hI.get hlt
        have hcx := (hB.cell (p := ⟨g, off + k, none⟩) hbb).trans hcx0
        clear hcx0
        go_wp2_with fail
        refine (wint_any base b zs[k] _ wr hzk.1 hzk.2 hlen hW).mono ?_
        rintro e w2 ⟨rfl, hW2, hB2⟩
        go_wp2
        go_roundw
        case rel => exact ⟨k + 1, by omega, by go_num, by rw [List.take_succ_eq_append_getElem hlt, encL_snoc, ← List.append_assoc]; exact hW2, hB.trans hB2⟩
        case measure => simp [intOf]; omega
      · subst h0
        simp at hlt
    · obtain rfl : k = zs.length := by omega
      rw [List.take_length] at hW
      go_wp2
      go_end0
      exact ⟨rfl, by rw [← List.append_assoc]; exact hW, hB⟩

set_option maxRecDepth 100000 in
set_option maxHeartbeats 1000000 in
theorem clone_any (n₀ : Nat) (a : Option Addr) (cap : Nat) (ys : List UInt8) (w : World) (hs : ys.length ≤ 1000000000) (hI : BIn n₀ w (.slice a ys.length cap) ys) (hn : n₀ ≤ w.heap.size) :
    Calls Try.prog 39 #[.slice a ys.length cap] w fun e w' => ∃ v, e = .returned v ∧ Bs w.heap.size w' v ys ∧ Below w.heap.size w w' := by
  obtain ⟨i0, hi, hz0, hz1, hz2⟩ := info_parts Try.infoU8
  have q24 : ∀ (w : World) (a : Option Addr) (n c n' c' : Nat), (binOp .eql 24 (.slice a n c) (.slice none n' c')).run Try.prog w = .ok (.bool a.isNone) w := fun w a n c n' c' => Lib.run_eql_slice_nil w _ _ a n c n' c' Try.underlying24
  have hI1 := (hI.mono hn).below ((Below.refl _ w).alloc (Nat.le_refl _) (.cells #[] 5))
  rcases hI1.cases with ⟨rfl, hl, rfl, rfl⟩ | ⟨d, rfl, -, hcs⟩
  · clear hl
    go_enter Try.func39, Try.ntmps39
    go_wp2
    go_ret
    exact ⟨_, rfl, World.ownsRow_nil _ _ _ _, Below.refl _ _⟩
  · have Hcs := Lib.hid hcs
    have hr := owns_empty w w.heap.size 5 (Nat.le_refl _)
    clear hcs hI1 hI
    go_enter Try.func39, Try.ntmps39
    go_wp2_with (at_builtin; refine wpList_append_own _ rfl _ _ 24 rfl w.heap.size 5 i0 (.int .u8 0) 1 1 Try.underlying24 hi hz0 hz1 hz2 rfl (by decide) _ _ _ rfl hr d ys.length cap (u8s ys) rfl (by rw [u8s_length, Nat.mul_one]) Hcs.out (u8s_one _) (by unfold maxLen; omega) (by omega) (by simp) ?_; intro v' w2 hown' hgrow hnn; clear hnn)
    rw [Nat.zero_add, List.nil_append] at hown'
    go_ret
    exact ⟨_, rfl, hown', ((Below.refl _ w).alloc (Nat.le_refl _) _).grown hgrow (by simp) (fun j hj => (hr.lt j hj).1)⟩

set_option maxRecDepth 100000 in
set_option maxHeartbeats 1000000 in
theorem wdone_any (base b : Nat) (xs : List UInt8) (w : World) (hx : xs.length ≤ 10000000) (hw : Wr base w b xs) :
    Calls Try.prog 16 #[.pointer (some ⟨b, 0, none⟩)] w fun e w' => ∃ v, e = .returned v ∧ Bs w.heap.size w' v xs ∧ Below w.heap.size w w' := by
  obtain ⟨hb, v, hv, hr⟩ := hw
  have hc := hv.cell
  have hin := Bs.in (show Bs base w v xs from hr)
  obtain ⟨a, cap, rfl⟩ := hin.slice
  go_enter Try.func16, Try.ntmps16
  go_wp2_with fail
  refine (clone_any w.heap.size a cap xs w (by omega) hin (Nat.le_refl _)).mono ?_
  rintro e w1 ⟨v', rfl, hv', hB⟩
  go_wp2
  go_ret
  exact ⟨_, rfl, hv', hB⟩
end Go.Proofs.Ytiebefomhnbemaa
