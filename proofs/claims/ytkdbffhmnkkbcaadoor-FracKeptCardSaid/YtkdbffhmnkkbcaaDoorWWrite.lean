/- Contracts of a writer's other methods. Conditions: strings and slices of at most a million elements. -/
import Derived.Lib.AppendStr
import Derived.Lib.SliceRun
import Derived.Laws.AppendOwnNone
import Derived.Test.YtkdbffhmnkkbcaaDoorWUint
namespace Go.Proofs.YtkdbffhmnkkbcaaDoor.W
open Go.RowKit

set_option maxHeartbeats 1000000 in
theorem wint_any (base b : Nat) (n : Int) (xs : List UInt8) (w : World) (h0 : -9223372036854775808 ≤ n) (h1 : n ≤ 9223372036854775807) (hx : xs.length ≤ 1000000) (hw : Wr base w b xs) :
    Calls Tryd.prog 5 #[.pointer (some ⟨b, 0, none⟩), .int .i64 n] w fun e w' => e = .returned (.tuple #[]) ∧ Wr base w' b (xs ++ uv (zz n)) ∧ Below base w w' := by
  have hz := zz_lt n h0 h1
  go_enter Tryd.func5, Tryd.ntmps5
  go_wp2_with fail
  refine (zigzag_any n w h0 h1).mono ?_
  rintro e w' ⟨rfl, rfl⟩
  go_wp2_with fail
  refine (wuint_any base b (zz n : Int) xs w (by omega) (by omega) hx hw).mono ?_
  rintro e w1 ⟨rfl, hW, hB⟩
  go_wp2
  go_end0
  exact ⟨rfl, hW, hB⟩

/-- The byte of a truth value. -/
def boolB (t : Bool) : List UInt8 := [if t then 1 else 0]
set_option maxRecDepth 100000 in
set_option maxHeartbeats 1000000 in
theorem wtext_any (base b : Nat) (s : ByteArray) (xs : List UInt8) (w : World) (hx : xs.length ≤ 1000000) (hs : s.size ≤ 1000000) (hw : Wr base w b xs) :
    Calls Tryd.prog 6 #[.pointer (some ⟨b, 0, none⟩), .string s] w fun e w' => e = .returned (.tuple #[]) ∧ Wr base w' b (xs ++ (uv s.size ++ s.data.toList)) ∧ Below base w w' := by
  obtain ⟨i0, hi, hz0, hz1, hz2⟩ := info_parts Tryd.infoU8
  go_enter Tryd.func6, Tryd.ntmps6
  go_wp2_with fail
  refine (wuint_any base b (s.size : Int) xs w (by omega) (by omega) hx hw).mono ?_
  rintro e w1 ⟨rfl, ⟨hb, v, hv, hr⟩, hB⟩
  rw [Int.toNat_natCast] at hr
  have hbs : base ≤ w1.heap.size := by have := hv.lt; omega
  have hc := hv.cell
  have hul := uv_length s.size
  have hup := uv_pos s.size
  have hal : (xs ++ uv s.size).length = xs.length + (uv s.size).length := List.length_append
  obtain ⟨ys, hys⟩ : ∃ ys, xs ++ uv s.size = ys := ⟨_, rfl⟩
  rw [hys] at hr hal
  have Hys := Lib.hid hys
  have hy1 : ys.length ≤ 1000010 := by omega
  have hy2 : 1 ≤ ys.length := by omega
  clear hys hal hul hup
  go_wp2_with (at_builtin; refine Lib.wpList_append_own_string _ rfl _ _ 26 9 rfl base 5 i0 Tryd.underlying26 Tryd.underlying9 hi hz0 hz1 hz2 _ _ _ rfl hr s rfl (by unfold maxLen; omega) (by omega) (by omega) ?_; intro v' w2 hown' hgrow hnn; clear hnn; obtain ⟨g', cap', rfl⟩ := slice_pos hown' (by omega); obtain ⟨hv1, hW, hBe⟩ := Wr.pushed0 (ys := s.data.toList) hb hv hr hown' hgrow; have hc1 := hv1.cell; have hf1 := hv1.frozen; clear hgrow hown')
  go_end0
  exact ⟨rfl, by rw [← List.append_assoc, Hys.out]; exact hW, hB.trans hBe⟩

theorem encL_snoc (zs : List Int) (z : Int) : encL (zs ++ [z]) = encL zs ++ uv (zz z) := by simp [encL]
set_option maxRecDepth 100000 in
set_option maxHeartbeats 1000000 in
theorem clone_any (n₀ : Nat) (a : Option Addr) (cap : Nat) (ys : List UInt8) (w : World) (hs : ys.length ≤ 1000000000) (hI : BIn n₀ w (.slice a ys.length cap) ys) (hn : n₀ ≤ w.heap.size) :
    Calls Tryd.prog 23 #[.slice a ys.length cap] w fun e w' => ∃ v, e = .returned v ∧ Bs w.heap.size w' v ys ∧ Below w.heap.size w w' := by
  obtain ⟨i0, hi, hz0, hz1, hz2⟩ := info_parts Tryd.infoU8
  have q24 : ∀ (w : World) (a : Option Addr) (n c n' c' : Nat), (binOp .eql 26 (.slice a n c) (.slice none n' c')).run Tryd.prog w = .ok (.bool a.isNone) w := fun w a n c n' c' => Lib.run_eql_slice_nil w _ _ a n c n' c' Tryd.underlying26
  have hI1 := (hI.mono hn).below ((Below.refl _ w).alloc (Nat.le_refl _) (.cells #[] 5))
  rcases hI1.cases with ⟨rfl, hl, rfl, rfl⟩ | ⟨d, rfl, -, hcs⟩
  · clear hl
    go_enter Tryd.func23, Tryd.ntmps23
    go_wp2
    go_ret
    exact ⟨_, rfl, World.ownsRow_nil _ _ _ _, Below.refl _ _⟩
  · have Hcs := Lib.hid hcs
    have hr := owns_empty w w.heap.size 5 (Nat.le_refl _)
    clear hcs hI1 hI
    go_enter Tryd.func23, Tryd.ntmps23
    go_wp2_with (at_builtin; refine wpList_append_own _ rfl _ _ 26 rfl w.heap.size 5 i0 (.int .u8 0) 1 1 Tryd.underlying26 hi hz0 hz1 hz2 rfl (by decide) _ _ _ rfl hr d ys.length cap (u8s ys) rfl (by rw [u8s_length, Nat.mul_one]) Hcs.out (u8s_one _) (by unfold maxLen; omega) (by omega) (by simp) ?_; intro v' w2 hown' hgrow hnn; clear hnn)
    rw [Nat.zero_add, List.nil_append] at hown'
    go_ret
    exact ⟨_, rfl, hown', ((Below.refl _ w).alloc (Nat.le_refl _) _).grown hgrow (by simp) (fun j hj => (hr.lt j hj).1)⟩

set_option maxRecDepth 100000 in
set_option maxHeartbeats 1000000 in
theorem wdone_any (base b : Nat) (xs : List UInt8) (w : World) (hx : xs.length ≤ 10000000) (hw : Wr base w b xs) :
    Calls Tryd.prog 9 #[.pointer (some ⟨b, 0, none⟩)] w fun e w' => ∃ v, e = .returned v ∧ Bs w.heap.size w' v xs ∧ Below w.heap.size w w' := by
  obtain ⟨hb, v, hv, hr⟩ := hw
  have hc := hv.cell
  have hin := Bs.in (show Bs base w v xs from hr)
  obtain ⟨a, cap, rfl⟩ := hin.slice
  go_enter Tryd.func9, Tryd.ntmps9
  go_wp2_with fail
  refine (clone_any w.heap.size a cap xs w (by omega) hin (Nat.le_refl _)).mono ?_
  rintro e w1 ⟨v', rfl, hv', hB⟩
  go_wp2
  go_ret
  exact ⟨_, rfl, hv', hB⟩
end Go.Proofs.YtkdbffhmnkkbcaaDoor.W
