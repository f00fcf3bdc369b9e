/- The documented examples that every statement of package wire asks of it. Conditions: none. -/
import Derived.Test.YtiebefomhnbemaaWApi
namespace Go.Proofs.Ytiebefomhnbemaa
open Go.RowKit

theorem bIn_new (w : World) (e : TypeId) (ys : List UInt8) : BIn (w.heap.size + 1) (w.alloc (.cells (ys.map fun b => Value.int .u8 (b.toNat : Int)).toArray e)) (.slice (some ⟨w.heap.size, 0, none⟩) ys.length ys.length) ys := by
  have := rowAt_new w .u8 e (ys.map ofByte)
  rw [List.map_map, List.length_map] at this
  exact .inl this

/-- Two slices of bytes are compared. -/
theorem sameb_any (a a' : Option Addr) (cap cap' : Nat) (xs ys : List UInt8) (w : World) (hx : xs.length ≤ 100000000) {n₀ : Nat} (hn : n₀ ≤ w.heap.size) (hX : BIn n₀ w (.slice a xs.length cap) xs) (hY : BIn w.heap.size w (.slice a' ys.length cap') ys) :
    Calls Try.prog 15 #[.slice a xs.length cap, .slice a' ys.length cap'] w fun e w' => e = .returned (.bool (decide (xs = ys))) ∧ Below w.heap.size w w' := by
  have h := samebytes_any a a' cap cap' (xs.map ofByte) (ys.map ofByte) w (by rw [List.length_map]; omega) (by rw [List.length_map]; exact InAt.mono hn hX) (by rw [List.length_map]; exact hY)
  rw [List.length_map, List.length_map] at h
  have e : sameL (xs.map ofByte) (ys.map ofByte) = decide (xs = ys) := by
    unfold sameL
    rw [decide_eq_decide]
    refine ⟨fun h => ?_, fun h => by rw [h]⟩
    have := congrArg (List.map fun z : Int => UInt8.ofNat z.toNat) h
    rw [List.map_map, List.map_map] at this
    have hid : ((fun z : Int => UInt8.ofNat z.toNat) ∘ ofByte) = id := by
      funext c
      simp [ofByte]
    rwa [hid, List.map_id, List.map_id] at this
  rw [e] at h
  exact h
theorem samei_any (a a' : Option Addr) (cap cap' : Nat) (xs ys : List Int) (w : World) (hx : xs.length ≤ 100000000) {n₀ : Nat} (hn : n₀ ≤ w.heap.size) (hX : InAt .i64 n₀ w (.slice a xs.length cap) xs) (hY : InAt .i64 w.heap.size w (.slice a' ys.length cap') ys) :
    Calls Try.prog 34 #[.slice a xs.length cap, .slice a' ys.length cap'] w fun e w' => e = .returned (.bool (decide (xs = ys))) ∧ Below w.heap.size w w' :=
  sameints_any a a' cap cap' xs ys w (by omega) (InAt.mono hn hX) hY

set_option maxRecDepth 100000 in
set_option maxHeartbeats 4000000 in
theorem lives_any (w : World) : Calls Try.prog 18 #[] w fun e w' => e = .returned (.bool true) ∧ Below w.heap.size w w' := by
  have hw0 := Wr.new w.heap.size w (Nat.le_refl _)
  go_enter Try.func18, Try.ntmps18
  go_wp2_with fail
  refine (wuint_any w.heap.size w.heap.size 300 [] _ (by omega) (by omega) (by simp) hw0).mono ?_
  rintro e w1 ⟨rfl, hW1, hB1⟩
  have hB := ((Below.refl _ w).alloc (Nat.le_refl _) _).trans hB1
  clear hw0 hB1
  go_wp2_with fail
  refine (wint_any w.heap.size w.heap.size (-1) _ w1 (by omega) (by omega) (by decide) hW1).mono ?_
  rintro e w2 ⟨rfl, hW2, hB2⟩
  replace hB := hB.trans hB2
  clear hB2 hW1
  go_wp2_with fail
  refine (wtext_any w.heap.size w.heap.size ⟨#[97, 98]⟩ _ w2 (by decide) (by decide) hW2).mono ?_
  rintro e w3 ⟨rfl, hW3, hB3⟩
  replace hB := hB.trans hB3
  have e3 : [] ++ uv (300 : Int).toNat ++ uv (zz (-1)) ++ (uv (ByteArray.size ⟨#[97, 98]⟩) ++ (ByteArray.data ⟨#[97, 98]⟩).toList) = [172, 2, 1, 2, 97, 98] := by decide
  rw [e3] at hW3
  clear hB3 hW2 e3
  go_wp2_with fail
  refine (wdone_any _ _ _ w3 (by decide) hW3).mono ?_
  rintro e w4 ⟨v, rfl, hv, hB4⟩
  replace hB := below_then hB hB4
  obtain ⟨a, c, rfl⟩ := hv.slice
  clear hW3 hB4
  have hin := hv.in
  clear hv
  go_wp2_with fail
  refine (read_any w4.heap.size a c [172, 2, 1, 2, 97, 98] w4 (by decide) hin (Nat.le_refl _)).mono ?_
  rintro e w5 ⟨r, rfl, hr, hR, hB5⟩
  go_wp2_with fail
  refine (read_any (w5.heap.size + 1) _ _ [128, 0] _ (by decide) (bIn_new w5 _ [128, 0]) (by simp)).mono ?_
  rintro e w6 ⟨q, rfl, hq, hQ, hB6⟩
  have hB6' := below_new (Below.refl _ w5) _ hB6
  have hX := below_then hB5 hB6'
  have hR6 := hR.below hB6'
  rw [World.size_alloc] at hq hQ
  have hrl := hR.lt
  have hrq : r < q := by omega
  clear hB6 hB6' hR hB5
  have s1 : rU ⟨[172, 2, 1, 2, 97, 98], 0⟩ = (300, ⟨[1, 2, 97, 98], 0⟩) := rfl
  have s2 : rI ⟨[1, 2, 97, 98], 0⟩ = (-1, ⟨[2, 97, 98], 0⟩) := rfl
  have s3 : rRaw ⟨[2, 97, 98], 0⟩ = ([97, 98], ⟨[], 0⟩) := rfl
  have s4 : rI ⟨[128, 0], 0⟩ = (0, ⟨[], 2⟩) := rfl
  have s5 : endE ⟨[], 0⟩ = 0 := rfl
  have s6 : endE ⟨[], 2⟩ = 2 := rfl
  have S2 := Lib.hid s2
  have S3 := Lib.hid s3
  have S4 := Lib.hid s4
  have S5 := Lib.hid s5
  have S6 := Lib.hid s6
  clear s2 s3 s4 s5 s6
  have hu := ruint_any r _ w6 (by decide) hR6
  rw [s1] at hu
  clear s1
  go_wp2_with fail
  refine hu.mono ?_
  rintro e w7 ⟨rfl, hR7, hk7⟩
  have hQ7 := hQ.kp hk7 (fun k h => show k ≠ r by omega)
  replace hX : Below w4.heap.size w4 w7 := hX.trans (hk7.below (by have := hX.size; omega) (fun k h => by show k ≠ r; omega))
  have hu := rint_any r _ w7 (by decide) hR7
  rw [S2.out] at hu
  clear hQ hR6 hk7
  go_wp2_with fail
  refine hu.mono ?_
  rintro e w8 ⟨rfl, hR8, hk8⟩
  have hQ8 := hQ7.kp hk8 (fun k h => show k ≠ r by omega)
  replace hX : Below w4.heap.size w4 w8 := hX.trans (hk8.below (by have := hX.size; omega) (fun k h => by show k ≠ r; omega))
  have hu := rtext_any r _ w8 (by decide) hR8
  rw [S3.out] at hu
  clear hQ7 hR7 hk8
  go_wp2_with fail
  refine hu.mono ?_
  rintro e w9 ⟨rfl, hR9, hk9⟩
  have hQ9 := hQ8.kp hk9 (fun k h => show k ≠ r by omega)
  replace hX : Below w4.heap.size w4 w9 := hX.trans (hk9.below (by have := hX.size; omega) (fun k h => by show k ≠ r; omega))
  have hu := rint_any q _ w9 (by decide) hQ9
  rw [S4.out] at hu
  clear hQ8 hR8 hk9
  go_wp2_with fail
  refine hu.mono ?_
  rintro e w10 ⟨rfl, hQ10, hk10⟩
  have hR10 := hR9.kp hk10 (fun k h => show k ≠ q by omega)
  replace hX : Below w4.heap.size w4 w10 := hX.trans (hk10.below (by have := hX.size; omega) (fun k h => by show k ≠ q; omega))
  clear hQ9 hR9 hk10 hu
  have hin10 := hin.below hX
  go_wp2_with fail
  refine (sameb_any a _ c _ [172, 2, 1, 2, 97, 98] [172, 2, 1, 2, 97, 98] (w10.alloc _) (by decide) (n₀ := w4.heap.size) (by have := hX.size; simp; omega) (hin10.below ((Below.refl _ w10).alloc hX.size _)) (by rw [World.size_alloc]; exact bIn_new w10 _ [172, 2, 1, 2, 97, 98])).mono ?_
  rintro e w11 ⟨rfl, hB11⟩
  replace hB11 := below_new (Below.refl _ w10) _ hB11
  have hE1 := rend_any r _ w11 (by decide) (hR10.below hB11)
  have hE2 := rend_any q _ w11 (by decide) (hQ10.below hB11)
  rw [S5.out] at hE1
  rw [S6.out] at hE2
  replace hX := below_then hX hB11
  clear hR10 hQ10 hB11 hin hin10
  go_wp2_with fail
  refine hE1.mono ?_
  rintro e w' ⟨rfl, rfl⟩
  go_wp2_with fail
  refine hE2.mono ?_
  rintro e w' ⟨rfl, rfl⟩
  go_wp2
  go_ret
  exact ⟨rfl, below_then hB hX⟩
end Go.Proofs.Ytiebefomhnbemaa
