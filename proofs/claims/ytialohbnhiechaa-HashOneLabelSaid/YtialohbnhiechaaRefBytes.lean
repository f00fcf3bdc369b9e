/- Contracts of the reference model's Bytes, and of both texts' Pair. Conditions: labels and slices within the reach. -/
import Derived.Test.YtialohbnhiechaaBytes
namespace Go.Proofs.Ytialohbnhiechaa
open Go.RowKit

theorem sum_any (lab : ByteArray) (zs : List Int) (a : Option Addr) (cap : Nat) (w : World) (hlab : lab.size ≤ 140737488351232) (hzs : zs.length ≤ 140737488351232) (hI : RowAt .i64 w.heap.size w (.slice a zs.length cap) zs) :
    Calls Try.prog 13 #[.string lab, .slice a zs.length cap] w fun e w' => e = .returned (.int .u64 (sumI lab.data.toList zs)) ∧ Below w.heap.size w w' :=
  (callsIn_wide (n := 3)).1 (sum_in 3 (by omega) lab zs a cap w hlab hzs hI)
theorem bytes_any (lab : ByteArray) (bs : List UInt8) (a : Option Addr) (cap : Nat) (w : World) (hlab : lab.size ≤ 140737488351232) (hbs : bs.length ≤ 140737488351232) (hI : BytesAt w.heap.size w (.slice a bs.length cap) bs) :
    Calls Try.prog 17 #[.string lab, .slice a bs.length cap] w fun e w' => e = .returned (.int .u64 (bytesI lab.data.toList bs)) ∧ Below w.heap.size w w' :=
  (callsIn_wide (n := 4)).1 (bytes_in 4 (by omega) lab bs a cap w hlab hbs hI)

/-- A new row of integers reads as them. -/
theorem rowAt_new (w : World) (k : IntKind) (e : TypeId) (zs : List Int) : RowAt k (w.heap.size + 1) (w.alloc (.cells (zs.map (Value.int k)).toArray e)) (.slice (some ⟨w.heap.size, 0, none⟩) zs.length zs.length) zs :=
  .inr ⟨_, _, _, rfl, Nat.le_refl _, by omega, fun j hj => by
    rw [Nat.zero_add]
    exact (World.cell?_alloc_mark w _ _ _ j).trans (by simp [hj])⟩

set_option maxHeartbeats 1000000 in
theorem pair_any (a b : Int) (w : World) : Calls Try.prog 19 #[.int .u64 a, .int .u64 b] w fun e w' => e = .returned (.int .u64 (pairI a b)) ∧ Below w.heap.size w w' := by
  go_enter Try.func19, Try.ntmps19
  go_wp2_with fail
  refine (sum_any ⟨#[112, 97, 105, 114]⟩ [wrap64 a, wrap64 b] _ _ _ (by decide) (by simp) (by rw [World.size_alloc]; exact rowAt_new w .i64 _ [wrap64 a, wrap64 b])).mono ?_
  rintro e w1 ⟨rfl, hB⟩
  go_wp2
  go_ret
  exact ⟨rfl, ((Below.refl _ w).alloc (Nat.le_refl _) _).trans (hB.mono (by simp))⟩

set_option maxHeartbeats 1000000 in
theorem refpair_any (a b : Int) (w : World) : Calls Try.prog 20 #[.int .u64 a, .int .u64 b] w fun e w' => e = .returned (.int .u64 (pairI a b)) ∧ Below w.heap.size w w' := by
  go_enter Try.func20, Try.ntmps20
  go_wp2_with fail
  refine (refsum_any ⟨#[112, 97, 105, 114]⟩ [wrap64 a, wrap64 b] _ _ _ (by decide) (by simp) (by rw [World.size_alloc]; exact rowAt_new w .i64 _ [wrap64 a, wrap64 b])).mono ?_
  rintro e w1 ⟨rfl, hB⟩
  go_wp2
  go_ret
  exact ⟨rfl, ((Below.refl _ w).alloc (Nat.le_refl _) _).trans (hB.mono (by simp))⟩

/-- What the append of an own row has made, by its length. -/
theorem slice_succ {W : World} {base : Nat} {e : TypeId} {size : Nat} {v : Value} {k : Nat} {xs : List Value} (h : W.ownsRow base e size v (k + 1) xs) : ∃ g cap, v = .slice (some ⟨g, 0, none⟩) (k + 1) cap := by
  rcases h.2 with ⟨_, h0⟩ | ⟨g, cap, _, rfl, _⟩
  · omega
  · exact ⟨g, cap, rfl⟩
theorem ints_take_snoc (ws : List Int) (k : Nat) (h : k < ws.length) : (ws.take (k + 1)).map (fun y => Value.int .i64 (wrap64 y)) = (ws.take k).map (fun y => Value.int .i64 (wrap64 y)) ++ [Value.int .i64 (wrap64 ws[k])] := by
  rw [List.take_succ_eq_append_getElem h, List.map_append]; rfl

set_option maxRecDepth 100000 in
set_option maxHeartbeats 2000000 in
theorem refbytes_any (lab : ByteArray) (bs : List UInt8) (a : Option Addr) (cap : Nat) (w : World) (hlab : lab.size ≤ 140737488351232) (hbs : bs.length ≤ 140737488351232) (hI : BytesAt w.heap.size w (.slice a bs.length cap) bs) :
    Calls Try.prog 18 #[.string lab, .slice a bs.length cap] w fun e w' => e = .returned (.int .u64 (bytesI lab.data.toList bs)) ∧ Below w.heap.size w w' := by
  obtain ⟨i0, hi, hz0, hz1, hz2⟩ := info_parts Try.infoInt
  go_enter Try.func18, Try.ntmps18
  go_wp2_with fail
  refine (refwords a cap bs w hbs hI).mono ?_
  rintro e w1 ⟨a', cap', rfl, hrow, hB1⟩
  have hwl := wordsL_length bs
  have hpl : nWords bs.length ≤ 17592186044405 := by unfold nWords; omega
  have hwle : (wordsL bs).length ≤ 17592186044405 := by omega
  clear hwl hpl
  obtain ⟨zs, hzs⟩ : ∃ zs, (wordsL bs).map wrap64 ++ [(bs.length : Int)] = zs := ⟨_, rfl⟩
  have hzl : zs.length = (wordsL bs).length + 1 := by rw [← hzs]; simp
  have hzm : (wordsL bs).map (fun y => Value.int .i64 (wrap64 y)) ++ [Value.int .i64 (bs.length : Int)] = zs.map (Value.int .i64) := by rw [← hzs]; simp
  have hfin : sumI lab.data.toList zs = bytesI lab.data.toList bs := by rw [← hzs]; rfl
  have Hfin := Lib.hid hfin
  clear hfin hzs
  obtain ⟨ws, hws⟩ : ∃ ws, wordsL bs = ws := ⟨_, rfl⟩
  rw [hws] at hrow hwle hzl hzm
  rw [hws]
  have Hzl := Lib.hid hzl
  have Hzm := Lib.hid hzm
  clear hzl hzm hws hI
  go_wp2_with fail
  go_loopw [6, 7] (fun v i wr => ∃ k : Nat, k ≤ ws.length ∧ i = .int .i64 k ∧ wr.ownsRow w1.heap.size 3 1 v k ((ws.take k).map (fun y => Value.int .i64 (wrap64 y))) ∧ Below w1.heap.size w1 wr) (fun _ i _ => ws.length - (intOf i).toNat)
  case atStart => exact ⟨0, Nat.zero_le _, rfl, World.ownsRow_nil _ _ _ _, Below.refl _ _⟩
  case round =>
    obtain ⟨k, hk, rfl, hown, hB⟩ := hrel
    by_cases hlt : k < ws.length
    · obtain ⟨b, off, rfl, hbb, hcx0⟩ := hrow.get hlt
      have hcx := (hB.cell (p := ⟨b, off + k, none⟩) hbb).trans hcx0
      clear hcx0
      go_wp2_with (at_builtin; refine wpList_append_own _ rfl _ _ 22 rfl w1.heap.size 3 i0 (.int .i64 0) 1 8 Try.underlying22 hi hz0 hz1 hz2 rfl (by decide) _ _ _ rfl (hown.alloc _) ⟨wr.heap.size, 0, none⟩ 1 1 [.int .i64 (wrap64 ws[k])] rfl rfl (cell_one_new _ _ _) (by simp [Value.oneCell']) (by unfold maxLen; omega) (by omega) (by have := hB.size; simp; omega) ?_; intro v' w2 hown' hgrow _)
      go_roundw
      case rel => exact ⟨k + 1, by omega, by go_num, by rw [ints_take_snoc ws k hlt]; exact hown', (hB.alloc hB.size _).grown hgrow (by have := hB.size; simp; omega) (fun j hj => (hown.lt j hj).1)⟩
      case measure => simp [intOf]; omega
    · obtain rfl : k = ws.length := by omega
      rw [List.take_length] at hown
      go_wp2_with (at_builtin; refine wpList_append_own _ rfl _ _ 22 rfl w1.heap.size 3 i0 (.int .i64 0) 1 8 Try.underlying22 hi hz0 hz1 hz2 rfl (by decide) _ _ _ rfl (hown.alloc _) ⟨wr.heap.size, 0, none⟩ 1 1 [.int .i64 (bs.length : Int)] rfl rfl (cell_one_new _ _ _) (by simp [Value.oneCell']) (by unfold maxLen; omega) (by omega) (by have := hB.size; simp; omega) ?_; intro v' w2 hown' hgrow _; obtain ⟨g', cap'', rfl⟩ := slice_succ hown')
      have hB2 : Below w1.heap.size w1 w2 := (hB.alloc hB.size _).grown hgrow (by have := hB.size; simp; omega) (fun j hj => (hown.lt j hj).1)
      rw [Hzm.out, ← Hzl.out] at hown'
      have hs := refsum_any lab zs _ _ w2 hlab (by rw [Hzl.out]; omega) (rowAt_of_owns hown')
      rw [Hzl.out] at hs
      refine hs.mono ?_
      rintro e w3 ⟨rfl, hB3⟩
      go_wp2
      go_ret
      exact ⟨ret_u64 Hfin.out, hB1.trans ((hB2.trans (hB3.mono hB2.size)).mono hB1.size)⟩
end Go.Proofs.Ytialohbnhiechaa
