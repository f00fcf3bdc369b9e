/- Contracts of the reference model of package hash: its words. Conditions: slices within the reach. -/
import Derived.Test.YtialohbnhiechaaSum
import Derived.Maps.AppendAt
namespace Go.Proofs.Ytialohbnhiechaa
open Go.RowKit

theorem Try.infoU64 : (Try.prog.info? 25).map (fun i => (i.zero, i.size, i.bytes)) = some (some (.int .u64 0), 1, 8) := by kernel_rfl
theorem Try.infoInt : (Try.prog.info? 3).map (fun i => (i.zero, i.size, i.bytes)) = some (some (.int .i64 0), 1, 8) := by kernel_rfl
theorem Try.infoU8 : (Try.prog.info? 5).map (fun i => (i.zero, i.size, i.bytes)) = some (some (.int .u8 0), 1, 1) := by kernel_rfl

/-- The bytes of word number i. -/
def part (bs : List UInt8) (i : Nat) : List UInt8 := (bs.drop (8 * i)).take 8
theorem part_length (bs : List UInt8) (i : Nat) : (part bs i).length = min 8 (bs.length - 8 * i) := by simp [part]
theorem part_get (bs : List UInt8) (i j : Nat) (h : j < (part bs i).length) : bs[8 * i + j]?.getD 0 = (part bs i)[j] := by
  have h' := h
  rw [part_length] at h'
  have : (part bs i)[j]? = bs[8 * i + j]? := by
    unfold part
    rw [List.getElem?_take, if_pos (by omega), List.getElem?_drop]
  rw [← this, List.getElem?_eq_getElem h]; rfl
theorem leN_cons (b : UInt8) (r : List UInt8) : leN (b :: r) = b.toNat + 256 * leN r := rfl
theorem part_step (bs : List UInt8) (i j : Nat) (h : j < (part bs i).length) : (leN ((part bs i).drop j) : Int) = 256 * (leN ((part bs i).drop (j + 1)) : Int) + (((part bs i)[j]).toNat : Int) := by
  rw [List.drop_eq_getElem_cons h]
  rw [leN_cons]
  omega
theorem part_bound (bs : List UInt8) (i j : Nat) : (leN ((part bs i).drop (j + 1)) : Int) ≤ 72057594037927935 := by
  have h1 := leN_lt ((part bs i).drop (j + 1))
  have h2 : ((part bs i).drop (j + 1)).length ≤ 7 := by rw [List.length_drop, part_length]; omega
  have h3 : 256 ^ ((part bs i).drop (j + 1)).length ≤ 256 ^ 7 := Nat.pow_le_pow_right (by decide) h2
  have h4 : 256 ^ 7 = 72057594037927936 := by decide
  omega

set_option maxRecDepth 100000 in
set_option maxHeartbeats 1000000 in
theorem refwords_any (b off cap : Nat) (bs : List UInt8) (w : World) (hreach : bs.length ≤ 140737488351232) (hb : b < w.heap.size) (hc : ∀ j, j < bs.length → w.cell? ⟨b, off + j, none⟩ = some (.int .u8 ((bs[j]?.getD 0).toNat : Int))) :
    Calls Try.prog 23 #[.slice (some ⟨b, off, none⟩) bs.length cap] w fun e w' =>
      ∃ v, e = .returned v ∧ w'.ownsRow w.heap.size 25 1 v (nWords bs.length) ((wordsL bs).map (Value.int .u64)) ∧ Below w.heap.size w w' := by
  obtain ⟨i0, hi, hz0, hz1, hz2⟩ := info_parts Try.infoU64
  go_enter Try.func23, Try.ntmps23
  go_wp2
  go_loopw [3, 4] (fun v i wr => ∃ k : Nat, k ≤ nWords bs.length ∧ i = .int .i64 (8 * k : Nat) ∧ wr.ownsRow w.heap.size 25 1 v k ((upto bs k).map (Value.int .u64)) ∧ Below w.heap.size w wr) (fun _ i _ => bs.length + 8 - (intOf i).toNat)
  case atStart => exact ⟨0, Nat.zero_le _, rfl, World.ownsRow_nil _ _ _ _, Below.refl _ _⟩
  case round =>
    obtain ⟨k, hk, rfl, hown, hB⟩ := hrel
    by_cases hlt : 8 * k < bs.length
    · have hpl := part_length bs k
      by_cases h8 : 8 * k + 8 ≤ bs.length
      all_goals
        obtain ⟨wo, rfl⟩ : ∃ wo : World, wo = wr := ⟨_, rfl⟩
        go_wp2
        go_loop [5, 6] (fun x i => ∃ j : Nat, j ≤ (part bs k).length ∧ i = .int .i64 (((8 * k + j : Nat) : Int) - 1) ∧ x = .int .u64 (leN ((part bs k).drop j) : Int)) (fun _ i => (intOf i - 8 * k + 1).toNat)
        case atStart => exact ⟨(part bs k).length, Nat.le_refl _, by congr 1; omega, by rw [List.drop_length]; rfl⟩
        case round =>
          obtain ⟨j, hj, rfl, rfl⟩ := hrel
          cases j with
          | zero =>
            go_wp2_with (at_builtin; refine wpList_append_own _ rfl _ _ 40 rfl w.heap.size 25 i0 (.int .u64 0) 1 8 Try.underlying40 hi hz0 hz1 hz2 rfl (by decide) _ _ _ rfl (hown.alloc _) ⟨wo.heap.size, 0, none⟩ 1 1 [.int .u64 (leN (part bs k) : Int)] rfl rfl (cell_one_new _ _ _) (by simp [Value.oneCell']) (by unfold maxLen; omega) (by omega) (by have := hB.size; simp; omega) ?_; intro v' w1 hown' hgrow _)
            go_roundw
            case rel => exact ⟨k + 1, by unfold nWords; omega, by go_num, by rw [upto_succ, List.map_append]; exact hown', (hB.alloc hB.size _).grown hgrow (by have := hB.size; simp; omega) (fun j hj => (hown.lt j hj).1)⟩
            case measure => simp [intOf]; omega
          | succ j =>
            have e : ((8 * k + (j + 1) : Nat) : Int) - 1 = ((8 * k + j : Nat) : Int) := by omega
            rw [e]
            have hcx := (hB.cell (p := ⟨b, off + (8 * k + j), none⟩) hb).trans (hc (8 * k + j) (by omega))
            rw [part_get bs k j (by omega)] at hcx
            have hb1 := part_bound bs k j
            have hb2 : (0 : Int) ≤ (leN ((part bs k).drop (j + 1)) : Int) := by omega
            have hb3 : (((part bs k)[j]).toNat : Int) ≤ 255 := by have := ((part bs k)[j]).toNat_lt; omega
            go_wp2
            go_round
            case rel => exact ⟨j, by omega, by congr 1, by rw [part_step bs k j (by omega)]⟩
            case measure => simp [intOf]; omega
    · obtain rfl : k = nWords bs.length := by unfold nWords at hk ⊢; omega
      go_wp2
      go_ret
      exact ⟨_, rfl, hown, hB⟩

set_option maxRecDepth 100000 in
set_option maxHeartbeats 1000000 in
theorem refwords_nil (w : World) : Calls Try.prog 23 #[.slice none 0 0] w fun e w' => e = .returned (.slice none 0 0) ∧ w = w' := by
  go_enter Try.func23, Try.ntmps23
  go_wp2
  go_loop [3, 4] (fun v i => v = .slice none 0 0 ∧ i = .int .i64 0) (fun _ _ => 0)
  case atStart => exact ⟨rfl, rfl⟩
  case round =>
    obtain ⟨rfl, rfl⟩ := hrel
    go_wp2
    go_ret
    exact ⟨rfl, rfl⟩

/-- Words of any byte slice: a row of the call's own, or nil. -/
theorem refwords (a : Option Addr) (cap : Nat) (bs : List UInt8) (w : World) (hreach : bs.length ≤ 140737488351232) (hI : BytesAt w.heap.size w (.slice a bs.length cap) bs) :
    Calls Try.prog 23 #[.slice a bs.length cap] w fun e w' =>
      ∃ a' cap', e = .returned (.slice a' (wordsL bs).length cap') ∧ RowAt .u64 w'.heap.size w' (.slice a' (wordsL bs).length cap') (wordsL bs) ∧ Below w.heap.size w w' := by
  rcases hI with ⟨e, rfl⟩ | ⟨b, off, c', e, hl, hbb, hcs⟩
  · obtain ⟨rfl, _, rfl⟩ : a = none ∧ 0 = 0 ∧ cap = 0 := by simpa using e
    exact (refwords_nil w).mono fun e w' ⟨he, hw⟩ => by subst hw; exact ⟨none, 0, he, .inl ⟨rfl, rfl⟩, Below.refl _ _⟩
  · obtain ⟨rfl, -, rfl⟩ : a = some ⟨b, off, none⟩ ∧ bs.length = bs.length ∧ cap = c' := by simpa using e
    refine (refwords_any b off cap bs w hreach hbb hcs).mono fun e w' ⟨v, he, hown, hB⟩ => ?_
    have hr := rowAt_of_owns hown
    obtain ⟨a', cap', rfl⟩ := hr.slice
    exact ⟨a', cap', he, hr, hB⟩

set_option maxRecDepth 100000 in
set_option maxHeartbeats 2000000 in
theorem refsum_any (lab : ByteArray) (zs : List Int) (a : Option Addr) (cap : Nat) (w : World) (hlab : lab.size ≤ 140737488351232) (hzs : zs.length ≤ 140737488351232) (hI : RowAt .i64 w.heap.size w (.slice a zs.length cap) zs) :
    Calls Try.prog 14 #[.string lab, .slice a zs.length cap] w fun e w' => e = .returned (.int .u64 (sumI lab.data.toList zs)) ∧ Below w.heap.size w w' := by
  obtain ⟨lc, C, hlc, hC, hcv⟩ := conv_bytes w lab
  go_enter Try.func14, Try.ntmps14
  go_wp2_with fail
  have hBA : BytesAt (w.alloc (.cells C 5 (C.size, C.size + 1))).drew.heap.size (w.alloc (.cells C 5 (C.size, C.size + 1))).drew (.slice (some ⟨w.heap.size, 0, none⟩) lab.data.toList.length lc) lab.data.toList :=
    .inr ⟨_, _, _, rfl, hlc, by simp, fun j hj => by rw [Nat.zero_add]; exact (World.cell?_alloc_mark w C _ _ j).trans (hC j hj)⟩
  refine (refwords (some ⟨w.heap.size, 0, none⟩) lc lab.data.toList _ hlab hBA).mono ?_
  rintro e w1 ⟨a', cap', rfl, hrow, hB1⟩
  have hB2 : Below w.heap.size w w1 := ((Below.refl _ w).alloc (Nat.le_refl _) _).drew.trans (hB1.mono (by simp))
  clear hcv hBA hC hlc hB1
  have hwl : (wordsL lab.data.toList).length ≤ 140737488351232 := wordsL_le _ hlab
  obtain ⟨ws, hws⟩ : ∃ ws, wordsL lab.data.toList = ws := ⟨_, rfl⟩
  have hfin : mixI (mixInts zs (mixI (mixI (mixAll ws 0) (lab.size : Int)) (zs.length : Int))) 0 = sumI lab.data.toList zs := by rw [← hws]; rfl
  have Hfin := Lib.hid hfin
  rw [hws] at hrow hwl
  rw [hws]
  clear hfin hws
  go_wp2_with fail
  go_loop [5, 7] (fun s i => ∃ k : Nat, k ≤ ws.length ∧ i = .int .i64 k ∧ s = .int .u64 (mixAll (ws.take k) 0)) (fun _ i => ws.length - (intOf i).toNat)
  case atStart => exact ⟨0, Nat.zero_le _, rfl, rfl⟩
  case round =>
    obtain ⟨k, hk, rfl, rfl⟩ := hrel
    by_cases hlt : k < ws.length
    · obtain ⟨b, off, rfl, hbb, hcx⟩ := hrow.get hlt
      go_wp2_with (go_at_call 27; refine (refmix_any _ _ _).mono ?_; rintro e w' ⟨rfl, rfl⟩)
      go_round
      case rel => exact ⟨k + 1, by omega, by go_num, by rw [List.take_succ_eq_append_getElem hlt, mixAll_snoc]⟩
      case measure => simp [intOf]; omega
    · obtain rfl : k = ws.length := by omega
      go_wp2_with (go_at_call 27; refine (refmix_any _ _ _).mono ?_; rintro e w' ⟨rfl, rfl⟩)
      go_loop [5, 8] (fun s i => ∃ k : Nat, k ≤ zs.length ∧ i = .int .i64 k ∧ s = .int .u64 (mixInts (zs.take k) (mixI (mixI (mixAll ws 0) (lab.size : Int)) (zs.length : Int)))) (fun _ i => zs.length - (intOf i).toNat)
      case atStart => exact ⟨0, Nat.zero_le _, rfl, rfl⟩
      case round =>
        obtain ⟨k, hk, rfl, rfl⟩ := hrel
        by_cases hlt : k < zs.length
        · obtain ⟨b, off, rfl, hbb, hcx0⟩ := hI.get hlt
          have hcx := (hB2.cell (p := ⟨b, off + k, none⟩) hbb).trans hcx0
          clear hcx0
          go_wp2_with (go_at_call 27; refine (refmix_any _ _ _).mono ?_; rintro e w' ⟨rfl, rfl⟩)
          go_round
          case rel => exact ⟨k + 1, by omega, by go_num, by rw [List.take_succ_eq_append_getElem hlt, mixInts_snoc]⟩
          case measure => simp [intOf]; omega
        · obtain rfl : k = zs.length := by omega
          go_wp2_with (go_at_call 27; refine (refmix_any _ _ _).mono ?_; rintro e w' ⟨rfl, rfl⟩)
          go_ret
          exact ⟨ret_u64 Hfin.out, hB2⟩
end Go.Proofs.Ytialohbnhiechaa
