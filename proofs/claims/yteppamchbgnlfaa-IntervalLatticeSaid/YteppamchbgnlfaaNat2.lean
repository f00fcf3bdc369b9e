/- The reference's numbers below 2^256: from a word, product, comparison, half. Conditions: the product is below 2^256. -/
import Derived.Test.YteppamchbgnlfaaNat
import Derived.Test.YteppamchbgnlfaaNMath2
namespace Go.Proofs.Yteppamchbgnlfaa
open Go.RowKit

set_option maxRecDepth 100000 in
theorem nfrom_any (n : Nat) (w : World) (hn : n < 18446744073709551616) :
    Calls Try.prog 53 #[.int .u64 n] w fun e w' => e = .returned (NV n) ∧ Below w.heap.size w w' := by
  have Hn := Lib.hid (lim_small n hn)
  go_enter Try.func53, Try.ntmps53
  go_wp2
  refine ret_nat (p := 2) (g := w.heap.size) (by kernel_rfl) rfl ?_ ⟨rfl, ((Below.refl _ w).alloc (Nat.le_refl _) _).alloc (by simp) _⟩
  rw [Hn.out]
  exact (Blk.new w _ _).alloc _

set_option maxRecDepth 100000 in
set_option maxHeartbeats 1000000 in
theorem nless_any (a b : Nat) (w : World) (ha : a < W8) (hb : b < W8) :
    Calls Try.prog 51 #[NV a, NV b] w fun e w' => e = .returned (.int .i64 (cmpN a b)) ∧ Below w.heap.size w w' := by
  have Ha := Lib.hid ha
  have Hb := Lib.hid hb
  clear ha hb
  unfold NV
  go_enter Try.func51, Try.ntmps51
  go_wp2
  go_loopw [5] (fun i wr => ∃ (k : Nat), k ≤ 8 ∧ i = .int .i64 ((k : Int) - 1) ∧ (limbs a).drop k = (limbs b).drop k ∧ NB wr w.heap.size (limbs a) ∧ NB wr (w.heap.size + 1) (limbs b) ∧ Below w.heap.size w wr) (fun i _ => (intOf i + 1).toNat)
  case atStart =>
    refine ⟨8, by omega, rfl, rfl, ?_, ?_, ?_⟩
    · exact (NB.new w a).alloc _
    · have := NB.new (w.alloc (.cells (nats (limbs a)).toArray 66)) b
      rw [World.size_alloc] at this
      exact this
    · exact ((Below.refl _ w).alloc (Nat.le_refl _) _).alloc (by simp) _
  case round =>
    obtain ⟨k, hk, rfl, hI, hA, hB, hBel⟩ := hrel
    rcases k with _ | k
    · have e : a = b := limbs_inj Ha.out Hb.out (by simpa using hI)
      have HE := Lib.hid e
      clear e hI
      go_wp2
      go_ret
      exact ⟨ret_int (by rw [HE.out, cmpN_eq]), hBel⟩
    · rw [show ((k + 1 : Nat) : Int) - 1 = (k : Int) by omega]
      obtain ⟨x, hx, hx1⟩ := (limbs_digs a).at_ (show k < 8 by omega)
      obtain ⟨y, hy, hy1⟩ := (limbs_digs b).at_ (show k < 8 by omega)
      have hca := hA.cell k hx
      have hcb := hB.cell k hy
      have HI := Lib.hid hI
      have Hx := Lib.hid hx
      have Hy := Lib.hid hy
      clear hI hx hy
      rcases Nat.lt_trichotomy x y with h | h | h
      · have hv := val_cmp (limbs_digs a) (limbs_digs b) (by omega) HI.out Hx.out Hy.out h
        rw [val_limbs a Ha.out, val_limbs b Hb.out] at hv
        go_wp2
        go_quiet (fail)
        go_wp2
        go_ret
        exact ⟨ret_int (cmpN_lt hv).symm, below_draw hBel _⟩
      · obtain rfl := h
        go_wp2
        go_quiet (fail)
        go_wp2
        go_quiet (fail)
        go_wp2
        go_roundw
        case rel =>
          refine ⟨k, by omega, rfl, ?_, hA, hB, below_draw hBel _⟩
          rw [List.drop_eq_getElem?_toList_append, List.drop_eq_getElem?_toList_append (i := k) (l := limbs b), Hx.out, Hy.out, HI.out]
        case measure => simp [intOf]
      · have hv := val_cmp (limbs_digs b) (limbs_digs a) (by omega) HI.out.symm Hy.out Hx.out h
        rw [val_limbs a Ha.out, val_limbs b Hb.out] at hv
        go_wp2
        go_quiet (fail)
        go_wp2
        go_quiet (fail)
        go_wp2
        go_ret
        exact ⟨ret_int (cmpN_gt hv).symm, below_draw (below_draw hBel _) _⟩

set_option maxRecDepth 100000 in
set_option maxHeartbeats 2000000 in
theorem ntimes_any (a b : Nat) (w : World) (ha : a < W8) (hb : b < W8) (hs : a * b < W8) :
    Calls Try.prog 52 #[NV a, NV b] w fun e w' => e = .returned (NV (a * b)) ∧ Below w.heap.size w w' := by
  have Ha := Lib.hid ha
  have Hb := Lib.hid hb
  have Hs := Lib.hid hs
  clear ha hb hs
  unfold NV
  go_enter Try.func52, Try.ntmps52
  go_wp2
  go_loopw [6] (fun i wr => ∃ (k : Nat) (l : List Nat), k ≤ 8 ∧ i = .int .i64 k ∧ MulO (limbs a) (limbs b) l k ∧ NB wr w.heap.size (limbs a) ∧ NB wr (w.heap.size + 1) (limbs b) ∧ NB wr (w.heap.size + 1 + 1) (limbs 0) ∧ NB wr (w.heap.size + 1 + 1 + 1) l ∧ Below w.heap.size w wr) (fun i _ => 8 - (intOf i).toNat)
  case atStart =>
    refine ⟨0, limbs 0, by omega, rfl, mulO_zero, ?_, ?_, ?_, ?_, ?_⟩
    · exact (((NB.new w a).alloc _).alloc _).alloc _
    · have := ((NB.new (w.alloc (.cells (nats (limbs a)).toArray 66)) b).alloc (.cells (nats (limbs 0)).toArray 66)).alloc (.cells (nats (limbs 0)).toArray 66)
      rw [World.size_alloc] at this
      exact this
    · have := (NB.new ((w.alloc (.cells (nats (limbs a)).toArray 66)).alloc (.cells (nats (limbs b)).toArray 66)) 0).alloc (.cells (nats (limbs 0)).toArray 66)
      rw [World.size_alloc, World.size_alloc] at this
      exact this
    · have := NB.new (((w.alloc (.cells (nats (limbs a)).toArray 66)).alloc (.cells (nats (limbs b)).toArray 66)).alloc (.cells (nats (limbs 0)).toArray 66)) 0
      rw [World.size_alloc, World.size_alloc, World.size_alloc] at this
      exact this
    · exact ((((Below.refl _ w).alloc (Nat.le_refl _) _).alloc (by simp) _).alloc (by simp <;> omega) _).alloc (by simp <;> omega) _
  case round =>
    obtain ⟨i, o, hi, rfl, hO, hA, hB, hR, hL, hBel⟩ := hrel
    by_cases hlt : i < 8
    · obtain ⟨d, hd, hd1⟩ := (limbs_digs a).at_ hlt
      have hca := hA.cell i hd
      have Hd := Lib.hid hd
      clear hd
      obtain ⟨wo, rfl⟩ : ∃ wo : World, wo = wr := ⟨_, rfl⟩
      go_wp2
      go_loopw [7, 8] (fun c j wr => ∃ (k cc : Nat) (l : List Nat), i + k ≤ 8 ∧ j = .int .i64 k ∧ c = .int .u64 cc ∧ MulI (limbs b) o l i d k cc ∧ NB wr w.heap.size (limbs a) ∧ NB wr (w.heap.size + 1) (limbs b) ∧ NB wr (w.heap.size + 1 + 1) (limbs 0) ∧ NB wr (w.heap.size + 1 + 1 + 1) l ∧ Below w.heap.size w wr) (fun _ j _ => 8 - (intOf j).toNat)
      case atStart => exact ⟨0, 0, o, by omega, rfl, rfl, mulI_zero hO.1 i d, hA, hB, hR, hL, hBel⟩
      case round =>
        obtain ⟨k, cc, l, hk, rfl, rfl, hI, hA, hB, hR, hL, hBel⟩ := hrel
        by_cases hlk : i + k < 8
        · obtain ⟨x, hx, hx1⟩ := hI.1.at_ hlk
          obtain ⟨y, hy, hy1⟩ := (limbs_digs b).at_ (show k < 8 by omega)
          have hca2 := hA.cell i Hd.out
          have hcb := hB.cell k hy
          have hcl := hL.cell (i + k) hx
          have hfl := hL.frozen (i + k)
          have Hx := Lib.hid hx
          have Hy := Lib.hid hy
          have HL := Lib.hid hL
          have hc := hI.2.2.2
          obtain ⟨hb1, hb2⟩ := mulI_bound hc hx1 hd1 hy1
          have hI2 := mulI_step hO.1 (limbs_digs b) hlk hd1 hI Hx.out Hy.out rfl
          have HI := Lib.hid hI2
          obtain ⟨p, hp⟩ : ∃ p, p = d * y := ⟨_, rfl⟩
          have hpm : (d : Int) * (y : Int) = (p : Int) := by rw [hp]; exact (Int.natCast_mul d y).symm
          rw [← hp] at hb1 hb2
          have HP := Lib.hid hp
          clear hx hy hL hI hI2 hca hp
          go_wp2
          go_quiet (fail)
          go_wp2
          rw [show ((cc : Int) + x + p) % 4294967296 = (((cc + x + p) % 4294967296 : Nat) : Int) by omega]
          go_roundw
          case rel =>
            have hI2 := HI.out
            rw [← HP.out] at hI2
            exact ⟨k + 1, (cc + x + p) / 4294967296, _, by omega, by go_num, by go_num, hI2, (hA.drewN nq).far (by simp <;> omega) _, (hB.drewN nq).far (by simp <;> omega) _, (hR.drewN nq).far (by simp <;> omega) _, (HL.out.drewN nq).put (i + k) _, (below_draw hBel nq).setCell (by simp <;> omega) _⟩
          case measure => simp [intOf]; omega
        · obtain rfl : k = 8 - i := by omega
          have HI := Lib.hid hI
          clear hI
          go_wp2
          go_roundw
          case rel => exact ⟨i + 1, l, by omega, by go_num, mulO_step (limbs_digs a) (limbs_digs b) hlt Hd.out hO HI.out, hA, hB, hR, hL, hBel⟩
          case measure => simp [intOf]; omega
    · obtain rfl : i = 8 := by omega
      obtain rfl := mulO_end (limbs_digs a) hO (by rw [val_limbs a Ha.out, val_limbs b Hb.out]; exact Hs.out)
      rw [val_limbs a Ha.out, val_limbs b Hb.out] at hL
      obtain ⟨a0, a1, a2, a3, a4, a5, a6, a7⟩ := hL.cells
      obtain ⟨r0, r1, r2, r3, r4, r5, r6, r7⟩ := hR.cells
      have hf := hR.frozen
      have HR := Lib.hid hR
      clear hA hB hR hL hO
      go_wp2
      exact ret_nat (p := 4) (by kernel_rfl) rfl (HR.out.store8 (a * b)) ⟨rfl, below_set8 hBel (by omega) _⟩
end Go.Proofs.Yteppamchbgnlfaa
