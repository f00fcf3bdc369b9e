/- Natural numbers below 2^256 in memory, as the reference keeps them; its sum and difference. Conditions: the sum is below 2^256, the difference is not below 0. -/
import Derived.Test.YteppamchbgnlfaaMem
import Derived.Test.YteppamchbgnlfaaNMath
namespace Go.Proofs.Yteppamchbgnlfaa
open Go.RowKit

/-- A number as a value of the reference's type Nat. -/
def NV (n : Nat) : Value := .agg #[.int .u64 (lim n 0 : Nat), .int .u64 (lim n 1 : Nat), .int .u64 (lim n 2 : Nat), .int .u64 (lim n 3 : Nat), .int .u64 (lim n 4 : Nat), .int .u64 (lim n 5 : Nat), .int .u64 (lim n 6 : Nat), .int .u64 (lim n 7 : Nat)]
def nats (l : List Nat) : List Value := l.map fun n : Nat => Value.int .u64 (n : Int)
/-- Block g holds the digits l. -/
def NB (w : World) (g : Nat) (l : List Nat) : Prop := Blk w g 66 (nats l).toArray
theorem nv_limbs (n : Nat) : NV n = .agg (nats (limbs n)).toArray := rfl

section
variable {w w' : World} {g : Nat} {l : List Nat}
theorem NB.cell (h : NB w g l) (k : Nat) {x : Nat} (hx : l[k]? = some x) : w.cell? ⟨g, k, none⟩ = some (.int .u64 ((x : Nat) : Int)) := by
  rw [Blk.cell h]
  simp [nats, hx]
theorem NB.frozen (h : NB w g l) (k : Nat) : w.frozen? ⟨g, k, none⟩ = false := Blk.frozen h k
theorem NB.new (w : World) (n : Nat) : NB (w.alloc (.cells #[.int .u64 (lim n 0 : Nat), .int .u64 (lim n 1 : Nat), .int .u64 (lim n 2 : Nat), .int .u64 (lim n 3 : Nat), .int .u64 (lim n 4 : Nat), .int .u64 (lim n 5 : Nat), .int .u64 (lim n 6 : Nat), .int .u64 (lim n 7 : Nat)] 66)) w.heap.size (limbs n) := Blk.new w _ _
theorem NB.drewN (h : NB w g l) (n : Nat) : NB (w.drewN n) g l := h
theorem NB.alloc (h : NB w g l) (o : Obj) : NB (w.alloc o) g l := Blk.alloc h o
theorem NB.far (h : NB w g l) {p : Addr} (hp : g ≠ p.block) (u : Value) : NB (w.setCell p u) g l := Blk.far h hp u
theorem NB.below {B : Nat} (h : NB w g l) (hb : Below B w w') (hg : g < B) : NB w' g l := Blk.below h hb hg
theorem NB.put (h : NB w g l) (i x : Nat) : NB (w.setCell ⟨g, i, none⟩ (.int .u64 ((x : Nat) : Int))) g (l.set i x) := by
  have := Blk.put h i (.int .u64 ((x : Nat) : Int))
  unfold NB
  rw [nats, List.map_set]
  simpa [nats] using this
theorem NB.cells {n : Nat} (h : NB w g (limbs n)) : w.cell? ⟨g, 0, none⟩ = some (.int .u64 (lim n 0 : Nat)) ∧ w.cell? ⟨g, 1, none⟩ = some (.int .u64 (lim n 1 : Nat)) ∧ w.cell? ⟨g, 2, none⟩ = some (.int .u64 (lim n 2 : Nat)) ∧ w.cell? ⟨g, 3, none⟩ = some (.int .u64 (lim n 3 : Nat)) ∧
    w.cell? ⟨g, 4, none⟩ = some (.int .u64 (lim n 4 : Nat)) ∧ w.cell? ⟨g, 5, none⟩ = some (.int .u64 (lim n 5 : Nat)) ∧ w.cell? ⟨g, 6, none⟩ = some (.int .u64 (lim n 6 : Nat)) ∧ w.cell? ⟨g, 7, none⟩ = some (.int .u64 (lim n 7 : Nat)) :=
  ⟨h.cell 0 rfl, h.cell 1 rfl, h.cell 2 rfl, h.cell 3 rfl, h.cell 4 rfl, h.cell 5 rfl, h.cell 6 rfl, h.cell 7 rfl⟩
end

/-- The world behind a store of a whole number. -/
def set8 (w : World) (g n : Nat) : World :=
  (((((((w.setCell ⟨g, 0, none⟩ (.int .u64 (lim n 0 : Nat))).setCell ⟨g, 1, none⟩ (.int .u64 (lim n 1 : Nat))).setCell ⟨g, 2, none⟩ (.int .u64 (lim n 2 : Nat))).setCell ⟨g, 3, none⟩ (.int .u64 (lim n 3 : Nat))).setCell ⟨g, 4, none⟩ (.int .u64 (lim n 4 : Nat))).setCell
    ⟨g, 5, none⟩ (.int .u64 (lim n 5 : Nat))).setCell ⟨g, 6, none⟩ (.int .u64 (lim n 6 : Nat))).setCell ⟨g, 7, none⟩ (.int .u64 (lim n 7 : Nat))
section
variable {w w' : World} {g : Nat} {l : List Nat}
theorem NB.store8 {m : Nat} (h : NB w g (limbs m)) (n : Nat) : NB (set8 w g n) g (limbs n) := (((((((h.put 0 _).put 1 _).put 2 _).put 3 _).put 4 _).put 5 _).put 6 _).put 7 _
theorem Blk.far8 {t : TypeId} {cs : Array Value} {k : Nat} (h : Blk w k t cs) (hk : k ≠ g) (n : Nat) : Blk (set8 w g n) k t cs :=
  (((((((h.far (p := ⟨g, 0, none⟩) hk _).far (p := ⟨g, 1, none⟩) hk _).far (p := ⟨g, 2, none⟩) hk _).far (p := ⟨g, 3, none⟩) hk _).far (p := ⟨g, 4, none⟩) hk _).far (p := ⟨g, 5, none⟩) hk _).far (p := ⟨g, 6, none⟩) hk _).far (p := ⟨g, 7, none⟩) hk _
theorem NB.far8 {k : Nat} (h : NB w k l) (hk : k ≠ g) (n : Nat) : NB (set8 w g n) k l := Blk.far8 h hk n
theorem below_set8 {B : Nat} (h : Below B w w') (hB : B ≤ g) (n : Nat) : Below B w (set8 w' g n) :=
  (((((((h.setCell (p := ⟨g, 0, none⟩) hB _).setCell (p := ⟨g, 1, none⟩) hB _).setCell (p := ⟨g, 2, none⟩) hB _).setCell (p := ⟨g, 3, none⟩) hB _).setCell (p := ⟨g, 4, none⟩) hB _).setCell (p := ⟨g, 5, none⟩) hB _).setCell (p := ⟨g, 6, none⟩) hB _).setCell (p := ⟨g, 7, none⟩) hB _
/-- A call that hands back a number out of its result's block. -/
theorem ret_nat {fn : Func} {p : Tmp} (hr : fn.results = #[.cell p 66]) {tmps : Array Value} {n : Nat} {R : Ending → World → Prop}
    (hp : tmps.getD p undef = .pointer (some ⟨g, 0, none⟩)) (h : NB w g (limbs n)) (hR : R (.returned (NV n)) w) : bodyPost Try.prog fn R .ret { tmps := tmps, defers := [] } w :=
  bodyPost_ret (v := NV n) (results_cell_row hr tmps w g 66 _ (0, 0) _ hp h Try.underlying66 rfl (by kernel_rfl)) rfl hR
end

/-- What a loop's round keeps: the blocks below, and that no block goes. -/
theorem below_put {B : Nat} {w w' : World} (h : Below B w w') {p : Addr} (hp : B ≤ p.block) (u : Value) : Below B w (w'.setCell p u) := h.setCell hp u

set_option maxRecDepth 100000 in
set_option maxHeartbeats 1000000 in
theorem nplus_any (a b : Nat) (w : World) (ha : a < W8) (hb : b < W8) (hs : a + b < W8) :
    Calls Try.prog 67 #[NV a, NV b] w fun e w' => e = .returned (NV (a + b)) ∧ Below w.heap.size w w' := by
  have Ha := Lib.hid ha
  have Hb := Lib.hid hb
  have Hs := Lib.hid hs
  clear ha hb hs
  unfold NV
  go_enter Try.func67, Try.ntmps67
  go_wp2
  go_loopw [5, 6] (fun c i wr => ∃ (k cc : Nat) (l : List Nat), k ≤ 8 ∧ cc ≤ 1 ∧ i = .int .i64 k ∧ c = .int .u64 cc ∧ AddI (limbs a) (limbs b) l k cc ∧ NB wr w.heap.size l ∧ NB wr (w.heap.size + 1) (limbs b) ∧ NB wr (w.heap.size + 1 + 1) (limbs 0) ∧ Below w.heap.size w wr) (fun _ i _ => 8 - (intOf i).toNat)
  case atStart =>
    refine ⟨0, 0, limbs a, by omega, by omega, rfl, rfl, addI_zero (limbs_digs a), ?_, ?_, ?_, ?_⟩
    · exact ((NB.new w a).alloc _).alloc _
    · have := (NB.new (w.alloc (.cells (nats (limbs a)).toArray 66)) b).alloc (.cells (nats (limbs 0)).toArray 66)
      rw [World.size_alloc] at this
      exact this
    · have := NB.new ((w.alloc (.cells (nats (limbs a)).toArray 66)).alloc (.cells (nats (limbs b)).toArray 66)) 0
      rw [World.size_alloc, World.size_alloc] at this
      exact this
    · exact (((Below.refl _ w).alloc (Nat.le_refl _) _).alloc (by simp) _).alloc (by simp; omega) _
  case round =>
    obtain ⟨k, cc, l, hk, hc, rfl, rfl, hI, hA, hB, hR, hBel⟩ := hrel
    by_cases hlt : k < 8
    · obtain ⟨x, hx, hx1⟩ := hI.1.at_ hlt
      obtain ⟨y, hy, hy1⟩ := (limbs_digs b).at_ hlt
      have hca := hA.cell k hx
      have hcb := hB.cell k hy
      have hfa := hA.frozen k
      have Hx := Lib.hid hx
      have Hy := Lib.hid hy
      have HA := Lib.hid hA
      clear hx hy hA
      go_wp2
      go_quiet (fail)
      go_wp2
      rw [show ((cc : Int) + x + y) % 4294967296 = (((cc + x + y) % 4294967296 : Nat) : Int) by omega]
      go_roundw
      case rel =>
        have hI2 := addI_step (limbs_digs a) (limbs_digs b) hlt hI Hx.out Hy.out rfl
        exact ⟨k + 1, (cc + x + y) / 4294967296, _, by omega, hI2.2.2.2, by go_num, by go_num, hI2, (HA.out.drewN nq).put k _, (hB.drewN nq).far (by simp) _, (hR.drewN nq).far (by simp; omega) _, (below_draw hBel nq).setCell (Nat.le_refl _) _⟩
      case measure => simp [intOf]; omega
    · obtain rfl : k = 8 := by omega
      obtain rfl := addI_end (limbs_digs a) (limbs_digs b) hI (by rw [val_limbs a Ha.out, val_limbs b Hb.out]; exact Hs.out)
      rw [val_limbs a Ha.out, val_limbs b Hb.out] at hA
      obtain ⟨a0, a1, a2, a3, a4, a5, a6, a7⟩ := hA.cells
      obtain ⟨r0, r1, r2, r3, r4, r5, r6, r7⟩ := hR.cells
      have hf := hR.frozen
      have HR := Lib.hid hR
      clear hA hB hR hI
      go_wp2
      exact ret_nat (p := 4) (by kernel_rfl) rfl (HR.out.store8 (a + b)) ⟨rfl, below_set8 hBel (by omega) _⟩

set_option maxRecDepth 100000 in
set_option maxHeartbeats 1000000 in
theorem nminus_any (a b : Nat) (w : World) (ha : a < W8) (hb : b < W8) (hs : b ≤ a) :
    Calls Try.prog 68 #[NV a, NV b] w fun e w' => e = .returned (NV (a - b)) ∧ Below w.heap.size w w' := by
  have Ha := Lib.hid ha
  have Hb := Lib.hid hb
  have Hs := Lib.hid hs
  clear ha hb hs
  unfold NV
  go_enter Try.func68, Try.ntmps68
  go_wp2
  go_loopw [5, 6] (fun c i wr => ∃ (k cc : Nat) (l : List Nat), k ≤ 8 ∧ cc ≤ 1 ∧ i = .int .i64 k ∧ c = .int .u64 cc ∧ SubI (limbs a) (limbs b) l k cc ∧ NB wr w.heap.size l ∧ NB wr (w.heap.size + 1) (limbs b) ∧ NB wr (w.heap.size + 1 + 1) (limbs 0) ∧ Below w.heap.size w wr) (fun _ i _ => 8 - (intOf i).toNat)
  case atStart =>
    refine ⟨0, 0, limbs a, by omega, by omega, rfl, rfl, subI_zero (limbs_digs a), ?_, ?_, ?_, ?_⟩
    · exact ((NB.new w a).alloc _).alloc _
    · have := (NB.new (w.alloc (.cells (nats (limbs a)).toArray 66)) b).alloc (.cells (nats (limbs 0)).toArray 66)
      rw [World.size_alloc] at this
      exact this
    · have := NB.new ((w.alloc (.cells (nats (limbs a)).toArray 66)).alloc (.cells (nats (limbs b)).toArray 66)) 0
      rw [World.size_alloc, World.size_alloc] at this
      exact this
    · exact (((Below.refl _ w).alloc (Nat.le_refl _) _).alloc (by simp) _).alloc (by simp; omega) _
  case round =>
    obtain ⟨k, cc, l, hk, hc, rfl, rfl, hI, hA, hB, hR, hBel⟩ := hrel
    by_cases hlt : k < 8
    · obtain ⟨x, hx, hx1⟩ := hI.1.at_ hlt
      obtain ⟨y, hy, hy1⟩ := (limbs_digs b).at_ hlt
      have hca := hA.cell k hx
      have hcb := hB.cell k hy
      have hfa := hA.frozen k
      have Hx := Lib.hid hx
      have Hy := Lib.hid hy
      have HA := Lib.hid hA
      clear hx hy hA
      go_wp2
      go_quiet (fail)
      go_wp2
      obtain ⟨z, hz⟩ : ∃ z, z = x + 4294967296 - y - cc := ⟨_, rfl⟩
      rw [show (x : Int) + 4294967296 - y - cc = (z : Int) by omega, show (z : Int) % 4294967296 = ((z % 4294967296 : Nat) : Int) by omega]
      go_roundw
      case rel =>
        have hI2 := subI_step (limbs_digs a) (limbs_digs b) hlt hI Hx.out Hy.out hz
        exact ⟨k + 1, 1 - z / 4294967296, _, by omega, hI2.2.2.2, by go_num, by rw [show 1 - (z : Int) / 4294967296 = ((1 - z / 4294967296 : Nat) : Int) by omega], hI2, (HA.out.drewN nq).put k _, (hB.drewN nq).far (by simp) _, (hR.drewN nq).far (by simp; omega) _, (below_draw hBel nq).setCell (Nat.le_refl _) _⟩
      case measure => simp [intOf]; omega
    · obtain rfl : k = 8 := by omega
      obtain rfl := subI_end (limbs_digs a) (limbs_digs b) hI (by rw [val_limbs a Ha.out, val_limbs b Hb.out]; exact Hs.out)
      rw [val_limbs a Ha.out, val_limbs b Hb.out] at hA
      obtain ⟨a0, a1, a2, a3, a4, a5, a6, a7⟩ := hA.cells
      obtain ⟨r0, r1, r2, r3, r4, r5, r6, r7⟩ := hR.cells
      have hf := hR.frozen
      have HR := Lib.hid hR
      clear hA hB hR hI
      go_wp2
      exact ret_nat (p := 4) (by kernel_rfl) rfl (HR.out.store8 (a - b)) ⟨rfl, below_set8 hBel (by omega) _⟩
end Go.Proofs.Yteppamchbgnlfaa
