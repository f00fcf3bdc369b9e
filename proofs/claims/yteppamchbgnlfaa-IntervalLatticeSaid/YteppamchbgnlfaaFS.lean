/- The blocks of a call that takes two fractions and hands back one. Conditions: none. -/
import Derived.Test.YteppamchbgnlfaaRefS
import Derived.Test.YteppamchbgnlfaaGcd
import Derived.Test.YteppamchbgnlfaaNOver
import Derived.Deep.RegionHeld3
namespace Go.Proofs.Yteppamchbgnlfaa
open Go.RowKit

/-- The two fractions, the result's place. -/
def FS (w W : World) (an ad bn bd : Int) : Prop :=
  Blk W w.heap.size 23 #[.int .i64 an, .int .i64 ad] ∧ Blk W (w.heap.size + 1) 23 #[.int .i64 bn, .int .i64 bd] ∧ Blk W (w.heap.size + 1 + 1) 23 #[.int .i64 0, .int .i64 0] ∧ w.heap.size + 1 + 1 < W.heap.size ∧ Below w.heap.size w W
section
variable {w W W' : World} {an ad bn bd : Int}
theorem FS.start (w : World) (an ad bn bd : Int) : FS w (((w.alloc (.cells #[.int .i64 an, .int .i64 ad] 23)).alloc (.cells #[.int .i64 bn, .int .i64 bd] 23)).alloc (.cells #[.int .i64 0, .int .i64 0] 23)) an ad bn bd := by
  refine ⟨((Blk.new w _ _).alloc _).alloc _, ?_, ?_, by simp, (((Below.refl _ w).alloc (Nat.le_refl _) _).alloc (by simp) _).alloc (by simp; omega) _⟩
  · have := (Blk.new (w.alloc (.cells #[.int .i64 an, .int .i64 ad] 23)) 23 #[.int .i64 bn, .int .i64 bd]).alloc (.cells #[.int .i64 0, .int .i64 0] 23)
    rw [World.size_alloc] at this
    exact this
  · have := Blk.new ((w.alloc (.cells #[.int .i64 an, .int .i64 ad] 23)).alloc (.cells #[.int .i64 bn, .int .i64 bd] 23)) 23 #[.int .i64 0, .int .i64 0]
    rw [World.size_alloc, World.size_alloc] at this
    exact this
theorem FS.call (h : FS w W an ad bn bd) (hb : Below W.heap.size W W') : FS w W' an ad bn bd := by
  obtain ⟨h1, h2, h3, h4, h7⟩ := h
  exact ⟨h1.below hb (by omega), h2.below hb (by omega), h3.below hb (by omega), Nat.lt_of_lt_of_le h4 hb.size, h7.trans (hb.mono h7.size)⟩
theorem FS.alloc (h : FS w W an ad bn bd) (o : Obj) : FS w (W.alloc o) an ad bn bd := by
  obtain ⟨h1, h2, h3, h4, h7⟩ := h
  exact ⟨h1.alloc o, h2.alloc o, h3.alloc o, by simp; omega, h7.alloc (by omega) o⟩
theorem FS.cells (h : FS w W an ad bn bd) : W.cell? ⟨w.heap.size, 0, none⟩ = some (.int .i64 an) ∧ W.cell? ⟨w.heap.size, 1, none⟩ = some (.int .i64 ad) ∧ W.cell? ⟨w.heap.size + 1, 0, none⟩ = some (.int .i64 bn) ∧ W.cell? ⟨w.heap.size + 1, 1, none⟩ = some (.int .i64 bd) ∧
    W.cell? ⟨w.heap.size + 1 + 1, 0, none⟩ = some (.int .i64 0) ∧ W.cell? ⟨w.heap.size + 1 + 1, 1, none⟩ = some (.int .i64 0) ∧ W.frozen? ⟨w.heap.size + 1 + 1, 0, none⟩ = false ∧ W.frozen? ⟨w.heap.size + 1 + 1, 1, none⟩ = false :=
  ⟨h.1.cell 0, h.1.cell 1, h.2.1.cell 0, h.2.1.cell 1, h.2.2.1.cell 0, h.2.2.1.cell 1, h.2.2.1.frozen 0, h.2.2.1.frozen 1⟩
/-- The result is laid into its place. -/
theorem FS.put (h : FS w W an ad bn bd) (n d : Int) : Blk ((W.setCell ⟨w.heap.size + 1 + 1, 0, none⟩ (.int .i64 n)).setCell ⟨w.heap.size + 1 + 1, 1, none⟩ (.int .i64 d)) (w.heap.size + 1 + 1) 23 #[.int .i64 n, .int .i64 d] ∧
    Below w.heap.size w ((W.setCell ⟨w.heap.size + 1 + 1, 0, none⟩ (.int .i64 n)).setCell ⟨w.heap.size + 1 + 1, 1, none⟩ (.int .i64 d)) :=
  ⟨(h.2.2.1.put 0 _).put 1 _, (h.2.2.2.2.setCell (by simp; omega) _).setCell (by simp; omega) _⟩
end
theorem below_step {w0 W W' : World} (h : Below w0.heap.size w0 W) (k : Below W.heap.size W W') : Below w0.heap.size w0 W' := h.trans (k.mono h.size)
section
variable (w0 W : World) (hW : Below w0.heap.size w0 W)
include hW
theorem rsize_from (n : Int) (h0 : -9223372036854775808 ≤ n) (h1 : n ≤ 9223372036854775807) : Calls Try.prog 54 #[.int .i64 n] W fun e w' => e = .returned (.int .u64 (n.natAbs : Nat)) ∧ Below w0.heap.size w0 w' ∧ Below W.heap.size W w' :=
  (rsize_any n W h0 h1).mono fun _ _ ⟨he, hB⟩ => ⟨he, hB ▸ hW, hB ▸ Below.refl _ _⟩
theorem nfrom_from (n : Nat) (hn : n < 18446744073709551616) : Calls Try.prog 53 #[.int .u64 n] W fun e w' => e = .returned (NV n) ∧ Below w0.heap.size w0 w' ∧ Below W.heap.size W w' :=
  (nfrom_any n W hn).mono fun _ _ ⟨he, hB⟩ => ⟨he, below_step hW hB, hB⟩
theorem ntimes_from (a b : Nat) (ha : a < W8) (hb : b < W8) (hs : a * b < W8) : Calls Try.prog 52 #[NV a, NV b] W fun e w' => e = .returned (NV (a * b)) ∧ Below w0.heap.size w0 w' ∧ Below W.heap.size W w' :=
  (ntimes_any a b W ha hb hs).mono fun _ _ ⟨he, hB⟩ => ⟨he, below_step hW hB, hB⟩
theorem nless_from (a b : Nat) (ha : a < W8) (hb : b < W8) : Calls Try.prog 51 #[NV a, NV b] W fun e w' => e = .returned (.int .i64 (cmpN a b)) ∧ Below w0.heap.size w0 w' ∧ Below W.heap.size W w' :=
  (nless_any a b W ha hb).mono fun _ _ ⟨he, hB⟩ => ⟨he, below_step hW hB, hB⟩
end
end Go.Proofs.Yteppamchbgnlfaa
