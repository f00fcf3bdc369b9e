/- FracField's helper op; several fractions in memory at once. Conditions: none. -/
import Derived.Test.YtegodbbocbkomaaDoorField
import Derived.Test.YtegodbbocbkomaaDoorLawCompares
namespace Go.Proofs.YtegodbbocbkomaaDoor
open Go.RowKit

theorem ret_op {fn : Func} {p q : Tmp} (hr : fn.results = #[.cell p 23, .tmp q]) {tmps : Array Value} {w : World} {g : Nat} {n d : Int} {b : Bool} {R : Ending → World → Prop}
    (hp : tmps.getD p undef = .pointer (some ⟨g, 0, none⟩)) (hq : tmps.getD q undef = .bool b) (h : Blk w g 23 #[.int .i64 n, .int .i64 d]) (hR : R (.returned (.tuple #[.agg #[.int .i64 n, .int .i64 d], .bool b])) w) :
    bodyPost Tryd.prog fn R .ret { tmps := tmps, defers := [] } w := by
  refine bodyPost_ret (v := .tuple #[.agg #[.int .i64 n, .int .i64 d], .bool b]) ?_ rfl hR
  have hp' : tmps[p]?.getD undef = .pointer (some ⟨g, 0, none⟩) := by simpa using hp
  have hq' : tmps[q]?.getD undef = .bool b := by simpa using hq
  have hl := run_loadVar_row (P := Tryd.prog) w g 23 23 _ (0, 0) _ h Tryd.underlying23 rfl (by kernel_rfl)
  simp [results, hr, hp', hq', asAddr, hl]

set_option maxRecDepth 100000 in
theorem op_any (n d : Int) (w : World) :
    Calls Tryd.prog 34 #[.agg #[.int .i64 n, .int .i64 d], .int .i64 0] w fun e w' => e = .returned (.tuple #[.agg #[.int .i64 n, .int .i64 d], .bool true]) ∧ Below w.heap.size w w' := by
  have hA := Blk.new w 23 #[.int .i64 n, .int .i64 d]
  have hB : Blk ((w.alloc (.cells #[.int .i64 n, .int .i64 d] 23)).alloc (.cells #[.int .i64 n, .int .i64 d] 23)) (w.heap.size + 1) 23 #[.int .i64 n, .int .i64 d] := by
    have := Blk.new (w.alloc (.cells #[.int .i64 n, .int .i64 d] 23)) 23 #[.int .i64 n, .int .i64 d]
    simpa using this
  have hW : Below w.heap.size w ((w.alloc (.cells #[.int .i64 n, .int .i64 d] 23)).alloc (.cells #[.int .i64 n, .int .i64 d] 23)) := ((Below.refl _ w).alloc (Nat.le_refl _) _).alloc (by simp) _
  have HB := Lib.hid (And.intro hB hW)
  clear hA hB hW
  go_enter Tryd.func34, Tryd.ntmps34
  go_wp2
  exact ret_op (p := 4) (q := 5) (by kernel_rfl) rfl rfl HB.out.1 ⟨rfl, HB.out.2⟩

/-- These fractions lie in these blocks. -/
def Frs (W : World) (l : List (Nat × Int × Int)) : Prop := ∀ x ∈ l, Blk W x.1 23 #[.int .i64 x.2.1, .int .i64 x.2.2]
theorem Frs.below {W W' : World} {l : List (Nat × Int × Int)} (h : Frs W l) (hb : Below W.heap.size W W') : Frs W' l := fun x hx => (h x hx).below hb (h x hx).lt
theorem Frs.new {W : World} {l : List (Nat × Int × Int)} (h : Frs W l) (n d : Int) : Frs (W.alloc (.cells #[.int .i64 n, .int .i64 d] 23)) ((W.heap.size, n, d) :: l) := by
  intro x hx
  rcases List.mem_cons.1 hx with rfl | hx
  · exact Blk.new W _ _
  · exact (h x hx).alloc _
theorem Frs.get {W : World} {l : List (Nat × Int × Int)} (h : Frs W l) {g : Nat} {n d : Int} (hm : (g, n, d) ∈ l) : W.cell? ⟨g, 0, none⟩ = some (.int .i64 n) ∧ W.cell? ⟨g, 1, none⟩ = some (.int .i64 d) ∧ g < W.heap.size :=
  ⟨(h _ hm).cell 0, (h _ hm).cell 1, (h _ hm).lt⟩

theorem abs_mul {x y : Int} {A B : Nat} (hx : x.natAbs ≤ A) (hy : y.natAbs ≤ B) : (x * y).natAbs ≤ A * B := by rw [Int.natAbs_mul]; exact Nat.mul_le_mul hx hy
theorem back_same {an ad w1 w2 k1 k c : Int} (ha : vP an ad) (hw : vP w1 w2) (g1 : 0 < k1) (g : 0 < k) (e1 : w1 * k * k1 = an * c) (e2 : w2 * k * k1 = ad * c) : w1 = an ∧ w2 = ad := by
  refine vP_same hw ha (Int.mul_pos g g1) ?_
  have l : w1 * ad * (k * k1) = (w1 * k * k1) * ad := by simp only [Int.mul_comm, Int.mul_left_comm]
  have r : an * w2 * (k * k1) = an * (w2 * k * k1) := by simp only [Int.mul_assoc]
  rw [l, r, e1, e2]
  simp only [Int.mul_comm, Int.mul_left_comm]

end Go.Proofs.YtegodbbocbkomaaDoor
