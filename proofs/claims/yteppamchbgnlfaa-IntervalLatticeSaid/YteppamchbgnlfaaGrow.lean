/- A region's condition that grows; Sorted of two fractions; Meet's result. Conditions: valid intervals. -/
import Derived.Test.YteppamchbgnlfaaLat
import Derived.Test.YteppamchbgnlfaaRLat0
namespace Go.Proofs.Yteppamchbgnlfaa
open Go.RowKit

theorem wpAnyH_more {P : Program} {md : Region.Mode} {ops : Array Oper} {Q : Exit → Act → World → Prop} {S S' : World → Prop} (hs : ∀ w, S' w → S w) : ∀ (fuel : Nat) (listed : Array Bool) (a : Act) (w : World), wpAnyH P md ops Q S' fuel listed a w → wpAnyH P md ops Q S fuel listed a w
  | 0, _, _, _, h => h
  | fuel + 1, _, _, _, h => ⟨h.1, fun i hi => wpOp_mono (fun a' w' h' => ⟨hs w' h'.1, wpAnyH_more hs fuel _ a' w' h'.2⟩) (h.2 i hi)⟩

theorem wpAnyH_grow {P : Program} {md : Region.Mode} {ops : Array Oper} {Q : Exit → Act → World → Prop} {S T : World → Prop} {fuel : Nat} {listed : Array Bool} {a : Act} {w : World} (h : wpAnyH P md ops Q (fun W => S W ∧ T W) fuel listed a w) : wpAnyH P md ops Q S fuel listed a w := wpAnyH_more (fun _ h => h.1) _ _ _ _ h
/-- Two fractions fill the start of a block. -/
def TwoC (W : World) (g : Nat) (x1 x2 x3 x4 : Int) : Prop := g < W.heap.size ∧ W.cell? ⟨g, 0, none⟩ = some (.int .i64 x1) ∧ W.cell? ⟨g, 1, none⟩ = some (.int .i64 x2) ∧ W.cell? ⟨g, 2, none⟩ = some (.int .i64 x3) ∧ W.cell? ⟨g, 3, none⟩ = some (.int .i64 x4)
theorem TwoC.below {W W' : World} {g : Nat} {x1 x2 x3 x4 : Int} (h : TwoC W g x1 x2 x3 x4) (hB : Below W.heap.size W W') : TwoC W' g x1 x2 x3 x4 :=
  ⟨Nat.lt_of_lt_of_le h.1 hB.size, (hB.cell (p := ⟨g, 0, none⟩) h.1).trans h.2.1, (hB.cell (p := ⟨g, 1, none⟩) h.1).trans h.2.2.1, (hB.cell (p := ⟨g, 2, none⟩) h.1).trans h.2.2.2.1, (hB.cell (p := ⟨g, 3, none⟩) h.1).trans h.2.2.2.2⟩
theorem TwoC.alloc {W : World} {g : Nat} {x1 x2 x3 x4 : Int} (h : TwoC W g x1 x2 x3 x4) (o : Obj) : TwoC (W.alloc o) g x1 x2 x3 x4 := h.below ((Below.refl _ W).alloc (Nat.le_refl _) o)
theorem TwoC.drew {W : World} {g : Nat} {x1 x2 x3 x4 : Int} (h : TwoC W g x1 x2 x3 x4) : TwoC W.drew g x1 x2 x3 x4 := h
theorem TwoC.far {W : World} {g : Nat} {x1 x2 x3 x4 : Int} (h : TwoC W g x1 x2 x3 x4) {p : Addr} (hp : ¬ p.block = g) (v : Value) : TwoC (W.setCell p v) g x1 x2 x3 x4 := by
  have e : ∀ i, (W.setCell p v).cell? ⟨g, i, none⟩ = W.cell? ⟨g, i, none⟩ := fun i => World.cell?_setCell_far W p ⟨g, i, none⟩ v hp
  exact ⟨by simpa using h.1, (e 0).trans h.2.1, (e 1).trans h.2.2.1, (e 2).trans h.2.2.2.1, (e 3).trans h.2.2.2.2⟩
theorem blk_at {Y : World} {g : Nat} {t : TypeId} {cs : Array Value} (h : g = Y.heap.size) : Blk (Y.alloc (.cells cs t)) g t cs := by subst h; exact Blk.new Y t cs
theorem blk_two_at {Y : World} {g : Nat} {a b c d : Int} (h : g = Y.heap.size) : Blk (Y.alloc (.cells #[.int .i64 a, .int .i64 b, .int .i64 c, .int .i64 d] 23)) g 23 (flat [(a, b), (c, d)]) := by subst h; exact blk_two Y a b c d
theorem lat_set {w0 X : World} (h : Below w0.heap.size w0 X) {g : Nat} (hg : w0.heap.size ≤ g) (i : Nat) (v : Value) : Below w0.heap.size w0 (X.setCell ⟨g, i, none⟩ v) := h.setCell hg v
/-- Sorted of two fractions. -/
theorem rsorted2 {a b c d x1 x2 x3 x4 : Int} (hv : VL [(a, b), (c, d)]) (h1 : minL [(a, b), (c, d)] = (x1, x2)) (h2 : maxL [(a, b), (c, d)] = (x3, x4)) (g : Nat) (t : TypeId) (X : World) (hB : Blk X g t (flat [(a, b), (c, d)])) :
    Calls Try.prog 25 #[.slice (some ⟨g, 0, none⟩) 2 2] X fun e w' => ∃ g' cap, e = .returned (.slice (some ⟨g', 0, none⟩) 2 cap) ∧ (2 : Int) ≤ (cap : Int) ∧ X.heap.size ≤ g' ∧ TwoC w' g' x1 x2 x3 x4 ∧ Below X.heap.size X w' := by
  have hF : FsAt X (.slice (some ⟨g, 0, none⟩) 2 2) [(a, b), (c, d)] := by
    refine .inr ⟨g, 0, 2, rfl, by simp, hB.lt, fun j x hj => ?_⟩
    have := hB.el hj
    simpa using this
  refine (sorted_any _ _ X hF hv (by simp)).mono ?_
  rintro e w' ⟨v, m, rfl, hp, hs, hO, hb⟩
  have hml : m.length = 2 := by rw [hp.length_eq]; rfl
  obtain ⟨e0, e1⟩ := ends_of hv (by simp) hp hs
  rcases FsAt.of_owns hO with ⟨-, h0⟩ | ⟨g', cap, rfl, hcap, hgb, hg, hF⟩
  · rw [h0] at hml; simp at hml
  · rw [hml] at e1
    have y0 := hF.zero e0
    have y1 := hF.zero e1
    rw [h1] at y0
    rw [h2] at y1
    exact ⟨g', cap, by rw [hml], by omega, hgb, ⟨hg, by simpa using y0.1, by simpa using y0.2, by simpa using y1.1, by simpa using y1.2⟩, hb⟩

def meetR (p q : F2) : Int × Int × Int × Int × Int := if vI p.1 p.2 q.1 q.2 then (p.1, p.2, q.1, q.2, 0) else (0, 0, 0, 0, 9)
theorem blk_put4 {W : World} {g : Nat} {t : TypeId} (h : Blk W g t #[.int .i64 0, .int .i64 0, .int .i64 0, .int .i64 0]) (a b c d : Int) : Blk ((((W.setCell ⟨g, 0, none⟩ (.int .i64 a)).setCell ⟨g, 1, none⟩ (.int .i64 b)).setCell ⟨g, 2, none⟩ (.int .i64 c)).setCell ⟨g, 3, none⟩ (.int .i64 d)) g t #[.int .i64 a, .int .i64 b, .int .i64 c, .int .i64 d] := (((h.put 0 _).put 1 _).put 2 _).put 3 _
end Go.Proofs.Yteppamchbgnlfaa
