/- Frames by blocks that are kept; a writer in memory. Conditions: none. -/
import Derived.Test.YtkdbffhmnkkbcaaDoorOwn
import Derived.Test.YtkdbffhmnkkbcaaDoorWCode
import Derived.RangeFuncBox
namespace Go.Proofs.YtkdbffhmnkkbcaaDoor.W
open Go.RowKit

/-- Nothing but new blocks, and blocks outside P, has turned. -/
structure Kp (P : Nat → Prop) (W W' : World) : Prop where
  os : W'.os = W.os
  tape : W'.tape = W.tape
  output : W'.output = W.output
  size : W.heap.size ≤ W'.heap.size
  block : ∀ k, k < W.heap.size → P k → W'.heap[k]? = W.heap[k]?
theorem Kp.refl (P : Nat → Prop) (W : World) : Kp P W W := ⟨rfl, rfl, rfl, Nat.le_refl _, fun _ _ _ => rfl⟩
theorem Kp.trans {P : Nat → Prop} {A B C : World} (h : Kp P A B) (k : Kp P B C) : Kp P A C :=
  ⟨k.os.trans h.os, k.tape.trans h.tape, k.output.trans h.output, Nat.le_trans h.size k.size, fun i hi hp => (k.block i (Nat.lt_of_lt_of_le hi h.size) hp).trans (h.block i hi hp)⟩
theorem Kp.mono {P Q : Nat → Prop} {A B : World} (h : Kp P A B) (hq : ∀ k, Q k → P k) : Kp Q A B := ⟨h.os, h.tape, h.output, h.size, fun k hk hp => h.block k hk (hq k hp)⟩
theorem Kp.of_below {P : Nat → Prop} {A B : World} (h : Below A.heap.size A B) : Kp P A B := ⟨h.os, h.tape, h.output, h.size, fun k hk _ => h.block k hk⟩
theorem Kp.of_base {n : Nat} {A B : World} (h : Below n A B) : Kp (· < n) A B := ⟨h.os, h.tape, h.output, h.size, fun k _ hn => h.block k hn⟩
theorem Kp.below {P : Nat → Prop} {n : Nat} {A B : World} (h : Kp P A B) (hn : n ≤ A.heap.size) (hp : ∀ k, k < n → P k) : Below n A B := ⟨h.os, h.tape, h.output, h.size, fun k hk => h.block k (by omega) (hp k hk)⟩
theorem Kp.drew {P : Nat → Prop} {A B : World} (h : Kp P A B) : Kp P A B.drew := h.trans ⟨rfl, rfl, rfl, Nat.le_refl _, fun _ _ _ => rfl⟩
theorem Kp.alloc {P : Nat → Prop} {A B : World} (h : Kp P A B) (o : Obj) : Kp P A (B.alloc o) := h.trans (.of_below ((Below.refl _ B).alloc (Nat.le_refl _) o))
theorem Kp.setCell {P : Nat → Prop} {A B : World} (h : Kp P A B) {p : Addr} (hp : ¬ P p.block) (v : Value) : Kp P A (B.setCell p v) :=
  h.trans ⟨rfl, rfl, rfl, ((Below.refl 0 B).setCell (p := p) (Nat.zero_le _) v).size, fun k _ hk => Below.heap_setCell B p v k (fun e => hp (by rw [← e]; exact hk))⟩
theorem Kp.cell {P : Nat → Prop} {A B : World} (h : Kp P A B) {p : Addr} (hp : P p.block) (hs : p.block < A.heap.size) : B.cell? p = A.cell? p := by
  have := h.block p.block hs hp
  simp [World.cell?, this]
theorem heap_lt {W : World} {b : Nat} {o : Obj} (h : W.heap[b]? = some o) : b < W.heap.size := (Array.getElem?_eq_some_iff.1 h).1

/-- The bytes as cells. -/
def u8s (xs : List UInt8) : List Value := xs.map fun c => Value.int .u8 (ofByte c)
theorem u8s_length (xs : List UInt8) : (u8s xs).length = xs.length := by simp [u8s]
theorem u8s_append (xs ys : List UInt8) : u8s (xs ++ ys) = u8s xs ++ u8s ys := by simp [u8s]
theorem u8s_map (xs : List UInt8) : (xs.map ofByte).map (Value.int .u8) = u8s xs := by simp [u8s]

/-- A writer at block b, whose bytes are xs; what it holds lies from base on. -/
def Wr (base : Nat) (W : World) (b : Nat) (xs : List UInt8) : Prop :=
  base ≤ b ∧ ∃ v, Boxed W b 28 v ∧ W.ownsRow base 5 1 v xs.length (u8s xs)
theorem Wr.new (base : Nat) (W : World) (h : base ≤ W.heap.size) : Wr base (W.alloc (.cells #[.slice none 0 0] 28)) W.heap.size [] :=
  ⟨h, _, Boxed.new W _ _, World.ownsRow_nil _ _ _ _⟩
theorem owns_kp {P : Nat → Prop} {W W' : World} {base e size n : Nat} {v : Value} {xs : List Value} (h : W.ownsRow base e size v n xs) (hk : Kp P W W') (hp : ∀ k, base ≤ k → k < W.heap.size → P k) : W'.ownsRow base e size v n xs := by
  obtain ⟨h1, h2⟩ := h
  refine ⟨h1, ?_⟩
  rcases h2 with h2 | ⟨g, cap, cur, e1, hb, hg, hn, hm, hs, ht⟩
  · exact .inl h2
  · exact .inr ⟨g, cap, cur, e1, hb, (hk.block g (heap_lt hg) (hp g hb (heap_lt hg))).trans hg, hn, hm, hs, ht⟩
theorem Wr.kp {P : Nat → Prop} {base b : Nat} {W W' : World} {xs : List UInt8} (h : Wr base W b xs) (hk : Kp P W W') (hp : ∀ k, base ≤ k → k < W.heap.size → P k) : Wr base W' b xs := by
  obtain ⟨hb, v, hv, hr⟩ := h
  exact ⟨hb, v, (hk.block b hv.lt (hp b hb hv.lt)).trans hv, owns_kp hr hk hp⟩
theorem Wr.below {base b : Nat} {W W' : World} {xs : List UInt8} (h : Wr base W b xs) (hB : Below W.heap.size W W') : Wr base W' b xs :=
  h.kp (P := fun _ => True) (.of_below hB) (fun _ _ _ => trivial)
/-- What an append to a row of the call's own and the store into its box have made (no block laid between). -/
theorem Boxed.appended0 {W w1 : World} {n₀ B : Nat} {t e : TypeId} {size : Nat} {v v' : Value} {k m : Nat} {xs ys : List Value}
    (hv : Boxed W B t v) (hte : t ≠ e) (hrow : W.ownsRow n₀ e size v k xs) (hn₀ : n₀ ≤ W.heap.size) (hB : n₀ ≤ B) (hown' : w1.ownsRow n₀ e size v' m ys) (hgrow : W.grownBy w1 v.ownBlock) :
    Boxed w1 B t v ∧ Boxed (w1.setCell ⟨B, 0, none⟩ v') B t v' ∧ (w1.setCell ⟨B, 0, none⟩ v').ownsRow n₀ e size v' m ys ∧ Below n₀ W (w1.setCell ⟨B, 0, none⟩ v') := by
  have hv1 : Boxed w1 B t v := hv.kept hgrow (hv.not_row hte hrow)
  refine ⟨hv1, hv1.set v', hown'.kept (grownBy_setCell' w1 B v') (.inr (hv1.not_row hte hown').symm), ?_⟩
  exact ((Below.refl n₀ W).grown hgrow hn₀ (fun j ej => (hrow.lt j ej).1)).setCell (p := ⟨B, 0, none⟩) hB v'
theorem Wr.pushed {W w1 : World} {base b : Nat} {v v' : Value} {tmp : Obj} {xs ys : List UInt8} (hb : base ≤ b) (hv : Boxed W b 28 v) (hr : W.ownsRow base 5 1 v xs.length (u8s xs))
    (hown' : w1.ownsRow base 5 1 v' (xs.length + ys.length) (u8s xs ++ u8s ys)) (hgrow : (W.alloc tmp).grownBy w1 v.ownBlock) :
    Boxed w1 b 28 v ∧ Wr base (w1.setCell ⟨b, 0, none⟩ v') b (xs ++ ys) ∧ Below base W (w1.setCell ⟨b, 0, none⟩ v') := by
  have hbs : base ≤ W.heap.size := by have := hv.lt; omega
  obtain ⟨h1, h2, h3, _, h5⟩ := hv.appended (by decide) hr hbs hb hown' hgrow
  exact ⟨h1, ⟨hb, v', h2, by rw [List.length_append, u8s_append]; exact h3⟩, h5⟩
theorem Wr.pushed0 {W w1 : World} {base b : Nat} {v v' : Value} {xs ys : List UInt8} (hb : base ≤ b) (hv : Boxed W b 28 v) (hr : W.ownsRow base 5 1 v xs.length (u8s xs))
    (hown' : w1.ownsRow base 5 1 v' (xs.length + ys.length) (u8s xs ++ u8s ys)) (hgrow : W.grownBy w1 v.ownBlock) :
    Boxed w1 b 28 v ∧ Wr base (w1.setCell ⟨b, 0, none⟩ v') b (xs ++ ys) ∧ Below base W (w1.setCell ⟨b, 0, none⟩ v') := by
  have hbs : base ≤ W.heap.size := by have := hv.lt; omega
  obtain ⟨h1, h2, h3, h5⟩ := Boxed.appended0 hv (by decide) hr hbs hb hown' hgrow
  exact ⟨h1, ⟨hb, v', h2, by rw [List.length_append, u8s_append]; exact h3⟩, h5⟩
/-- A slice of bytes that a call made. -/
def Bs (base : Nat) (W : World) (v : Value) (ys : List UInt8) : Prop := W.ownsRow base 5 1 v ys.length (u8s ys)
theorem Bs.row {base : Nat} {W : World} {v : Value} {ys : List UInt8} (h : Bs base W v ys) : Row .u8 5 base W v (ys.map ofByte) := by
  unfold Row
  rw [List.length_map, u8s_map]
  exact h
theorem Row.bs {base : Nat} {W : World} {v : Value} {ys : List UInt8} (h : Row .u8 5 base W v (ys.map ofByte)) : Bs base W v ys := by
  unfold Row at h
  rw [List.length_map, u8s_map] at h
  exact h
theorem Bs.kp {P : Nat → Prop} {base : Nat} {W W' : World} {v : Value} {ys : List UInt8} (h : Bs base W v ys) (hk : Kp P W W') (hp : ∀ k, base ≤ k → k < W.heap.size → P k) : Bs base W' v ys := owns_kp h hk hp
theorem Bs.below {base : Nat} {W W' : World} {v : Value} {ys : List UInt8} (h : Bs base W v ys) (hB : Below W.heap.size W W') : Bs base W' v ys := owns_below h hB
/-- A slice of bytes, or of integers, that lies below n₀ (an empty one anywhere). -/
def BIn (n₀ : Nat) (W : World) (v : Value) (ys : List UInt8) : Prop := InAt .u8 n₀ W v (ys.map ofByte)
theorem Bs.in {base : Nat} {W : World} {v : Value} {ys : List UInt8} (h : Bs base W v ys) : BIn W.heap.size W v ys := .inl h.row.at
theorem BIn.below {n₀ : Nat} {W W' : World} {v : Value} {ys : List UInt8} (h : BIn n₀ W v ys) (hB : Below n₀ W W') : BIn n₀ W' v ys := InAt.below hB h
theorem InAt.mono {k : IntKind} {n₀ n₁ : Nat} (h : n₀ ≤ n₁) {W : World} {sv : Value} {zs : List Int} : InAt k n₀ W sv zs → InAt k n₁ W sv zs
  | .inl e => .inl (e.mono h)
  | .inr e => .inr e
theorem BIn.mono {n₀ n₁ : Nat} (h : n₀ ≤ n₁) {W : World} {sv : Value} {ys : List UInt8} (hI : BIn n₀ W sv ys) : BIn n₁ W sv ys := InAt.mono h hI
theorem InAt.slice {k : IntKind} {n₀ : Nat} {W : World} {sv : Value} {zs : List Int} (h : InAt k n₀ W sv zs) : ∃ a cap, sv = .slice a zs.length cap := by
  rcases h with h | ⟨a, cap, rfl, rfl⟩
  · exact h.slice
  · exact ⟨_, _, rfl⟩
theorem BIn.slice {n₀ : Nat} {W : World} {sv : Value} {ys : List UInt8} (h : BIn n₀ W sv ys) : ∃ a cap, sv = .slice a ys.length cap := by
  obtain ⟨a, cap, e⟩ := InAt.slice h
  rw [List.length_map] at e
  exact ⟨a, cap, e⟩
theorem Bs.slice {base : Nat} {W : World} {v : Value} {ys : List UInt8} (h : Bs base W v ys) : ∃ a cap, v = .slice a ys.length cap := h.in.slice
/-- The three ways in which bytes come in: nil, a row, an empty slice anywhere. -/
theorem BIn.cases {n₀ : Nat} {W : World} {a : Option Addr} {l cap : Nat} {ys : List UInt8} (h : BIn n₀ W (.slice a l cap) ys) :
    (a = none ∧ l = 0 ∧ cap = 0 ∧ ys = []) ∨ ∃ d : Addr, a = some d ∧ l = ys.length ∧ (∀ j u, (u8s ys)[j]? = some u → W.cell? (d.add j) = some u) := by
  rcases h with (⟨e, h0⟩ | ⟨b, off, c, e, hl, hb, hc⟩) | ⟨d, c, e, h0⟩
  · simp only [Value.slice.injEq] at e
    have : ys = [] := by simpa using h0
    exact .inl ⟨e.1, e.2.1, e.2.2, this⟩
  · simp only [Value.slice.injEq, List.length_map] at e
    refine .inr ⟨_, e.1, e.2.1, fun j u hu => ?_⟩
    have := src_cells (ys.map ofByte).length hc j u (by rw [List.take_length, u8s_map]; exact hu)
    exact this
  · simp only [Value.slice.injEq] at e
    have hy : ys = [] := by simpa using h0
    subst hy
    exact .inr ⟨d, e.1, e.2.1, fun j u hu => by simp [u8s] at hu⟩
theorem u8s_one (ys : List UInt8) : ∀ u ∈ u8s ys, u.oneCell' = true := by
  intro u hu
  obtain ⟨z, _, rfl⟩ := List.mem_map.1 hu
  rfl
/-- A new empty block is an empty row. -/
theorem owns_empty (W : World) (base e : Nat) (h : base ≤ W.heap.size) : (W.alloc (.cells #[] e)).ownsRow base e 1 (.slice (some ⟨W.heap.size, 0, none⟩) 0 0) 0 [] :=
  ⟨rfl, .inr ⟨_, 0, #[], rfl, h, heap_alloc_new W _, Nat.le_refl _, by unfold maxLen; omega, rfl, rfl⟩⟩
theorem slice_pos {W : World} {base : Nat} {e : TypeId} {size : Nat} {v : Value} {k : Nat} {xs : List Value} (h : W.ownsRow base e size v k xs) (h1 : 1 ≤ k) : ∃ g cap, v = .slice (some ⟨g, 0, none⟩) k cap := by
  rcases h.2 with ⟨_, h0⟩ | ⟨g, cap, _, rfl, _⟩
  · omega
  · exact ⟨g, cap, rfl⟩
theorem owns_slice {W : World} {base : Nat} {e : TypeId} {size : Nat} {v : Value} {k : Nat} {xs : List Value} (h : W.ownsRow base e size v k xs) : ∃ a cap, v = .slice a k cap := by
  rcases h.2 with ⟨rfl, rfl⟩ | ⟨g, cap, _, rfl, _⟩
  · exact ⟨_, _, rfl⟩
  · exact ⟨_, cap, rfl⟩
end Go.Proofs.YtkdbffhmnkkbcaaDoor.W
