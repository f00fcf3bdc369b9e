/- Values of every kind in memory: structs with slices, and lists of them. Conditions: none. -/
import Derived.Test.YtiebefomhnbemaaWSizes
namespace Go.Proofs.Ytiebefomhnbemaa
open Go.RowKit

theorem Try.infoVal : (Try.prog.info? 28).map (fun i => (i.zero, i.size, i.bytes)) = some (some (.agg #[.int .i64 0, .int .u64 0, .int .i64 0, .slice none 0 0, .slice none 0 0]), 5, 72) := by kernel_rfl

/-- The integers zs lie at a slice value, in a block of P (none of them: anywhere). -/
def InP (k : IntKind) (P : Nat → Prop) (W : World) (sv : Value) (zs : List Int) : Prop :=
  ∃ a c, sv = .slice a zs.length c ∧ zs.length ≤ c ∧ (a = none → c = 0) ∧ (zs ≠ [] → ∃ g off, a = some ⟨g, off, none⟩ ∧ P g ∧ g < W.heap.size ∧ ∀ j, j < zs.length → W.cell? ⟨g, off + j, none⟩ = some (.int k (zs[j]?.getD 0)))
section
variable {k : IntKind} {P Q : Nat → Prop} {A B W : World} {sv : Value} {zs : List Int} {ys : List UInt8}
theorem InP.kp (h : InP k P A sv zs) (hk : Kp P A B) : InP k P B sv zs := by
  obtain ⟨a, c, e, hl, hn, h1⟩ := h
  refine ⟨a, c, e, hl, hn, fun hy => ?_⟩
  obtain ⟨g, off, ea, hp, hg, hc⟩ := h1 hy
  exact ⟨g, off, ea, hp, Nat.lt_of_lt_of_le hg hk.size, fun j hj => (hk.cell (p := ⟨g, off + j, none⟩) hp hg).trans (hc j hj)⟩
theorem InP.mono (h : InP k P W sv zs) (hq : ∀ k, k < W.heap.size → P k → Q k) : InP k Q W sv zs := by
  obtain ⟨a, c, e, hl, hn, h1⟩ := h
  refine ⟨a, c, e, hl, hn, fun hy => ?_⟩
  obtain ⟨g, off, ea, hp, hg, hc⟩ := h1 hy
  exact ⟨g, off, ea, hq g hg hp, hg, hc⟩
theorem InP.in {n : Nat} (h : InP k P W sv zs) (hp : ∀ k, P k → k < n) : InAt k n W sv zs := by
  obtain ⟨a, c, rfl, hl, hn, h1⟩ := h
  cases zs with
  | nil =>
    cases a with
    | none => rw [hn rfl]; exact .inl (.inl ⟨rfl, rfl⟩)
    | some a => exact .inr ⟨a, c, rfl, rfl⟩
  | cons z r =>
    obtain ⟨g, off, rfl, hg, _, hc⟩ := h1 (by simp)
    exact .inl (.inr ⟨g, off, c, rfl, hl, hp g hg, hc⟩)
theorem InP.in' (h : InP k P W sv zs) : InAt k W.heap.size W sv zs := (h.mono (Q := (· < W.heap.size)) (fun _ hk _ => hk)).in (fun _ h => h)
theorem InP.nil : InP k P W (.slice none 0 0) [] := ⟨none, 0, rfl, Nat.le_refl _, fun _ => rfl, fun h => absurd rfl h⟩
theorem Row.inp {e base : Nat} {v : Value} (h : Row k e base W v zs) : InP k (base ≤ ·) W v zs := by
  have h0 : W.ownsRow base e 1 v zs.length (zs.map (Value.int k)) := h
  rcases h.2 with ⟨rfl, hl⟩ | ⟨g, cap, cur, rfl, hb, hg, hn, _⟩
  · have hy : zs = [] := List.eq_nil_of_length_eq_zero hl
    subst hy
    exact .nil
  · refine ⟨_, cap, rfl, hn, (fun h => by cases h), fun _ => ⟨g, 0, rfl, hb, heap_lt hg, fun j hj => ?_⟩⟩
    rw [Nat.zero_add, h0.cellAt j (by omega)]
    simp [hj]
theorem SAt.inp (h : SAt P W sv ys) : InP .u8 P W sv (ys.map ofByte) := by
  obtain ⟨a, c, e, hl, hn, h1⟩ := h
  refine ⟨a, c, by rw [List.length_map]; exact e, by rw [List.length_map]; exact hl, hn, fun hy => ?_⟩
  obtain ⟨g, off, ea, hp, hg, hc⟩ := h1 (fun h => hy (by rw [h]; rfl))
  refine ⟨g, off, ea, hp, hg, fun j hj => ?_⟩
  rw [List.length_map] at hj
  rw [hc j hj, List.getElem?_map, List.getElem?_eq_getElem hj]
  rfl
theorem SAt.in {n : Nat} (h : SAt P W sv ys) (hp : ∀ k, P k → k < n) : BIn n W sv ys := h.inp.in hp
theorem SAt.in' (h : SAt P W sv ys) : BIn W.heap.size W sv ys := h.inp.in'
theorem SAt.nil : SAt P W (.slice none 0 0) [] := ⟨none, 0, rfl, Nat.le_refl _, fun _ => rfl, fun h => absurd rfl h⟩
end

/-- A value with the two slices that hold its bytes and its list. -/
abbrev VT := V × Value × Value
def cells5 (t : VT) : List Value := [.int .i64 t.1.k, .int .u64 (t.1.u : Int), .int .i64 t.1.n, t.2.1, t.2.2]
/-- What a value's slices hold. -/
def VP (P : Nat → Prop) (W : World) (t : VT) : Prop := SAt P W t.2.1 t.1.b ∧ InP .i64 P W t.2.2 t.1.l
theorem VP.kp {P : Nat → Prop} {A B : World} {t : VT} (h : VP P A t) (hk : Kp P A B) : VP P B t := ⟨h.1.kp hk, h.2.kp hk⟩
theorem VP.mono {P Q : Nat → Prop} {W : World} {t : VT} (h : VP P W t) (hq : ∀ k, k < W.heap.size → P k → Q k) : VP Q W t := ⟨h.1.mono hq, h.2.mono hq⟩
theorem VP.below {P : Nat → Prop} {A B : World} {t : VT} (h : VP P A t) (hB : Below A.heap.size A B) : VP P B t := h.kp (.of_below hB)
/-- The struct itself. -/
def aggV (t : VT) : Value := .agg #[.int .i64 t.1.k, .int .u64 (t.1.u : Int), .int .i64 t.1.n, t.2.1, t.2.2]

theorem cells5_flat : ∀ (it : List VT) (j f : Nat), f < 5 → (it.flatMap cells5)[5 * j + f]? = (it[j]?).bind fun t => (cells5 t)[f]?
  | [], j, f, _ => by simp
  | t :: it, 0, f, hf => by
    rw [List.flatMap_cons, Nat.mul_zero, Nat.zero_add, List.getElem?_append_left (by simpa [cells5] using hf)]
    rfl
  | t :: it, j + 1, f, hf => by
    rw [List.flatMap_cons, List.getElem?_append_right (by simp [cells5]; omega)]
    have e : 5 * (j + 1) + f - (cells5 t).length = 5 * j + f := by simp [cells5]; omega
    rw [e, cells5_flat it j f hf]
    simp
theorem cells5_length (it : List VT) : (it.flatMap cells5).length = it.length * 5 := by
  induction it with
  | nil => rfl
  | cons t it ih => rw [List.flatMap_cons, List.length_append, ih]; simp [cells5]; omega

/-- A list of values at a slice value, in a block of P, its slices in blocks of P. -/
def VsAt (P : Nat → Prop) (W : World) (sv : Value) (it : List VT) : Prop :=
  (∃ a c, sv = .slice a it.length c ∧ it.length ≤ c ∧ (it ≠ [] → ∃ g, a = some ⟨g, 0, none⟩ ∧ P g ∧ g < W.heap.size ∧ ∀ j, j < it.length * 5 → W.cell? ⟨g, j, none⟩ = (it.flatMap cells5)[j]?)) ∧ ∀ t ∈ it, VP P W t
section
variable {P Q : Nat → Prop} {A B W : World} {sv : Value} {it : List VT}
theorem VsAt.kp (h : VsAt P A sv it) (hk : Kp P A B) : VsAt P B sv it := by
  obtain ⟨⟨a, c, e, hl, h1⟩, h2⟩ := h
  refine ⟨⟨a, c, e, hl, fun hy => ?_⟩, fun t ht => (h2 t ht).kp hk⟩
  obtain ⟨g, ea, hp, hg, hc⟩ := h1 hy
  exact ⟨g, ea, hp, Nat.lt_of_lt_of_le hg hk.size, fun j hj => (hk.cell (p := ⟨g, j, none⟩) hp hg).trans (hc j hj)⟩
theorem VsAt.below (h : VsAt P A sv it) (hB : Below A.heap.size A B) : VsAt P B sv it := h.kp (.of_below hB)
theorem VsAt.mono (h : VsAt P W sv it) (hq : ∀ k, k < W.heap.size → P k → Q k) : VsAt Q W sv it := by
  obtain ⟨⟨a, c, e, hl, h1⟩, h2⟩ := h
  refine ⟨⟨a, c, e, hl, fun hy => ?_⟩, fun t ht => (h2 t ht).mono hq⟩
  obtain ⟨g, ea, hp, hg, hc⟩ := h1 hy
  exact ⟨g, ea, hq g hg hp, hg, hc⟩
theorem VsAt.slice (h : VsAt P W sv it) : ∃ a c, sv = .slice a it.length c := by
  obtain ⟨⟨a, c, e, -⟩, -⟩ := h
  exact ⟨a, c, e⟩
/-- The cells of one value. -/
theorem VsAt.get {a : Option Addr} {l c : Nat} (h : VsAt P W (.slice a l c) it) (j : Nat) (hj : j < it.length) :
    ∃ g, a = some ⟨g, 0, none⟩ ∧ P g ∧ g < W.heap.size ∧ it.length ≤ c ∧ (∀ f, f < 5 → W.cell? ⟨g, j * 5 + f, none⟩ = (cells5 it[j])[f]?) ∧ VP P W it[j] := by
  obtain ⟨⟨a', c', e, hl, h1⟩, h2⟩ := h
  simp only [Value.slice.injEq] at e
  obtain ⟨rfl, rfl, rfl⟩ := e
  obtain ⟨g, ea, hp, hg, hc⟩ := h1 (by intro h; rw [h] at hj; simp at hj)
  refine ⟨g, ea, hp, hg, hl, fun f hf => ?_, h2 _ (List.getElem_mem hj)⟩
  rw [Nat.mul_comm j 5, hc (5 * j + f) (by omega), cells5_flat it j f hf, List.getElem?_eq_getElem hj]
  rfl
/-- A list that a call made. -/
theorem VsAt.of_owns {base : Nat} (h : W.ownsRow base 28 5 sv it.length (it.flatMap cells5)) (hv : ∀ t ∈ it, VP (base ≤ ·) W t) : VsAt (base ≤ ·) W sv it := by
  have h0 := h
  rcases h.2 with ⟨rfl, hl⟩ | ⟨g, cap, cur, rfl, hb, hg, hn, hm, hs, ht⟩
  · have hy : it = [] := List.eq_nil_of_length_eq_zero hl
    subst hy
    exact ⟨⟨none, 0, rfl, Nat.le_refl _, fun h => absurd rfl h⟩, hv⟩
  · refine ⟨⟨_, cap, rfl, hn, fun _ => ⟨g, rfl, hb, heap_lt hg, fun j hj => ?_⟩⟩, hv⟩
    rw [h0.cellAt j (by simpa using hj)]
end
end Go.Proofs.Ytiebefomhnbemaa
