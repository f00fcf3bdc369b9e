/- Matchers in memory; contracts of Match and of its reference. Conditions: lists of bounded length. -/
import Derived.Deep.RegionHeld3
import Derived.Test.YtmgjbbkccgncgaaLGet
import Derived.Test.YtmgjbbkccgncgaaLHelp
namespace Go.Proofs.Ytmgjbbkccgncgaa
open Go.RowKit

theorem Try.infoMatcher : (Try.prog.info? 24).map (fun i => (i.zero, i.size, i.bytes)) = some (some (.agg #[.string ⟨#[]⟩, .int .i64 0, .string ⟨#[]⟩]), 3, 40) := by kernel_rfl
/-- A matcher: its name, its kind and its value. -/
abbrev M3 := ByteArray × Int × ByteArray
def cells3 (t : M3) : List Value := [.string t.1, .int .i64 t.2.1, .string t.2.2]
theorem cells3_flat : ∀ (it : List M3) (j f : Nat), f < 3 → (it.flatMap cells3)[j * 3 + f]? = (it[j]?).bind fun t => (cells3 t)[f]?
  | [], j, f, _ => by simp
  | t :: it, 0, f, hf => by
    rw [List.flatMap_cons, Nat.zero_mul, Nat.zero_add, List.getElem?_append_left (by simpa [cells3] using hf)]
    rfl
  | t :: it, j + 1, f, hf => by
    rw [List.flatMap_cons, List.getElem?_append_right (by simp [cells3]; omega)]
    have e : (j + 1) * 3 + f - (cells3 t).length = j * 3 + f := by simp [cells3]; omega
    rw [e, cells3_flat it j f hf]
    simp
theorem cells3_length (it : List M3) : (it.flatMap cells3).length = it.length * 3 := by
  induction it with
  | nil => rfl
  | cons t it ih => rw [List.flatMap_cons, List.length_append, ih]; simp [cells3]; omega
theorem cells3_one (it : List M3) : ∀ u ∈ it.flatMap cells3, u.oneCell' = true := by
  intro u hu
  obtain ⟨t, -, h⟩ := List.mem_flatMap.1 hu
  simp [cells3] at h
  rcases h with rfl | rfl | rfl <;> rfl
def MCells (W : World) (g : Nat) (ms : List M3) : Prop := g < W.heap.size ∧ ∀ (j : Nat) n k v, ms[j]? = some (n, k, v) → W.cell? ⟨g, j * 3, none⟩ = some (.string n) ∧ W.cell? ⟨g, j * 3 + 1, none⟩ = some (.int .i64 k) ∧ W.cell? ⟨g, j * 3 + 2, none⟩ = some (.string v)
theorem MCells.below {A B : World} {g : Nat} {ms : List M3} (h : MCells A g ms) (hB : Below A.heap.size A B) : MCells B g ms :=
  ⟨Nat.lt_of_lt_of_le h.1 hB.size, fun j n k v hj => ⟨(hB.cell (p := ⟨g, j * 3, none⟩) h.1).trans (h.2 j n k v hj).1, (hB.cell (p := ⟨g, j * 3 + 1, none⟩) h.1).trans (h.2 j n k v hj).2.1, (hB.cell (p := ⟨g, j * 3 + 2, none⟩) h.1).trans (h.2 j n k v hj).2.2⟩⟩
/-- A list of matchers at a slice value. -/
def MsAt (W : World) (sv : Value) (ms : List M3) : Prop := (sv = .slice none 0 0 ∧ ms = []) ∨ ∃ g c, sv = .slice (some ⟨g, 0, none⟩) ms.length c ∧ ms.length ≤ c ∧ MCells W g ms
theorem MsAt.below {A B : World} {sv : Value} {ms : List M3} (h : MsAt A sv ms) (hB : Below A.heap.size A B) : MsAt B sv ms := by
  rcases h with h | ⟨g, c, e, hl, hc⟩
  · exact .inl h
  · exact .inr ⟨g, c, e, hl, hc.below hB⟩
theorem MsAt.slice {W : World} {sv : Value} {ms : List M3} (h : MsAt W sv ms) : ∃ a c, sv = .slice a ms.length c := by
  rcases h with ⟨rfl, rfl⟩ | ⟨g, c, e, -⟩
  · exact ⟨none, 0, rfl⟩
  · exact ⟨_, c, e⟩
theorem MsAt.nil {W : World} : MsAt W (.slice none 0 0) [] := .inl ⟨rfl, rfl⟩
theorem MsAt.get {W : World} {a : Option Addr} {l c : Nat} {ms : List M3} (h : MsAt W (.slice a l c) ms) {j : Nat} {n v : ByteArray} {k : Int} (hj : ms[j]? = some (n, k, v)) :
    ∃ g, a = some ⟨g, 0, none⟩ ∧ g < W.heap.size ∧ W.cell? ⟨g, j * 3, none⟩ = some (.string n) ∧ W.cell? ⟨g, j * 3 + 1, none⟩ = some (.int .i64 k) ∧ W.cell? ⟨g, j * 3 + 2, none⟩ = some (.string v) := by
  rcases h with ⟨-, rfl⟩ | ⟨g, c', e, hl, hg, hc⟩
  · simp at hj
  · simp only [Value.slice.injEq] at e
    obtain ⟨rfl, -, rfl⟩ := e
    exact ⟨g, rfl, hg, hc j n k v hj⟩
theorem MsAt.of_owns {W : World} {base : Nat} {sv : Value} {ms : List M3} (h : W.ownsRow base 24 3 sv ms.length (ms.flatMap cells3)) : MsAt W sv ms := by
  have h0 := h
  rcases h.2 with ⟨rfl, hl⟩ | ⟨g, cap, cur, rfl, hb, hg, hn, hm, hs, ht⟩
  · have hy : ms = [] := List.eq_nil_of_length_eq_zero hl
    subst hy
    exact .nil
  · refine .inr ⟨g, cap, rfl, hn, (Array.getElem?_eq_some_iff.1 hg).1, fun j n k v hj => ?_⟩
    have hj' : j < ms.length := (List.getElem?_eq_some_iff.1 hj).1
    have e0 := h0.cellAt (j * 3) (by omega)
    have e1 := h0.cellAt (j * 3 + 1) (by omega)
    have e2 := h0.cellAt (j * 3 + 2) (by omega)
    rw [show j * 3 = j * 3 + 0 by omega, cells3_flat ms j 0 (by omega), hj] at e0
    rw [cells3_flat ms j 1 (by omega), hj] at e1
    rw [cells3_flat ms j 2 (by omega), hj] at e2
    exact ⟨by simpa [cells3] using e0, by simpa [cells3] using e1, by simpa [cells3] using e2⟩
theorem msAt_new (w : World) (t : TypeId) (n v : ByteArray) (k : Int) : MsAt (w.alloc (.cells #[.string n, .int .i64 k, .string v] t)) (.slice (some ⟨w.heap.size, 0, none⟩) 1 1) [(n, k, v)] := by
  refine .inr ⟨_, _, rfl, Nat.le_refl _, by simp, fun j n' k' v' hj => ?_⟩
  match j, hj with
  | 0, hj =>
    simp at hj
    obtain ⟨rfl, rfl, rfl⟩ := hj
    exact ⟨(World.cell?_alloc_mark w _ _ _ 0).trans rfl, (World.cell?_alloc_mark w _ _ _ 1).trans rfl, (World.cell?_alloc_mark w _ _ _ 2).trans rfl⟩
  | j + 1, hj => simp at hj

/-- Whether a string begins with another; whether a matcher holds for a value; whether all do for a list of labels. -/
def prefB (s p : ByteArray) : Bool := decide (p.size ≤ s.size) && (s.extract 0 p.size).toList == p.toList
def holdsB (k : Int) (mv v : ByteArray) : Bool := if k = 0 then decide (v = mv) else if k = 1 then decide (v ≠ mv) else if k = 2 then prefB v mv else false
def matchB (it : List L2) (ms : List M3) : Bool := ms.all fun m => holdsB m.2.1 m.2.2 (getL it m.1)
theorem matcher_at {ms : List M3} {k : Nat} (h : k < ms.length) : ∃ n q v, ms[k]? = some (n, q, v) := ⟨_, _, _, List.getElem?_eq_getElem h⟩

set_option maxHeartbeats 1000000 in
theorem hasprefix_any (s p : ByteArray) (w : World) : Calls Try.prog 69 #[.string s, .string p] w fun e w' => e = .returned (.bool (prefB s p)) ∧ w = w' := by
  by_cases h : p.size ≤ s.size
  · have HR := Lib.hid (show prefB s p = ((s.extract 0 p.size).toList == p.toList) by unfold prefB; rw [decide_eq_true h]; rfl)
    have h1 : (p.size : Int) ≤ (s.size : Int) := by omega
    go_enter Try.func69, Try.ntmps69
    go_wp2
    go_ret
    exact ⟨ret_bool HR.out.symm, rfl⟩
  · have HR := Lib.hid (show prefB s p = false by unfold prefB; rw [decide_eq_false h]; rfl)
    have h1 : ¬ (p.size : Int) ≤ (s.size : Int) := by omega
    go_enter Try.func69, Try.ntmps69
    go_wp2
    go_ret
    exact ⟨ret_bool HR.out.symm, rfl⟩
end Go.Proofs.Ytmgjbbkccgncgaa
