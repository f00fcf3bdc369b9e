/- A reader in memory; contracts of its octet, fail, Uint and Int. Conditions: at most a million bytes. -/
import Derived.Test.YtkdbffhmnkkbcaaDoorWWrite
namespace Go.Proofs.YtkdbffhmnkkbcaaDoor.W
open Go.RowKit
variable {lo : Nat}

/-- The bytes ys lie at a slice value, in a block of P (none of them: anywhere). -/
def SAt (P : Nat → Prop) (W : World) (sv : Value) (ys : List UInt8) : Prop :=
  ∃ a c, sv = .slice a ys.length c ∧ ys.length ≤ c ∧ (a = none → c = 0) ∧ (ys ≠ [] → ∃ g off, a = some ⟨g, off, none⟩ ∧ P g ∧ g < W.heap.size ∧ ∀ j, j < ys.length → W.cell? ⟨g, off + j, none⟩ = some (.int .u8 (ofByte (ys[j]?.getD 0))))
theorem SAt.kp {P : Nat → Prop} {A B : World} {sv : Value} {ys : List UInt8} (h : SAt P A sv ys) (hk : Kp P A B) : SAt P B sv ys := by
  obtain ⟨a, c, e, hl, hn, h1⟩ := h
  refine ⟨a, c, e, hl, hn, fun hy => ?_⟩
  obtain ⟨g, off, ea, hp, hg, hc⟩ := h1 hy
  exact ⟨g, off, ea, hp, Nat.lt_of_lt_of_le hg hk.size, fun j hj => (hk.cell (p := ⟨g, off + j, none⟩) hp hg).trans (hc j hj)⟩
theorem SAt.mono {P Q : Nat → Prop} {W : World} {sv : Value} {ys : List UInt8} (h : SAt P W sv ys) (hq : ∀ k, k < W.heap.size → P k → Q k) : SAt Q W sv ys := by
  obtain ⟨a, c, e, hl, hn, h1⟩ := h
  refine ⟨a, c, e, hl, hn, fun hy => ?_⟩
  obtain ⟨g, off, ea, hp, hg, hc⟩ := h1 hy
  exact ⟨g, off, ea, hq g hg hp, hg, hc⟩
theorem Bs.sat {base : Nat} {W : World} {v : Value} {ys : List UInt8} (h : Bs base W v ys) : SAt (base ≤ ·) W v ys := by
  have h0 : W.ownsRow base 5 1 v ys.length (u8s ys) := h
  rcases h.2 with ⟨rfl, hl⟩ | ⟨g, cap, cur, rfl, hb, hg, hn, _⟩
  · have hy : ys = [] := List.eq_nil_of_length_eq_zero hl
    subst hy
    exact ⟨none, 0, rfl, Nat.le_refl _, fun _ => rfl, fun h => absurd rfl h⟩
  · refine ⟨_, cap, rfl, hn, (fun h => by cases h), fun _ => ⟨g, 0, rfl, hb, heap_lt hg, fun j hj => ?_⟩⟩
    rw [Nat.zero_add, h0.cellAt j (by omega)]
    simp [u8s, hj]

/-- A reader at block b, in a state. -/
def Rd (lo : Nat) (W : World) (b : Nat) (s : St) : Prop :=
  ∃ sv, W.heap[b]? = some (.cells #[sv, .int .i64 (s.e : Int)] 54 (0, 0)) ∧ (∃ a l c, sv = .slice a l c) ∧ (s.e = 0 → SAt (fun k => lo ≤ k ∧ k < b) W sv s.bs)
theorem Rd.kp {P : Nat → Prop} {A B : World} {b : Nat} {s : St} (h : Rd lo A b s) (hk : Kp P A B) (hp : ∀ k, (lo ≤ k ∧ k < b) ∨ k = b → P k) : Rd lo B b s := by
  obtain ⟨sv, hh, hs, h1⟩ := h
  exact ⟨sv, (hk.block b (heap_lt hh) (hp b (.inr rfl))).trans hh, hs, fun e => (h1 e).kp (hk.mono (fun k (h : lo ≤ k ∧ k < b) => hp k (.inl h)))⟩
theorem Rd.lt {W : World} {b : Nat} {s : St} (h : Rd lo W b s) : b < W.heap.size := by
  obtain ⟨sv, hh, -⟩ := h
  exact heap_lt hh
theorem Rd.below {A B : World} {b : Nat} {s : St} (h : Rd lo A b s) (hB : Below A.heap.size A B) : Rd lo B b s := h.kp (P := (· < A.heap.size)) (.of_base hB) (fun k h' => show k < A.heap.size by have := h.lt; omega)

section
variable {W : World} {b : Nat} {x y : Value} {t : TypeId}
theorem cell_0 (h : W.heap[b]? = some (.cells #[x, y] t (0, 0))) : W.cell? ⟨b, 0, none⟩ = some x := by simp [World.cell?, h]
theorem cell_1 (h : W.heap[b]? = some (.cells #[x, y] t (0, 0))) : W.cell? ⟨b, 1, none⟩ = some y := by simp [World.cell?, h]
theorem free_0 (h : W.heap[b]? = some (.cells #[x, y] t (0, 0))) : W.frozen? ⟨b, 0, none⟩ = false := by simp [World.frozen?, h]
theorem free_1 (h : W.heap[b]? = some (.cells #[x, y] t (0, 0))) : W.frozen? ⟨b, 1, none⟩ = false := by simp [World.frozen?, h]
theorem set_0 (h : W.heap[b]? = some (.cells #[x, y] t (0, 0))) (v : Value) : (W.setCell ⟨b, 0, none⟩ v).heap[b]? = some (.cells #[v, y] t (0, 0)) := by
  obtain ⟨hlt, hk⟩ := Array.getElem?_eq_some_iff.1 h
  show (W.heap.modify b _)[b]? = _
  rw [Array.getElem?_eq_getElem (by rw [Array.size_modify]; exact hlt), Array.getElem_modify_self, hk]
  rfl
theorem set_1 (h : W.heap[b]? = some (.cells #[x, y] t (0, 0))) (v : Value) : (W.setCell ⟨b, 1, none⟩ v).heap[b]? = some (.cells #[x, v] t (0, 0)) := by
  obtain ⟨hlt, hk⟩ := Array.getElem?_eq_some_iff.1 h
  show (W.heap.modify b _)[b]? = _
  rw [Array.getElem?_eq_getElem (by rw [Array.size_modify]; exact hlt), Array.getElem_modify_self, hk]
  rfl
end
theorem kp_set {W : World} {b o : Nat} (v : Value) : Kp (· ≠ b) W (W.setCell ⟨b, o, none⟩ v) := (Kp.refl _ W).setCell (p := ⟨b, o, none⟩) (by simp) v

/-- A reader that has moved. -/
theorem rd_moved {w : World} {b : Nat} {sv v : Value} {x : Value} {r : List UInt8} (hh : w.heap[b]? = some (.cells #[x, .int .i64 0] 54 (0, 0))) (hv : v = sv) (hS : SAt (fun k => lo ≤ k ∧ k < b) w sv r) : Rd lo (w.setCell ⟨b, 0, none⟩ v) b ⟨r, 0⟩ ∧ Kp (· ≠ b) w (w.setCell ⟨b, 0, none⟩ v) := by
  subst hv
  have hS0 := hS
  obtain ⟨a, c, e, -⟩ := hS0
  exact ⟨⟨_, set_0 hh _, ⟨a, _, c, e⟩, fun _ => hS.kp ((kp_set _).mono (fun k (h : lo ≤ k ∧ k < b) => Nat.ne_of_lt h.2))⟩, kp_set _⟩
theorem sat_tail {P : Nat → Prop} {w : World} {g off c n : Nat} {x : UInt8} {r : List UInt8} (hn : r.length = n) (hl : n + 1 ≤ c) (hp : P g) (hg : g < w.heap.size) (hcs : ∀ j, j < n + 1 → w.cell? ⟨g, off + j, none⟩ = some (.int .u8 (ofByte ((x :: r)[j]?.getD 0)))) : SAt P w (.slice (some ⟨g, off + 1, none⟩) n (c - 1)) r := by
  refine ⟨_, c - 1, by rw [hn], by omega, (fun h => by cases h), fun _ => ⟨g, off + 1, rfl, hp, hg, fun j hj => ?_⟩⟩
  have := hcs (j + 1) (by omega)
  rw [List.getElem?_cons_succ] at this
  rw [← this]
  congr 2
  omega
theorem sat_nil {P : Nat → Prop} {w : World} {a : Addr} {c : Nat} {r : List UInt8} (hr : r.length = 0) : SAt P w (.slice (some a) 0 c) r := by
  have : r = [] := List.eq_nil_of_length_eq_zero hr
  subst this
  exact ⟨_, c, rfl, Nat.zero_le _, (fun h => by cases h), fun h => absurd rfl h⟩

/-- One byte read. -/
def rO (s : St) : UInt8 × St :=
  if s.e = 0 then
    match s.bs with
    | [] => (0, ⟨[], 3⟩)
    | c :: r => (c, ⟨r, 0⟩)
  else (0, s)

set_option maxHeartbeats 1000000 in
theorem rfail_any (b : Nat) (k : Int) (s : St) (w : World) (hk : 1 ≤ k) (hr : Rd lo w b s) :
    Calls Tryd.prog 41 #[.pointer (some ⟨b, 0, none⟩), .int .i64 k] w fun e w' => e = .returned (.tuple #[]) ∧ Rd lo w' b ⟨[], k.toNat⟩ ∧ Kp (· ≠ b) w w' := by
  obtain ⟨sv, hh, hs, -⟩ := hr
  have hc1 := cell_1 hh
  have hf1 := free_1 hh
  have hset := set_1 hh (.int .i64 k)
  have Hset := Lib.hid hset
  clear hset
  go_enter Tryd.func41, Tryd.ntmps41
  go_wp2
  go_end0
  refine ⟨rfl, ⟨sv, ?_, hs, fun e => ?_⟩, kp_set _⟩
  · rw [Hset.out, Int.toNat_of_nonneg (by omega)]
  · simp only at e; omega

set_option maxRecDepth 100000 in
set_option maxHeartbeats 1000000 in
theorem roctet_any (b : Nat) (s : St) (w : World) (hs : s.bs.length ≤ 1000000) (hr : Rd lo w b s) :
    Calls Tryd.prog 29 #[.pointer (some ⟨b, 0, none⟩)] w fun e w' => e = .returned (.int .u8 (ofByte (rO s).1)) ∧ Rd lo w' b (rO s).2 ∧ Kp (· ≠ b) w w' := by
  obtain ⟨bs, e⟩ := s
  have hr0 := hr
  obtain ⟨sv, hh, ⟨a, l, c, rfl⟩, h1⟩ := hr
  have hc0 := cell_0 hh
  have hc1 := cell_1 hh
  have hf0 := free_0 hh
  have hf1 := free_1 hh
  simp only at hc1 hs h1
  by_cases he : e = 0
  · subst he
    have h2 := h1 rfl
    clear h1
    cases bs with
    | nil =>
      obtain ⟨a', c', e', -⟩ := h2
      simp only [Value.slice.injEq] at e'
      obtain ⟨rfl, rfl, rfl⟩ := e'
      go_enter Tryd.func29, Tryd.ntmps29
      go_wp2_with fail
      refine (rfail_any b 3 _ w (by omega) hr0).mono ?_
      rintro e w1 ⟨rfl, hr1, hk⟩
      go_wp2
      go_ret
      exact ⟨rfl, hr1, hk⟩
    | cons x r =>
      obtain ⟨a', c', e', hl, -, h3⟩ := h2
      simp only [Value.slice.injEq] at e'
      obtain ⟨rfl, rfl, rfl⟩ := e'
      obtain ⟨g, off, rfl, hp, hg, hcs⟩ := h3 (by simp)
      have hcx := hcs 0 (by simp)
      simp only [Nat.add_zero, List.getElem?_cons_zero, Option.getD_some] at hcx
      rw [List.length_cons] at hl hc0 hs hh hcs
      have hrl : (0 : Int) ≤ (r.length : Int) := by omega
      obtain ⟨n, hn⟩ : ∃ n, r.length = n := ⟨_, rfl⟩
      rw [hn] at hl hc0 hs hh hcs hrl
      have Hn := Lib.hid hn
      have Hcs := Lib.hid hcs
      clear hn hcs h3
      go_enter Tryd.func29, Tryd.ntmps29
      go_wp2
      · rename_i h
        go_ret
        have h0 : n = 0 := by omega
        subst h0
        have hm := rd_moved (lo := lo) (v := .slice (some ⟨g, off, none⟩) 0 0) hh rfl (sat_nil Hn.out)
        exact ⟨rfl, hm.1, hm.2⟩
      · go_ret
        have hm := rd_moved (lo := lo) (v := .slice (some ⟨g, off + 1, none⟩) n (c - 1)) hh rfl (sat_tail Hn.out hl hp hg Hcs.out)
        exact ⟨rfl, hm.1, hm.2⟩
  · have hne : ((e : Int) != 0) = true := by simp; omega
    have Hne := Lib.hid he
    clear he
    go_enter Tryd.func29, Tryd.ntmps29
    go_wp2
    go_ret
    have hro : rO ⟨bs, e⟩ = (0, ⟨bs, e⟩) := by simp [rO, Hne.out]
    rw [hro]
    exact ⟨rfl, hr0, Kp.refl _ _⟩
end Go.Proofs.YtkdbffhmnkkbcaaDoor.W
