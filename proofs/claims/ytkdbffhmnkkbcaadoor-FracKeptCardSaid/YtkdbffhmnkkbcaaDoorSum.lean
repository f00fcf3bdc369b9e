/- The contract of package hash's Sum. -/
import Derived.Laws.IdiomStrings
import Derived.Laws.OwnMore
import Derived.Test.YtkdbffhmnkkbcaaDoorIter
namespace Go.Proofs.YtkdbffhmnkkbcaaDoor.W
open Go.RowKit Go.Shelf

attribute [local go_sem] Oper.semAt_some

/-- The integers zs of kind k lie at a slice value, in a block below n₀; or it is nil and there are none. -/
def RowAt (k : IntKind) (n₀ : Nat) (W : World) (sv : Value) (zs : List Int) : Prop :=
  (sv = .slice none 0 0 ∧ zs = []) ∨ ∃ b off cap, sv = .slice (some ⟨b, off, none⟩) zs.length cap ∧ zs.length ≤ cap ∧ b < n₀ ∧ ∀ j, j < zs.length → W.cell? ⟨b, off + j, none⟩ = some (.int k (zs[j]?.getD 0))
theorem RowAt.below {k : IntKind} {n₀ : Nat} {A B : World} (h : Below n₀ A B) {sv : Value} {zs : List Int} : RowAt k n₀ A sv zs → RowAt k n₀ B sv zs
  | .inl e => .inl e
  | .inr ⟨b, off, cap, e, hl, hb, hc⟩ => .inr ⟨b, off, cap, e, hl, hb, fun j hj => (h.cell (p := ⟨b, off + j, none⟩) hb).trans (hc j hj)⟩
theorem RowAt.mono {k : IntKind} {n₀ n₁ : Nat} (h : n₀ ≤ n₁) {W : World} {sv : Value} {zs : List Int} : RowAt k n₀ W sv zs → RowAt k n₁ W sv zs
  | .inl e => .inl e
  | .inr ⟨b, off, cap, e, hl, hb, hc⟩ => .inr ⟨b, off, cap, e, hl, by omega, hc⟩
/-- A row that a call owns reads as its integers. -/
theorem rowAt_of_owns {k : IntKind} {W : World} {base : Nat} {e : TypeId} {v : Value} {n : Nat} {zs : List Int} (h : W.ownsRow base e 1 v n (zs.map (Value.int k))) : RowAt k W.heap.size W v zs := by
  obtain ⟨h1, h2⟩ := h
  have h1' : zs.length = n := by simpa using h1
  have h0 : W.ownsRow base e 1 v n (zs.map (Value.int k)) := ⟨h1, h2⟩
  rcases h2 with ⟨rfl, rfl⟩ | ⟨g, cap, cur, rfl, hb, hg, hn, hm, hs, ht⟩
  · exact .inl ⟨rfl, List.length_eq_zero_iff.1 h1'⟩
  · subst h1'
    refine .inr ⟨g, 0, cap, rfl, hn, (Array.getElem?_eq_some_iff.1 hg).1, fun j hj => ?_⟩
    rw [Nat.zero_add, h0.cellAt j (by omega), List.getElem?_map, List.getElem?_eq_getElem hj]
    rfl
/-- A slice value with its length. -/
theorem RowAt.slice {k : IntKind} {n₀ : Nat} {W : World} {sv : Value} {zs : List Int} (h : RowAt k n₀ W sv zs) : ∃ a cap, sv = .slice a zs.length cap := by
  rcases h with ⟨rfl, rfl⟩ | ⟨b, off, cap, e, _⟩
  · exact ⟨_, _, rfl⟩
  · exact ⟨_, _, e⟩

/-- An element of a row. -/
theorem RowAt.get {k : IntKind} {n₀ : Nat} {W : World} {a : Option Addr} {len cap : Nat} {zs : List Int} (h : RowAt k n₀ W (.slice a len cap) zs) {j : Nat} (hj : j < zs.length) : ∃ b off, a = some ⟨b, off, none⟩ ∧ b < n₀ ∧ W.cell? ⟨b, off + j, none⟩ = some (.int k (zs[j]?.getD 0)) := by
  rcases h with ⟨_, rfl⟩ | ⟨b, off, c', e, _, hb, hc⟩
  · simp at hj
  · have e' : a = some ⟨b, off, none⟩ := by simp at e; exact e.1
    exact ⟨b, off, e', hb, hc j hj⟩

/-- What the conversion of a string to bytes lays. -/
theorem conv_bytes (w : World) (s : ByteArray) : ∃ (cap : Nat) (C : Array Value), s.size ≤ cap ∧ (∀ j, j < s.size → C[j]? = some (.int .u8 ((s.data.toList[j]?.getD 0).toNat : Int))) ∧
    (convert 9 26 (.string s)).run Tryd.prog w = .ok (.slice (some ⟨w.heap.size, 0, none⟩) s.size cap) (w.drew.alloc (.cells C 5 (C.size, C.size + 1))) := by
  refine ⟨_, _, ?_, ?_, run_bytes_of_string (P := Tryd.prog) w 9 26 5 s Tryd.underlying9 Tryd.underlying26 Tryd.underlying5⟩
  ·
    exact grownCap_ge _ _ _ _
  · intro j hj
    simp [bytesRow, Array.getElem?_append, hj]

set_option maxRecDepth 100000 in
set_option maxHeartbeats 2000000 in
theorem sum_in (n : Nat) (hn : 3 ≤ n) (lab : ByteArray) (zs : List Int) (a : Option Addr) (cap : Nat) (w : World) (hlab : lab.size ≤ 140737488351232) (hzs : zs.length ≤ 140737488351232) (hI : RowAt .i64 w.heap.size w (.slice a zs.length cap) zs) :
    CallsIn Fence.wide n Tryd.prog 14 #[.string lab, .slice a zs.length cap] w fun e w' => e = .returned (.int .u64 (sumI lab.data.toList zs)) ∧ Below w.heap.size w w' := by
  have h1 : 1 ≤ n := by omega
  refine callsIn_of_wp_marks Tryd.func14 rfl trivial ?_ rfl
  simp only [Tryd.ntmps14, List.size_toArray, List.length_cons, List.length_nil, Nat.reduceAdd, Nat.reduceSub, Array.replicate_succ, Array.replicate_zero, List.push_toArray, List.append_toArray, List.nil_append, List.cons_append]
  obtain ⟨lc, C, hlc, hC, hcv⟩ := conv_bytes (w.alloc (.cells #[.int .u64 0] 41)) lab
  rw [World.size_alloc] at hcv
  gi_wp2_with (refine ⟨trivial, ?_⟩; gi_at_call 30; refine (wordsOf_in (n - 1) _ _ _ _).mono ?_; rintro e w' ⟨rfl, rfl⟩)
  obtain ⟨W0, hW0⟩ : ∃ W0, (((w.alloc (Obj.cells #[Value.int IntKind.u64 0] 41)).alloc (Obj.cells C 5 (C.size, C.size + 1))).alloc (Obj.cells #[Value.slice (some ⟨w.heap.size + 1, 0, none⟩) lab.size lc] 26)).drew = W0 := ⟨_, rfl⟩
  have hsz : W0.heap.size = w.heap.size + 3 := by rw [← hW0]; simp
  have hB0 : Below w.heap.size w W0 := by rw [← hW0]; exact ((((Below.refl _ w).alloc (Nat.le_refl _) _).alloc (by simp) _).alloc (by simp; omega) _).drew
  have bS : Boxed W0 w.heap.size 41 (.int .u64 0) := by rw [← hW0]; exact ((Boxed.new w _ _).alloc _).alloc _
  have bC : W0.heap[w.heap.size + 1]? = some (Obj.cells C 5 (C.size, C.size + 1)) := by
    rw [← hW0]
    refine (Below.heap_alloc _ _ (w.heap.size + 1) (by simp)).trans ?_
    have := World.alloc_heap_new (w.alloc (Obj.cells #[Value.int IntKind.u64 0] 41)) (Obj.cells C 5 (C.size, C.size + 1))
    rwa [World.size_alloc] at this
  have bB : Boxed W0 (w.heap.size + 2) 26 (Value.slice (some ⟨w.heap.size + 1, 0, none⟩) lab.size lc) := by
    rw [← hW0]
    have := Boxed.new ((w.alloc (Obj.cells #[Value.int IntKind.u64 0] 41)).alloc (Obj.cells C 5 (C.size, C.size + 1))) 26 (Value.slice (some ⟨w.heap.size + 1, 0, none⟩) lab.size lc)
    rwa [World.size_alloc, World.size_alloc] at this
  have hkept : Kept (fun b => b = w.heap.size + 1 ∨ b = w.heap.size + 2) W0 (w.heap.size + 2) (Value.slice (some ⟨w.heap.size + 1, 0, none⟩) lab.size lc) lab.data.toList :=
    ⟨.inr rfl, bB.cell, .inr ⟨_, _, _, rfl, hlc, .inl rfl, fun j hj => by rw [Nat.zero_add]; simp only [World.cell?, bC]; exact hC j hj⟩⟩
  rw [hW0]
  refine wpIn_rangeFunc_ownG rfl h1 (gf := 45) (lb := #[.pointer (some ⟨w.heap.size + 1 + 1, 0, none⟩)]) rfl trivial (enters_of Tryd.func45 (by kernel_rfl) rfl)
    (words_stops (n - 1) (by omega) (w.heap.size + 2) _ _ lab.data.toList hlab W0 (fun b hb => by omega) hkept) KeepsAt.trans (keepsAt_b (fun b hb => by omega)) (Below.refl _ _) (fun _ => rfl)
    (fun pre W => Boxed W w.heap.size 41 (.int .u64 (mixAll pre 0)) ∧ Below w.heap.size w W)
    (fun _ _ _ => False)
    (OwnFrom.and (Own.from (boxed_own _ _ _) _) (ownFrom_below (Nat.le_refl _) (by omega)))
    (fun _ _ _ _ _ hs _ _ => hs)
    ⟨bS, hB0⟩
    (fun x => { tmps := #[Value.string lab, Value.slice a zs.length cap, undef, undef, Value.int IntKind.u64 0, Value.pointer (some ⟨w.heap.size, 0, none⟩), .int .u64 x, undef, undef, Value.string lab, Value.slice (some ⟨w.heap.size + 1, 0, none⟩) lab.size lc, Value.func (Fn.func 45) #[] #[Value.pointer (some ⟨w.heap.size + 1 + 1, 0, none⟩)], .int .u64 x, undef, undef, undef, undef, undef, undef, undef, undef, undef, undef, undef, undef, undef, undef, undef, undef, undef, undef, undef, undef, undef, undef, undef, undef, undef, undef], defers := [] }) ?assign ?body ?done ?stop
  case assign =>
    intro l x W K hK
    gi_wp2
    exact hK
  case body =>
    rintro l pre x W ⟨hb, hB⟩ _
    have hc := hb.cell
    have hf := hb.frozen
    have hd : 1 ≤ n - 1 - 1 := by omega
    gi_wp2_with (refine ⟨trivial, ?_⟩; gi_at_call 31; refine (CallsIn.inRound l (callsIn_wide.2 (mix_any _ _ _))).mono ?_; rintro e w' ⟨rfl, rfl⟩)
    exact ⟨(KeepsOthers.setCell _ _ _).from _, KeepsAt.setCell _ _ _ (by omega), by rw [mixAll_snoc]; exact hb.set _, hB.setCell (p := ⟨w.heap.size, 0, none⟩) (Nat.le_refl _) _⟩
  case done =>
    rintro D ys W hD rfl ⟨hb, hB⟩ hK
    have hc := hb.cell
    have hf := hb.frozen
    rw [hsz] at hD
    clear hW0 hsz bS bC bB hkept hcv hC hlc hB0
    gi_wp2_with (refine ⟨trivial, ?_⟩; gi_at_call 31; refine (callsIn_wide.2 (mix_any _ _ _)).mono ?_; rintro e w' ⟨rfl, rfl⟩)
    obtain ⟨H, hH⟩ : ∃ H, headI lab.data.toList zs.length = H := ⟨_, rfl⟩
    obtain ⟨W2, hW2⟩ : ∃ W2, ((W.setCell ⟨w.heap.size, 0, none⟩ (Value.int IntKind.u64 (mixI (mixAll (wordsL lab.data.toList) 0) (lab.size : Int)))).setCell ⟨w.heap.size, 0, none⟩ (Value.int IntKind.u64 (mixI (mixI (mixAll (wordsL lab.data.toList) 0) (lab.size : Int)) (zs.length : Int)))) = W2 := ⟨_, rfl⟩
    have hb2 : Boxed W2 w.heap.size 41 (.int .u64 H) := by rw [← hW2, ← hH]; exact (hb.set _).set _
    have hB2 : Below w.heap.size w W2 := by rw [← hW2]; exact (hB.setCell (p := ⟨w.heap.size, 0, none⟩) (Nat.le_refl _) _).setCell (p := ⟨w.heap.size, 0, none⟩) (Nat.le_refl _) _
    have hK2 : W2.heap[D]? = some (Obj.deferred (some [])) := by rw [← hW2]; exact ((KeepsOthers.setCell _ _ _).trans (KeepsOthers.setCell _ _ _)).same D _ hK rfl
    rw [hW2]
    have hfin : mixI (mixInts zs H) 0 = sumI lab.data.toList zs := by rw [← hH]; rfl
    have Hfin := Lib.hid hfin
    clear hfin hH hW2 hb hB hK hc hf
    rcases hI with ⟨e, e2⟩ | ⟨b, off, c', e, hl, hbb, hcs⟩
    · subst e2
      gi_loopw [28] (fun i wr => i = .int .i64 0 ∧ Boxed wr w.heap.size 41 (.int .u64 H) ∧ Below w.heap.size w wr ∧ wr.heap[D]? = some (Obj.deferred (some []))) (fun _ _ => 0)
      case atStart => exact ⟨rfl, hb2, hB2, hK2⟩
      case round =>
        obtain ⟨rfl, hb3, hB3, hK3⟩ := hrel
        have hc := hb3.cell
        have hf := hb3.frozen
        gi_wp2_with (refine ⟨trivial, ?_⟩; gi_at_call 31; refine (callsIn_wide.2 (mix_any _ _ _)).mono ?_; rintro e w' ⟨rfl, rfl⟩)
        refine ⟨by simp, .inl ⟨_, _, rfl, run_takeDeferred hK3, ?_⟩⟩
        refine ⟨.int .u64 (mixI H 0), results_tmp (t := 4) rfl _ _ _, ret_u64 Hfin.out, hB3.trans (belowK_b (w := w) (Nat.le_refl _) _ D _ _ (by omega) hK3 rfl rfl)⟩
    · obtain ⟨rfl, -, rfl⟩ : a = some ⟨b, off, none⟩ ∧ zs.length = zs.length ∧ cap = c' := by simpa using e
      clear e
      gi_loopw [28] (fun i wr => ∃ k : Nat, k ≤ zs.length ∧ i = .int .i64 k ∧ Boxed wr w.heap.size 41 (.int .u64 (mixInts (zs.take k) H)) ∧ Below w.heap.size w wr ∧ wr.heap[D]? = some (Obj.deferred (some []))) (fun i _ => zs.length - (intOf i).toNat)
      case atStart => exact ⟨0, Nat.zero_le _, rfl, hb2, hB2, hK2⟩
      case round =>
        obtain ⟨k, hk, rfl, hb3, hB3, hK3⟩ := hrel
        have hc := hb3.cell
        have hf := hb3.frozen
        by_cases hlt : k < zs.length
        · have hcx := (hB3.cell (p := ⟨b, off + k, none⟩) hbb).trans (hcs k hlt)
          gi_wp2_with (refine ⟨trivial, ?_⟩; gi_at_call 31; refine (callsIn_wide.2 (mix_any _ _ _)).mono ?_; rintro e w' ⟨rfl, rfl⟩)
          go_roundw
          case rel => exact ⟨k + 1, by omega, by go_num, by rw [List.take_succ_eq_append_getElem hlt, mixInts_snoc]; exact hb3.set _, hB3.setCell (p := ⟨w.heap.size, 0, none⟩) (Nat.le_refl _) _, (KeepsOthers.setCell _ _ _).same D _ hK3 rfl⟩
          case measure => simp [intOf]; omega
        · obtain rfl : k = zs.length := by omega
          gi_wp2_with (refine ⟨trivial, ?_⟩; gi_at_call 31; refine (callsIn_wide.2 (mix_any _ _ _)).mono ?_; rintro e w' ⟨rfl, rfl⟩)
          refine ⟨by simp, .inl ⟨_, _, rfl, run_takeDeferred hK3, ?_⟩⟩
          refine ⟨.int .u64 (mixI (mixInts zs H) 0), results_tmp (t := 4) rfl _ _ _, ret_u64 Hfin.out, hB3.trans (belowK_b (w := w) (Nat.le_refl _) _ D _ _ (by omega) hK3 rfl rfl)⟩
  case stop =>
    rintro D c pre W _ _ h _
    exact h.elim
end Go.Proofs.YtkdbffhmnkkbcaaDoor.W
