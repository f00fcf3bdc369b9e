/- The contract of the reference's Vals, as a generator: a few values, each as its method takes it. Conditions: none. -/
import Derived.Deep.RegionLaw
import Derived.Deep.AppendLies
import Derived.Test.YtiebefomhnbemaaVRead
namespace Go.Proofs.Ytiebefomhnbemaa
open Go.RowKit

theorem not_row5 {W : World} {b : Nat} {cs : Array Value} {t e base size n : Nat} {v : Value} {xs : List Value} (h : W.heap[b]? = some (.cells cs t (0, 0))) (hte : t ≠ e) (hr : W.ownsRow base e size v n xs) : some b ≠ v.ownBlock := by
  rcases hr.2 with ⟨rfl, _⟩ | ⟨g, cap, cur, rfl, _, hgb, _⟩
  · simp [Value.ownBlock]
  · intro e'
    obtain rfl : b = g := by simpa [Value.ownBlock] using e'
    have := h.symm.trans hgb
    simp at this
    exact hte this.2
theorem tdiv6 (x : Int) (h : -9223372036854775808 ≤ x ∧ x ≤ 9223372036854775807) : -9223372036854775808 ≤ x.tdiv 6 ∧ x.tdiv 6 ≤ 9223372036854775807 := by
  rcases Int.le_total 0 x with h0 | h0
  · rw [Int.tdiv_eq_ediv_of_nonneg h0]; omega
  · have e : x = -(-x) := by omega
    rw [e, Int.neg_tdiv, Int.tdiv_eq_ediv_of_nonneg (by omega)]
    omega
theorem shr_u64 (x : Int) (n : Nat) : ∃ U : Nat, IntKind.u64.wrap x / 2 ^ n = (U : Int) ∧ U < 18446744073709551616 := by
  have h0 := wrap_u64_lo x
  have h1 := wrap_u64_hi x
  obtain ⟨K, hK, hKl⟩ := shr_nat (IntKind.u64.wrap x) n h0 h1
  exact ⟨K, hK, by omega⟩
theorem shr_i64 (x : Int) (n : Nat) (h : -9223372036854775808 ≤ x ∧ x ≤ 9223372036854775807) : -9223372036854775808 ≤ x / 2 ^ n ∧ x / 2 ^ n ≤ 9223372036854775807 := by
  have hp : (0 : Int) < 2 ^ n := Int.pow_pos (by omega)
  have hp1 : (1 : Int) ≤ 2 ^ n := by omega
  constructor
  · refine (Int.le_ediv_iff_mul_le hp).2 ?_
    have := Int.mul_le_mul_of_nonneg_left hp1 (show (0 : Int) ≤ 9223372036854775808 by omega)
    omega
  · rcases Int.le_total 0 x with h0 | h0
    · have := Int.ediv_le_self (2 ^ n) h0
      omega
    · have := Int.ediv_nonpos_of_nonpos_of_neg h0 hp
      omega
theorem tmp_at (w : World) (o : Obj) (B : Nat) (h : w.heap.size = B) : (w.alloc o).heap[B]? = some o := by subst h; exact World.alloc_heap_new w o
theorem some_byte (z : Int) : ∃ y : UInt8, IntKind.u8.wrap z = ofByte y := by
  refine ⟨UInt8.ofNat (z % 256).toNat, ?_⟩
  have h : IntKind.u8.wrap z = z % 256 := by unfold IntKind.wrap; simp [IntKind.bits, IntKind.signed]
  rw [h, ofByte_ofNat _ (by omega)]
  omega
theorem set5_3 {W : World} {b : Nat} {c0 c1 c2 c3 c4 : Value} {t : TypeId} (h : W.heap[b]? = some (.cells #[c0, c1, c2, c3, c4] t (0, 0))) (v : Value) : (W.setCell ⟨b, 3, none⟩ v).heap[b]? = some (.cells #[c0, c1, c2, v, c4] t (0, 0)) := by
  obtain ⟨hlt, hk⟩ := Array.getElem?_eq_some_iff.1 h
  show (W.heap.modify b _)[b]? = _
  rw [Array.getElem?_eq_getElem (by rw [Array.size_modify]; exact hlt), Array.getElem_modify_self, hk]
  rfl
theorem set5_4 {W : World} {b : Nat} {c0 c1 c2 c3 c4 : Value} {t : TypeId} (h : W.heap[b]? = some (.cells #[c0, c1, c2, c3, c4] t (0, 0))) (v : Value) : (W.setCell ⟨b, 4, none⟩ v).heap[b]? = some (.cells #[c0, c1, c2, c3, v] t (0, 0)) := by
  obtain ⟨hlt, hk⟩ := Array.getElem?_eq_some_iff.1 h
  show (W.heap.modify b _)[b]? = _
  rw [Array.getElem?_eq_getElem (by rw [Array.size_modify]; exact hlt), Array.getElem_modify_self, hk]
  rfl
theorem owns_set {W : World} {base e size n b o : Nat} {v x : Value} {xs : List Value} (h : W.ownsRow base e size v n xs) (hb : some b ≠ v.ownBlock) : (W.setCell ⟨b, o, none⟩ x).ownsRow base e size v n xs := by
  obtain ⟨h1, h2⟩ := h
  refine ⟨h1, ?_⟩
  rcases h2 with h2 | ⟨g, cap, cur, rfl, hg, hh, rest⟩
  · exact .inl h2
  · refine .inr ⟨g, cap, cur, rfl, hg, ?_, rest⟩
    exact (Below.heap_setCell W ⟨b, o, none⟩ x g (fun e => hb (by simp [Value.ownBlock, e]))).trans hh
/-- A round that has appended to a struct's slice. -/
theorem grown_field {wo wr w4 : World} {o b e j : Nat} {sb v' x : Value} {tmp : Obj} {xs ys : List Value} {cs : Array Value} (hBl : Below wo.heap.size wo wr) (hown : wr.ownsRow wo.heap.size e 1 sb j xs) (hgrow : (wr.alloc tmp).drew.grownBy w4 sb.ownBlock)
    (hown4 : w4.ownsRow wo.heap.size e 1 v' (j + 1) ys) (hb : wo.heap.size ≤ b) (y7 : w4.heap[b]? = some (.cells cs 28 (0, 0))) (hte : 28 ≠ e) :
    (w4.setCell ⟨b, o, none⟩ x).ownsRow wo.heap.size e 1 v' (j + 1) ys ∧ Below wo.heap.size wo (w4.setCell ⟨b, o, none⟩ x) :=
  ⟨owns_set hown4 (not_row5 y7 hte hown4), cset (((hBl.alloc hBl.size tmp).drew).grown hgrow (by have := hBl.size; show wo.heap.size ≤ ((wr.alloc tmp).drew).heap.size; simp; omega) (fun j hj => (hown.lt j hj).1)) b o hb x⟩
theorem int_snoc {l : List Int} {y : Int} (h : ∀ z ∈ l, -9223372036854775808 ≤ z ∧ z ≤ 9223372036854775807) (hy : -9223372036854775808 ≤ y ∧ y ≤ 9223372036854775807) : ∀ z ∈ l ++ [y], -9223372036854775808 ≤ z ∧ z ≤ 9223372036854775807 := by
  intro z hz
  rcases List.mem_append.1 hz with h1 | h1
  · exact h z h1
  · simp only [List.mem_singleton] at h1; rw [h1]; exact hy
/-- What a loop gathers: a list of its own, its slices in other blocks. -/
def Gen (base : Nat) (W : World) (v : Value) (it : List VT) : Prop :=
  W.ownsRow base 28 5 v it.length (it.flatMap cells5) ∧ ∀ t ∈ it, VP (fun k => base ≤ k ∧ some k ≠ v.ownBlock) W t
theorem Gen.push {base : Nat} {W wl w1 : World} {v v' : Value} {t : VT} {it : List VT} {tmp : Obj} (hG : Gen base W v it) (hbase : base ≤ W.heap.size) (hB : Below W.heap.size W wl) (ht : VP (W.heap.size ≤ ·) wl t)
    (hown' : w1.ownsRow base 28 5 v' (it.length + 1) (it.flatMap cells5 ++ cells5 t)) (hgrow : (wl.alloc tmp).grownBy w1 v.ownBlock) (hat : v'.ownBlock = v.ownBlock ∨ v'.ownBlock = some (wl.alloc tmp).heap.size) :
    Gen base w1 v' (it ++ [t]) ∧ Below base W w1 := by
  obtain ⟨h1, h2⟩ := hG
  have hk : Kp (fun k => some k ≠ v.ownBlock) wl w1 := by
    refine (Kp.of_below ((Below.refl _ wl).alloc (Nat.le_refl _) tmp)).trans ⟨hgrow.os, hgrow.tape, hgrow.output, hgrow.size, fun k hk hp => hgrow.block k hk hp⟩
  have hnew : ∀ k, k < wl.heap.size → some k ≠ v.ownBlock → some k ≠ v'.ownBlock := by
    intro k hk hne e
    rcases hat with h | h
    · exact hne (e.trans h)
    · rw [h] at e
      simp at e
      omega
  have hrow := fun j hj => h1.lt j hj
  refine ⟨⟨?_, fun s hs => ?_⟩, ?_⟩
  · rw [List.length_append, List.length_singleton, List.flatMap_append, List.flatMap_singleton]
    exact hown'
  · rcases List.mem_append.1 hs with h | h
    · have h3 := (h2 s h).below hB
      exact ((h3.mono (Q := fun k => some k ≠ v.ownBlock ∧ base ≤ k ∧ some k ≠ v'.ownBlock) (fun k hk hp => ⟨hp.2, hp.1, hnew k hk hp.2⟩)).kp (hk.mono (fun k h => h.1))).mono (fun k _ h => h.2)
    · simp only [List.mem_singleton] at h
      subst h
      have hne : ∀ k, W.heap.size ≤ k → some k ≠ v.ownBlock := fun k hk e => by have := hrow k e.symm; omega
      exact ((ht.mono (Q := fun k => some k ≠ v.ownBlock ∧ base ≤ k ∧ some k ≠ v'.ownBlock) (fun k hkl hp => ⟨hne k hp, by have h' : W.heap.size ≤ k := hp; omega, hnew k hkl (hne k hp)⟩)).kp (hk.mono (fun k h => h.1))).mono (fun k _ h => h.2)
  · exact (hB.mono hbase).trans (((Below.refl base wl).alloc (by have := hB.size; omega) tmp).grown hgrow (by simp; have := hB.size; omega) (fun j hj => (hrow j hj).1))
/-- A value as Vals makes it. -/
def Fine (t : VT) : Prop := Canon t.1 ∧ t.1.b.length ≤ 10 ∧ t.1.l.length ≤ 5
/-- What Vals returns. -/
def Made (w : World) (e : Ending) (w' : World) : Prop := ∃ v it, e = .returned v ∧ Gen w.heap.size w' v it ∧ (∀ t ∈ it, Fine t) ∧ it.length ≤ 8 ∧ Below w.heap.size w w'
theorem fine_snoc {it : List VT} {t : VT} (h : ∀ s ∈ it, Fine s) (ht : Fine t) : ∀ s ∈ it ++ [t], Fine s := by
  intro s hs
  rcases List.mem_append.1 hs with h1 | h1
  · exact h s h1
  · simp only [List.mem_singleton] at h1; rw [h1]; exact ht
theorem fine0 (U : Nat) (h : U < 18446744073709551616) (a c : Value) : Fine ((⟨0, U, 0, [], []⟩ : V), a, c) := ⟨⟨by simp, h, by simp, by simp, by simp, by simp, by simp, by simp, by simp, by simp, by simp⟩, by simp, by simp⟩
theorem fine1 (y : Int) (h : -9223372036854775808 ≤ y ∧ y ≤ 9223372036854775807) (a c : Value) : Fine ((⟨1, 0, y, [], []⟩ : V), a, c) := ⟨⟨by simp, by simp, h, by simp, by simp, by simp, by simp, by simp, by simp, by simp, by simp⟩, by simp, by simp⟩
theorem fine2 (y : Int) (h : y = 0 ∨ y = 1) (a c : Value) : Fine ((⟨2, 0, y, [], []⟩ : V), a, c) := ⟨⟨by simp, by simp, by rcases h with rfl | rfl <;> simp, by simp, by simp, by simp, fun _ => h, by simp, by simp, by simp, by simp⟩, by simp, by simp⟩
theorem fine34 (k : Int) (hk : k = 3 ∨ k = 4) (ys : List UInt8) (h : ys.length ≤ 10) (a c : Value) : Fine ((⟨k, 0, 0, ys, []⟩ : V), a, c) := by
  refine ⟨⟨⟨by simp only; omega, by simp only; omega⟩, by simp, by simp, by simp, by simp, by simp, fun h2 => ?_, ?_, by simp, by simp only; omega, by simp⟩, h, by simp⟩
  · simp only at h2; omega
  · simp only; intro h3 h4; omega
theorem fine5 (l : List Int) (h : l.length ≤ 5) (hl : ∀ z ∈ l, -9223372036854775808 ≤ z ∧ z ≤ 9223372036854775807) (a c : Value) : Fine ((⟨5, 0, 0, [], l⟩ : V), a, c) := by
  refine ⟨⟨by simp, by simp, by simp, hl, by simp, by simp, by simp, by simp, by simp, by simp, by simp only; omega⟩, by simp, h⟩

set_option maxRecDepth 100000 in
set_option maxHeartbeats 8000000 in
theorem vals_some (b off cap : Nat) (zs : List Int) (w : World) (_hz : zs.length ≤ 140737488351232) (hzi : ∀ z ∈ zs, (Lit.int .i64 z).wf = true) (hb : b < w.heap.size) (hc : ∀ j, j < zs.length → w.cell? ⟨b, off + j, none⟩ = some (.int .i64 (zs[j]?.getD 0))) :
    Calls Try.prog 11 #[.slice (some ⟨b, off, none⟩) zs.length cap] w (Made w) := by
  obtain ⟨i0, hi, hz0, hz1, hz2⟩ := info_parts Try.infoVal
  obtain ⟨iu, hiu, hu0, hu1, hu2⟩ := info_parts Try.infoU8
  obtain ⟨ii, hii, hi0, hi1, hi2⟩ := info_parts Try.infoInt
  have Hc := Lib.hid hc
  have Hzi := Lib.hid hzi
  clear hc hzi
  go_enter Try.func11, Try.ntmps11
  go_wp2
  go_loopw [3, 4] (fun v i wr => ∃ (k : Nat) (it : List VT), k ≤ zs.length ∧ k ≤ 8 ∧ i = .int .i64 k ∧ it.length = k ∧ Gen w.heap.size wr v it ∧ (∀ t ∈ it, Fine t) ∧ Below w.heap.size w wr) (fun _ i _ => 8 - (intOf i).toNat)
  case atStart => exact ⟨0, [], Nat.zero_le _, by omega, rfl, rfl, ⟨World.ownsRow_nil _ _ _ _, by simp⟩, by simp, Below.refl _ _⟩
  case round =>
    obtain ⟨k, it, hk, hk8, rfl, hil, hG, hF, hB⟩ := hrel
    have Hil := Lib.hid hil
    have HF := Lib.hid hF
    clear hil hF
    by_cases hlt : k < zs.length ∧ k < 8
    · obtain ⟨hl1, hl2⟩ := hlt
      have hx := in_of_i64 (Hzi.out zs[k] (List.getElem_mem hl1))
      have hcx := (hB.cell (p := ⟨b, off + k, none⟩) hb).trans (Hc.out k hl1)
      rw [List.getElem?_eq_getElem hl1] at hcx
      simp only [Option.getD_some] at hcx
      obtain ⟨x, hxe⟩ : ∃ x, zs[k] = x := ⟨_, rfl⟩
      rw [hxe] at hx hcx
      have Hxe := Lib.hid hxe
      clear hxe
      have hx6 := tdiv6 x hx
      go_wp2_with fail
      refine (around_any x 6 wr hx.1 hx.2 (by omega) (by omega)).mono ?_
      rintro e w' ⟨rfl, rfl⟩
      have hk0 := aroundI_lo x 6 (by omega)
      have hk6 := aroundI_hi x 6 (by omega)
      obtain ⟨kd, hkd⟩ : ∃ kd, aroundI x 6 = kd := ⟨_, rfl⟩
      rw [hkd] at hk0 hk6 ⊢
      clear hkd
      go_wp2_with fail
      refine (around_any (x.tdiv 6) 63 wr hx6.1 hx6.2 (by omega) (by omega)).mono ?_
      rintro e w' ⟨rfl, rfl⟩
      have hn0 := aroundI_lo (x.tdiv 6) 63 (by omega)
      have hn6 := aroundI_hi (x.tdiv 6) 63 (by omega)
      obtain ⟨n, hn⟩ := Int.eq_ofNat_of_zero_le hn0
      rw [hn] at hn6 ⊢
      clear hn hn0 hx6
      have hkc : kd = 0 ∨ kd = 1 ∨ kd = 2 ∨ kd = 3 ∨ kd = 4 ∨ kd = 5 := by omega
      have hrow := hG.1
      have hGs := hB.size
      have hile : it.length ≤ 8 := by have := Hil.out; omega
      rcases hkc with rfl | rfl | rfl | rfl | rfl | rfl
      · obtain ⟨U, hU, hUlt⟩ := shr_u64 x n
        have hal : Below wr.heap.size wr (wr.alloc (.cells #[.int .i64 0, .int .u64 (U : Int), .int .i64 0, .slice none 0 0, .slice none 0 0] 28)) := (Below.refl wr.heap.size wr).alloc (Nat.le_refl _) _
        have hrl := owns_kp hrow (Kp.of_below (P := fun _ => True) hal) (fun _ _ _ => trivial)
        have hcx2 := (((Below.refl wr.heap.size wr).alloc (Nat.le_refl _) (.cells #[.int .i64 0, .int .u64 0, .int .i64 0, .slice none 0 0, .slice none 0 0] 28)).cell (p := ⟨b, off + k, none⟩) (by show b < wr.heap.size; omega)).trans hcx
        clear hcx
        go_wp2_with (at_builtin; refine wpList_append_own_at _ rfl _ _ 25 rfl w.heap.size 28 i0 (.agg #[.int .i64 0, .int .u64 0, .int .i64 0, .slice none 0 0, .slice none 0 0]) 5 72 Try.underlying25 hi hz0 hz1 hz2 rfl (by decide) _ _ _ rfl (hrl.alloc _) ⟨_, 0, none⟩ 1 1 [.int .i64 0, .int .u64 (U : Int), .int .i64 0, .slice none 0 0, .slice none 0 0] rfl rfl (World.news_of_block (cs := #[.int .i64 0, .int .u64 (U : Int), .int .i64 0, .slice none 0 0, .slice none 0 0]) (tmp_at _ _ _ (by first | rfl | simp))) (by simp [Value.oneCell']) (by unfold maxLen; omega) (by omega) (by first | omega | (simp; omega)) ?_; intro v' w1 hown' hgrow hnn hat; clear hnn)
        have hp := Gen.push (t := ((⟨0, U, 0, [], []⟩ : V), .slice none 0 0, .slice none 0 0)) hG hGs hal ⟨.nil, .nil⟩ hown' hgrow hat
        have hf : Fine ((⟨0, U, 0, [], []⟩ : V), .slice none 0 0, .slice none 0 0) := fine0 U hUlt _ _
        have HF2 := fine_snoc HF.out hf
        have Hil2 : it.length + 1 = k + 1 := by rw [Hil.out]
        go_roundw
        case rel => exact ⟨k + 1, it ++ [((⟨0, U, 0, [], []⟩ : V), .slice none 0 0, .slice none 0 0)], by omega, by omega, by go_num, by rw [List.length_append, ← Hil2]; rfl, hp.1, HF2, hB.trans hp.2⟩
        case measure => simp [intOf]; omega
      · have hsh := shr_i64 x n hx
        obtain ⟨y, hy⟩ : ∃ y, x / 2 ^ n = y := ⟨_, rfl⟩
        rw [hy] at hsh
        have hal : Below wr.heap.size wr (wr.alloc (.cells #[.int .i64 1, .int .u64 0, .int .i64 y, .slice none 0 0, .slice none 0 0] 28)) := (Below.refl wr.heap.size wr).alloc (Nat.le_refl _) _
        have hrl := owns_kp hrow (Kp.of_below (P := fun _ => True) hal) (fun _ _ _ => trivial)
        have hcx2 := (((Below.refl wr.heap.size wr).alloc (Nat.le_refl _) (.cells #[.int .i64 1, .int .u64 0, .int .i64 0, .slice none 0 0, .slice none 0 0] 28)).cell (p := ⟨b, off + k, none⟩) (by show b < wr.heap.size; omega)).trans hcx
        clear hcx
        go_wp2_with (at_builtin; refine wpList_append_own_at _ rfl _ _ 25 rfl w.heap.size 28 i0 (.agg #[.int .i64 0, .int .u64 0, .int .i64 0, .slice none 0 0, .slice none 0 0]) 5 72 Try.underlying25 hi hz0 hz1 hz2 rfl (by decide) _ _ _ rfl (hrl.alloc _) ⟨_, 0, none⟩ 1 1 [.int .i64 1, .int .u64 0, .int .i64 y, .slice none 0 0, .slice none 0 0] rfl rfl (World.news_of_block (cs := #[.int .i64 1, .int .u64 0, .int .i64 y, .slice none 0 0, .slice none 0 0]) (tmp_at _ _ _ (by first | rfl | simp))) (by simp [Value.oneCell']) (by unfold maxLen; omega) (by omega) (by first | omega | (simp; omega)) ?_; intro v' w1 hown' hgrow hnn hat; clear hnn)
        have hp := Gen.push (t := ((⟨1, 0, y, [], []⟩ : V), .slice none 0 0, .slice none 0 0)) hG hGs hal ⟨.nil, .nil⟩ hown' hgrow hat
        have hf : Fine ((⟨1, 0, y, [], []⟩ : V), .slice none 0 0, .slice none 0 0) := fine1 y hsh _ _
        have HF2 := fine_snoc HF.out hf
        have Hil2 : it.length + 1 = k + 1 := by rw [Hil.out]
        go_roundw
        case rel => exact ⟨k + 1, it ++ [((⟨1, 0, y, [], []⟩ : V), .slice none 0 0, .slice none 0 0)], by omega, by omega, by go_num, by rw [List.length_append, ← Hil2]; rfl, hp.1, HF2, hB.trans hp.2⟩
        case measure => simp [intOf]; omega
      · have hy2 : (n : Int) % 2 = 0 ∨ (n : Int) % 2 = 1 := by omega
        obtain ⟨y, hy⟩ : ∃ y, (n : Int) % 2 = y := ⟨_, rfl⟩
        rw [hy] at hy2
        have hal : Below wr.heap.size wr (wr.alloc (.cells #[.int .i64 2, .int .u64 0, .int .i64 y, .slice none 0 0, .slice none 0 0] 28)) := (Below.refl wr.heap.size wr).alloc (Nat.le_refl _) _
        have hrl := owns_kp hrow (Kp.of_below (P := fun _ => True) hal) (fun _ _ _ => trivial)
        clear hcx
        go_wp2_with (at_builtin; refine wpList_append_own_at _ rfl _ _ 25 rfl w.heap.size 28 i0 (.agg #[.int .i64 0, .int .u64 0, .int .i64 0, .slice none 0 0, .slice none 0 0]) 5 72 Try.underlying25 hi hz0 hz1 hz2 rfl (by decide) _ _ _ rfl (hrl.alloc _) ⟨_, 0, none⟩ 1 1 [.int .i64 2, .int .u64 0, .int .i64 y, .slice none 0 0, .slice none 0 0] rfl rfl (World.news_of_block (cs := #[.int .i64 2, .int .u64 0, .int .i64 y, .slice none 0 0, .slice none 0 0]) (tmp_at _ _ _ (by first | rfl | simp))) (by simp [Value.oneCell']) (by unfold maxLen; omega) (by omega) (by first | omega | (simp; omega)) ?_; intro v' w1 hown' hgrow hnn hat; clear hnn)
        have hp := Gen.push (t := ((⟨2, 0, y, [], []⟩ : V), .slice none 0 0, .slice none 0 0)) hG hGs hal ⟨.nil, .nil⟩ hown' hgrow hat
        have hf : Fine ((⟨2, 0, y, [], []⟩ : V), .slice none 0 0, .slice none 0 0) := fine2 y hy2 _ _
        have HF2 := fine_snoc HF.out hf
        have Hil2 : it.length + 1 = k + 1 := by rw [Hil.out]
        go_roundw
        case rel => exact ⟨k + 1, it ++ [((⟨2, 0, y, [], []⟩ : V), .slice none 0 0, .slice none 0 0)], by omega, by omega, by go_num, by rw [List.length_append, ← Hil2]; rfl, hp.1, HF2, hB.trans hp.2⟩
        case measure => simp [intOf]; omega
      · obtain ⟨wo, rfl⟩ : ∃ wo : World, wo = wr := ⟨_, rfl⟩
        have z7 := World.alloc_heap_new wo (.cells #[.int .i64 3, .int .u64 0, .int .i64 0, .slice none 0 0, .slice none 0 0] 28)
        have hal := (Below.refl wo.heap.size wo).alloc (Nat.le_refl _) (.cells #[.int .i64 3, .int .u64 0, .int .i64 0, .slice none 0 0, .slice none 0 0] 28)
        have Z7 := Lib.hid z7
        clear z7
        go_wp2_with fail
        go_loopw [8] (fun jv wl => ∃ (j : Nat) (ys : List UInt8) (sb : Value), jv = .int .i64 j ∧ j ≤ 10 ∧ ys.length = j ∧ wl.heap[wo.heap.size]? = some (.cells #[.int .i64 3, .int .u64 0, .int .i64 0, sb, .slice none 0 0] 28 (0, 0)) ∧ Bs wo.heap.size wl sb ys ∧ Below wo.heap.size wo wl) (fun jv _ => 10 - (intOf jv).toNat)
        case atStart => exact ⟨0, [], _, rfl, by omega, rfl, Z7.out, World.ownsRow_nil _ _ _ _, hal⟩
        case round =>
          obtain ⟨j, ys, sb, rfl, hj, hyl, x7, hbs, hBl⟩ := hrel
          obtain ⟨⟨q0, q1, q2, q3, q4⟩, g0, g1, g2, g3, g4⟩ := five x7
          have hcx2 := (hBl.cell (p := ⟨b, off + k, none⟩) (by show b < wo.heap.size; omega)).trans hcx
          obtain ⟨y, hy⟩ := some_byte (x / 2 ^ min (IntKind.u64.wrap (j : Int)).toNat 64)
          have Hy := Lib.hid hy
          clear hy
          have hws : wo.heap.size < wr.heap.size := heap_lt x7
          by_cases hjm : (j : Int) < (n : Int) % 10
          · have hj10 : j < 10 := by omega
            have hj0 : (0 : Int) ≤ (j : Int) := by omega
            have Hyl := Lib.hid hyl
            have X7 := Lib.hid x7
            have hown : wr.ownsRow wo.heap.size 5 1 sb j (u8s ys) := by rw [← hyl]; exact hbs
            have hnr := not_row5 x7 (by decide) hown
            have Hnr := Lib.hid hnr
            clear hyl x7 hcx hal hnr
            go_wp2_with fail
            go_region_law ((refine step_append_lies _ (by rfl) _ _ _ (by rfl) wo.heap.size 5 iu (.int .u8 0) 1 1 Try.underlying24 hiu hu0 hu1 hu2 rfl (by decide) sb j (u8s ys) (by rfl) ((hown.alloc _).drew) ⟨wr.heap.size, 0, none⟩ 1 1 [.int .u8 (IntKind.u8.wrap (x / 2 ^ min (IntKind.u64.wrap (j : Int)).toNat 64))] (by rfl) (by rfl) (World.news_of_block (cs := #[.int .u8 (IntKind.u8.wrap (x / 2 ^ min (IntKind.u64.wrap (j : Int)).toNat 64))]) (t := 5) (fr := (0, 0)) (World.alloc_heap_new wr _)) (by simp [Value.oneCell']) (by omega) (by unfold maxLen; omega) (by omega) (by simp; omega) (wr.heap.size + 1) (by simp) ?_; intro g cap2 w4 hown4 hgrow hat hlt4; have y7 := (hgrow.block wo.heap.size (by simp; omega) Hnr.out).trans ((Below.heap_alloc wr _ _ hws).trans X7.out); have c43 : w4.cell? ⟨wo.heap.size, 3, none⟩ = some sb := cell_at y7 3 rfl; have f43 := free_at y7 3))
            all_goals
              rw [Hy.out] at hown4
              have hfin := grown_field (o := 3) (x := .slice (some ⟨g, 0, none⟩) (j + 1) cap2) hBl hown hgrow hown4 (Nat.le_refl _) y7 (by decide)
              have hset := set5_3 y7 (.slice (some ⟨g, 0, none⟩) (j + 1) cap2)
              clear hgrow hown4 y7 c43 f43 hown hat hlt4
              go_wp2
              go_roundw
              case rel => exact ⟨j + 1, ys ++ [y], _, by go_num, by omega, by rw [List.length_append, Hyl.out]; rfl, hset, by unfold Bs; rw [List.length_append, Hyl.out, u8s_append]; exact hfin.1, hfin.2⟩
              case measure => simp [intOf]; omega
          · subst hyl
            have hrl := owns_kp hrow (Kp.of_below (P := fun _ => True) hBl) (fun _ _ _ => trivial)
            obtain ⟨a5, c5, rfl⟩ := hbs.slice
            have hBs := hBl.size
            clear hal hcx hcx2 x7
            go_wp2_with (at_builtin; refine wpList_append_own_at _ rfl _ _ 25 rfl w.heap.size 28 i0 (.agg #[.int .i64 0, .int .u64 0, .int .i64 0, .slice none 0 0, .slice none 0 0]) 5 72 Try.underlying25 hi hz0 hz1 hz2 rfl (by decide) _ _ _ rfl (hrl.alloc _) ⟨_, 0, none⟩ 1 1 [.int .i64 3, .int .u64 0, .int .i64 0, .slice a5 ys.length c5, .slice none 0 0] rfl rfl (World.news_of_block (cs := #[.int .i64 3, .int .u64 0, .int .i64 0, .slice a5 ys.length c5, .slice none 0 0]) (tmp_at _ _ _ (by first | rfl | simp))) (by simp [Value.oneCell']) (by unfold maxLen; omega) (by omega) (by first | omega | (simp; omega)) ?_; intro v' w1 hown' hgrow hnn hat; clear hnn)
            have hp := Gen.push (t := ((⟨3, 0, 0, ys, []⟩ : V), .slice a5 ys.length c5, .slice none 0 0)) hG hGs hBl ⟨hbs.sat, .nil⟩ hown' hgrow hat
            have hf : Fine ((⟨3, 0, 0, ys, []⟩ : V), .slice a5 ys.length c5, .slice none 0 0) := fine34 3 (by omega) ys (by omega) _ _
            have HF2 := fine_snoc HF.out hf
            have Hil2 : it.length + 1 = k + 1 := by rw [Hil.out]
            go_roundw
            case rel => exact ⟨k + 1, it ++ [((⟨3, 0, 0, ys, []⟩ : V), .slice a5 ys.length c5, .slice none 0 0)], by omega, by omega, by go_num, by rw [List.length_append, ← Hil2]; rfl, hp.1, HF2, hB.trans hp.2⟩
            case measure => simp [intOf]; omega
      · obtain ⟨wo, rfl⟩ : ∃ wo : World, wo = wr := ⟨_, rfl⟩
        have z7 := World.alloc_heap_new wo (.cells #[.int .i64 4, .int .u64 0, .int .i64 0, .slice none 0 0, .slice none 0 0] 28)
        have hal := (Below.refl wo.heap.size wo).alloc (Nat.le_refl _) (.cells #[.int .i64 4, .int .u64 0, .int .i64 0, .slice none 0 0, .slice none 0 0] 28)
        have Z7 := Lib.hid z7
        clear z7
        go_wp2_with fail
        go_loopw [8] (fun jv wl => ∃ (j : Nat) (ys : List UInt8) (sb : Value), jv = .int .i64 j ∧ j ≤ 10 ∧ ys.length = j ∧ wl.heap[wo.heap.size]? = some (.cells #[.int .i64 4, .int .u64 0, .int .i64 0, sb, .slice none 0 0] 28 (0, 0)) ∧ Bs wo.heap.size wl sb ys ∧ Below wo.heap.size wo wl) (fun jv _ => 10 - (intOf jv).toNat)
        case atStart => exact ⟨0, [], _, rfl, by omega, rfl, Z7.out, World.ownsRow_nil _ _ _ _, hal⟩
        case round =>
          obtain ⟨j, ys, sb, rfl, hj, hyl, x7, hbs, hBl⟩ := hrel
          obtain ⟨⟨q0, q1, q2, q3, q4⟩, g0, g1, g2, g3, g4⟩ := five x7
          have hcx2 := (hBl.cell (p := ⟨b, off + k, none⟩) (by show b < wo.heap.size; omega)).trans hcx
          obtain ⟨y, hy⟩ := some_byte (x / 2 ^ min (IntKind.u64.wrap (j : Int)).toNat 64)
          have Hy := Lib.hid hy
          clear hy
          have hws : wo.heap.size < wr.heap.size := heap_lt x7
          by_cases hjm : (j : Int) < (n : Int) % 10
          · have hj10 : j < 10 := by omega
            have hj0 : (0 : Int) ≤ (j : Int) := by omega
            have Hyl := Lib.hid hyl
            have X7 := Lib.hid x7
            have hown : wr.ownsRow wo.heap.size 5 1 sb j (u8s ys) := by rw [← hyl]; exact hbs
            have hnr := not_row5 x7 (by decide) hown
            have Hnr := Lib.hid hnr
            clear hyl x7 hcx hal hnr
            go_wp2_with fail
            go_region_law ((refine step_append_lies _ (by rfl) _ _ _ (by rfl) wo.heap.size 5 iu (.int .u8 0) 1 1 Try.underlying24 hiu hu0 hu1 hu2 rfl (by decide) sb j (u8s ys) (by rfl) ((hown.alloc _).drew) ⟨wr.heap.size, 0, none⟩ 1 1 [.int .u8 (IntKind.u8.wrap (x / 2 ^ min (IntKind.u64.wrap (j : Int)).toNat 64))] (by rfl) (by rfl) (World.news_of_block (cs := #[.int .u8 (IntKind.u8.wrap (x / 2 ^ min (IntKind.u64.wrap (j : Int)).toNat 64))]) (t := 5) (fr := (0, 0)) (World.alloc_heap_new wr _)) (by simp [Value.oneCell']) (by omega) (by unfold maxLen; omega) (by omega) (by simp; omega) (wr.heap.size + 1) (by simp) ?_; intro g cap2 w4 hown4 hgrow hat hlt4; have y7 := (hgrow.block wo.heap.size (by simp; omega) Hnr.out).trans ((Below.heap_alloc wr _ _ hws).trans X7.out); have c43 : w4.cell? ⟨wo.heap.size, 3, none⟩ = some sb := cell_at y7 3 rfl; have f43 := free_at y7 3))
            all_goals
              rw [Hy.out] at hown4
              have hfin := grown_field (o := 3) (x := .slice (some ⟨g, 0, none⟩) (j + 1) cap2) hBl hown hgrow hown4 (Nat.le_refl _) y7 (by decide)
              have hset := set5_3 y7 (.slice (some ⟨g, 0, none⟩) (j + 1) cap2)
              clear hgrow hown4 y7 c43 f43 hown hat hlt4
              go_wp2
              go_roundw
              case rel => exact ⟨j + 1, ys ++ [y], _, by go_num, by omega, by rw [List.length_append, Hyl.out]; rfl, hset, by unfold Bs; rw [List.length_append, Hyl.out, u8s_append]; exact hfin.1, hfin.2⟩
              case measure => simp [intOf]; omega
          · subst hyl
            have hrl := owns_kp hrow (Kp.of_below (P := fun _ => True) hBl) (fun _ _ _ => trivial)
            obtain ⟨a5, c5, rfl⟩ := hbs.slice
            have hBs := hBl.size
            clear hal hcx hcx2 x7
            go_wp2_with (at_builtin; refine wpList_append_own_at _ rfl _ _ 25 rfl w.heap.size 28 i0 (.agg #[.int .i64 0, .int .u64 0, .int .i64 0, .slice none 0 0, .slice none 0 0]) 5 72 Try.underlying25 hi hz0 hz1 hz2 rfl (by decide) _ _ _ rfl (hrl.alloc _) ⟨_, 0, none⟩ 1 1 [.int .i64 4, .int .u64 0, .int .i64 0, .slice a5 ys.length c5, .slice none 0 0] rfl rfl (World.news_of_block (cs := #[.int .i64 4, .int .u64 0, .int .i64 0, .slice a5 ys.length c5, .slice none 0 0]) (tmp_at _ _ _ (by first | rfl | simp))) (by simp [Value.oneCell']) (by unfold maxLen; omega) (by omega) (by first | omega | (simp; omega)) ?_; intro v' w1 hown' hgrow hnn hat; clear hnn)
            have hp := Gen.push (t := ((⟨4, 0, 0, ys, []⟩ : V), .slice a5 ys.length c5, .slice none 0 0)) hG hGs hBl ⟨hbs.sat, .nil⟩ hown' hgrow hat
            have hf : Fine ((⟨4, 0, 0, ys, []⟩ : V), .slice a5 ys.length c5, .slice none 0 0) := fine34 4 (by omega) ys (by omega) _ _
            have HF2 := fine_snoc HF.out hf
            have Hil2 : it.length + 1 = k + 1 := by rw [Hil.out]
            go_roundw
            case rel => exact ⟨k + 1, it ++ [((⟨4, 0, 0, ys, []⟩ : V), .slice a5 ys.length c5, .slice none 0 0)], by omega, by omega, by go_num, by rw [List.length_append, ← Hil2]; rfl, hp.1, HF2, hB.trans hp.2⟩
            case measure => simp [intOf]; omega
      · obtain ⟨wo, rfl⟩ : ∃ wo : World, wo = wr := ⟨_, rfl⟩
        have z7 := World.alloc_heap_new wo (.cells #[.int .i64 5, .int .u64 0, .int .i64 0, .slice none 0 0, .slice none 0 0] 28)
        have hal := (Below.refl wo.heap.size wo).alloc (Nat.le_refl _) (.cells #[.int .i64 5, .int .u64 0, .int .i64 0, .slice none 0 0, .slice none 0 0] 28)
        have Z7 := Lib.hid z7
        clear z7
        go_wp2_with fail
        go_loopw [9] (fun jv wl => ∃ (j : Nat) (ys : List Int) (sb : Value), jv = .int .i64 j ∧ j ≤ 5 ∧ ys.length = j ∧ wl.heap[wo.heap.size]? = some (.cells #[.int .i64 5, .int .u64 0, .int .i64 0, .slice none 0 0, sb] 28 (0, 0)) ∧ (∀ z ∈ ys, -9223372036854775808 ≤ z ∧ z ≤ 9223372036854775807) ∧ Row .i64 3 wo.heap.size wl sb ys ∧ Below wo.heap.size wo wl) (fun jv _ => 5 - (intOf jv).toNat)
        case atStart => exact ⟨0, [], _, rfl, by omega, rfl, Z7.out, by simp, World.ownsRow_nil _ _ _ _, hal⟩
        case round =>
          obtain ⟨j, ys, sb, rfl, hj, hyl, x7, hyi, hbs, hBl⟩ := hrel
          have Hyi := Lib.hid hyi
          clear hyi
          obtain ⟨⟨q0, q1, q2, q3, q4⟩, g0, g1, g2, g3, g4⟩ := five x7
          have hcx2 := (hBl.cell (p := ⟨b, off + k, none⟩) (by show b < wo.heap.size; omega)).trans hcx
          have hy := shr_i64 x (min (IntKind.u64.wrap (IntKind.i64.wrap (13 * (j : Int)))).toNat 64) hx
          have Hy := Lib.hid hy
          clear hy
          have hws : wo.heap.size < wr.heap.size := heap_lt x7
          by_cases hjm : (j : Int) < (n : Int) % 5
          · have hj10 : j < 5 := by omega
            have hj0 : (0 : Int) ≤ (j : Int) := by omega
            have Hyl := Lib.hid hyl
            have X7 := Lib.hid x7
            have hown : wr.ownsRow wo.heap.size 3 1 sb j (ys.map (Value.int .i64)) := by rw [← hyl]; exact hbs
            have hnr := not_row5 x7 (by decide) hown
            have Hnr := Lib.hid hnr
            clear hyl x7 hcx hal hnr
            go_wp2_with fail
            go_region_law ((refine step_append_lies _ (by rfl) _ _ _ (by rfl) wo.heap.size 3 ii (.int .i64 0) 1 8 Try.underlying22 hii hi0 hi1 hi2 rfl (by decide) sb j (ys.map (Value.int .i64)) (by rfl) ((hown.alloc _).drew) ⟨wr.heap.size, 0, none⟩ 1 1 [.int .i64 (x / 2 ^ (min (IntKind.u64.wrap (IntKind.i64.wrap (13 * (j : Int)))).toNat 64))] (by rfl) (by rfl) (World.news_of_block (cs := #[.int .i64 (x / 2 ^ (min (IntKind.u64.wrap (IntKind.i64.wrap (13 * (j : Int)))).toNat 64))]) (t := 3) (fr := (0, 0)) (World.alloc_heap_new wr _)) (by simp [Value.oneCell']) (by omega) (by unfold maxLen; omega) (by omega) (by simp; omega) (wr.heap.size + 1) (by simp) ?_; intro g cap2 w4 hown4 hgrow hat hlt4; have y7 := (hgrow.block wo.heap.size (by simp; omega) Hnr.out).trans ((Below.heap_alloc wr _ _ hws).trans X7.out); have c43 : w4.cell? ⟨wo.heap.size, 4, none⟩ = some sb := cell_at y7 4 rfl; have f43 := free_at y7 4))
            all_goals
              have hfin := grown_field (o := 4) (x := .slice (some ⟨g, 0, none⟩) (j + 1) cap2) hBl hown hgrow hown4 (Nat.le_refl _) y7 (by decide)
              have hset := set5_4 y7 (.slice (some ⟨g, 0, none⟩) (j + 1) cap2)
              clear hgrow hown4 y7 c43 f43 hown hat hlt4
              go_wp2
              go_roundw
              case rel => exact ⟨j + 1, ys ++ [x / 2 ^ (min (IntKind.u64.wrap (IntKind.i64.wrap (13 * (j : Int)))).toNat 64)], _, by go_num, by omega, by rw [List.length_append, Hyl.out]; rfl, hset, int_snoc Hyi.out Hy.out, by unfold Row; rw [List.length_append, Hyl.out, List.map_append]; exact hfin.1, hfin.2⟩
              case measure => simp [intOf]; omega
          · subst hyl
            have hrl := owns_kp hrow (Kp.of_below (P := fun _ => True) hBl) (fun _ _ _ => trivial)
            obtain ⟨a5, c5, rfl⟩ := hbs.slice
            have hBs := hBl.size
            clear hal hcx hcx2 x7
            go_wp2_with (at_builtin; refine wpList_append_own_at _ rfl _ _ 25 rfl w.heap.size 28 i0 (.agg #[.int .i64 0, .int .u64 0, .int .i64 0, .slice none 0 0, .slice none 0 0]) 5 72 Try.underlying25 hi hz0 hz1 hz2 rfl (by decide) _ _ _ rfl (hrl.alloc _) ⟨_, 0, none⟩ 1 1 [.int .i64 5, .int .u64 0, .int .i64 0, .slice none 0 0, .slice a5 ys.length c5] rfl rfl (World.news_of_block (cs := #[.int .i64 5, .int .u64 0, .int .i64 0, .slice none 0 0, .slice a5 ys.length c5]) (tmp_at _ _ _ (by first | rfl | simp))) (by simp [Value.oneCell']) (by unfold maxLen; omega) (by omega) (by first | omega | (simp; omega)) ?_; intro v' w1 hown' hgrow hnn hat; clear hnn)
            have hp := Gen.push (t := ((⟨5, 0, 0, [], ys⟩ : V), .slice none 0 0, .slice a5 ys.length c5)) hG hGs hBl ⟨.nil, hbs.inp⟩ hown' hgrow hat
            have hf : Fine ((⟨5, 0, 0, [], ys⟩ : V), .slice none 0 0, .slice a5 ys.length c5) := fine5 ys (by omega) Hyi.out _ _
            have HF2 := fine_snoc HF.out hf
            have Hil2 : it.length + 1 = k + 1 := by rw [Hil.out]
            go_roundw
            case rel => exact ⟨k + 1, it ++ [((⟨5, 0, 0, [], ys⟩ : V), .slice none 0 0, .slice a5 ys.length c5)], by omega, by omega, by go_num, by rw [List.length_append, ← Hil2]; rfl, hp.1, HF2, hB.trans hp.2⟩
            case measure => simp [intOf]; omega
    · have hcase : (¬ k < zs.length) ∨ (k < zs.length ∧ ¬ k < 8) := by omega
      have hile : it.length ≤ 8 := by have := Hil.out; omega
      rcases hcase with h1 | ⟨h1, h2⟩
      all_goals
        go_wp2
        go_ret
        exact ⟨_, it, rfl, hG, HF.out, hile, hB⟩
end Go.Proofs.Ytiebefomhnbemaa
