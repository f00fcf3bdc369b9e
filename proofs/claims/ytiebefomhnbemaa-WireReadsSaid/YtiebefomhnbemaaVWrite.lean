/- Contracts of the statements' own write and encode. Conditions: values as the methods take them. -/
import Derived.Test.YtiebefomhnbemaaVal
namespace Go.Proofs.Ytiebefomhnbemaa
open Go.RowKit

theorem boolB_eq (n : Int) : boolB (n == 1) = [if n = 1 then 1 else 0] := by
  unfold boolB
  by_cases h : n = 1
  · subst h; rfl
  · have : (n == 1) = false := by simp; exact h
    rw [this, if_neg h]; rfl

set_option maxRecDepth 100000 in
set_option maxHeartbeats 4000000 in
theorem write_any (base b : Nat) (t : VT) (xs : List UInt8) (w : World) (hx : xs.length + 10 * t.1.l.length + 20 ≤ 1000000) (hv : Canon t.1) (hI : VP (· < base) w t) (hw : Wr base w b xs) :
    Calls Try.prog 14 #[.pointer (some ⟨b, 0, none⟩), aggV t] w fun e w' => e = .returned (.tuple #[]) ∧ Wr base w' b (xs ++ enc t.1) ∧ Below base w w' := by
  obtain ⟨⟨k, u, n, bs, l⟩, sb, sl⟩ := t
  obtain ⟨hk, hu, hn, hl, c0, c1, c2, c3, c5, hbl, hll⟩ := hv
  obtain ⟨hI1, hI2⟩ := hI
  simp only at hk hu hn hl hx hbl hll hI1 hI2
  clear c0 c1 c2 c3 c5
  have hbase : base ≤ w.heap.size := by obtain ⟨h1, v, h2, -⟩ := hw; have := h2.lt; omega
  have hal := fun o => (Below.refl base w).alloc hbase o
  have Hl := Lib.hid hl
  have hB1 := (hI1.in (n := base) (fun _ h => h)).below (hal (.cells #[.int .i64 k, .int .u64 (u : Int), .int .i64 n, sb, sl] 28))
  have hB2 := InAt.below (hal (.cells #[.int .i64 k, .int .u64 (u : Int), .int .i64 n, sb, sl] 28)) (hI2.in (n := base) (fun _ h => h))
  obtain ⟨a1, c1, rfl⟩ := hB1.slice
  obtain ⟨a2, c2, rfl⟩ := hB2.slice
  have hw1 := hw.below ((Below.refl w.heap.size w).alloc (Nat.le_refl _) (.cells #[.int .i64 k, .int .u64 (u : Int), .int .i64 n, .slice a1 bs.length c1, .slice a2 l.length c2] 28))
  have Hal := Lib.hid hal
  clear hl hI1 hI2 hw hal
  have hkc : k = 0 ∨ k = 1 ∨ k = 2 ∨ k = 3 ∨ k = 4 ∨ k = 5 := by omega
  unfold aggV
  rcases hkc with rfl | rfl | rfl | rfl | rfl | rfl
  · simp only [enc]
    go_enter Try.func14, Try.ntmps14
    go_wp2_with fail
    refine (wuint_any base b (u : Int) xs _ (by omega) (by omega) (by omega) hw1).mono ?_
    rintro e w1 ⟨rfl, hW, hB⟩
    rw [Int.toNat_natCast] at hW
    go_wp2
    go_end0
    exact ⟨rfl, hW, (Hal.out _).trans hB⟩
  · simp only [enc]
    go_enter Try.func14, Try.ntmps14
    go_wp2_with fail
    refine (wint_any base b n xs _ (by omega) (by omega) (by omega) hw1).mono ?_
    rintro e w1 ⟨rfl, hW, hB⟩
    go_wp2
    go_end0
    exact ⟨rfl, hW, (Hal.out _).trans hB⟩
  · have he : enc ⟨2, u, n, bs, l⟩ = boolB (n == 1) := by rw [boolB_eq]; rfl
    rw [he]
    clear he
    go_enter Try.func14, Try.ntmps14
    go_wp2_with fail
    refine (wbool_any base b _ xs _ (by omega) hw1).mono ?_
    rintro e w1 ⟨rfl, hW, hB⟩
    go_wp2
    go_end0
    exact ⟨rfl, hW, (Hal.out _).trans hB⟩
  · simp only [enc]
    have hcv := str_bytes (BIn.mono (by have := (Hal.out (.cells #[.int .i64 3, .int .u64 (u : Int), .int .i64 n, .slice a1 bs.length c1, .slice a2 l.length c2] 28)).size; omega) hB1)
    go_enter Try.func14, Try.ntmps14
    go_wp2_with fail
    refine (wtext_any base b ⟨bs.toArray⟩ xs _ (by omega) (by simpa [ByteArray.size] using hbl) hw1).mono ?_
    rintro e w1 ⟨rfl, hW, hB⟩
    go_wp2
    go_end0
    exact ⟨rfl, by simpa [ByteArray.size] using hW, (Hal.out _).trans hB⟩
  · simp only [enc]
    go_enter Try.func14, Try.ntmps14
    go_wp2_with fail
    refine (wraw_any base b a1 c1 bs xs _ (by omega) (by omega) hB1 hw1).mono ?_
    rintro e w1 ⟨rfl, hW, hB⟩
    go_wp2
    go_end0
    exact ⟨rfl, hW, (Hal.out _).trans hB⟩
  · simp only [enc]
    go_enter Try.func14, Try.ntmps14
    go_wp2_with fail
    refine (wints_any base b a2 c2 l xs _ (by omega) Hl.out hB2 hw1).mono ?_
    rintro e w1 ⟨rfl, hW, hB⟩
    go_wp2
    go_end0
    exact ⟨rfl, hW, (Hal.out _).trans hB⟩

/-- A value of few bytes. -/
def Small (v : V) : Prop := Canon v ∧ v.b.length ≤ 1000 ∧ v.l.length ≤ 1000
theorem enc_length (v : V) (h : Small v) : (enc v).length ≤ 11020 := by
  obtain ⟨-, hb, hl⟩ := h
  have h1 := uv_length v.u
  have h2 := uv_length (zz v.n)
  have h3 := uv_length v.b.length
  have h4 := uv_length v.l.length
  have h5 := encL_le v.l
  unfold enc
  by_cases k0 : v.k = 0
  · rw [if_pos k0]; omega
  · rw [if_neg k0]
    by_cases k1 : v.k = 1
    · rw [if_pos k1]; omega
    · rw [if_neg k1]
      by_cases k2 : v.k = 2
      · rw [if_pos k2]; simp
      · rw [if_neg k2]
        by_cases k3 : v.k = 3 ∨ v.k = 4
        · rw [if_pos k3, List.length_append]; omega
        · rw [if_neg k3, List.length_append]; omega
def vals (it : List VT) : List V := it.map Prod.fst
theorem encAll_length : ∀ (l : List V), (∀ v ∈ l, Small v) → (encAll l).length ≤ 11020 * l.length
  | [], _ => by simp [encAll]
  | v :: l, h => by
    have h1 := enc_length v (h v (by simp))
    have h2 := encAll_length l (fun y hy => h y (by simp [hy]))
    simp only [encAll, List.flatMap_cons, List.length_append, List.length_cons] at h2 ⊢
    omega
theorem encAll_snoc (l : List V) (v : V) : encAll (l ++ [v]) = encAll l ++ enc v := by simp [encAll]
theorem vals_take (it : List VT) (k : Nat) (h : k < it.length) : vals (it.take (k + 1)) = vals (it.take k) ++ [it[k].1] := by
  unfold vals
  rw [List.take_succ_eq_append_getElem h, List.map_append]; rfl
theorem vals_length (it : List VT) : (vals it).length = it.length := by simp [vals]
theorem Bs.weak {b b' : Nat} {W : World} {v : Value} {ys : List UInt8} (h : Bs b W v ys) (hb : b' ≤ b) : Bs b' W v ys := by
  obtain ⟨h1, h2⟩ := h
  refine ⟨h1, ?_⟩
  rcases h2 with h2 | ⟨g, cap, cur, e, hg, rest⟩
  · exact .inl h2
  · exact .inr ⟨g, cap, cur, e, Nat.le_trans hb hg, rest⟩

set_option maxRecDepth 100000 in
set_option maxHeartbeats 4000000 in
theorem encode_any (P : Nat → Prop) (a : Option Addr) (c : Nat) (it : List VT) (w : World) (hn : it.length ≤ 30) (hs : ∀ t ∈ it, Small t.1) (hI : VsAt P w (.slice a it.length c) it) :
    Calls Try.prog 26 #[.slice a it.length c] w fun e w' => ∃ v, e = .returned v ∧ Bs w.heap.size w' v (encAll (vals it)) ∧ Below w.heap.size w w' := by
  have hI0 := hI.mono (Q := (· < w.heap.size)) (fun k hk _ => hk)
  have Hs := Lib.hid hs
  have hw0 := Wr.new w.heap.size w (Nat.le_refl _)
  have hal : Below w.heap.size w (w.alloc (.cells #[.slice none 0 0] 32)) := (Below.refl _ w).alloc (Nat.le_refl _) _
  clear hI hs
  go_enter Try.func26, Try.ntmps26
  go_wp2
  go_loopw [4] (fun i wr => ∃ k : Nat, k ≤ it.length ∧ i = .int .i64 k ∧ Wr w.heap.size wr w.heap.size (encAll (vals (it.take k))) ∧ Below w.heap.size w wr) (fun i _ => it.length - (intOf i).toNat)
  case atStart => exact ⟨0, Nat.zero_le _, rfl, hw0, hal⟩
  case round =>
    obtain ⟨k, hk, rfl, hW, hB⟩ := hrel
    clear hw0 hal
    have hlen : (encAll (vals (it.take k))).length ≤ 330600 := by
      have h1 := encAll_length (vals (it.take k)) (fun v hv => by
        obtain ⟨t, ht, rfl⟩ := List.mem_map.1 hv
        exact Hs.out t (List.mem_of_mem_take ht))
      have h2 : (it.take k).length ≤ k := List.length_take_le _ _
      rw [vals_length] at h1
      omega
    by_cases hlt : k < it.length
    · have hsm := Hs.out it[k] (List.getElem_mem hlt)
      have hIr := hI0.kp (.of_base hB)
      obtain ⟨g, rfl, hg, hgs, hlc, hcell, hvp⟩ := hIr.get k hlt
      have hvt := vals_take it k hlt
      have c0 := hcell 0 (by omega)
      have c1 := hcell 1 (by omega)
      have c2 := hcell 2 (by omega)
      have c3 := hcell 3 (by omega)
      have c4 := hcell 4 (by omega)
      have hwr := write_any w.heap.size w.heap.size it[k] _ wr (by have := hsm.2.2; omega) hsm.1 hvp hW
      rw [← encAll_snoc, ← hvt] at hwr
      unfold aggV at hwr
      obtain ⟨t, ht⟩ : ∃ t, it[k] = t := ⟨_, rfl⟩
      rw [ht] at c0 c1 c2 c3 c4 hwr
      obtain ⟨⟨vk, vu, vn, vb, vl⟩, sb, sl⟩ := t
      simp only [cells5, Nat.add_zero, List.getElem?_cons_zero, List.getElem?_cons_succ] at c0 c1 c2 c3 c4 hwr
      have Hwr := Lib.hid hwr
      clear hcell hvt hsm hvp ht hW hwr
      go_wp2_with fail
      refine Hwr.out.mono ?_
      rintro e w1 ⟨rfl, hW1, hB1⟩
      go_wp2
      go_roundw
      case rel => exact ⟨k + 1, by omega, by go_num, hW1, hB.trans hB1⟩
      case measure => simp [intOf]; omega
    · obtain rfl : k = it.length := by omega
      rw [List.take_length] at hW hlen
      go_wp2_with fail
      refine (wdone_any _ _ _ wr (by omega) hW).mono ?_
      rintro e w1 ⟨v, rfl, hv, hB1⟩
      go_wp2
      go_ret
      exact ⟨_, rfl, hv.weak hB.size, below_then hB hB1⟩
end Go.Proofs.Ytiebefomhnbemaa
