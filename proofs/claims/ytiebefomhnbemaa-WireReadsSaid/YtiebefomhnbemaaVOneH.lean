/- What the statement WireOne needs: values that are read, and lists that gather them. Conditions: as each states. -/
import Derived.Test.YtiebefomhnbemaaVPrefix
namespace Go.Proofs.Ytiebefomhnbemaa
open Go.RowKit

theorem rI_bound (s : St) : -9223372036854775808 ≤ (rI s).1 ∧ (rI s).1 ≤ 9223372036854775807 := rI_in s
theorem rIs_small : ∀ (k : Nat) (a : List Int) (s : St), (∀ z ∈ a, -9223372036854775808 ≤ z ∧ z ≤ 9223372036854775807) → (∀ z ∈ (rIs k a s).1, -9223372036854775808 ≤ z ∧ z ≤ 9223372036854775807) ∧ (rIs k a s).1.length ≤ a.length + k
  | 0, a, s, h => ⟨h, Nat.le_refl _⟩
  | k + 1, a, s, h => by
    unfold rIs
    by_cases h1 : (rI s).2.e = 0
    · rw [if_pos h1]
      have := rIs_small k (a ++ [(rI s).1]) (rI s).2 (int_snoc h (rI_in s))
      rw [List.length_append, List.length_singleton] at this
      exact ⟨this.1, by omega⟩
    · rw [if_neg h1]; simp
theorem rL_le (s : St) : (rL s).1 ≤ s.bs.length := by
  have h := rL_len s
  by_cases h1 : (rL s).2.e = 0
  · have h2 : s.e = 0 := by
      by_cases he : s.e = 0
      · exact he
      · have hu : rU s = (0, s) := by simp [rU, he]
        have : rL s = (0, s) := by simp [rL, hu, he]
        rw [this] at h1
        exact absurd h1 he
    have := (uv_rL h2 h1).2
    omega
  · have : (rL s).1 = 0 := by
      unfold rL at h1 ⊢
      by_cases h3 : (rU s).2.e = 0
      · rw [if_pos h3] at h1 ⊢
        by_cases h4 : (rU s).2.bs.length < (rU s).1
        · rw [if_pos h4]
        · rw [if_neg h4] at h1; exact absurd h3 h1
      · rw [if_neg h3]
    omega
/-- What is read is a value as the methods take it. -/
theorem rV_small (k : Int) (s : St) (h0 : 0 ≤ k) (h5 : k ≤ 5) (hs : s.bs.length ≤ 1000) : Small (rV k s).1 := by
  have hkc : k = 0 ∨ k = 1 ∨ k = 2 ∨ k = 3 ∨ k = 4 ∨ k = 5 := by omega
  rcases hkc with rfl | rfl | rfl | rfl | rfl | rfl
  · exact (fine0 _ (rU_lt s) (.bool true) (.bool true)).small
  · exact (fine1 _ (rI_in s) (.bool true) (.bool true)).small
  · exact (fine2 (if (rB s).1 then 1 else 0) (by cases (rB s).1 <;> simp) (.bool true) (.bool true)).small
  · have hl : (rRaw s).1.length ≤ 1000 := by
      unfold rRaw
      by_cases h1 : (rL s).2.e = 0
      · rw [if_pos h1]; have := rL_le s; simp only [List.length_take]; omega
      · rw [if_neg h1]; simp
    exact ⟨⟨by simp [rV], by simp [rV], by simp [rV], by simp [rV], by simp [rV], by simp [rV], by simp [rV], by simp [rV], by simp [rV], by show (rRaw s).1.length ≤ 1000000; omega, by simp [rV]⟩, hl, by simp [rV]⟩
  · have hl : (rRaw s).1.length ≤ 1000 := by
      unfold rRaw
      by_cases h1 : (rL s).2.e = 0
      · rw [if_pos h1]; have := rL_le s; simp only [List.length_take]; omega
      · rw [if_neg h1]; simp
    exact ⟨⟨by simp [rV], by simp [rV], by simp [rV], by simp [rV], by simp [rV], by simp [rV], by simp [rV], by simp [rV], by simp [rV], by show (rRaw s).1.length ≤ 1000000; omega, by simp [rV]⟩, hl, by simp [rV]⟩
  · have hl : (∀ z ∈ (rInts s).1, -9223372036854775808 ≤ z ∧ z ≤ 9223372036854775807) ∧ (rInts s).1.length ≤ 1000 := by
      unfold rInts
      by_cases h1 : (rL s).2.e = 0
      · rw [if_pos h1]
        have := rL_le s
        have h2 := rIs_small (rL s).1 [] (rL s).2 (by simp)
        exact ⟨h2.1, by have := h2.2; simp only [List.length_nil] at this; omega⟩
      · rw [if_neg h1]; simp
    exact ⟨⟨by simp [rV], by simp [rV], by simp [rV], hl.1, by simp [rV], by simp [rV], by simp [rV], by simp [rV], by simp [rV], by simp [rV], by show (rInts s).1.length ≤ 1000000; omega⟩, by simp [rV], hl.2⟩
theorem enc_fine (t : VT) (h : Fine t) : (enc t.1).length ≤ 100 := by
  have h1 := uv_length t.1.u
  have h2 := uv_length (zz t.1.n)
  have h3 := uv_length t.1.b.length
  have h4 := uv_length t.1.l.length
  have h5 := encL_le t.1.l
  have h6 := h.2.1
  have h7 := h.2.2
  unfold enc
  by_cases k0 : t.1.k = 0
  · rw [if_pos k0]; omega
  · rw [if_neg k0]
    by_cases k1 : t.1.k = 1
    · rw [if_pos k1]; omega
    · rw [if_neg k1]
      by_cases k2 : t.1.k = 2
      · rw [if_pos k2]; simp
      · rw [if_neg k2]
        by_cases k3 : t.1.k = 3 ∨ t.1.k = 4
        · rw [if_pos k3, List.length_append]; omega
        · rw [if_neg k3, List.length_append]; omega
theorem encAll_fine : ∀ (it : List VT), (∀ t ∈ it, Fine t) → (encAll (vals it)).length ≤ 100 * it.length
  | [], _ => by simp [encAll, vals]
  | t :: it, h => by
    have h1 := enc_fine t (h t (by simp))
    have h2 := encAll_fine it (fun s hs => h s (by simp [hs]))
    simp only [vals, List.map_cons, encAll, List.flatMap_cons, List.length_append, List.length_cons] at h2 ⊢
    omega
/-- What has been read so far is the encoding of what was gathered. -/
def Read1 (T : List UInt8) (gs : List VT) (s : St) : Prop := s.e = 0 → T = encAll (vals gs) ++ s.bs
theorem Read1.start (T : List UInt8) : Read1 T [] ⟨T, 0⟩ := fun _ => rfl
theorem Read1.next {T : List UInt8} {gs : List VT} {s : St} {k : Int} {t : VT} (h : Read1 T gs s) (ht : t.1 = (rV k s).1) : Read1 T (gs ++ [t]) (rV k s).2 := by
  intro he
  have hs : s.e = 0 := by
    by_cases h0 : s.e = 0
    · exact h0
    · rw [(rV_err k h0).1] at he; exact absurd he h0
  have e1 := enc_rV hs he
  have e2 := h hs
  rw [e2, e1, ← ht]
  simp [vals, encAll]
theorem Read1.fin {T : List UInt8} {gs : List VT} {s : St} (h : Read1 T gs s) (he : endE s = 0) : T = encAll (vals gs) := by
  unfold endE at he
  by_cases h0 : s.e = 0
  · by_cases h1 : s.bs = []
    · have := h h0
      rw [h1, List.append_nil] at this
      exact this
    · rw [if_pos ⟨h0, h1⟩] at he; simp at he
  · rw [if_neg (by intro h2; exact h0 h2.1)] at he; exact absurd he h0
theorem Gen.kp {P : Nat → Prop} {base : Nat} {A B : World} {v : Value} {it : List VT} (h : Gen base A v it) (hk : Kp P A B) (hp : ∀ k, base ≤ k → P k) : Gen base B v it :=
  ⟨owns_kp h.1 hk (fun k h1 _ => hp k h1), fun t ht => (h.2 t ht).kp (hk.mono (fun k h1 => hp k h1.1))⟩
/-- An append to a list that a call gathers, of a value whose slices lie elsewhere. -/
theorem Gen.push2 {base : Nat} {W w1 : World} {v v' : Value} {t : VT} {it : List VT} {tmp : Obj} (hG : Gen base W v it) (hbase : base ≤ W.heap.size) (ht : VP (fun k => base ≤ k ∧ some k ≠ v.ownBlock) W t)
    (hown' : w1.ownsRow base 28 5 v' (it.length + 1) (it.flatMap cells5 ++ cells5 t)) (hgrow : (W.alloc tmp).grownBy w1 v.ownBlock) (hat : v'.ownBlock = v.ownBlock ∨ v'.ownBlock = some (W.alloc tmp).heap.size) :
    Gen base w1 v' (it ++ [t]) ∧ Below base W w1 := by
  obtain ⟨h1, h2⟩ := hG
  have hk : Kp (fun k => some k ≠ v.ownBlock) W w1 := by
    refine (Kp.of_below ((Below.refl _ W).alloc (Nat.le_refl _) tmp)).trans ⟨hgrow.os, hgrow.tape, hgrow.output, hgrow.size, fun k hk hp => hgrow.block k hk hp⟩
  have hnew : ∀ k, k < W.heap.size → some k ≠ v.ownBlock → some k ≠ v'.ownBlock := by
    intro k hk hne e
    rcases hat with h | h
    · exact hne (e.trans h)
    · rw [h] at e
      simp at e
      omega
  have hrow := fun j hj => h1.lt j hj
  have hall : ∀ s, VP (fun k => base ≤ k ∧ some k ≠ v.ownBlock) W s → VP (fun k => base ≤ k ∧ some k ≠ v'.ownBlock) w1 s := fun s h3 =>
    ((h3.mono (Q := fun k => some k ≠ v.ownBlock ∧ base ≤ k ∧ some k ≠ v'.ownBlock) (fun k hk hp => ⟨hp.2, hp.1, hnew k hk hp.2⟩)).kp (hk.mono (fun k h => h.1))).mono (fun k _ h => h.2)
  refine ⟨⟨?_, fun s hs => ?_⟩, ?_⟩
  · rw [List.length_append, List.length_singleton, List.flatMap_append, List.flatMap_singleton]
    exact hown'
  · rcases List.mem_append.1 hs with h | h
    · exact hall s (h2 s h)
    · simp only [List.mem_singleton] at h
      rw [h]; exact hall t ht
  · exact ((Below.refl base W).alloc hbase tmp).grown hgrow (by simp; omega) (fun j hj => (hrow j hj).1)
theorem Gen.nil (base : Nat) (W : World) : Gen base W (.slice none 0 0) [] := ⟨World.ownsRow_nil _ _ _ _, by simp⟩
theorem small_snoc {it : List VT} {t : VT} (h : ∀ s ∈ it, Small s.1) (ht : Small t.1) : ∀ s ∈ it ++ [t], Small s.1 := by
  intro s hs
  rcases List.mem_append.1 hs with h1 | h1
  · exact h s h1
  · simp only [List.mem_singleton] at h1; rw [h1]; exact ht
/-- A byte stored into a row of bytes. -/
theorem Bs.stored {base : Nat} {W : World} {g l c : Nat} {ys : List UInt8} (h : Bs base W (.slice (some ⟨g, 0, none⟩) l c) ys) (hl : l = ys.length) (j : Nat) (y : UInt8) : Bs base (W.setCell ⟨g, j, none⟩ (.int .u8 (ofByte y))) (.slice (some ⟨g, 0, none⟩) l c) (ys.set j y) := by
  have h1 := h.row.stored (by rw [List.length_map]; exact hl) j (ofByte y)
  have e : (ys.map ofByte).set j (ofByte y) = (ys.set j y).map ofByte := by rw [List.map_set]
  rw [e] at h1
  exact h1.bs
end Go.Proofs.Ytiebefomhnbemaa
