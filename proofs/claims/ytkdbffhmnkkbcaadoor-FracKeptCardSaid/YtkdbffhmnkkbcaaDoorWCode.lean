/- The plain mathematics of package wire: round trip, one encoding, prefixes. Conditions: values as each states. -/
import Derived.Test.YtkdbffhmnkkbcaaDoorWMath
namespace Go.Proofs.YtkdbffhmnkkbcaaDoor.W

theorem rU_uv (n : Nat) (r : List UInt8) (h : n < 18446744073709551616) : rU ⟨uv n ++ r, 0⟩ = (n, ⟨r, 0⟩) := by
  have h1 := rdF_uv 10 0 0 n r (by omega) (by have : 2 ^ (64 - 7 * 0) = 18446744073709551616 := rfl; omega) (.inl rfl)
  simp only [Nat.zero_add, Nat.pow_zero, Nat.mul_one] at h1
  simp [rU, h1]
theorem rI_uv (n : Int) (r : List UInt8) (h1 : -9223372036854775808 ≤ n) (h2 : n ≤ 9223372036854775807) : rI ⟨uv (zz n) ++ r, 0⟩ = (n, ⟨r, 0⟩) := by
  simp only [rI, rU_uv (zz n) r (zz_lt n h1 h2), unzz_zz]
theorem rL_uv (n : Nat) (r : List UInt8) (h : n < 18446744073709551616) (hr : n ≤ r.length) : rL ⟨uv n ++ r, 0⟩ = (n, ⟨r, 0⟩) := by
  simp [rL, rU_uv n r h, Nat.not_lt.2 hr]
theorem uv_rU {s : St} (he : s.e = 0) (h : (rU s).2.e = 0) : s.bs = uv (rU s).1 ++ (rU s).2.bs ∧ (rU s).1 < 18446744073709551616 := by
  unfold rU at h ⊢
  rw [if_pos he] at h ⊢
  obtain ⟨n, e1, e2, e3, _⟩ := uv_rdF s.bs 0 0 (rdF 0 0 s.bs).1 (rdF 0 0 s.bs).2.1 (by omega) (Prod.ext rfl (Prod.ext rfl h))
  simp only [Nat.zero_add, Nat.pow_zero, Nat.mul_one] at e2
  have : 2 ^ (64 - 7 * 0) = 18446744073709551616 := rfl
  simp only
  rw [e2]
  exact ⟨e1, by omega⟩
theorem rU_e {s : St} (h : (rU s).2.e = 0) : s.e = 0 := by
  unfold rU at h
  by_cases he : s.e = 0
  · exact he
  · rw [if_neg he] at h; exact absurd h he
theorem rU_v {s : St} (h : (rU s).2.e ≠ 0) : (rU s).1 = 0 := by
  unfold rU at h ⊢
  by_cases he : s.e = 0
  · rw [if_pos he] at h ⊢
    rcases rdF_err s.bs 0 0 with h1 | h1
    · exact absurd h1 h
    · exact h1.1
  · rw [if_neg he]
theorem rU_lt (s : St) : (rU s).1 < 18446744073709551616 := by
  by_cases h : (rU s).2.e = 0
  · exact (uv_rU (rU_e h) h).2
  · rw [rU_v h]; omega
theorem uv_rI {s : St} (he : s.e = 0) (h : (rI s).2.e = 0) : s.bs = uv (zz (rI s).1) ++ (rI s).2.bs := by
  unfold rI at h ⊢
  simp only [zz_unzz]
  exact (uv_rU he h).1
theorem rI_in (s : St) : -9223372036854775808 ≤ (rI s).1 ∧ (rI s).1 ≤ 9223372036854775807 := unzz_in _ (rU_lt s)
theorem uv_rL {s : St} (he : s.e = 0) (h : (rL s).2.e = 0) : s.bs = uv (rL s).1 ++ (rL s).2.bs ∧ (rL s).1 ≤ (rL s).2.bs.length := by
  unfold rL at h ⊢
  by_cases h1 : (rU s).2.e = 0
  · rw [if_pos h1] at h ⊢
    by_cases h2 : (rU s).2.bs.length < (rU s).1
    · rw [if_pos h2] at h; simp at h
    · rw [if_neg h2] at h ⊢
      exact ⟨(uv_rU he h1).1, by omega⟩
  · rw [if_neg h1] at h; exact absurd h h1
theorem uv_rRaw {s : St} (he : s.e = 0) (h : (rRaw s).2.e = 0) : s.bs = uv (rRaw s).1.length ++ (rRaw s).1 ++ (rRaw s).2.bs := by
  unfold rRaw at h ⊢
  by_cases h1 : (rL s).2.e = 0
  · rw [if_pos h1]
    obtain ⟨e, hl⟩ := uv_rL he h1
    simp only [List.length_take, Nat.min_eq_left hl, List.append_assoc, List.take_append_drop]
    exact e
  · rw [if_neg h1] at h; exact absurd h h1
theorem uv_rIs : ∀ (k : Nat) (acc : List Int) (s : St), s.e = 0 → (rIs k acc s).2.e = 0 → ∃ l, (rIs k acc s).1 = acc ++ l ∧ l.length = k ∧ s.bs = encL l ++ (rIs k acc s).2.bs
  | 0, acc, s, _, _ => ⟨[], by simp [rIs], rfl, by simp [rIs, encL]⟩
  | k + 1, acc, s, he, h => by
    unfold rIs at h ⊢
    by_cases h1 : (rI s).2.e = 0
    · rw [if_pos h1] at h ⊢
      obtain ⟨l, e1, e2, e3⟩ := uv_rIs k _ _ h1 h
      refine ⟨(rI s).1 :: l, by rw [e1]; simp, by simp [e2], ?_⟩
      rw [uv_rI he h1, e3]; simp [encL]
    · rw [if_neg h1] at h; exact absurd h h1
theorem uv_rInts {s : St} (he : s.e = 0) (h : (rInts s).2.e = 0) : s.bs = uv (rInts s).1.length ++ encL (rInts s).1 ++ (rInts s).2.bs := by
  unfold rInts at h ⊢
  by_cases h1 : (rL s).2.e = 0
  · rw [if_pos h1] at h ⊢
    obtain ⟨e, hl⟩ := uv_rL he h1
    obtain ⟨l, e1, e2, e3⟩ := uv_rIs _ _ _ h1 h
    rw [e1, List.nil_append, e2, List.append_assoc, ← e3]
    exact e
  · rw [if_neg h1] at h; exact absurd h h1

/-- What a sequence reads without an error has one encoding. -/
theorem enc_rV {s : St} {k : Int} (he : s.e = 0) (h : (rV k s).2.e = 0) : s.bs = enc (rV k s).1 ++ (rV k s).2.bs := by
  unfold rV at h ⊢
  by_cases h0 : k = 0
  · rw [if_pos h0] at h ⊢; simp only [enc, if_pos h0]; exact (uv_rU he h).1
  · rw [if_neg h0] at h ⊢
    by_cases h1 : k = 1
    · rw [if_pos h1] at h ⊢; simp only [enc, if_neg h0, if_pos h1]; exact uv_rI he h
    · rw [if_neg h1] at h ⊢
      by_cases h2 : k = 2
      · rw [if_pos h2] at h ⊢; simp only [enc, if_neg h0, if_neg h1, if_pos h2]
        unfold rB at h ⊢
        rw [if_pos he] at h ⊢
        cases hb : s.bs with
        | nil => rw [hb] at h; simp at h
        | cons c r =>
          rw [hb] at h
          simp only at h ⊢
          by_cases h3 : 1 < c.toNat
          · rw [if_pos h3] at h; simp at h
          · simp only [if_neg h3]
            have hc : UInt8.ofNat c.toNat = c := UInt8.ofNat_toNat
            by_cases h4 : c.toNat = 1
            · simp [h4]; rw [← hc, h4]; rfl
            · have h5 : c.toNat = 0 := by omega
              simp [h5]; rw [← hc, h5]; rfl
      · rw [if_neg h2] at h ⊢
        by_cases h3 : k = 3 ∨ k = 4
        · rw [if_pos h3] at h ⊢; simp only [enc, if_neg h0, if_neg h1, if_neg h2, if_pos h3]; exact uv_rRaw he h
        · rw [if_neg h3] at h ⊢; simp only [enc, if_neg h0, if_neg h1, if_neg h2, if_neg h3]; exact uv_rInts he h

/-- A value as the methods of its kind take and return it. -/
def Canon (v : V) : Prop :=
  (0 ≤ v.k ∧ v.k ≤ 5) ∧ v.u < 18446744073709551616 ∧ (-9223372036854775808 ≤ v.n ∧ v.n ≤ 9223372036854775807) ∧ (∀ z ∈ v.l, -9223372036854775808 ≤ z ∧ z ≤ 9223372036854775807) ∧
  (v.k ≠ 0 → v.u = 0) ∧ (v.k ≠ 1 → v.k ≠ 2 → v.n = 0) ∧ (v.k = 2 → v.n = 0 ∨ v.n = 1) ∧ (v.k ≠ 3 → v.k ≠ 4 → v.b = []) ∧ (v.k ≠ 5 → v.l = []) ∧ v.b.length ≤ 1000000 ∧ v.l.length ≤ 1000000
theorem encL_length (l : List Int) : l.length ≤ (encL l).length := by
  induction l with
  | nil => simp
  | cons z l ih =>
    have := uv_pos (zz z)
    simp only [encL, List.flatMap_cons, List.length_append, List.length_cons] at ih ⊢
    omega
theorem encL_le (l : List Int) : (encL l).length ≤ 10 * l.length := by
  induction l with
  | nil => simp [encL]
  | cons z l ih =>
    have := uv_length (zz z)
    simp only [encL, List.flatMap_cons, List.length_append, List.length_cons] at ih ⊢
    omega
theorem rIs_enc : ∀ (l acc : List Int) (r : List UInt8), (∀ z ∈ l, -9223372036854775808 ≤ z ∧ z ≤ 9223372036854775807) → rIs l.length acc ⟨encL l ++ r, 0⟩ = (acc ++ l, ⟨r, 0⟩)
  | [], acc, r, _ => by simp [rIs, encL]
  | z :: l, acc, r, h => by
    have e : encL (z :: l) ++ r = uv (zz z) ++ (encL l ++ r) := by simp [encL]
    have hz := h z (by simp)
    rw [e, List.length_cons, rIs, rI_uv z _ hz.1 hz.2, if_pos rfl]
    rw [rIs_enc l (acc ++ [z]) r (fun y hy => h y (by simp [hy]))]
    simp
/-- Round trip of a value. -/
theorem rV_enc (v : V) (r : List UInt8) (h : Canon v) : rV v.k ⟨enc v ++ r, 0⟩ = (v, ⟨r, 0⟩) := by
  obtain ⟨hk, hu, hn, hl, c0, c1, c2, c3, c5, hbl, hll⟩ := h
  obtain ⟨k, u, n, b, l⟩ := v
  simp only at hk hu hn hl c0 c1 c2 c3 c5 hbl hll ⊢
  unfold rV
  by_cases h0 : k = 0
  · subst h0
    simp only [enc, if_true, rU_uv u r hu]
    rw [c1 (by omega) (by omega), c3 (by omega) (by omega), c5 (by omega)]
  · rw [if_neg h0]
    by_cases h1 : k = 1
    · subst h1
      simp only [enc, if_true]
      rw [if_neg (by omega), rI_uv n r hn.1 hn.2]
      rw [c0 (by omega), c3 (by omega) (by omega), c5 (by omega)]
    · rw [if_neg h1]
      by_cases h2 : k = 2
      · subst h2
        simp only [enc, if_neg (show ¬ (2 : Int) = 0 by omega), if_neg (show ¬ (2 : Int) = 1 by omega), if_true]
        rw [c0 (by omega), c3 (by omega) (by omega), c5 (by omega)]
        rcases c2 rfl with rfl | rfl
        · simp [rB]
        · simp [rB]
      · rw [if_neg h2]
        by_cases h3 : k = 3 ∨ k = 4
        · simp only [enc, if_neg h0, if_neg h1, if_neg h2, if_pos h3]
          rw [c0 (by omega), c1 (by omega) (by omega), c5 (by omega)]
          have e : rRaw ⟨uv b.length ++ b ++ r, 0⟩ = (b, ⟨r, 0⟩) := by
            rw [List.append_assoc]
            unfold rRaw
            rw [rL_uv b.length (b ++ r) (by omega) (by simp)]
            simp
          rw [e]
        · simp only [enc, if_neg h0, if_neg h1, if_neg h2, if_neg h3]
          rw [c0 (by omega), c1 (by omega) (by omega), c3 (by omega) (by omega)]
          have e : rInts ⟨uv l.length ++ encL l ++ r, 0⟩ = (l, ⟨r, 0⟩) := by
            rw [List.append_assoc]
            unfold rInts
            rw [rL_uv l.length (encL l ++ r) (by omega) (by have := encL_length l; rw [List.length_append]; omega)]
            simp only [if_true]
            exact rIs_enc l [] r hl
          rw [e]

/-- More bytes behind: a reading that has gone well goes as well, and what was malformed stays so. -/
def Ext (q : List UInt8) (s t : St) : Prop := (s.e = 0 → t = ⟨s.bs ++ q, 0⟩) ∧ (s.e = 2 → t.e = 2)
theorem ext_rU {q : List UInt8} {s t : St} (h : Ext q s t) : Ext q (rU s).2 (rU t).2 ∧ ((rU s).2.e = 0 → (rU t).1 = (rU s).1) := by
  unfold rU
  by_cases h0 : s.e = 0
  · have ht := h.1 h0
    subst ht
    rw [if_pos h0, if_pos rfl]
    have hx := rdF_ext s.bs q 0 0
    refine ⟨⟨fun e => ?_, fun e => hx.2 e⟩, fun e => ?_⟩
    · rw [hx.1 e]
    · rw [hx.1 e]
  · rw [if_neg h0]
    refine ⟨⟨fun e => absurd e h0, fun e => ?_⟩, fun e => absurd e h0⟩
    have := h.2 e
    rw [if_neg (by omega)]; exact this
theorem ext_rI {q : List UInt8} {s t : St} (h : Ext q s t) : Ext q (rI s).2 (rI t).2 ∧ ((rI s).2.e = 0 → (rI t).1 = (rI s).1) :=
  ⟨(ext_rU h).1, fun e => by simp only [rI]; rw [(ext_rU h).2 e]⟩
theorem ext_rL {q : List UInt8} {s t : St} (h : Ext q s t) : Ext q (rL s).2 (rL t).2 ∧ ((rL s).2.e = 0 → (rL t).1 = (rL s).1 ∧ (rL s).1 ≤ (rL s).2.bs.length) := by
  have hu := ext_rU h
  unfold rL
  by_cases h0 : (rU s).2.e = 0
  · have ht := hu.1.1 h0
    have hv := hu.2 h0
    have ht0 : (rU t).2.e = 0 := by rw [ht]
    simp only [if_pos h0, if_pos ht0]
    by_cases h1 : (rU s).2.bs.length < (rU s).1
    · simp only [if_pos h1]
      exact ⟨⟨fun e => by simp at e, fun e => by simp at e⟩, fun e => by simp at e⟩
    · have h2 : ¬ (rU t).2.bs.length < (rU t).1 := by rw [ht, hv, List.length_append]; omega
      simp only [if_neg h1, if_neg h2]
      exact ⟨hu.1, fun e => ⟨hv, by omega⟩⟩
  · rw [if_neg h0]
    refine ⟨⟨fun e => absurd e h0, fun e => ?_⟩, fun e => absurd e h0⟩
    have := hu.1.2 e
    rw [if_neg (by omega)]; exact this
theorem ext_rRaw {q : List UInt8} {s t : St} (h : Ext q s t) : Ext q (rRaw s).2 (rRaw t).2 := by
  have hl := ext_rL h
  unfold rRaw
  by_cases h0 : (rL s).2.e = 0
  · rw [if_pos h0]
    have ht := hl.1.1 h0
    have hv := hl.2 h0
    rw [if_pos (by rw [ht])]
    refine ⟨fun _ => ?_, fun e => by simp at e⟩
    rw [ht, hv.1]
    simp only [St.mk.injEq, and_true]
    rw [List.drop_append_of_le_length hv.2]
  · rw [if_neg h0]
    refine ⟨fun e => absurd e h0, fun e => ?_⟩
    have := hl.1.2 e
    rw [if_neg (by omega)]; exact this
theorem ext_rIs {q : List UInt8} : ∀ (k : Nat) (a b : List Int) {s t : St}, Ext q s t → Ext q (rIs k a s).2 (rIs k b t).2
  | 0, _, _, _, _, h => h
  | k + 1, a, b, s, t, h => by
    have hi := ext_rI h
    unfold rIs
    by_cases h0 : (rI s).2.e = 0
    · rw [if_pos h0]
      have ht := hi.1.1 h0
      rw [if_pos (by rw [ht])]
      exact ext_rIs k _ _ hi.1
    · rw [if_neg h0]
      refine ⟨fun e => absurd e h0, fun e => ?_⟩
      have := hi.1.2 e
      rw [if_neg (by omega)]; exact this
theorem ext_rInts {q : List UInt8} {s t : St} (h : Ext q s t) : Ext q (rInts s).2 (rInts t).2 := by
  have hl := ext_rL h
  unfold rInts
  by_cases h0 : (rL s).2.e = 0
  · rw [if_pos h0]
    have ht := hl.1.1 h0
    have hv := hl.2 h0
    rw [if_pos (by rw [ht]), hv.1]
    exact ext_rIs _ _ _ hl.1
  · rw [if_neg h0]
    refine ⟨fun e => absurd e h0, fun e => ?_⟩
    have := hl.1.2 e
    rw [if_neg (by omega)]; exact this
theorem ext_rB {q : List UInt8} {s t : St} (h : Ext q s t) : Ext q (rB s).2 (rB t).2 := by
  unfold rB
  by_cases h0 : s.e = 0
  · have ht := h.1 h0
    subst ht
    rw [if_pos h0, if_pos rfl]
    cases hb : s.bs with
    | nil => exact ⟨fun e => by simp at e, fun e => by simp at e⟩
    | cons c r =>
      simp only [List.cons_append]
      by_cases h1 : 1 < c.toNat
      · simp only [if_pos h1]; exact ⟨fun e => by simp at e, fun _ => rfl⟩
      · simp only [if_neg h1]; exact ⟨fun _ => rfl, fun e => by simp at e⟩
  · rw [if_neg h0]
    refine ⟨fun e => absurd e h0, fun e => ?_⟩
    have := h.2 e
    rw [if_neg (by omega)]; exact this
theorem ext_rV {q : List UInt8} (k : Int) {s t : St} (h : Ext q s t) : Ext q (rV k s).2 (rV k t).2 := by
  unfold rV
  by_cases h0 : k = 0
  · rw [if_pos h0, if_pos h0]; exact (ext_rU h).1
  · rw [if_neg h0, if_neg h0]
    by_cases h1 : k = 1
    · rw [if_pos h1, if_pos h1]; exact (ext_rI h).1
    · rw [if_neg h1, if_neg h1]
      by_cases h2 : k = 2
      · rw [if_pos h2, if_pos h2]; exact ext_rB h
      · rw [if_neg h2, if_neg h2]
        by_cases h3 : k = 3 ∨ k = 4
        · rw [if_pos h3, if_pos h3]; exact ext_rRaw h
        · rw [if_neg h3, if_neg h3]; exact ext_rInts h

/-- The errors that reading records. -/
def ErrIn (s : St) : Prop := s.e = 0 ∨ s.e = 2 ∨ s.e = 3
theorem err_rU {s : St} (h : ErrIn s) : ErrIn (rU s).2 := by
  unfold rU
  by_cases h0 : s.e = 0
  · rw [if_pos h0]
    rcases rdF_err s.bs 0 0 with h1 | h1
    · exact .inl h1
    · exact .inr h1.2.2
  · rw [if_neg h0]; exact h
theorem err_rL {s : St} (h : ErrIn s) : ErrIn (rL s).2 := by
  unfold rL
  by_cases h0 : (rU s).2.e = 0
  · rw [if_pos h0]
    by_cases h1 : (rU s).2.bs.length < (rU s).1
    · rw [if_pos h1]; exact .inr (.inr rfl)
    · rw [if_neg h1]; exact .inl h0
  · rw [if_neg h0]; exact err_rU h
theorem err_rIs : ∀ (k : Nat) (a : List Int) {s : St}, ErrIn s → ErrIn (rIs k a s).2
  | 0, _, _, h => h
  | k + 1, a, s, h => by
    unfold rIs
    by_cases h0 : (rI s).2.e = 0
    · rw [if_pos h0]; exact err_rIs k _ (.inl h0)
    · rw [if_neg h0]; exact err_rU h
theorem err_rV (k : Int) {s : St} (h : ErrIn s) : ErrIn (rV k s).2 := by
  unfold rV
  by_cases h0 : k = 0
  · rw [if_pos h0]; exact err_rU h
  · rw [if_neg h0]
    by_cases h1 : k = 1
    · rw [if_pos h1]; exact err_rU h
    · rw [if_neg h1]
      by_cases h2 : k = 2
      · rw [if_pos h2]
        unfold rB
        by_cases h3 : s.e = 0
        · rw [if_pos h3]
          cases hb : s.bs with
          | nil => exact .inr (.inr rfl)
          | cons c r =>
            simp only
            by_cases h4 : 1 < c.toNat
            · rw [if_pos h4]; exact .inr (.inl rfl)
            · rw [if_neg h4]; exact .inl rfl
        · rw [if_neg h3]; exact h
      · rw [if_neg h2]
        by_cases h3 : k = 3 ∨ k = 4
        · rw [if_pos h3]
          unfold rRaw
          by_cases h4 : (rL s).2.e = 0
          · rw [if_pos h4]; exact .inl rfl
          · rw [if_neg h4]; exact err_rL h
        · rw [if_neg h3]
          unfold rInts
          by_cases h4 : (rL s).2.e = 0
          · rw [if_pos h4]; exact err_rIs _ _ (.inl h4)
          · rw [if_neg h4]; exact err_rL h

/-- The state behind a sequence of reads. -/
def rVs (ks : List Int) (s : St) : St := ks.foldl (fun s k => (rV k s).2) s
theorem rVs_nil (s : St) : rVs [] s = s := rfl
theorem rVs_cons (k : Int) (ks : List Int) (s : St) : rVs (k :: ks) s = rVs ks (rV k s).2 := rfl
theorem rVs_snoc (ks : List Int) (k : Int) (s : St) : rVs (ks ++ [k]) s = (rV k (rVs ks s)).2 := by simp [rVs]
theorem ext_rVs {q : List UInt8} : ∀ (ks : List Int) {s t : St}, Ext q s t → Ext q (rVs ks s) (rVs ks t)
  | [], _, _, h => h
  | k :: ks, _, _, h => ext_rVs ks (ext_rV k h)
theorem err_rVs : ∀ (ks : List Int) {s : St}, ErrIn s → ErrIn (rVs ks s)
  | [], _, h => h
  | k :: ks, _, h => err_rVs ks (err_rV k h)
theorem rVs_enc : ∀ (vs : List V) (r : List UInt8), (∀ v ∈ vs, Canon v) → rVs (vs.map V.k) ⟨encAll vs ++ r, 0⟩ = ⟨r, 0⟩
  | [], r, _ => by simp [rVs, encAll]
  | v :: vs, r, h => by
    have e : encAll (v :: vs) ++ r = enc v ++ (encAll vs ++ r) := by simp [encAll]
    rw [e, List.map_cons, rVs_cons, rV_enc v _ (h v (by simp))]
    exact rVs_enc vs r (fun y hy => h y (by simp [hy]))
/-- A proper prefix of an encoding is incomplete. -/
theorem prefix_more (vs : List V) (p q : List UInt8) (h : ∀ v ∈ vs, Canon v) (he : encAll vs = p ++ q) (hq : q ≠ []) : (rVs (vs.map V.k) ⟨p, 0⟩).e = 3 := by
  have h1 := rVs_enc vs [] h
  rw [List.append_nil, he] at h1
  have hx := ext_rVs (q := q) (vs.map V.k) (s := ⟨p, 0⟩) (t := ⟨p ++ q, 0⟩) ⟨fun _ => rfl, fun e => by simp at e⟩
  rw [h1] at hx
  rcases err_rVs (vs.map V.k) (s := ⟨p, 0⟩) (.inl rfl) with h0 | h0 | h0
  · have := hx.1 h0
    simp only [St.mk.injEq] at this
    have h2 := this.1
    have h3 : q = [] := by
      have := congrArg List.length h2
      simp only [List.length_nil, List.length_append] at this
      exact List.eq_nil_of_length_eq_zero (by omega)
    exact absurd h3 hq
  · have := hx.2 h0
    simp at this
  · exact h0
/-- Behind an error nothing is read. -/
theorem rV_err (k : Int) {s : St} (h : s.e ≠ 0) : (rV k s).2 = s ∧ (rV k s).1 = ⟨k, 0, 0, [], []⟩ := by
  have hu : rU s = (0, s) := by simp [rU, h]
  have hl : rL s = (0, s) := by simp [rL, hu, h]
  unfold rV
  by_cases h0 : k = 0
  · rw [if_pos h0, hu]; exact ⟨rfl, rfl⟩
  · rw [if_neg h0]
    by_cases h1 : k = 1
    · rw [if_pos h1]; simp only [rI, hu]; exact ⟨trivial, by rfl⟩
    · rw [if_neg h1]
      by_cases h2 : k = 2
      · rw [if_pos h2]; simp [rB, h]
      · rw [if_neg h2]
        by_cases h3 : k = 3 ∨ k = 4
        · rw [if_pos h3]; simp [rRaw, hl, h]
        · rw [if_neg h3]; simp [rInts, hl, h]
end Go.Proofs.YtkdbffhmnkkbcaaDoor.W
