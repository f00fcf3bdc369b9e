/- The walk of LexerNames. Conditions: the table of symbols as the program lays it. -/
import Derived.Test.YtpmndopcemdniaaDoorTNamesM
namespace Go.Proofs.YtpmndopcemdniaaDoor
open Go.RowKit

/-- The ways in which the test of one token goes. -/
theorem one_ways (k : Nat) (l : List UInt8) (q : List Tk × Nat × Nat) :
    (¬ oneTok k l q ∧ q.2.2 ≠ 0) ∨ (¬ oneTok k l q ∧ q.2.2 = 0 ∧ q.1.length ≠ 1) ∨ (¬ oneTok k l q ∧ q.2.2 = 0 ∧ ∃ t, q.1 = [t] ∧ t.kind ≠ k) ∨ (¬ oneTok k l q ∧ q.2.2 = 0 ∧ ∃ t, q.1 = [t] ∧ t.kind = k ∧ t.text ≠ l) ∨
    (oneTok k l q ∧ q.2.2 = 0 ∧ ∃ t, q.1 = [t] ∧ t.kind = k ∧ t.text = l) := by
  unfold oneTok
  by_cases h0 : q.2.2 = 0
  · by_cases h1 : q.1.length = 1
    · obtain ⟨t, ht⟩ := List.length_eq_one_iff.1 h1
      by_cases h2 : t.kind = k
      · by_cases h3 : t.text = l
        · exact .inr (.inr (.inr (.inr ⟨⟨h0, t, ht, h2, h3⟩, h0, t, ht, h2, h3⟩)))
        · exact .inr (.inr (.inr (.inl ⟨fun ⟨_, t', e, _, h⟩ => h3 (by rw [ht] at e; rw [(List.cons.inj e).1]; exact h), h0, t, ht, h2, h3⟩)))
      · exact .inr (.inr (.inl ⟨fun ⟨_, t', e, h, _⟩ => h2 (by rw [ht] at e; rw [(List.cons.inj e).1]; exact h), h0, t, ht, h2⟩))
    · exact .inr (.inl ⟨fun ⟨_, t', e, _⟩ => h1 (by rw [e]; rfl), h0, h1⟩)
  · exact .inl ⟨fun h => h0 h.1, h0⟩

theorem one_at {W : World} {v : Value} {t : Tk} (h : TsAt W v [t]) : ∃ g cap, v = .slice (some ⟨g, 0, none⟩) 1 cap ∧ g < W.heap.size ∧ W.cell? ⟨g, 0, none⟩ = some (.int .i64 (t.kind : Int)) ∧ W.cell? ⟨g, 1, none⟩ = some (.string (ba t.text)) := by
  rcases h with ⟨_, h0⟩ | ⟨g, cap, rfl, hg, hc⟩
  · cases h0
  · obtain ⟨a, b, _, _⟩ := hc 0 t rfl
    exact ⟨g, cap, rfl, hg, a, b⟩

set_option maxRecDepth 100000 in
set_option maxHeartbeats 16000000 in
theorem names_walk (s : ByteArray) (w : World) (hs : s.size ≤ 140737488351232) (hE : LEnv w) : Calls Tryd.prog 8 #[.string s] w fun e w' => e = .returned (.bool true) ∧ Below w.heap.size w w' := by
  obtain ⟨f, hf20, hS⟩ : ∃ f : ByteArray, f.size ≤ 20 ∧ ∀ W, Calls Tryd.prog 15 #[.string s, .int .i64 20] W fun e w' => e = .returned (.string f) ∧ W = w' := by
    by_cases h : s.size ≤ 20
    · refine ⟨s, h, fun W => ?_⟩
      have h' : ¬ (20 : Int) < (s.size : Int) := by omega
      go_enter Tryd.func15, Tryd.ntmps15
      go_wp2
      go_ret
      exact ⟨rfl, rfl⟩
    · refine ⟨s.extract 0 20, by rw [ByteArray.size_extract]; omega, fun W => ?_⟩
      have h' : (20 : Int) < (s.size : Int) := by omega
      go_enter Tryd.func15, Tryd.ntmps15
      go_wp2
      go_ret
      exact ⟨rfl, rfl⟩
  have HSh := Lib.hid hS
  clear hS
  have hni := name_iff f hf20
  have hvi := value_iff f hf20
  have T1 := fun W (h : LEnv W) => tokens_any f W (by omega) h
  have hcat : (⟨#[34]⟩ ++ f ++ ⟨#[34]⟩ : ByteArray).data.toList = 34 :: (f.data.toList ++ [34]) := by simp
  have T2 := fun W (h : LEnv W) => tokens_any (⟨#[34]⟩ ++ f ++ ⟨#[34]⟩) W (by
    have q1 : (⟨#[34]⟩ : ByteArray).size = 1 := rfl
    simp only [ByteArray.size_append]; omega) h
  rw [hcat] at T2
  have hfl : ba f.data.toList = f := ba_of f
  have N1 := Lib.hid (fun W => name_any f W (by omega))
  have V1 := Lib.hid (fun W => value_any f W (by omega))
  obtain ⟨q1, hq1⟩ : ∃ q, tokL f.data.toList = q := ⟨_, rfl⟩
  obtain ⟨q2, hq2⟩ : ∃ q, tokL (34 :: (f.data.toList ++ [34])) = q := ⟨_, rfl⟩
  rw [hq1] at hni T1
  rw [hq2] at hvi T2
  clear hq1 hq2 hcat hs
  have ways1 := one_ways 0 f.data.toList q1
  have ways2 := one_ways 2 f.data.toList q2
  obtain ⟨ts1, at1, er1⟩ := q1
  obtain ⟨ts2, at2, er2⟩ := q2
  replace T1 := Lib.hid T1
  replace T2 := Lib.hid T2
  have hW := Below.refl w.heap.size w
  rcases ways1 with h1 | h1 | h1 | h1 | h1
  · have w1c := True.intro
    clear w1c
    obtain ⟨hn1, he1⟩ := h1
    have hb1 : nameB f = false := by
      cases h : nameB f with
      | false => rfl
      | true => exact absurd (hni.1 h) hn1
    rw [hb1] at N1
    have ee1 : ((er1 : Int) == 0) = false := by simp; exact he1
    clear he1 hn1 hb1
    rcases ways2 with h2 | h2 | h2 | h2 | h2
    · have w2c := True.intro
      clear w2c
      obtain ⟨hn2, he2⟩ := h2
      have hb2 : valB f = false := by
        cases h : valB f with
        | false => rfl
        | true => exact absurd (hvi.1 h) hn2
      rw [hb2] at V1
      have ee2 : ((er2 : Int) == 0) = false := by simp; exact he2
      clear he2 hn2 hb2
      clear hni hvi hfl
      go_enter Tryd.func8, Tryd.ntmps8
      go_wp2_with (first
        | (go_at_call 15; refine (HSh.out _).mono ?_; rintro e w' ⟨rfl, rfl⟩)
        | (go_at_call 20; first
           | (refine (T2.out _ (hE.below (step_low (Below.refl w.heap.size w) hB1))).mono ?_; rintro e w2 ⟨v2, rfl, ho2, hB2⟩; have hT2 := tsAt_of ho2; clear ho2; replace hW := step_low hW hB2; obtain ⟨a2, cc2, rfl⟩ := hT2.slice; clear hT2)
           | (refine (T1.out _ hE).mono ?_; rintro e w1 ⟨v1, rfl, ho1, hB1⟩; have hT1 := tsAt_of ho1; clear ho1; replace hW := step_low hW hB1; obtain ⟨a1, cc1, rfl⟩ := hT1.slice; clear hT1))
        | (go_at_call 21; refine (N1.out _).mono ?_; rintro e w3 ⟨rfl, hB3⟩; replace hW := step_low hW hB3)
        | (go_at_call 22; refine (V1.out _).mono ?_; rintro e w4 ⟨rfl, hB4⟩; replace hW := step_low hW hB4)
        | (go_at_call 14; refine (lives_any _ (hE.below hW)).mono ?_; rintro e w5 ⟨rfl, hB5⟩; replace hW := step_low hW hB5))
      go_ret
      exact ⟨rfl, hW⟩
    · have w2c := True.intro
      clear w2c
      obtain ⟨hn2, he2, hl2⟩ := h2
      have hb2 : valB f = false := by
        cases h : valB f with
        | false => rfl
        | true => exact absurd (hvi.1 h) hn2
      rw [hb2] at V1
      replace he2 : er2 = 0 := he2
      subst he2
      have el2 : ((ts2.length : Int) == 1) = false := by simp; exact fun h => hl2 (by show ts2.length = 1; omega)
      clear hn2 hl2 hb2
      clear hni hvi hfl
      go_enter Tryd.func8, Tryd.ntmps8
      go_wp2_with (first
        | (go_at_call 15; refine (HSh.out _).mono ?_; rintro e w' ⟨rfl, rfl⟩)
        | (go_at_call 20; first
           | (refine (T2.out _ (hE.below (step_low (Below.refl w.heap.size w) hB1))).mono ?_; rintro e w2 ⟨v2, rfl, ho2, hB2⟩; have hT2 := tsAt_of ho2; clear ho2; replace hW := step_low hW hB2; obtain ⟨a2, cc2, rfl⟩ := hT2.slice; clear hT2)
           | (refine (T1.out _ hE).mono ?_; rintro e w1 ⟨v1, rfl, ho1, hB1⟩; have hT1 := tsAt_of ho1; clear ho1; replace hW := step_low hW hB1; obtain ⟨a1, cc1, rfl⟩ := hT1.slice; clear hT1))
        | (go_at_call 21; refine (N1.out _).mono ?_; rintro e w3 ⟨rfl, hB3⟩; replace hW := step_low hW hB3)
        | (go_at_call 22; refine (V1.out _).mono ?_; rintro e w4 ⟨rfl, hB4⟩; replace hW := step_low hW hB4)
        | (go_at_call 14; refine (lives_any _ (hE.below hW)).mono ?_; rintro e w5 ⟨rfl, hB5⟩; replace hW := step_low hW hB5))
      go_ret
      exact ⟨rfl, hW⟩
    · have w2c := True.intro
      clear w2c
      obtain ⟨hn2, he2, ⟨k2, x2, n2, p2⟩, ht2, hk2⟩ := h2
      have hb2 : valB f = false := by
        cases h : valB f with
        | false => rfl
        | true => exact absurd (hvi.1 h) hn2
      rw [hb2] at V1
      replace he2 : er2 = 0 := he2
      subst he2
      replace ht2 : ts2 = [⟨k2, x2, n2, p2⟩] := ht2
      subst ht2
      have ek2 : ((k2 : Int) == 2) = false := by simp; exact fun h => hk2 (by show k2 = 2; omega)
      clear hn2 hk2 hb2
      clear hni hvi hfl
      go_enter Tryd.func8, Tryd.ntmps8
      go_wp2_with (first
        | (go_at_call 15; refine (HSh.out _).mono ?_; rintro e w' ⟨rfl, rfl⟩)
        | (go_at_call 20; first
           | (refine (T2.out _ (hE.below (step_low (Below.refl w.heap.size w) hB1))).mono ?_; rintro e w2 ⟨v2, rfl, ho2, hB2⟩; have hT2 := tsAt_of ho2; clear ho2; replace hW := step_low hW hB2; obtain ⟨g2, cp2, rfl, hg2, y2, z2⟩ := one_at hT2; clear hT2)
           | (refine (T1.out _ hE).mono ?_; rintro e w1 ⟨v1, rfl, ho1, hB1⟩; have hT1 := tsAt_of ho1; clear ho1; replace hW := step_low hW hB1; obtain ⟨a1, cc1, rfl⟩ := hT1.slice; clear hT1))
        | (go_at_call 21; refine (N1.out _).mono ?_; rintro e w3 ⟨rfl, hB3⟩; replace hW := step_low hW hB3)
        | (go_at_call 22; refine (V1.out _).mono ?_; rintro e w4 ⟨rfl, hB4⟩; replace hW := step_low hW hB4)
        | (go_at_call 14; refine (lives_any _ (hE.below hW)).mono ?_; rintro e w5 ⟨rfl, hB5⟩; replace hW := step_low hW hB5))
      go_ret
      exact ⟨rfl, hW⟩
    · have w2c := True.intro
      clear w2c
      obtain ⟨hn2, he2, ⟨k2, x2, n2, p2⟩, ht2, hk2, hx2⟩ := h2
      have hb2 : valB f = false := by
        cases h : valB f with
        | false => rfl
        | true => exact absurd (hvi.1 h) hn2
      rw [hb2] at V1
      replace he2 : er2 = 0 := he2
      subst he2
      replace ht2 : ts2 = [⟨k2, x2, n2, p2⟩] := ht2
      subst ht2
      replace hk2 : k2 = 2 := hk2
      subst hk2
      have ex2 : ((ba x2).toList == f.toList) = false := by rw [ba_toList, ByteArray.toList_eq]; simp; exact hx2
      clear hn2 hx2 hb2
      clear hni hvi hfl
      go_enter Tryd.func8, Tryd.ntmps8
      go_wp2_with (first
        | (go_at_call 15; refine (HSh.out _).mono ?_; rintro e w' ⟨rfl, rfl⟩)
        | (go_at_call 20; first
           | (refine (T2.out _ (hE.below (step_low (Below.refl w.heap.size w) hB1))).mono ?_; rintro e w2 ⟨v2, rfl, ho2, hB2⟩; have hT2 := tsAt_of ho2; clear ho2; replace hW := step_low hW hB2; obtain ⟨g2, cp2, rfl, hg2, y2, z2⟩ := one_at hT2; clear hT2)
           | (refine (T1.out _ hE).mono ?_; rintro e w1 ⟨v1, rfl, ho1, hB1⟩; have hT1 := tsAt_of ho1; clear ho1; replace hW := step_low hW hB1; obtain ⟨a1, cc1, rfl⟩ := hT1.slice; clear hT1))
        | (go_at_call 21; refine (N1.out _).mono ?_; rintro e w3 ⟨rfl, hB3⟩; replace hW := step_low hW hB3)
        | (go_at_call 22; refine (V1.out _).mono ?_; rintro e w4 ⟨rfl, hB4⟩; replace hW := step_low hW hB4)
        | (go_at_call 14; refine (lives_any _ (hE.below hW)).mono ?_; rintro e w5 ⟨rfl, hB5⟩; replace hW := step_low hW hB5))
      go_ret
      exact ⟨rfl, hW⟩
    · have w2c := True.intro
      clear w2c
      obtain ⟨hn2, he2, ⟨k2, x2, n2, p2⟩, ht2, hk2, hx2⟩ := h2
      have hb2 : valB f = true := by
        exact hvi.2 hn2
      rw [hb2] at V1
      replace he2 : er2 = 0 := he2
      subst he2
      replace ht2 : ts2 = [⟨k2, x2, n2, p2⟩] := ht2
      subst ht2
      replace hk2 : k2 = 2 := hk2
      subst hk2
      have ex2 : ((ba x2).toList == f.toList) = true := by rw [ba_toList, ByteArray.toList_eq]; simp; exact hx2
      clear hn2 hx2 hb2
      clear hni hvi hfl
      go_enter Tryd.func8, Tryd.ntmps8
      go_wp2_with (first
        | (go_at_call 15; refine (HSh.out _).mono ?_; rintro e w' ⟨rfl, rfl⟩)
        | (go_at_call 20; first
           | (refine (T2.out _ (hE.below (step_low (Below.refl w.heap.size w) hB1))).mono ?_; rintro e w2 ⟨v2, rfl, ho2, hB2⟩; have hT2 := tsAt_of ho2; clear ho2; replace hW := step_low hW hB2; obtain ⟨g2, cp2, rfl, hg2, y2, z2⟩ := one_at hT2; clear hT2)
           | (refine (T1.out _ hE).mono ?_; rintro e w1 ⟨v1, rfl, ho1, hB1⟩; have hT1 := tsAt_of ho1; clear ho1; replace hW := step_low hW hB1; obtain ⟨a1, cc1, rfl⟩ := hT1.slice; clear hT1))
        | (go_at_call 21; refine (N1.out _).mono ?_; rintro e w3 ⟨rfl, hB3⟩; replace hW := step_low hW hB3)
        | (go_at_call 22; refine (V1.out _).mono ?_; rintro e w4 ⟨rfl, hB4⟩; replace hW := step_low hW hB4)
        | (go_at_call 14; refine (lives_any _ (hE.below hW)).mono ?_; rintro e w5 ⟨rfl, hB5⟩; replace hW := step_low hW hB5))
      go_ret
      exact ⟨rfl, hW⟩
  · have w1c := True.intro
    clear w1c
    obtain ⟨hn1, he1, hl1⟩ := h1
    have hb1 : nameB f = false := by
      cases h : nameB f with
      | false => rfl
      | true => exact absurd (hni.1 h) hn1
    rw [hb1] at N1
    replace he1 : er1 = 0 := he1
    subst he1
    have el1 : ((ts1.length : Int) == 1) = false := by simp; exact fun h => hl1 (by show ts1.length = 1; omega)
    clear hn1 hl1 hb1
    rcases ways2 with h2 | h2 | h2 | h2 | h2
    · have w2c := True.intro
      clear w2c
      obtain ⟨hn2, he2⟩ := h2
      have hb2 : valB f = false := by
        cases h : valB f with
        | false => rfl
        | true => exact absurd (hvi.1 h) hn2
      rw [hb2] at V1
      have ee2 : ((er2 : Int) == 0) = false := by simp; exact he2
      clear he2 hn2 hb2
      clear hni hvi hfl
      go_enter Tryd.func8, Tryd.ntmps8
      go_wp2_with (first
        | (go_at_call 15; refine (HSh.out _).mono ?_; rintro e w' ⟨rfl, rfl⟩)
        | (go_at_call 20; first
           | (refine (T2.out _ (hE.below (step_low (Below.refl w.heap.size w) hB1))).mono ?_; rintro e w2 ⟨v2, rfl, ho2, hB2⟩; have hT2 := tsAt_of ho2; clear ho2; replace hW := step_low hW hB2; obtain ⟨a2, cc2, rfl⟩ := hT2.slice; clear hT2)
           | (refine (T1.out _ hE).mono ?_; rintro e w1 ⟨v1, rfl, ho1, hB1⟩; have hT1 := tsAt_of ho1; clear ho1; replace hW := step_low hW hB1; obtain ⟨a1, cc1, rfl⟩ := hT1.slice; clear hT1))
        | (go_at_call 21; refine (N1.out _).mono ?_; rintro e w3 ⟨rfl, hB3⟩; replace hW := step_low hW hB3)
        | (go_at_call 22; refine (V1.out _).mono ?_; rintro e w4 ⟨rfl, hB4⟩; replace hW := step_low hW hB4)
        | (go_at_call 14; refine (lives_any _ (hE.below hW)).mono ?_; rintro e w5 ⟨rfl, hB5⟩; replace hW := step_low hW hB5))
      go_ret
      exact ⟨rfl, hW⟩
    · have w2c := True.intro
      clear w2c
      obtain ⟨hn2, he2, hl2⟩ := h2
      have hb2 : valB f = false := by
        cases h : valB f with
        | false => rfl
        | true => exact absurd (hvi.1 h) hn2
      rw [hb2] at V1
      replace he2 : er2 = 0 := he2
      subst he2
      have el2 : ((ts2.length : Int) == 1) = false := by simp; exact fun h => hl2 (by show ts2.length = 1; omega)
      clear hn2 hl2 hb2
      clear hni hvi hfl
      go_enter Tryd.func8, Tryd.ntmps8
      go_wp2_with (first
        | (go_at_call 15; refine (HSh.out _).mono ?_; rintro e w' ⟨rfl, rfl⟩)
        | (go_at_call 20; first
           | (refine (T2.out _ (hE.below (step_low (Below.refl w.heap.size w) hB1))).mono ?_; rintro e w2 ⟨v2, rfl, ho2, hB2⟩; have hT2 := tsAt_of ho2; clear ho2; replace hW := step_low hW hB2; obtain ⟨a2, cc2, rfl⟩ := hT2.slice; clear hT2)
           | (refine (T1.out _ hE).mono ?_; rintro e w1 ⟨v1, rfl, ho1, hB1⟩; have hT1 := tsAt_of ho1; clear ho1; replace hW := step_low hW hB1; obtain ⟨a1, cc1, rfl⟩ := hT1.slice; clear hT1))
        | (go_at_call 21; refine (N1.out _).mono ?_; rintro e w3 ⟨rfl, hB3⟩; replace hW := step_low hW hB3)
        | (go_at_call 22; refine (V1.out _).mono ?_; rintro e w4 ⟨rfl, hB4⟩; replace hW := step_low hW hB4)
        | (go_at_call 14; refine (lives_any _ (hE.below hW)).mono ?_; rintro e w5 ⟨rfl, hB5⟩; replace hW := step_low hW hB5))
      go_ret
      exact ⟨rfl, hW⟩
    · have w2c := True.intro
      clear w2c
      obtain ⟨hn2, he2, ⟨k2, x2, n2, p2⟩, ht2, hk2⟩ := h2
      have hb2 : valB f = false := by
        cases h : valB f with
        | false => rfl
        | true => exact absurd (hvi.1 h) hn2
      rw [hb2] at V1
      replace he2 : er2 = 0 := he2
      subst he2
      replace ht2 : ts2 = [⟨k2, x2, n2, p2⟩] := ht2
      subst ht2
      have ek2 : ((k2 : Int) == 2) = false := by simp; exact fun h => hk2 (by show k2 = 2; omega)
      clear hn2 hk2 hb2
      clear hni hvi hfl
      go_enter Tryd.func8, Tryd.ntmps8
      go_wp2_with (first
        | (go_at_call 15; refine (HSh.out _).mono ?_; rintro e w' ⟨rfl, rfl⟩)
        | (go_at_call 20; first
           | (refine (T2.out _ (hE.below (step_low (Below.refl w.heap.size w) hB1))).mono ?_; rintro e w2 ⟨v2, rfl, ho2, hB2⟩; have hT2 := tsAt_of ho2; clear ho2; replace hW := step_low hW hB2; obtain ⟨g2, cp2, rfl, hg2, y2, z2⟩ := one_at hT2; clear hT2)
           | (refine (T1.out _ hE).mono ?_; rintro e w1 ⟨v1, rfl, ho1, hB1⟩; have hT1 := tsAt_of ho1; clear ho1; replace hW := step_low hW hB1; obtain ⟨a1, cc1, rfl⟩ := hT1.slice; clear hT1))
        | (go_at_call 21; refine (N1.out _).mono ?_; rintro e w3 ⟨rfl, hB3⟩; replace hW := step_low hW hB3)
        | (go_at_call 22; refine (V1.out _).mono ?_; rintro e w4 ⟨rfl, hB4⟩; replace hW := step_low hW hB4)
        | (go_at_call 14; refine (lives_any _ (hE.below hW)).mono ?_; rintro e w5 ⟨rfl, hB5⟩; replace hW := step_low hW hB5))
      go_ret
      exact ⟨rfl, hW⟩
    · have w2c := True.intro
      clear w2c
      obtain ⟨hn2, he2, ⟨k2, x2, n2, p2⟩, ht2, hk2, hx2⟩ := h2
      have hb2 : valB f = false := by
        cases h : valB f with
        | false => rfl
        | true => exact absurd (hvi.1 h) hn2
      rw [hb2] at V1
      replace he2 : er2 = 0 := he2
      subst he2
      replace ht2 : ts2 = [⟨k2, x2, n2, p2⟩] := ht2
      subst ht2
      replace hk2 : k2 = 2 := hk2
      subst hk2
      have ex2 : ((ba x2).toList == f.toList) = false := by rw [ba_toList, ByteArray.toList_eq]; simp; exact hx2
      clear hn2 hx2 hb2
      clear hni hvi hfl
      go_enter Tryd.func8, Tryd.ntmps8
      go_wp2_with (first
        | (go_at_call 15; refine (HSh.out _).mono ?_; rintro e w' ⟨rfl, rfl⟩)
        | (go_at_call 20; first
           | (refine (T2.out _ (hE.below (step_low (Below.refl w.heap.size w) hB1))).mono ?_; rintro e w2 ⟨v2, rfl, ho2, hB2⟩; have hT2 := tsAt_of ho2; clear ho2; replace hW := step_low hW hB2; obtain ⟨g2, cp2, rfl, hg2, y2, z2⟩ := one_at hT2; clear hT2)
           | (refine (T1.out _ hE).mono ?_; rintro e w1 ⟨v1, rfl, ho1, hB1⟩; have hT1 := tsAt_of ho1; clear ho1; replace hW := step_low hW hB1; obtain ⟨a1, cc1, rfl⟩ := hT1.slice; clear hT1))
        | (go_at_call 21; refine (N1.out _).mono ?_; rintro e w3 ⟨rfl, hB3⟩; replace hW := step_low hW hB3)
        | (go_at_call 22; refine (V1.out _).mono ?_; rintro e w4 ⟨rfl, hB4⟩; replace hW := step_low hW hB4)
        | (go_at_call 14; refine (lives_any _ (hE.below hW)).mono ?_; rintro e w5 ⟨rfl, hB5⟩; replace hW := step_low hW hB5))
      go_ret
      exact ⟨rfl, hW⟩
    · have w2c := True.intro
      clear w2c
      obtain ⟨hn2, he2, ⟨k2, x2, n2, p2⟩, ht2, hk2, hx2⟩ := h2
      have hb2 : valB f = true := by
        exact hvi.2 hn2
      rw [hb2] at V1
      replace he2 : er2 = 0 := he2
      subst he2
      replace ht2 : ts2 = [⟨k2, x2, n2, p2⟩] := ht2
      subst ht2
      replace hk2 : k2 = 2 := hk2
      subst hk2
      have ex2 : ((ba x2).toList == f.toList) = true := by rw [ba_toList, ByteArray.toList_eq]; simp; exact hx2
      clear hn2 hx2 hb2
      clear hni hvi hfl
      go_enter Tryd.func8, Tryd.ntmps8
      go_wp2_with (first
        | (go_at_call 15; refine (HSh.out _).mono ?_; rintro e w' ⟨rfl, rfl⟩)
        | (go_at_call 20; first
           | (refine (T2.out _ (hE.below (step_low (Below.refl w.heap.size w) hB1))).mono ?_; rintro e w2 ⟨v2, rfl, ho2, hB2⟩; have hT2 := tsAt_of ho2; clear ho2; replace hW := step_low hW hB2; obtain ⟨g2, cp2, rfl, hg2, y2, z2⟩ := one_at hT2; clear hT2)
           | (refine (T1.out _ hE).mono ?_; rintro e w1 ⟨v1, rfl, ho1, hB1⟩; have hT1 := tsAt_of ho1; clear ho1; replace hW := step_low hW hB1; obtain ⟨a1, cc1, rfl⟩ := hT1.slice; clear hT1))
        | (go_at_call 21; refine (N1.out _).mono ?_; rintro e w3 ⟨rfl, hB3⟩; replace hW := step_low hW hB3)
        | (go_at_call 22; refine (V1.out _).mono ?_; rintro e w4 ⟨rfl, hB4⟩; replace hW := step_low hW hB4)
        | (go_at_call 14; refine (lives_any _ (hE.below hW)).mono ?_; rintro e w5 ⟨rfl, hB5⟩; replace hW := step_low hW hB5))
      go_ret
      exact ⟨rfl, hW⟩
  · have w1c := True.intro
    clear w1c
    obtain ⟨hn1, he1, ⟨k1, x1, n1, p1⟩, ht1, hk1⟩ := h1
    have hb1 : nameB f = false := by
      cases h : nameB f with
      | false => rfl
      | true => exact absurd (hni.1 h) hn1
    rw [hb1] at N1
    replace he1 : er1 = 0 := he1
    subst he1
    replace ht1 : ts1 = [⟨k1, x1, n1, p1⟩] := ht1
    subst ht1
    have ek1 : ((k1 : Int) == 0) = false := by simp; exact fun h => hk1 (by show k1 = 0; omega)
    clear hn1 hk1 hb1
    rcases ways2 with h2 | h2 | h2 | h2 | h2
    · have w2c := True.intro
      clear w2c
      obtain ⟨hn2, he2⟩ := h2
      have hb2 : valB f = false := by
        cases h : valB f with
        | false => rfl
        | true => exact absurd (hvi.1 h) hn2
      rw [hb2] at V1
      have ee2 : ((er2 : Int) == 0) = false := by simp; exact he2
      clear he2 hn2 hb2
      clear hni hvi hfl
      go_enter Tryd.func8, Tryd.ntmps8
      go_wp2_with (first
        | (go_at_call 15; refine (HSh.out _).mono ?_; rintro e w' ⟨rfl, rfl⟩)
        | (go_at_call 20; first
           | (refine (T2.out _ (hE.below (step_low (Below.refl w.heap.size w) hB1))).mono ?_; rintro e w2 ⟨v2, rfl, ho2, hB2⟩; have hT2 := tsAt_of ho2; clear ho2; replace hW := step_low hW hB2; obtain ⟨a2, cc2, rfl⟩ := hT2.slice; clear hT2; replace y1 := (hB2.cell (p := ⟨g1, 0, none⟩) hg1).trans y1; replace z1 := (hB2.cell (p := ⟨g1, 1, none⟩) hg1).trans z1)
           | (refine (T1.out _ hE).mono ?_; rintro e w1 ⟨v1, rfl, ho1, hB1⟩; have hT1 := tsAt_of ho1; clear ho1; replace hW := step_low hW hB1; obtain ⟨g1, cp1, rfl, hg1, y1, z1⟩ := one_at hT1; clear hT1))
        | (go_at_call 21; refine (N1.out _).mono ?_; rintro e w3 ⟨rfl, hB3⟩; replace hW := step_low hW hB3)
        | (go_at_call 22; refine (V1.out _).mono ?_; rintro e w4 ⟨rfl, hB4⟩; replace hW := step_low hW hB4)
        | (go_at_call 14; refine (lives_any _ (hE.below hW)).mono ?_; rintro e w5 ⟨rfl, hB5⟩; replace hW := step_low hW hB5))
      go_ret
      exact ⟨rfl, hW⟩
    · have w2c := True.intro
      clear w2c
      obtain ⟨hn2, he2, hl2⟩ := h2
      have hb2 : valB f = false := by
        cases h : valB f with
        | false => rfl
        | true => exact absurd (hvi.1 h) hn2
      rw [hb2] at V1
      replace he2 : er2 = 0 := he2
      subst he2
      have el2 : ((ts2.length : Int) == 1) = false := by simp; exact fun h => hl2 (by show ts2.length = 1; omega)
      clear hn2 hl2 hb2
      clear hni hvi hfl
      go_enter Tryd.func8, Tryd.ntmps8
      go_wp2_with (first
        | (go_at_call 15; refine (HSh.out _).mono ?_; rintro e w' ⟨rfl, rfl⟩)
        | (go_at_call 20; first
           | (refine (T2.out _ (hE.below (step_low (Below.refl w.heap.size w) hB1))).mono ?_; rintro e w2 ⟨v2, rfl, ho2, hB2⟩; have hT2 := tsAt_of ho2; clear ho2; replace hW := step_low hW hB2; obtain ⟨a2, cc2, rfl⟩ := hT2.slice; clear hT2; replace y1 := (hB2.cell (p := ⟨g1, 0, none⟩) hg1).trans y1; replace z1 := (hB2.cell (p := ⟨g1, 1, none⟩) hg1).trans z1)
           | (refine (T1.out _ hE).mono ?_; rintro e w1 ⟨v1, rfl, ho1, hB1⟩; have hT1 := tsAt_of ho1; clear ho1; replace hW := step_low hW hB1; obtain ⟨g1, cp1, rfl, hg1, y1, z1⟩ := one_at hT1; clear hT1))
        | (go_at_call 21; refine (N1.out _).mono ?_; rintro e w3 ⟨rfl, hB3⟩; replace hW := step_low hW hB3)
        | (go_at_call 22; refine (V1.out _).mono ?_; rintro e w4 ⟨rfl, hB4⟩; replace hW := step_low hW hB4)
        | (go_at_call 14; refine (lives_any _ (hE.below hW)).mono ?_; rintro e w5 ⟨rfl, hB5⟩; replace hW := step_low hW hB5))
      go_ret
      exact ⟨rfl, hW⟩
    · have w2c := True.intro
      clear w2c
      obtain ⟨hn2, he2, ⟨k2, x2, n2, p2⟩, ht2, hk2⟩ := h2
      have hb2 : valB f = false := by
        cases h : valB f with
        | false => rfl
        | true => exact absurd (hvi.1 h) hn2
      rw [hb2] at V1
      replace he2 : er2 = 0 := he2
      subst he2
      replace ht2 : ts2 = [⟨k2, x2, n2, p2⟩] := ht2
      subst ht2
      have ek2 : ((k2 : Int) == 2) = false := by simp; exact fun h => hk2 (by show k2 = 2; omega)
      clear hn2 hk2 hb2
      clear hni hvi hfl
      go_enter Tryd.func8, Tryd.ntmps8
      go_wp2_with (first
        | (go_at_call 15; refine (HSh.out _).mono ?_; rintro e w' ⟨rfl, rfl⟩)
        | (go_at_call 20; first
           | (refine (T2.out _ (hE.below (step_low (Below.refl w.heap.size w) hB1))).mono ?_; rintro e w2 ⟨v2, rfl, ho2, hB2⟩; have hT2 := tsAt_of ho2; clear ho2; replace hW := step_low hW hB2; obtain ⟨g2, cp2, rfl, hg2, y2, z2⟩ := one_at hT2; clear hT2; replace y1 := (hB2.cell (p := ⟨g1, 0, none⟩) hg1).trans y1; replace z1 := (hB2.cell (p := ⟨g1, 1, none⟩) hg1).trans z1)
           | (refine (T1.out _ hE).mono ?_; rintro e w1 ⟨v1, rfl, ho1, hB1⟩; have hT1 := tsAt_of ho1; clear ho1; replace hW := step_low hW hB1; obtain ⟨g1, cp1, rfl, hg1, y1, z1⟩ := one_at hT1; clear hT1))
        | (go_at_call 21; refine (N1.out _).mono ?_; rintro e w3 ⟨rfl, hB3⟩; replace hW := step_low hW hB3)
        | (go_at_call 22; refine (V1.out _).mono ?_; rintro e w4 ⟨rfl, hB4⟩; replace hW := step_low hW hB4)
        | (go_at_call 14; refine (lives_any _ (hE.below hW)).mono ?_; rintro e w5 ⟨rfl, hB5⟩; replace hW := step_low hW hB5))
      go_ret
      exact ⟨rfl, hW⟩
    · have w2c := True.intro
      clear w2c
      obtain ⟨hn2, he2, ⟨k2, x2, n2, p2⟩, ht2, hk2, hx2⟩ := h2
      have hb2 : valB f = false := by
        cases h : valB f with
        | false => rfl
        | true => exact absurd (hvi.1 h) hn2
      rw [hb2] at V1
      replace he2 : er2 = 0 := he2
      subst he2
      replace ht2 : ts2 = [⟨k2, x2, n2, p2⟩] := ht2
      subst ht2
      replace hk2 : k2 = 2 := hk2
      subst hk2
      have ex2 : ((ba x2).toList == f.toList) = false := by rw [ba_toList, ByteArray.toList_eq]; simp; exact hx2
      clear hn2 hx2 hb2
      clear hni hvi hfl
      go_enter Tryd.func8, Tryd.ntmps8
      go_wp2_with (first
        | (go_at_call 15; refine (HSh.out _).mono ?_; rintro e w' ⟨rfl, rfl⟩)
        | (go_at_call 20; first
           | (refine (T2.out _ (hE.below (step_low (Below.refl w.heap.size w) hB1))).mono ?_; rintro e w2 ⟨v2, rfl, ho2, hB2⟩; have hT2 := tsAt_of ho2; clear ho2; replace hW := step_low hW hB2; obtain ⟨g2, cp2, rfl, hg2, y2, z2⟩ := one_at hT2; clear hT2; replace y1 := (hB2.cell (p := ⟨g1, 0, none⟩) hg1).trans y1; replace z1 := (hB2.cell (p := ⟨g1, 1, none⟩) hg1).trans z1)
           | (refine (T1.out _ hE).mono ?_; rintro e w1 ⟨v1, rfl, ho1, hB1⟩; have hT1 := tsAt_of ho1; clear ho1; replace hW := step_low hW hB1; obtain ⟨g1, cp1, rfl, hg1, y1, z1⟩ := one_at hT1; clear hT1))
        | (go_at_call 21; refine (N1.out _).mono ?_; rintro e w3 ⟨rfl, hB3⟩; replace hW := step_low hW hB3)
        | (go_at_call 22; refine (V1.out _).mono ?_; rintro e w4 ⟨rfl, hB4⟩; replace hW := step_low hW hB4)
        | (go_at_call 14; refine (lives_any _ (hE.below hW)).mono ?_; rintro e w5 ⟨rfl, hB5⟩; replace hW := step_low hW hB5))
      go_ret
      exact ⟨rfl, hW⟩
    · have w2c := True.intro
      clear w2c
      obtain ⟨hn2, he2, ⟨k2, x2, n2, p2⟩, ht2, hk2, hx2⟩ := h2
      have hb2 : valB f = true := by
        exact hvi.2 hn2
      rw [hb2] at V1
      replace he2 : er2 = 0 := he2
      subst he2
      replace ht2 : ts2 = [⟨k2, x2, n2, p2⟩] := ht2
      subst ht2
      replace hk2 : k2 = 2 := hk2
      subst hk2
      have ex2 : ((ba x2).toList == f.toList) = true := by rw [ba_toList, ByteArray.toList_eq]; simp; exact hx2
      clear hn2 hx2 hb2
      clear hni hvi hfl
      go_enter Tryd.func8, Tryd.ntmps8
      go_wp2_with (first
        | (go_at_call 15; refine (HSh.out _).mono ?_; rintro e w' ⟨rfl, rfl⟩)
        | (go_at_call 20; first
           | (refine (T2.out _ (hE.below (step_low (Below.refl w.heap.size w) hB1))).mono ?_; rintro e w2 ⟨v2, rfl, ho2, hB2⟩; have hT2 := tsAt_of ho2; clear ho2; replace hW := step_low hW hB2; obtain ⟨g2, cp2, rfl, hg2, y2, z2⟩ := one_at hT2; clear hT2; replace y1 := (hB2.cell (p := ⟨g1, 0, none⟩) hg1).trans y1; replace z1 := (hB2.cell (p := ⟨g1, 1, none⟩) hg1).trans z1)
           | (refine (T1.out _ hE).mono ?_; rintro e w1 ⟨v1, rfl, ho1, hB1⟩; have hT1 := tsAt_of ho1; clear ho1; replace hW := step_low hW hB1; obtain ⟨g1, cp1, rfl, hg1, y1, z1⟩ := one_at hT1; clear hT1))
        | (go_at_call 21; refine (N1.out _).mono ?_; rintro e w3 ⟨rfl, hB3⟩; replace hW := step_low hW hB3)
        | (go_at_call 22; refine (V1.out _).mono ?_; rintro e w4 ⟨rfl, hB4⟩; replace hW := step_low hW hB4)
        | (go_at_call 14; refine (lives_any _ (hE.below hW)).mono ?_; rintro e w5 ⟨rfl, hB5⟩; replace hW := step_low hW hB5))
      go_ret
      exact ⟨rfl, hW⟩
  · have w1c := True.intro
    clear w1c
    obtain ⟨hn1, he1, ⟨k1, x1, n1, p1⟩, ht1, hk1, hx1⟩ := h1
    have hb1 : nameB f = false := by
      cases h : nameB f with
      | false => rfl
      | true => exact absurd (hni.1 h) hn1
    rw [hb1] at N1
    replace he1 : er1 = 0 := he1
    subst he1
    replace ht1 : ts1 = [⟨k1, x1, n1, p1⟩] := ht1
    subst ht1
    replace hk1 : k1 = 0 := hk1
    subst hk1
    have ex1 : ((ba x1).toList == f.toList) = false := by rw [ba_toList, ByteArray.toList_eq]; simp; exact hx1
    clear hn1 hx1 hb1
    rcases ways2 with h2 | h2 | h2 | h2 | h2
    · have w2c := True.intro
      clear w2c
      obtain ⟨hn2, he2⟩ := h2
      have hb2 : valB f = false := by
        cases h : valB f with
        | false => rfl
        | true => exact absurd (hvi.1 h) hn2
      rw [hb2] at V1
      have ee2 : ((er2 : Int) == 0) = false := by simp; exact he2
      clear he2 hn2 hb2
      clear hni hvi hfl
      go_enter Tryd.func8, Tryd.ntmps8
      go_wp2_with (first
        | (go_at_call 15; refine (HSh.out _).mono ?_; rintro e w' ⟨rfl, rfl⟩)
        | (go_at_call 20; first
           | (refine (T2.out _ (hE.below (step_low (Below.refl w.heap.size w) hB1))).mono ?_; rintro e w2 ⟨v2, rfl, ho2, hB2⟩; have hT2 := tsAt_of ho2; clear ho2; replace hW := step_low hW hB2; obtain ⟨a2, cc2, rfl⟩ := hT2.slice; clear hT2; replace y1 := (hB2.cell (p := ⟨g1, 0, none⟩) hg1).trans y1; replace z1 := (hB2.cell (p := ⟨g1, 1, none⟩) hg1).trans z1)
           | (refine (T1.out _ hE).mono ?_; rintro e w1 ⟨v1, rfl, ho1, hB1⟩; have hT1 := tsAt_of ho1; clear ho1; replace hW := step_low hW hB1; obtain ⟨g1, cp1, rfl, hg1, y1, z1⟩ := one_at hT1; clear hT1))
        | (go_at_call 21; refine (N1.out _).mono ?_; rintro e w3 ⟨rfl, hB3⟩; replace hW := step_low hW hB3)
        | (go_at_call 22; refine (V1.out _).mono ?_; rintro e w4 ⟨rfl, hB4⟩; replace hW := step_low hW hB4)
        | (go_at_call 14; refine (lives_any _ (hE.below hW)).mono ?_; rintro e w5 ⟨rfl, hB5⟩; replace hW := step_low hW hB5))
      go_ret
      exact ⟨rfl, hW⟩
    · have w2c := True.intro
      clear w2c
      obtain ⟨hn2, he2, hl2⟩ := h2
      have hb2 : valB f = false := by
        cases h : valB f with
        | false => rfl
        | true => exact absurd (hvi.1 h) hn2
      rw [hb2] at V1
      replace he2 : er2 = 0 := he2
      subst he2
      have el2 : ((ts2.length : Int) == 1) = false := by simp; exact fun h => hl2 (by show ts2.length = 1; omega)
      clear hn2 hl2 hb2
      clear hni hvi hfl
      go_enter Tryd.func8, Tryd.ntmps8
      go_wp2_with (first
        | (go_at_call 15; refine (HSh.out _).mono ?_; rintro e w' ⟨rfl, rfl⟩)
        | (go_at_call 20; first
           | (refine (T2.out _ (hE.below (step_low (Below.refl w.heap.size w) hB1))).mono ?_; rintro e w2 ⟨v2, rfl, ho2, hB2⟩; have hT2 := tsAt_of ho2; clear ho2; replace hW := step_low hW hB2; obtain ⟨a2, cc2, rfl⟩ := hT2.slice; clear hT2; replace y1 := (hB2.cell (p := ⟨g1, 0, none⟩) hg1).trans y1; replace z1 := (hB2.cell (p := ⟨g1, 1, none⟩) hg1).trans z1)
           | (refine (T1.out _ hE).mono ?_; rintro e w1 ⟨v1, rfl, ho1, hB1⟩; have hT1 := tsAt_of ho1; clear ho1; replace hW := step_low hW hB1; obtain ⟨g1, cp1, rfl, hg1, y1, z1⟩ := one_at hT1; clear hT1))
        | (go_at_call 21; refine (N1.out _).mono ?_; rintro e w3 ⟨rfl, hB3⟩; replace hW := step_low hW hB3)
        | (go_at_call 22; refine (V1.out _).mono ?_; rintro e w4 ⟨rfl, hB4⟩; replace hW := step_low hW hB4)
        | (go_at_call 14; refine (lives_any _ (hE.below hW)).mono ?_; rintro e w5 ⟨rfl, hB5⟩; replace hW := step_low hW hB5))
      go_ret
      exact ⟨rfl, hW⟩
    · have w2c := True.intro
      clear w2c
      obtain ⟨hn2, he2, ⟨k2, x2, n2, p2⟩, ht2, hk2⟩ := h2
      have hb2 : valB f = false := by
        cases h : valB f with
        | false => rfl
        | true => exact absurd (hvi.1 h) hn2
      rw [hb2] at V1
      replace he2 : er2 = 0 := he2
      subst he2
      replace ht2 : ts2 = [⟨k2, x2, n2, p2⟩] := ht2
      subst ht2
      have ek2 : ((k2 : Int) == 2) = false := by simp; exact fun h => hk2 (by show k2 = 2; omega)
      clear hn2 hk2 hb2
      clear hni hvi hfl
      go_enter Tryd.func8, Tryd.ntmps8
      go_wp2_with (first
        | (go_at_call 15; refine (HSh.out _).mono ?_; rintro e w' ⟨rfl, rfl⟩)
        | (go_at_call 20; first
           | (refine (T2.out _ (hE.below (step_low (Below.refl w.heap.size w) hB1))).mono ?_; rintro e w2 ⟨v2, rfl, ho2, hB2⟩; have hT2 := tsAt_of ho2; clear ho2; replace hW := step_low hW hB2; obtain ⟨g2, cp2, rfl, hg2, y2, z2⟩ := one_at hT2; clear hT2; replace y1 := (hB2.cell (p := ⟨g1, 0, none⟩) hg1).trans y1; replace z1 := (hB2.cell (p := ⟨g1, 1, none⟩) hg1).trans z1)
           | (refine (T1.out _ hE).mono ?_; rintro e w1 ⟨v1, rfl, ho1, hB1⟩; have hT1 := tsAt_of ho1; clear ho1; replace hW := step_low hW hB1; obtain ⟨g1, cp1, rfl, hg1, y1, z1⟩ := one_at hT1; clear hT1))
        | (go_at_call 21; refine (N1.out _).mono ?_; rintro e w3 ⟨rfl, hB3⟩; replace hW := step_low hW hB3)
        | (go_at_call 22; refine (V1.out _).mono ?_; rintro e w4 ⟨rfl, hB4⟩; replace hW := step_low hW hB4)
        | (go_at_call 14; refine (lives_any _ (hE.below hW)).mono ?_; rintro e w5 ⟨rfl, hB5⟩; replace hW := step_low hW hB5))
      go_ret
      exact ⟨rfl, hW⟩
    · have w2c := True.intro
      clear w2c
      obtain ⟨hn2, he2, ⟨k2, x2, n2, p2⟩, ht2, hk2, hx2⟩ := h2
      have hb2 : valB f = false := by
        cases h : valB f with
        | false => rfl
        | true => exact absurd (hvi.1 h) hn2
      rw [hb2] at V1
      replace he2 : er2 = 0 := he2
      subst he2
      replace ht2 : ts2 = [⟨k2, x2, n2, p2⟩] := ht2
      subst ht2
      replace hk2 : k2 = 2 := hk2
      subst hk2
      have ex2 : ((ba x2).toList == f.toList) = false := by rw [ba_toList, ByteArray.toList_eq]; simp; exact hx2
      clear hn2 hx2 hb2
      clear hni hvi hfl
      go_enter Tryd.func8, Tryd.ntmps8
      go_wp2_with (first
        | (go_at_call 15; refine (HSh.out _).mono ?_; rintro e w' ⟨rfl, rfl⟩)
        | (go_at_call 20; first
           | (refine (T2.out _ (hE.below (step_low (Below.refl w.heap.size w) hB1))).mono ?_; rintro e w2 ⟨v2, rfl, ho2, hB2⟩; have hT2 := tsAt_of ho2; clear ho2; replace hW := step_low hW hB2; obtain ⟨g2, cp2, rfl, hg2, y2, z2⟩ := one_at hT2; clear hT2; replace y1 := (hB2.cell (p := ⟨g1, 0, none⟩) hg1).trans y1; replace z1 := (hB2.cell (p := ⟨g1, 1, none⟩) hg1).trans z1)
           | (refine (T1.out _ hE).mono ?_; rintro e w1 ⟨v1, rfl, ho1, hB1⟩; have hT1 := tsAt_of ho1; clear ho1; replace hW := step_low hW hB1; obtain ⟨g1, cp1, rfl, hg1, y1, z1⟩ := one_at hT1; clear hT1))
        | (go_at_call 21; refine (N1.out _).mono ?_; rintro e w3 ⟨rfl, hB3⟩; replace hW := step_low hW hB3)
        | (go_at_call 22; refine (V1.out _).mono ?_; rintro e w4 ⟨rfl, hB4⟩; replace hW := step_low hW hB4)
        | (go_at_call 14; refine (lives_any _ (hE.below hW)).mono ?_; rintro e w5 ⟨rfl, hB5⟩; replace hW := step_low hW hB5))
      go_ret
      exact ⟨rfl, hW⟩
    · have w2c := True.intro
      clear w2c
      obtain ⟨hn2, he2, ⟨k2, x2, n2, p2⟩, ht2, hk2, hx2⟩ := h2
      have hb2 : valB f = true := by
        exact hvi.2 hn2
      rw [hb2] at V1
      replace he2 : er2 = 0 := he2
      subst he2
      replace ht2 : ts2 = [⟨k2, x2, n2, p2⟩] := ht2
      subst ht2
      replace hk2 : k2 = 2 := hk2
      subst hk2
      have ex2 : ((ba x2).toList == f.toList) = true := by rw [ba_toList, ByteArray.toList_eq]; simp; exact hx2
      clear hn2 hx2 hb2
      clear hni hvi hfl
      go_enter Tryd.func8, Tryd.ntmps8
      go_wp2_with (first
        | (go_at_call 15; refine (HSh.out _).mono ?_; rintro e w' ⟨rfl, rfl⟩)
        | (go_at_call 20; first
           | (refine (T2.out _ (hE.below (step_low (Below.refl w.heap.size w) hB1))).mono ?_; rintro e w2 ⟨v2, rfl, ho2, hB2⟩; have hT2 := tsAt_of ho2; clear ho2; replace hW := step_low hW hB2; obtain ⟨g2, cp2, rfl, hg2, y2, z2⟩ := one_at hT2; clear hT2; replace y1 := (hB2.cell (p := ⟨g1, 0, none⟩) hg1).trans y1; replace z1 := (hB2.cell (p := ⟨g1, 1, none⟩) hg1).trans z1)
           | (refine (T1.out _ hE).mono ?_; rintro e w1 ⟨v1, rfl, ho1, hB1⟩; have hT1 := tsAt_of ho1; clear ho1; replace hW := step_low hW hB1; obtain ⟨g1, cp1, rfl, hg1, y1, z1⟩ := one_at hT1; clear hT1))
        | (go_at_call 21; refine (N1.out _).mono ?_; rintro e w3 ⟨rfl, hB3⟩; replace hW := step_low hW hB3)
        | (go_at_call 22; refine (V1.out _).mono ?_; rintro e w4 ⟨rfl, hB4⟩; replace hW := step_low hW hB4)
        | (go_at_call 14; refine (lives_any _ (hE.below hW)).mono ?_; rintro e w5 ⟨rfl, hB5⟩; replace hW := step_low hW hB5))
      go_ret
      exact ⟨rfl, hW⟩
  · have w1c := True.intro
    clear w1c
    obtain ⟨hn1, he1, ⟨k1, x1, n1, p1⟩, ht1, hk1, hx1⟩ := h1
    have hb1 : nameB f = true := by
      exact hni.2 hn1
    rw [hb1] at N1
    replace he1 : er1 = 0 := he1
    subst he1
    replace ht1 : ts1 = [⟨k1, x1, n1, p1⟩] := ht1
    subst ht1
    replace hk1 : k1 = 0 := hk1
    subst hk1
    have ex1 : ((ba x1).toList == f.toList) = true := by rw [ba_toList, ByteArray.toList_eq]; simp; exact hx1
    clear hn1 hx1 hb1
    rcases ways2 with h2 | h2 | h2 | h2 | h2
    · have w2c := True.intro
      clear w2c
      obtain ⟨hn2, he2⟩ := h2
      have hb2 : valB f = false := by
        cases h : valB f with
        | false => rfl
        | true => exact absurd (hvi.1 h) hn2
      rw [hb2] at V1
      have ee2 : ((er2 : Int) == 0) = false := by simp; exact he2
      clear he2 hn2 hb2
      clear hni hvi hfl
      go_enter Tryd.func8, Tryd.ntmps8
      go_wp2_with (first
        | (go_at_call 15; refine (HSh.out _).mono ?_; rintro e w' ⟨rfl, rfl⟩)
        | (go_at_call 20; first
           | (refine (T2.out _ (hE.below (step_low (Below.refl w.heap.size w) hB1))).mono ?_; rintro e w2 ⟨v2, rfl, ho2, hB2⟩; have hT2 := tsAt_of ho2; clear ho2; replace hW := step_low hW hB2; obtain ⟨a2, cc2, rfl⟩ := hT2.slice; clear hT2; replace y1 := (hB2.cell (p := ⟨g1, 0, none⟩) hg1).trans y1; replace z1 := (hB2.cell (p := ⟨g1, 1, none⟩) hg1).trans z1)
           | (refine (T1.out _ hE).mono ?_; rintro e w1 ⟨v1, rfl, ho1, hB1⟩; have hT1 := tsAt_of ho1; clear ho1; replace hW := step_low hW hB1; obtain ⟨g1, cp1, rfl, hg1, y1, z1⟩ := one_at hT1; clear hT1))
        | (go_at_call 21; refine (N1.out _).mono ?_; rintro e w3 ⟨rfl, hB3⟩; replace hW := step_low hW hB3)
        | (go_at_call 22; refine (V1.out _).mono ?_; rintro e w4 ⟨rfl, hB4⟩; replace hW := step_low hW hB4)
        | (go_at_call 14; refine (lives_any _ (hE.below hW)).mono ?_; rintro e w5 ⟨rfl, hB5⟩; replace hW := step_low hW hB5))
      go_ret
      exact ⟨rfl, hW⟩
    · have w2c := True.intro
      clear w2c
      obtain ⟨hn2, he2, hl2⟩ := h2
      have hb2 : valB f = false := by
        cases h : valB f with
        | false => rfl
        | true => exact absurd (hvi.1 h) hn2
      rw [hb2] at V1
      replace he2 : er2 = 0 := he2
      subst he2
      have el2 : ((ts2.length : Int) == 1) = false := by simp; exact fun h => hl2 (by show ts2.length = 1; omega)
      clear hn2 hl2 hb2
      clear hni hvi hfl
      go_enter Tryd.func8, Tryd.ntmps8
      go_wp2_with (first
        | (go_at_call 15; refine (HSh.out _).mono ?_; rintro e w' ⟨rfl, rfl⟩)
        | (go_at_call 20; first
           | (refine (T2.out _ (hE.below (step_low (Below.refl w.heap.size w) hB1))).mono ?_; rintro e w2 ⟨v2, rfl, ho2, hB2⟩; have hT2 := tsAt_of ho2; clear ho2; replace hW := step_low hW hB2; obtain ⟨a2, cc2, rfl⟩ := hT2.slice; clear hT2; replace y1 := (hB2.cell (p := ⟨g1, 0, none⟩) hg1).trans y1; replace z1 := (hB2.cell (p := ⟨g1, 1, none⟩) hg1).trans z1)
           | (refine (T1.out _ hE).mono ?_; rintro e w1 ⟨v1, rfl, ho1, hB1⟩; have hT1 := tsAt_of ho1; clear ho1; replace hW := step_low hW hB1; obtain ⟨g1, cp1, rfl, hg1, y1, z1⟩ := one_at hT1; clear hT1))
        | (go_at_call 21; refine (N1.out _).mono ?_; rintro e w3 ⟨rfl, hB3⟩; replace hW := step_low hW hB3)
        | (go_at_call 22; refine (V1.out _).mono ?_; rintro e w4 ⟨rfl, hB4⟩; replace hW := step_low hW hB4)
        | (go_at_call 14; refine (lives_any _ (hE.below hW)).mono ?_; rintro e w5 ⟨rfl, hB5⟩; replace hW := step_low hW hB5))
      go_ret
      exact ⟨rfl, hW⟩
    · have w2c := True.intro
      clear w2c
      obtain ⟨hn2, he2, ⟨k2, x2, n2, p2⟩, ht2, hk2⟩ := h2
      have hb2 : valB f = false := by
        cases h : valB f with
        | false => rfl
        | true => exact absurd (hvi.1 h) hn2
      rw [hb2] at V1
      replace he2 : er2 = 0 := he2
      subst he2
      replace ht2 : ts2 = [⟨k2, x2, n2, p2⟩] := ht2
      subst ht2
      have ek2 : ((k2 : Int) == 2) = false := by simp; exact fun h => hk2 (by show k2 = 2; omega)
      clear hn2 hk2 hb2
      clear hni hvi hfl
      go_enter Tryd.func8, Tryd.ntmps8
      go_wp2_with (first
        | (go_at_call 15; refine (HSh.out _).mono ?_; rintro e w' ⟨rfl, rfl⟩)
        | (go_at_call 20; first
           | (refine (T2.out _ (hE.below (step_low (Below.refl w.heap.size w) hB1))).mono ?_; rintro e w2 ⟨v2, rfl, ho2, hB2⟩; have hT2 := tsAt_of ho2; clear ho2; replace hW := step_low hW hB2; obtain ⟨g2, cp2, rfl, hg2, y2, z2⟩ := one_at hT2; clear hT2; replace y1 := (hB2.cell (p := ⟨g1, 0, none⟩) hg1).trans y1; replace z1 := (hB2.cell (p := ⟨g1, 1, none⟩) hg1).trans z1)
           | (refine (T1.out _ hE).mono ?_; rintro e w1 ⟨v1, rfl, ho1, hB1⟩; have hT1 := tsAt_of ho1; clear ho1; replace hW := step_low hW hB1; obtain ⟨g1, cp1, rfl, hg1, y1, z1⟩ := one_at hT1; clear hT1))
        | (go_at_call 21; refine (N1.out _).mono ?_; rintro e w3 ⟨rfl, hB3⟩; replace hW := step_low hW hB3)
        | (go_at_call 22; refine (V1.out _).mono ?_; rintro e w4 ⟨rfl, hB4⟩; replace hW := step_low hW hB4)
        | (go_at_call 14; refine (lives_any _ (hE.below hW)).mono ?_; rintro e w5 ⟨rfl, hB5⟩; replace hW := step_low hW hB5))
      go_ret
      exact ⟨rfl, hW⟩
    · have w2c := True.intro
      clear w2c
      obtain ⟨hn2, he2, ⟨k2, x2, n2, p2⟩, ht2, hk2, hx2⟩ := h2
      have hb2 : valB f = false := by
        cases h : valB f with
        | false => rfl
        | true => exact absurd (hvi.1 h) hn2
      rw [hb2] at V1
      replace he2 : er2 = 0 := he2
      subst he2
      replace ht2 : ts2 = [⟨k2, x2, n2, p2⟩] := ht2
      subst ht2
      replace hk2 : k2 = 2 := hk2
      subst hk2
      have ex2 : ((ba x2).toList == f.toList) = false := by rw [ba_toList, ByteArray.toList_eq]; simp; exact hx2
      clear hn2 hx2 hb2
      clear hni hvi hfl
      go_enter Tryd.func8, Tryd.ntmps8
      go_wp2_with (first
        | (go_at_call 15; refine (HSh.out _).mono ?_; rintro e w' ⟨rfl, rfl⟩)
        | (go_at_call 20; first
           | (refine (T2.out _ (hE.below (step_low (Below.refl w.heap.size w) hB1))).mono ?_; rintro e w2 ⟨v2, rfl, ho2, hB2⟩; have hT2 := tsAt_of ho2; clear ho2; replace hW := step_low hW hB2; obtain ⟨g2, cp2, rfl, hg2, y2, z2⟩ := one_at hT2; clear hT2; replace y1 := (hB2.cell (p := ⟨g1, 0, none⟩) hg1).trans y1; replace z1 := (hB2.cell (p := ⟨g1, 1, none⟩) hg1).trans z1)
           | (refine (T1.out _ hE).mono ?_; rintro e w1 ⟨v1, rfl, ho1, hB1⟩; have hT1 := tsAt_of ho1; clear ho1; replace hW := step_low hW hB1; obtain ⟨g1, cp1, rfl, hg1, y1, z1⟩ := one_at hT1; clear hT1))
        | (go_at_call 21; refine (N1.out _).mono ?_; rintro e w3 ⟨rfl, hB3⟩; replace hW := step_low hW hB3)
        | (go_at_call 22; refine (V1.out _).mono ?_; rintro e w4 ⟨rfl, hB4⟩; replace hW := step_low hW hB4)
        | (go_at_call 14; refine (lives_any _ (hE.below hW)).mono ?_; rintro e w5 ⟨rfl, hB5⟩; replace hW := step_low hW hB5))
      go_ret
      exact ⟨rfl, hW⟩
    · have w2c := True.intro
      clear w2c
      obtain ⟨hn2, he2, ⟨k2, x2, n2, p2⟩, ht2, hk2, hx2⟩ := h2
      have hb2 : valB f = true := by
        exact hvi.2 hn2
      rw [hb2] at V1
      replace he2 : er2 = 0 := he2
      subst he2
      replace ht2 : ts2 = [⟨k2, x2, n2, p2⟩] := ht2
      subst ht2
      replace hk2 : k2 = 2 := hk2
      subst hk2
      have ex2 : ((ba x2).toList == f.toList) = true := by rw [ba_toList, ByteArray.toList_eq]; simp; exact hx2
      clear hn2 hx2 hb2
      clear hni hvi hfl
      go_enter Tryd.func8, Tryd.ntmps8
      go_wp2_with (first
        | (go_at_call 15; refine (HSh.out _).mono ?_; rintro e w' ⟨rfl, rfl⟩)
        | (go_at_call 20; first
           | (refine (T2.out _ (hE.below (step_low (Below.refl w.heap.size w) hB1))).mono ?_; rintro e w2 ⟨v2, rfl, ho2, hB2⟩; have hT2 := tsAt_of ho2; clear ho2; replace hW := step_low hW hB2; obtain ⟨g2, cp2, rfl, hg2, y2, z2⟩ := one_at hT2; clear hT2; replace y1 := (hB2.cell (p := ⟨g1, 0, none⟩) hg1).trans y1; replace z1 := (hB2.cell (p := ⟨g1, 1, none⟩) hg1).trans z1)
           | (refine (T1.out _ hE).mono ?_; rintro e w1 ⟨v1, rfl, ho1, hB1⟩; have hT1 := tsAt_of ho1; clear ho1; replace hW := step_low hW hB1; obtain ⟨g1, cp1, rfl, hg1, y1, z1⟩ := one_at hT1; clear hT1))
        | (go_at_call 21; refine (N1.out _).mono ?_; rintro e w3 ⟨rfl, hB3⟩; replace hW := step_low hW hB3)
        | (go_at_call 22; refine (V1.out _).mono ?_; rintro e w4 ⟨rfl, hB4⟩; replace hW := step_low hW hB4)
        | (go_at_call 14; refine (lives_any _ (hE.below hW)).mono ?_; rintro e w5 ⟨rfl, hB5⟩; replace hW := step_low hW hB5))
      go_ret
      exact ⟨rfl, hW⟩
end Go.Proofs.YtpmndopcemdniaaDoor
