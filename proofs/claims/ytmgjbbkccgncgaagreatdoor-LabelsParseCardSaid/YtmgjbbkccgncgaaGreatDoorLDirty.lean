/- The reference's generator of lists of labels, valid ones and others. Conditions: none. -/
import Derived.Test.YtmgjbbkccgncgaaGreatDoorLSet
namespace Go.Proofs.YtmgjbbkccgncgaaGreatDoor
open Go.RowKit

def moreN : List ByteArray := [⟨#[]⟩, ⟨#[65]⟩, ⟨#[49, 97]⟩, ⟨#[97, 45, 98]⟩, ⟨#[97, 98, 99, 100, 101, 102, 103, 104, 105, 106, 107, 108, 109, 110, 111, 112]⟩, ⟨#[97, 98, 99, 100, 101, 102, 103, 104, 105, 106, 107, 108, 109, 110, 111, 112, 113]⟩, ⟨#[99]⟩, ⟨#[100]⟩, ⟨#[101]⟩, ⟨#[95, 97]⟩]
def moreV : List ByteArray := [⟨#[]⟩, ⟨#[32]⟩, ⟨#[97, 44]⟩, ⟨#[97, 98, 99, 100, 101, 102, 103, 104, 105, 106, 107, 108, 109, 110, 111, 112]⟩, ⟨#[97, 98, 99, 100, 101, 102, 103, 104, 105, 106, 107, 108, 109, 110, 111, 112, 113]⟩, ⟨#[127]⟩, ⟨#[123]⟩, ⟨#[92]⟩]
def names16 : List ByteArray := namesL ++ moreN
def vals14 : List ByteArray := valuesL ++ moreV
/-- Strings from the head of a block on. -/
def SCells (W : World) (g : Nat) (l : List ByteArray) : Prop := g < W.heap.size ∧ ∀ (j : Nat) x, l[j]? = some x → W.cell? ⟨g, j, none⟩ = some (.string x)
theorem SCells.below {A B : World} {n g : Nat} {l : List ByteArray} (h : SCells A g l) (hg : g < n) (hB : Below n A B) : SCells B g l := ⟨Nat.lt_of_lt_of_le h.1 hB.size, fun j x hj => (hB.cell (p := ⟨g, j, none⟩) hg).trans (h.2 j x hj)⟩
theorem owns_new (w : World) (l : List ByteArray) (hl : l.length ≤ 1000) : (w.alloc (.cells (rowS l) 9)).ownsRow w.heap.size 9 1 (.slice (some ⟨w.heap.size, 0, none⟩) l.length l.length) l.length (l.map Value.string) := by
  refine ⟨by simp, .inr ⟨w.heap.size, l.length, rowS l, rfl, Nat.le_refl _, heap_alloc_new w _, Nat.le_refl _, by unfold maxLen; omega, by simp [rowS], ?_⟩⟩
  rw [List.take_of_length_le (by simp [rowS])]
  simp [rowS]
theorem scells_of {W : World} {base : Nat} {v : Value} {l : List ByteArray} (h : W.ownsRow base 9 1 v l.length (l.map Value.string)) (hl : l ≠ []) : ∃ g cap, v = .slice (some ⟨g, 0, none⟩) l.length cap ∧ l.length ≤ cap ∧ base ≤ g ∧ SCells W g l := by
  have h0 := h
  rcases h.2 with ⟨-, h1⟩ | ⟨g, cap, cur, rfl, hb, hg, hn, -⟩
  · exact absurd (List.eq_nil_of_length_eq_zero h1) hl
  · refine ⟨g, cap, rfl, hn, hb, (Array.getElem?_eq_some_iff.1 hg).1, fun j x hj => ?_⟩
    have hjl : j < l.length := (List.getElem?_eq_some_iff.1 hj).1
    have h2 := h0.cellAt j (by omega)
    rw [List.getElem?_map, hj] at h2
    exact h2

/-- What Dirty returns. -/
def DirtyOf (it : List L2) : Prop := it.length ≤ 10 ∧ ∀ t ∈ it, t.1 ∈ names16 ∧ t.2 ∈ vals14
def DirtyR (w : World) (e : Ending) (w' : World) : Prop := ∃ v it, e = .returned v ∧ w'.ownsRow w.heap.size 32 2 v it.length (it.flatMap cells2) ∧ DirtyOf it ∧ Below w.heap.size w w'

set_option maxRecDepth 100000 in
set_option maxHeartbeats 8000000 in
theorem dirty_any (sv : Value) (zs : List Int) (w : World) (hI : IntsIn w sv zs) : Calls Tryz.prog 6 #[sv] w (DirtyR w) := by
  obtain ⟨il, hi, hz0, hz1, hz2⟩ := info_parts Tryz.infoLabel
  obtain ⟨is, si, sz0, sz1, sz2⟩ := info_parts Tryz.infoStr
  have hsl : ∃ a c, sv = .slice a zs.length c := by obtain ⟨⟨a, c, e, -⟩, -⟩ := hI; exact ⟨a, c, e⟩
  obtain ⟨a, c, rfl⟩ := hsl
  have HI := Lib.hid hI
  clear hI
  go_enter Tryz.func6, Tryz.ntmps6
  go_wp2_with fail
  refine (names_any w).mono ?_
  rintro e w1 ⟨rfl, rfl⟩
  have HO := Lib.hid ((owns_new w namesL (by decide)).alloc (.cells (rowS moreN) 9))
  have HC := Lib.hid (World.news_of_block (cs := rowS moreN) (heap_alloc_new (w.alloc (.cells (rowS namesL) 9)) (.cells (rowS moreN) 9)))
  go_wp2_with (first | (go_at_call 12; fail) | (at_builtin; refine wpList_append_own _ rfl _ _ 33 rfl w.heap.size 9 is (.string ⟨#[]⟩) 1 16 Tryz.underlying33 si sz0 sz1 sz2 rfl (by decide) _ 6 (namesL.map Value.string) rfl HO.out ⟨w.heap.size + 1, 0, none⟩ 10 10 (rowS moreN).toList rfl (by decide) (by have h := HC.out; rwa [World.size_alloc] at h) (by decide) (by unfold maxLen; omega) (by omega) (by simp; omega) ?_; intro v' w1 hown' hgrow _))
  have hN0 : w1.ownsRow w.heap.size 9 1 v' names16.length (names16.map Value.string) := hown'
  have hB1 : Below w.heap.size w w1 := (((Below.refl _ w).alloc (Nat.le_refl _) (.cells (rowS namesL) 9)).alloc (by simp) (.cells (rowS moreN) 9)).grown hgrow (by simp; omega) (fun j hj => (HO.out.lt j hj).1)
  obtain ⟨gN, cN, rfl, hcN, hgN, hSN⟩ := scells_of hN0 (by decide)
  have HSN := Lib.hid hSN
  have HB1 := Lib.hid hB1
  clear hN0 hown' hgrow hSN hB1 HO HC
  refine (values_any w1).mono ?_
  rintro e w2 ⟨rfl, rfl⟩
  have HO := Lib.hid ((owns_new w1 valuesL (by decide)).alloc (.cells (rowS moreV) 9))
  have HC := Lib.hid (World.news_of_block (cs := rowS moreV) (heap_alloc_new (w1.alloc (.cells (rowS valuesL) 9)) (.cells (rowS moreV) 9)))
  go_wp2_with (first | (go_at_call 13; fail) | (at_builtin; refine wpList_append_own _ rfl _ _ 33 rfl w1.heap.size 9 is (.string ⟨#[]⟩) 1 16 Tryz.underlying33 si sz0 sz1 sz2 rfl (by decide) _ 6 (valuesL.map Value.string) rfl HO.out ⟨w1.heap.size + 1, 0, none⟩ 8 8 (rowS moreV).toList rfl (by decide) (by have h := HC.out; rwa [World.size_alloc] at h) (by decide) (by unfold maxLen; omega) (by omega) (by simp; omega) ?_; intro v' w0 hown' hgrow _))
  have hV0 : w0.ownsRow w1.heap.size 9 1 v' vals14.length (vals14.map Value.string) := hown'
  have hB2 : Below w1.heap.size w1 w0 := (((Below.refl _ w1).alloc (Nat.le_refl _) (.cells (rowS valuesL) 9)).alloc (by simp) (.cells (rowS moreV) 9)).grown hgrow (by simp; omega) (fun j hj => (HO.out.lt j hj).1)
  obtain ⟨gV, cV, rfl, hcV, hgV, hSV⟩ := scells_of hV0 (by decide)
  have HSV := Lib.hid hSV
  have HSN0 := Lib.hid (HSN.out.below HSN.out.1 hB2)
  have HB0 := Lib.hid (below_st HB1.out hB2)
  clear hV0 hown' hgrow hSV hB2 HO HC
  have HP := Lib.hid (fun (W : World) (hB : Below w0.heap.size w0 W) (i : Nat) (most : Int) (h1 : i ≤ 1000000) (h2 : 1 ≤ most) (h3 : most ≤ 1000000) => pick_any (.slice a zs.length c) zs i most W ((HI.out.below HB0.out).below hB) h1 h2 h3)
  have eN : names16.length = 16 := rfl
  have eV : vals14.length = 14 := rfl
  rw [eN] at hcN ⊢
  rw [eV] at hcV ⊢
  clear eN eV
  have m1 := pickI_hi zs 0 11 (by omega)
  obtain ⟨m, hm⟩ : ∃ m, pickI zs 0 11 = m := ⟨_, rfl⟩
  have HM := Lib.hid hm
  rw [hm] at m1
  clear hm
  go_loopw [5, 6] (fun v i wr => ∃ (k : Nat) (it : List L2) (sb : Value), sb = v ∧ k ≤ 10 ∧ i = .int .i64 k ∧ it.length = k ∧ wr.ownsRow w0.heap.size 32 2 sb it.length (it.flatMap cells2) ∧ DirtyOf it ∧ Below w0.heap.size w0 wr) (fun _ i _ => 10 - (intOf i).toNat)
  case atStart => exact ⟨0, [], _, rfl, by omega, rfl, rfl, World.ownsRow_nil _ _ _ _, ⟨by simp, by simp⟩, Below.refl _ _⟩
  case round =>
    obtain ⟨k, it, sb, rfl, hk, rfl, hil, hown, hD, hB⟩ := hrel
    have HIL := Lib.hid hil
    have hile : it.length ≤ 10 := by omega
    have HD := Lib.hid hD
    clear hD hil
    have hP0 := HP.out wr hB 0 11 (by omega) (by omega) (by omega)
    rw [HM.out] at hP0
    go_wp2_with fail
    refine hP0.mono ?_
    rintro e w' ⟨rfl, rfl⟩
    clear hP0
    by_cases hlt : (k : Int) < m
    · have hPa := HP.out wr hB (2 * k + 1) 64 (by omega) (by omega) (by omega)
      have hPb := HP.out wr hB (2 * k + 2) 56 (by omega) (by omega) (by omega)
      rw [show ((2 * k + 1 : Nat) : Int) = 2 * (k : Int) + 1 by omega] at hPa
      rw [show ((2 * k + 2 : Nat) : Int) = 2 * (k : Int) + 2 by omega] at hPb
      have p0 := pickI_lo zs (2 * k + 1) 64 (by omega)
      have p1 := pickI_hi zs (2 * k + 1) 64 (by omega)
      have q0 := pickI_lo zs (2 * k + 2) 56 (by omega)
      have q1 := pickI_hi zs (2 * k + 2) 56 (by omega)
      obtain ⟨p, hp⟩ := Int.eq_ofNat_of_zero_le p0
      obtain ⟨q, hq⟩ := Int.eq_ofNat_of_zero_le q0
      rw [hp] at hPa p1
      rw [hq] at hPb q1
      have HPa := Lib.hid hPa
      have HPb := Lib.hid hPb
      clear hp hq p0 q0 hPa hPb
      obtain ⟨P, hP⟩ : ∃ P : Nat, P = if 16 ≤ p then p % 6 else p := ⟨_, rfl⟩
      obtain ⟨Q, hQ⟩ : ∃ Q : Nat, Q = if 14 ≤ q then q % 6 else q := ⟨_, rfl⟩
      have P1 : P < 16 := by rw [hP]; split <;> omega
      have Q1 : Q < 14 := by rw [hQ]; split <;> omega
      obtain ⟨n, hn⟩ : ∃ n, names16[P]? = some n := ⟨_, List.getElem?_eq_getElem (by show P < 16; exact P1)⟩
      obtain ⟨v, hv⟩ : ∃ v, vals14[Q]? = some v := ⟨_, List.getElem?_eq_getElem (by show Q < 14; exact Q1)⟩
      have hgN0 : gN < w0.heap.size := HSN0.out.1
      have hgV0 : gV < w0.heap.size := HSV.out.1
      have c0 := (HSN0.out.below hgN0 hB).2 P n hn
      have c1 := (HSV.out.below hgV0 hB).2 Q v hv
      have HD2 := Lib.hid (show DirtyOf (it ++ [(n, v)]) from ⟨by rw [List.length_append]; have := HIL.out; simp; omega, fun t ht => by
        rcases List.mem_append.1 ht with h | h
        · exact HD.out.2 t h
        · rw [List.mem_singleton] at h
          subst h
          exact ⟨List.mem_of_getElem? hn, List.mem_of_getElem? hv⟩⟩)
      have P2 : (P : Int) < 16 := by omega
      have Q2 : (Q : Int) < 14 := by omega
      have P0 : (0 : Int) ≤ (P : Int) := by omega
      have Q0 : (0 : Int) ≤ (Q : Int) := by omega
      have HPe := Lib.hid (show ((16 : Int) ≤ (p : Int) ∧ (p : Int) % 6 = (P : Int)) ∨ (¬ (16 : Int) ≤ (p : Int) ∧ p = P) by
        by_cases h : 16 ≤ p
        · rw [if_pos h] at hP; left; omega
        · rw [if_neg h] at hP; right; omega)
      have HQe := Lib.hid (show ((14 : Int) ≤ (q : Int) ∧ (q : Int) % 6 = (Q : Int)) ∨ (¬ (14 : Int) ≤ (q : Int) ∧ q = Q) by
        by_cases h : 14 ≤ q
        · rw [if_pos h] at hQ; left; omega
        · rw [if_neg h] at hQ; right; omega)
      clear hn hv hP hQ
      go_wp2_with fail
      refine HPa.out.mono ?_
      rintro e w' ⟨rfl, rfl⟩
      rcases HPe.out with ⟨hp16, ep⟩ | ⟨hp16, rfl⟩
      all_goals
        go_wp2_with fail
        refine HPb.out.mono ?_
        rintro e w' ⟨rfl, rfl⟩
        rcases HQe.out with ⟨hq14, eq⟩ | ⟨hq14, rfl⟩
        all_goals
          go_wp2_with fail
          go_region_law (first | (refine step_append_lies _ (by rfl) _ _ _ (by rfl) w0.heap.size 32 il (.agg #[.string ⟨#[]⟩, .string ⟨#[]⟩]) 2 32 Tryz.underlying25 hi hz0 hz1 hz2 rfl (by decide) sb it.length (it.flatMap cells2) (by rfl) ((hown.alloc _).drew) ⟨wr.heap.size, 0, none⟩ 1 1 [.string n, .string v] (by rfl) (by rfl) (World.news_of_block (cs := #[.string n, .string v]) (t := 32) (fr := (0, 0)) (heap_alloc_new wr _)) (by simp [Value.oneCell']) (by omega) (by unfold maxLen; omega) (by omega) (by have := hB.size; simp; omega) (wr.heap.size + 1) (by simp) ?_; intro g cap2 w4 hown4 hgrow hat hlt4))
          all_goals
            have hB4 : Below w0.heap.size w0 w4 := ((hB.alloc hB.size _).drew).grown hgrow (by have := hB.size; simp; omega) (fun j hj => (hown.lt j hj).1)
            clear hgrow hat hlt4
            go_wp2
            go_roundw
            case rel => exact ⟨k + 1, it ++ [(n, v)], _, rfl, by omega, by go_num, by rw [List.length_append, HIL.out]; rfl, by rw [List.length_append, List.flatMap_append]; exact hown4, HD2.out, hB4⟩
            case measure => simp [intOf]; omega
    · go_wp2
      go_ret
      exact ⟨_, it, rfl, owns_weak hown HB0.out.size, HD.out, below_st HB0.out hB⟩
end Go.Proofs.YtmgjbbkccgncgaaGreatDoor
