/- Contracts of the helpers Around, Short and Pick, and of the documented examples. Conditions: as each states. -/
import Derived.Test.YtmgjbbkccgncgaaDoorLText
namespace Go.Proofs.YtmgjbbkccgncgaaDoor
open Go.RowKit

/-- An index within a length. -/
def aroundI (n most : Int) : Int := (if n < 0 then -(n + 1) else n) % most
theorem aroundI_lo (n most : Int) (h : 1 ≤ most) : 0 ≤ aroundI n most := Int.emod_nonneg _ (by omega)
theorem aroundI_hi (n most : Int) (h : 1 ≤ most) : aroundI n most < most := Int.emod_lt_of_pos _ (by omega)

theorem ret_i64 {a b : Int} (h : a = b) : Ending.returned (.int .i64 a) = .returned (.int .i64 b) := by rw [h]

set_option maxHeartbeats 400000 in
theorem around_any (n most : Int) (w : World) (h1 : -9223372036854775808 ≤ n) (h2 : n ≤ 9223372036854775807) (h3 : 1 ≤ most) (h4 : most ≤ 9223372036854775807) :
    Calls Tryd.prog 5 #[.int .i64 n, .int .i64 most] w fun e w' => e = .returned (.int .i64 (aroundI n most)) ∧ w = w' := by
  by_cases hn : n < 0
  · have ha : aroundI n most = (-(n + 1)) % most := by unfold aroundI; rw [if_pos hn]
    have Ha := Lib.hid ha
    clear ha
    go_enter Tryd.func5, Tryd.ntmps5
    go_wp2
    go_ret
    exact ⟨ret_i64 (by rw [Ha.out, ← Int.neg_tmod, Int.tmod_eq_emod_of_nonneg (by omega)]), rfl⟩
  · have ha : aroundI n most = n % most := by unfold aroundI; rw [if_neg hn]
    have Ha := Lib.hid ha
    clear ha
    go_enter Tryd.func5, Tryd.ntmps5
    go_wp2
    go_ret
    exact ⟨ret_i64 Ha.out.symm, rfl⟩

/-- The first bytes of a string. -/
def shortB (s : ByteArray) (m : Nat) : ByteArray := if m < s.size then s.extract 0 m else s
theorem shortB_size (s : ByteArray) (m : Nat) : (shortB s m).size ≤ m := by
  unfold shortB
  split
  · rw [ByteArray.size_extract]; omega
  · omega
/-- The integers zs lie at a slice value. -/
def IntsIn (W : World) (sv : Value) (zs : List Int) : Prop :=
  (∃ a c, sv = .slice a zs.length c ∧ ∀ (j : Nat) x, zs[j]? = some x → ∃ g off, a = some ⟨g, off, none⟩ ∧ g < W.heap.size ∧ W.cell? ⟨g, off + j, none⟩ = some (.int .i64 x)) ∧ (∀ x ∈ zs, -9223372036854775808 ≤ x ∧ x ≤ 9223372036854775807) ∧ zs.length ≤ 17592186044404
theorem IntsIn.below {A B : World} {sv : Value} {zs : List Int} (h : IntsIn A sv zs) (hB : Below A.heap.size A B) : IntsIn B sv zs := by
  obtain ⟨⟨a, c, e, h1⟩, h2⟩ := h
  refine ⟨⟨a, c, e, fun j x hj => ?_⟩, h2⟩
  obtain ⟨g, off, ea, hg, hc⟩ := h1 j x hj
  exact ⟨g, off, ea, Nat.lt_of_lt_of_le hg hB.size, (hB.cell (p := ⟨g, off + j, none⟩) hg).trans hc⟩
/-- The number that Pick takes out of a list. -/
def pickI (zs : List Int) (i : Nat) (most : Int) : Int := match zs[i]? with | some x => aroundI x most | none => 0
theorem pickI_lo (zs : List Int) (i : Nat) (most : Int) (h : 1 ≤ most) : 0 ≤ pickI zs i most := by
  unfold pickI
  split
  · exact aroundI_lo _ _ h
  · omega
theorem pickI_hi (zs : List Int) (i : Nat) (most : Int) (h : 1 ≤ most) : pickI zs i most < most := by
  unfold pickI
  split
  · exact aroundI_hi _ _ h
  · omega

set_option maxRecDepth 100000 in
set_option maxHeartbeats 1000000 in
theorem pick_any (sv : Value) (zs : List Int) (i : Nat) (most : Int) (w : World) (hI : IntsIn w sv zs) (hi : i ≤ 1000000) (h3 : 1 ≤ most) (h4 : most ≤ 1000000) :
    Calls Tryd.prog 14 #[sv, .int .i64 (i : Int), .int .i64 most] w fun e w' => e = .returned (.int .i64 (pickI zs i most)) ∧ w = w' := by
  obtain ⟨⟨a, c, rfl, h1⟩, h2, hlen⟩ := hI
  by_cases hlt : i < zs.length
  · have hx := List.getElem?_eq_getElem hlt
    obtain ⟨g, off, rfl, hg, hc⟩ := h1 i _ hx
    obtain ⟨b1, b2⟩ := h2 _ (List.getElem_mem hlt)
    have HR := Lib.hid (show pickI zs i most = aroundI zs[i] most by unfold pickI; rw [hx])
    have HA := Lib.hid (fun W => around_any zs[i] most W b1 b2 h3 (by omega))
    have i0 : ¬ (i : Int) < 0 := by omega
    have i1 : ¬ (zs.length : Int) ≤ (i : Int) := by omega
    clear h1 h2 hx
    go_enter Tryd.func14, Tryd.ntmps14
    go_wp2_with fail
    (with_reducible refine (HA.out _).mono ?_)
    rintro e w' ⟨rfl, rfl⟩
    go_wp2
    go_ret
    exact ⟨ret_int HR.out.symm, rfl⟩
  · have HR := Lib.hid (show pickI zs i most = 0 by unfold pickI; rw [List.getElem?_eq_none (by omega)])
    clear h1 h2
    go_enter Tryd.func14, Tryd.ntmps14
    go_wp2
    go_ret
    exact ⟨ret_int HR.out.symm, rfl⟩

/-- A new list of labels reads as them. -/
theorem lsAt_new (w : World) (t : TypeId) (it : List L2) : LsAt (w.alloc (.cells (it.flatMap cells2).toArray t)) (.slice (some ⟨w.heap.size, 0, none⟩) it.length it.length) it := by
  refine .inr ⟨_, _, _, rfl, Nat.le_refl _, by simp, fun j n v hj => ?_⟩
  have hjl : j < it.length := (List.getElem?_eq_some_iff.1 hj).1
  have e0 := cells2_flat it j 0 (by omega)
  have e1 := cells2_flat it j 1 (by omega)
  rw [hj] at e0 e1
  rw [Nat.zero_add]
  have hl := cells2_length it
  constructor
  · refine (World.cell?_alloc_mark w _ _ _ (j * 2)).trans ?_
    rw [List.getElem?_toArray, show j * 2 = j * 2 + 0 by omega, e0]
    rfl
  · refine (World.cell?_alloc_mark w _ _ _ (j * 2 + 1)).trans ?_
    rw [List.getElem?_toArray, e1]
    rfl
def exA : List L2 := [(⟨#[98]⟩, ⟨#[121]⟩), (⟨#[97]⟩, ⟨#[120]⟩)]
def exB : List L2 := [(⟨#[97]⟩, ⟨#[120]⟩), (⟨#[97]⟩, ⟨#[121]⟩)]
theorem exA_err : newE exA = 0 := by decide +kernel
theorem exB_err : newE exB = 10 := by decide +kernel
theorem exA_new : newL exA = [(⟨#[97]⟩, ⟨#[120]⟩), (⟨#[98]⟩, ⟨#[121]⟩)] := by decide +kernel
theorem exA_text : textB (newL exA) = ⟨#[123, 97, 61, 34, 120, 34, 44, 98, 61, 34, 121, 34, 125]⟩ := by rw [exA_new]; decide +kernel
theorem nil_text : textB [] = ⟨#[123, 125]⟩ := by decide +kernel
theorem sz_ex (it : List L2) (h : it.all (fun t => decide (t.1.size ≤ 1000) && decide (t.2.size ≤ 1000)) = true) : Sz it := fun t ht => by
  have := List.all_eq_true.1 h t ht
  simpa using this

set_option maxRecDepth 100000 in
set_option maxHeartbeats 4000000 in
theorem lives_any (w : World) : Calls Tryd.prog 11 #[] w fun e w' => e = .returned (.bool true) ∧ Below w.heap.size w w' := by
  have H1 := Lib.hid exA_err
  have H2 := Lib.hid exB_err
  have H3 := Lib.hid exA_text
  have H4 := Lib.hid nil_text
  have H5 := Lib.hid exA_new
  go_enter Tryd.func11, Tryd.ntmps11
  go_wp2_with fail
  refine (new_any _ exA _ (lsAt_new w 41 exA) (by decide) (sz_ex exA (by decide +kernel))).mono ?_
  rintro e w1 ⟨v, rfl, hL, hb⟩
  rw [H1.out]
  have hB := below_st ((Below.refl _ w).alloc (Nat.le_refl _) _) hb
  have HL := Lib.hid hL
  clear hb hL
  go_wp2_with fail
  refine (new_any _ exB _ (lsAt_new w1 41 exB) (by decide) (sz_ex exB (by decide +kernel))).mono ?_
  rintro e w2 ⟨v2, rfl, -, hb⟩
  rw [H2.out]
  have hb1 := below_st ((Below.refl _ w1).alloc (Nat.le_refl _) _) hb
  have hB2 := below_st hB hb1
  have HT := Lib.hid (text_any v (newL exA) w2 (HL.out.below hb1) (by rw [H5.out]; decide) (by rw [H5.out]; exact sz_ex _ (by decide +kernel)))
  clear hb hb1 hB HL
  go_wp2_with fail
  (with_reducible refine HT.out.mono ?_)
  rintro e w3 ⟨rfl, hb⟩
  rw [H3.out]
  have hB3 := below_st hB2 hb
  have HN := Lib.hid (text_any (.slice none 0 0) [] w3 .nil (by decide) (sz_ex _ rfl))
  clear hb hB2 HT
  go_wp2_with fail
  (with_reducible refine HN.out.mono ?_)
  rintro e w4 ⟨rfl, hb⟩
  rw [H4.out]
  have hB4 := below_st hB3 hb
  clear hb HN hB3
  go_wp2
  go_ret
  exact ⟨rfl, hB4⟩
end Go.Proofs.YtmgjbbkccgncgaaDoor
