/- Contracts of the helpers Around, Short and Pick, and of the documented examples. Conditions: as each states. -/
import Derived.Test.YtpmndopcemdniaaDoorLText
import Derived.Test.YtpmndopcemdniaaDoorTGen
namespace Go.Proofs.YtpmndopcemdniaaDoor
open Go.RowKit

/-- The first bytes of a string. -/
def shortB (s : ByteArray) (m : Nat) : ByteArray := if m < s.size then s.extract 0 m else s
theorem shortB_size (s : ByteArray) (m : Nat) : (shortB s m).size ≤ m := by
  unfold shortB
  split
  · rw [ByteArray.size_extract]; omega
  · omega
set_option maxHeartbeats 400000 in
theorem short_fn (s : ByteArray) (m : Nat) (w : World) (_hs : s.size ≤ 9223372036854775807) (h1 : m ≤ 1000000) :
    Calls Tryd.prog 15 #[.string s, .int .i64 (m : Int)] w fun e w' => e = .returned (.string (shortB s m)) ∧ w = w' := by
  by_cases h : m < s.size
  · have HR := Lib.hid (show shortB s m = s.extract 0 m by unfold shortB; rw [if_pos h])
    have h' : (m : Int) < (s.size : Int) := by omega
    have h0 : (0 : Int) ≤ (m : Int) := by omega
    go_enter Tryd.func15, Tryd.ntmps15
    go_wp2
    go_ret
    exact ⟨by rw [HR.out]; rfl, rfl⟩
  · have HR := Lib.hid (show shortB s m = s by unfold shortB; rw [if_neg h])
    have h' : ¬ (m : Int) < (s.size : Int) := by omega
    go_enter Tryd.func15, Tryd.ntmps15
    go_wp2
    go_ret
    exact ⟨by rw [HR.out]; rfl, rfl⟩
/-- The number that Pick takes out of a list. -/
def pickI (zs : List Int) (i : Nat) (most : Int) : Int := match zs[i]? with | some x => aroundI x most | none => 0
theorem pickI_lo (zs : List Int) (i : Nat) (most : Int) (h : 1 ≤ most) : 0 ≤ pickI zs i most := by
  unfold pickI
  split
  · exact aroundI_lo _ _ h
  · omega
theorem pickI_hi (zs : List Int) (i : Nat) (most : Int) (h : 1 ≤ most) : pickI zs i most < most := by
  unfold pickI
  split
  · exact aroundI_hi _ _ h
  · omega

set_option maxRecDepth 100000 in
set_option maxHeartbeats 1000000 in
theorem pick_any (sv : Value) (zs : List Int) (i : Nat) (most : Int) (w : World) (hI : IntsIn w sv zs) (hi : i ≤ 1000000) (h3 : 1 ≤ most) (h4 : most ≤ 1000000) :
    Calls Tryd.prog 35 #[sv, .int .i64 (i : Int), .int .i64 most] w fun e w' => e = .returned (.int .i64 (pickI zs i most)) ∧ w = w' := by
  obtain ⟨⟨a, c, rfl, h1⟩, h2, hlen⟩ := hI
  by_cases hlt : i < zs.length
  · have hx := List.getElem?_eq_getElem hlt
    obtain ⟨g, off, rfl, hg, hc⟩ := h1 i _ hx
    obtain ⟨b1, b2⟩ := h2 _ (List.getElem_mem hlt)
    have HR := Lib.hid (show pickI zs i most = aroundI zs[i] most by unfold pickI; rw [hx])
    have HA := Lib.hid (fun W => around_any zs[i] most W b1 b2 h3 (by omega))
    have i0 : ¬ (i : Int) < 0 := by omega
    have i1 : ¬ (zs.length : Int) ≤ (i : Int) := by omega
    clear h1 h2 hx
    go_enter Tryd.func35, Tryd.ntmps35
    go_wp2_with fail
    (with_reducible refine (HA.out _).mono ?_)
    rintro e w' ⟨rfl, rfl⟩
    go_wp2
    go_ret
    exact ⟨ret_int HR.out.symm, rfl⟩
  · have HR := Lib.hid (show pickI zs i most = 0 by unfold pickI; rw [List.getElem?_eq_none (by omega)])
    clear h1 h2
    go_enter Tryd.func35, Tryd.ntmps35
    go_wp2
    go_ret
    exact ⟨ret_int HR.out.symm, rfl⟩

/-- A new list of labels reads as them. -/
theorem lsAt_new (w : World) (t : TypeId) (it : List L2) : LsAt (w.alloc (.cells (it.flatMap cells2).toArray t)) (.slice (some ⟨w.heap.size, 0, none⟩) it.length it.length) it := by
  refine .inr ⟨_, _, _, rfl, Nat.le_refl _, by simp, fun j n v hj => ?_⟩
  have hjl : j < it.length := (List.getElem?_eq_some_iff.1 hj).1
  have e0 := cells2_flat it j 0 (by omega)
  have e1 := cells2_flat it j 1 (by omega)
  rw [hj] at e0 e1
  rw [Nat.zero_add]
  have hl := cells2_length it
  constructor
  · refine (World.cell?_alloc_mark w _ _ _ (j * 2)).trans ?_
    rw [List.getElem?_toArray, show j * 2 = j * 2 + 0 by omega, e0]
    rfl
  · refine (World.cell?_alloc_mark w _ _ _ (j * 2 + 1)).trans ?_
    rw [List.getElem?_toArray, e1]
    rfl
def exA : List L2 := [(⟨#[98]⟩, ⟨#[121]⟩), (⟨#[97]⟩, ⟨#[120]⟩)]
def exB : List L2 := [(⟨#[97]⟩, ⟨#[120]⟩), (⟨#[97]⟩, ⟨#[121]⟩)]
theorem exA_err : newE exA = 0 := by decide +kernel
theorem exB_err : newE exB = 10 := by decide +kernel
theorem exA_new : newL exA = [(⟨#[97]⟩, ⟨#[120]⟩), (⟨#[98]⟩, ⟨#[121]⟩)] := by decide +kernel
theorem exA_text : textB (newL exA) = ⟨#[123, 97, 61, 34, 120, 34, 44, 98, 61, 34, 121, 34, 125]⟩ := by rw [exA_new]; decide +kernel
theorem nil_text : textB [] = ⟨#[123, 125]⟩ := by decide +kernel
theorem sz_ex (it : List L2) (h : it.all (fun t => decide (t.1.size ≤ 1000) && decide (t.2.size ≤ 1000)) = true) : Sz it := fun t ht => by
  have := List.all_eq_true.1 h t ht
  simpa using this

end Go.Proofs.YtpmndopcemdniaaDoor
