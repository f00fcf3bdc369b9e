/- The reference's generator of label sets. Conditions: none. -/
import Derived.Deep.RegionLaw
import Derived.Deep.AppendLies
import Derived.Test.YtpmndopcemdniaaDoorLHelp
namespace Go.Proofs.YtpmndopcemdniaaDoor
open Go.RowKit

def namesL : List ByteArray := [⟨#[97]⟩, ⟨#[97, 98]⟩, ⟨#[98]⟩, ⟨#[106, 111, 98]⟩, ⟨#[120, 95, 49]⟩, ⟨#[122, 111, 110, 101]⟩]
def valuesL : List ByteArray := [⟨#[97]⟩, ⟨#[97, 98]⟩, ⟨#[98]⟩, ⟨#[120, 49]⟩, ⟨#[126, 33]⟩, ⟨#[48]⟩]
/-- A row of strings in a block of its own. -/
def rowS (l : List ByteArray) : Array Value := (l.map Value.string).toArray

set_option maxRecDepth 100000 in
theorem names_any (w : World) : Calls Tryd.prog 33 #[] w fun e w' => e = .returned (.slice (some ⟨w.heap.size, 0, none⟩) 6 6) ∧ w' = w.alloc (.cells (rowS namesL) 9) := by
  go_enter Tryd.func33, Tryd.ntmps33
  go_wp2
  go_ret
  exact ⟨rfl, rfl⟩
set_option maxRecDepth 100000 in
theorem values_any (w : World) : Calls Tryd.prog 34 #[] w fun e w' => e = .returned (.slice (some ⟨w.heap.size, 0, none⟩) 6 6) ∧ w' = w.alloc (.cells (rowS valuesL) 9) := by
  go_enter Tryd.func34, Tryd.ntmps34
  go_wp2
  go_ret
  exact ⟨rfl, rfl⟩
theorem rowS_cell {W : World} {g : Nat} {l : List ByteArray} (h : Blk W g 9 (rowS l)) {k : Nat} {x : ByteArray} (hk : l[k]? = some x) : W.cell? ⟨g, k, none⟩ = some (.string x) := by
  rw [h.cell k]
  simp [rowS, hk]

/-- The sets that the generator makes. -/
def SetOf (k : Nat) (it : List L2) : Prop := Srt it ∧ it.length ≤ k ∧ ∀ t ∈ it, t.1 ∈ namesL.take k ∧ t.2 ∈ valuesL
theorem namesL_srt : namesL.Pairwise fun a b => cmpS a b < 0 := by decide +kernel
theorem SetOf.zero : SetOf 0 [] := ⟨List.Pairwise.nil, Nat.le_refl _, by simp⟩
theorem SetOf.skip {k : Nat} {it : List L2} (h : SetOf k it) : SetOf (k + 1) it :=
  ⟨h.1, by have := h.2.1; omega, fun t ht => ⟨List.mem_of_mem_take (by
    have := (h.2.2 t ht).1
    rw [show k = min k (k + 1) by omega, ← List.take_take] at this
    exact this), (h.2.2 t ht).2⟩⟩
theorem SetOf.snoc {k : Nat} {it : List L2} (h : SetOf k it) {n v : ByteArray} (hn : namesL[k]? = some n) (hv : v ∈ valuesL) : SetOf (k + 1) (it ++ [(n, v)]) := by
  have hs := h.skip
  refine ⟨List.pairwise_append.2 ⟨h.1, List.pairwise_singleton _ _, fun s hs u hu => ?_⟩, by rw [List.length_append]; have := h.2.1; simp; omega, fun t ht => ?_⟩
  · rw [List.mem_singleton] at hu
    subst hu
    obtain ⟨j, hj, he⟩ := List.getElem_of_mem (h.2.2 s hs).1
    rw [List.length_take] at hj
    obtain ⟨hk, hkn⟩ := List.getElem?_eq_some_iff.1 hn
    have := List.pairwise_iff_getElem.1 namesL_srt j k (by omega) hk (by omega)
    rw [hkn] at this
    rw [List.getElem_take] at he
    rw [he] at this
    exact this
  · rcases List.mem_append.1 ht with h1 | h1
    · exact hs.2.2 t h1
    · rw [List.mem_singleton] at h1
      subst h1
      refine ⟨?_, hv⟩
      rw [List.take_add_one, hn]
      simp
/-- What Set returns. -/
def SetR (w : World) (e : Ending) (w' : World) : Prop := ∃ v it, e = .returned v ∧ w'.ownsRow w.heap.size 43 2 v it.length (it.flatMap cells2) ∧ SetOf 6 it ∧ Below w.heap.size w w'
theorem owns_weak {W : World} {a b e size n : Nat} {v : Value} {xs : List Value} (h : W.ownsRow a e size v n xs) (hb : b ≤ a) : W.ownsRow b e size v n xs := by
  refine ⟨h.1, ?_⟩
  rcases h.2 with h2 | ⟨g, cap, cur, e1, hg, rest⟩
  · exact .inl h2
  · exact .inr ⟨g, cap, cur, e1, Nat.le_trans hb hg, rest⟩

set_option maxRecDepth 100000 in
set_option maxHeartbeats 8000000 in
theorem set_any (sv : Value) (zs : List Int) (w : World) (hI : IntsIn w sv zs) : Calls Tryd.prog 23 #[sv] w (SetR w) := by
  obtain ⟨il, hi, hz0, hz1, hz2⟩ := info_parts Tryd.infoLabel
  have hsl : ∃ a c, sv = .slice a zs.length c := by obtain ⟨⟨a, c, e, -⟩, -⟩ := hI; exact ⟨a, c, e⟩
  obtain ⟨a, c, rfl⟩ := hsl
  have HI := Lib.hid hI
  clear hI
  go_enter Tryd.func23, Tryd.ntmps23
  go_wp2_with fail
  refine (names_any w).mono ?_
  rintro e w1 ⟨rfl, rfl⟩
  go_wp2_with fail
  refine (values_any _).mono ?_
  rintro e w1 ⟨rfl, rfl⟩
  have hN := (Blk.new w 9 (rowS namesL)).alloc (.cells (rowS valuesL) 9)
  have hV := Blk.new (w.alloc (.cells (rowS namesL) 9)) 9 (rowS valuesL)
  have hW := ((Below.refl _ w).alloc (Nat.le_refl _) (.cells (rowS namesL) 9)).alloc (by simp) (.cells (rowS valuesL) 9)
  rw [World.size_alloc] at hV ⊢
  have HN := Lib.hid hN
  have HV := Lib.hid hV
  have HW := Lib.hid hW
  clear hN hV hW
  obtain ⟨w0, hw0⟩ : ∃ w0 : World, (w.alloc (.cells (rowS namesL) 9)).alloc (.cells (rowS valuesL) 9) = w0 := ⟨_, rfl⟩
  rw [hw0] at HN HV HW ⊢
  clear hw0
  have HP := Lib.hid (fun (W : World) (hB : Below w0.heap.size w0 W) (i : Nat) (most : Int) (h1 : i ≤ 1000000) (h2 : 1 ≤ most) (h3 : most ≤ 1000000) => pick_any (.slice a zs.length c) zs i most W ((HI.out.below HW.out).below hB) h1 h2 h3)
  go_wp2_with fail
  refine (HP.out w0 (Below.refl _ _) 0 64 (by omega) (by omega) (by omega)).mono ?_
  rintro e w' ⟨rfl, rfl⟩
  have q0 := pickI_lo zs 0 64 (by omega)
  have q1 := pickI_hi zs 0 64 (by omega)
  obtain ⟨q, hq⟩ : ∃ q, pickI zs 0 64 = q := ⟨_, rfl⟩
  rw [hq] at q0 q1 ⊢
  clear hq
  go_wp2
  go_loopw [5, 6, 7] (fun x v i wr => ∃ (k : Nat) (y : Int) (it : List L2) (sb : Value), sb = v ∧ k ≤ 6 ∧ i = .int .i64 k ∧ x = .int .i64 y ∧ 0 ≤ y ∧ y ≤ 63 ∧ wr.ownsRow w0.heap.size 43 2 sb it.length (it.flatMap cells2) ∧ SetOf k it ∧ Below w0.heap.size w0 wr) (fun _ _ i _ => 6 - (intOf i).toNat)
  case atStart => exact ⟨0, q, [], _, rfl, by omega, rfl, rfl, q0, by omega, World.ownsRow_nil _ _ _ _, SetOf.zero, Below.refl _ _⟩
  case round =>
    obtain ⟨k, y, it, sb, rfl, hk, rfl, rfl, y0, y1, hown, hS, hB⟩ := hrel
    have HS := Lib.hid hS
    clear hS q0 q1
    have hil : it.length ≤ 6 := by have := HS.out.2.1; omega
    by_cases hlt : k < 6
    · by_cases hp : y % 2 = 1
      · have hp1 : (y % 2 == 1) = true := by simp [hp]
        obtain ⟨n, hn⟩ : ∃ n, namesL[k]? = some n := ⟨_, List.getElem?_eq_getElem (by simpa [namesL] using hlt)⟩
        have p0 := pickI_lo zs (k + 1) 6 (by omega)
        have p1 := pickI_hi zs (k + 1) 6 (by omega)
        have hPk := HP.out wr.drew hB.drew (k + 1) 6 (by omega) (by omega) (by omega)
        obtain ⟨p, hp2⟩ := Int.eq_ofNat_of_zero_le p0
        rw [hp2] at p1 hPk
        rw [show ((k + 1 : Nat) : Int) = (k : Int) + 1 by omega] at hPk
        have HPk := Lib.hid hPk
        clear hPk
        obtain ⟨v, hv⟩ : ∃ v, valuesL[p]? = some v := ⟨_, List.getElem?_eq_getElem (by simp [valuesL]; omega)⟩
        have c0 := rowS_cell (HN.out.below hB HN.out.lt) hn
        have c1 := rowS_cell (HV.out.below hB HV.out.lt) hv
        have HS2 := Lib.hid (HS.out.snoc hn (List.mem_of_getElem? hv))
        have kk : IntKind.i64.wrap ((k : Int) + 1) = (k : Int) + 1 := by rw [IntKind.wrap_i64]; omega
        have i0 : (0 : Int) ≤ (k : Int) := by omega
        have i1 : (k : Int) < 6 := by omega
        have j0 : (0 : Int) ≤ (p : Int) := by omega
        clear hp hn hv hp2 p0
        go_wp2_with fail
        go_region_law (first | (go_simp; go_at_call 35; (with_reducible refine HPk.out.mono ?_); rintro e w' ⟨rfl, rfl⟩) | (refine step_append_lies _ (by rfl) _ _ _ (by rfl) w0.heap.size 43 il (.agg #[.string ⟨#[]⟩, .string ⟨#[]⟩]) 2 32 Tryd.underlying39 hi hz0 hz1 hz2 rfl (by decide) sb it.length (it.flatMap cells2) (by rfl) ((hown.alloc _).drew) ⟨wr.heap.size, 0, none⟩ 1 1 [.string n, .string v] (by rfl) (by rfl) (World.news_of_block (cs := #[.string n, .string v]) (t := 43) (fr := (0, 0)) (heap_alloc_new wr _)) (by simp [Value.oneCell']) (by omega) (by unfold maxLen; omega) (by omega) (by have := hB.size; simp; omega) (wr.heap.size + 1) (by simp) ?_; intro g cap2 w4 hown4 hgrow hat hlt4))
        all_goals
          have hB4 : Below w0.heap.size w0 w4 := ((hB.alloc hB.size _).drew).grown hgrow (by have := hB.size; simp; omega) (fun j hj => (hown.lt j hj).1)
          clear hgrow hat hlt4
          go_wp2
          go_roundw
          case rel => exact ⟨k + 1, y / 2, it ++ [(n, v)], _, rfl, by omega, by go_num, rfl, by omega, by omega, by rw [List.length_append, List.flatMap_append]; exact hown4, HS2.out, hB4⟩
          case measure => simp [intOf]; omega
      · have hp1 : (y % 2 == 1) = false := by simp [hp]
        clear hp
        go_wp2
        go_roundw
        case rel => exact ⟨k + 1, y / 2, it, _, rfl, by omega, by go_num, rfl, by omega, by omega, hown, HS.out.skip, hB⟩
        case measure => simp [intOf]; omega
    · obtain rfl : k = 6 := by omega
      go_wp2
      go_ret
      exact ⟨_, it, rfl, owns_weak hown HW.out.size, HS.out, below_st HW.out hB⟩
end Go.Proofs.YtpmndopcemdniaaDoor
