/- The reference's generator of lists of matchers. Conditions: none. -/
import Derived.Test.YtmgjbbkccgncgaaLDirty
import Derived.Test.YtmgjbbkccgncgaaLMatchC
namespace Go.Proofs.Ytmgjbbkccgncgaa
open Go.RowKit

def vals8 : List ByteArray := valuesL ++ [⟨#[]⟩, ⟨#[120]⟩]
def moreM : List ByteArray := [⟨#[]⟩, ⟨#[120]⟩]
/-- What Matchers returns. -/
def MsOf (ms : List M3) : Prop := ms.length ≤ 3 ∧ ∀ t ∈ ms, t.1 ∈ namesL ∧ t.2.2 ∈ vals8
def MsR (w : World) (e : Ending) (w' : World) : Prop := ∃ v ms, e = .returned v ∧ w'.ownsRow w.heap.size 24 3 v ms.length (ms.flatMap cells3) ∧ MsOf ms ∧ Below w.heap.size w w'

set_option maxRecDepth 100000 in
set_option maxHeartbeats 8000000 in
theorem matchers_any (sv : Value) (zs : List Int) (w : World) (hI : IntsIn w sv zs) : Calls Try.prog 35 #[sv] w (MsR w) := by
  obtain ⟨il, hi, hz0, hz1, hz2⟩ := info_parts Try.infoMatcher
  obtain ⟨is, si, sz0, sz1, sz2⟩ := info_parts Try.infoStr
  have hsl : ∃ a c, sv = .slice a zs.length c := by obtain ⟨⟨a, c, e, -⟩, -⟩ := hI; exact ⟨a, c, e⟩
  obtain ⟨a, c, rfl⟩ := hsl
  have HI := Lib.hid hI
  clear hI
  go_enter Try.func35, Try.ntmps35
  go_wp2_with fail
  refine (names_any w).mono ?_
  rintro e w1 ⟨rfl, rfl⟩
  have hA := Blk.new w 9 (rowS namesL)
  have hSN : SCells (w.alloc (.cells (rowS namesL) 9)) w.heap.size namesL := ⟨by simp, fun j x hj => rowS_cell hA hj⟩
  have hB1 := (Below.refl _ w).alloc (Nat.le_refl _) (.cells (rowS namesL) 9)
  obtain ⟨w1, hw1⟩ : ∃ w1 : World, w.alloc (.cells (rowS namesL) 9) = w1 := ⟨_, rfl⟩
  rw [hw1] at hSN hB1 ⊢
  have HSN := Lib.hid hSN
  have HB1 := Lib.hid hB1
  clear hw1 hA hSN hB1
  go_wp2_with fail
  refine (values_any w1).mono ?_
  rintro e w2 ⟨rfl, rfl⟩
  have HO := Lib.hid ((owns_new w1 valuesL (by decide)).alloc (.cells (rowS moreM) 9))
  have HC := Lib.hid (World.news_of_block (cs := rowS moreM) (heap_alloc_new (w1.alloc (.cells (rowS valuesL) 9)) (.cells (rowS moreM) 9)))
  go_wp2_with (first | (go_at_call 43; fail) | (at_builtin; refine wpList_append_own _ rfl _ _ 46 rfl w1.heap.size 9 is (.string ⟨#[]⟩) 1 16 Try.underlying46 si sz0 sz1 sz2 rfl (by decide) _ 6 (valuesL.map Value.string) rfl HO.out ⟨w1.heap.size + 1, 0, none⟩ 2 2 (rowS moreM).toList rfl (by decide) (by have h := HC.out; rwa [World.size_alloc] at h) (by decide) (by unfold maxLen; omega) (by omega) (by simp; omega) ?_; intro v' w0 hown' hgrow _))
  have hV0 : w0.ownsRow w1.heap.size 9 1 v' vals8.length (vals8.map Value.string) := hown'
  have hB2 : Below w1.heap.size w1 w0 := (((Below.refl _ w1).alloc (Nat.le_refl _) (.cells (rowS valuesL) 9)).alloc (by simp) (.cells (rowS moreM) 9)).grown hgrow (by simp; omega) (fun j hj => (HO.out.lt j hj).1)
  obtain ⟨gV, cV, rfl, hcV, hgV, hSV⟩ := scells_of hV0 (by decide)
  have HSV := Lib.hid hSV
  have HSN0 := Lib.hid (HSN.out.below HSN.out.1 hB2)
  have HB0 := Lib.hid (below_st HB1.out hB2)
  clear hV0 hown' hgrow hSV hB2 HO HC
  have HP := Lib.hid (fun (W : World) (hB : Below w0.heap.size w0 W) (i : Nat) (most : Int) (h1 : i ≤ 1000000) (h2 : 1 ≤ most) (h3 : most ≤ 1000000) => pick_any (.slice a zs.length c) zs i most W ((HI.out.below HB0.out).below hB) h1 h2 h3)
  have eV : vals8.length = 8 := rfl
  rw [eV] at hcV ⊢
  clear eV
  have m1 := pickI_hi zs 0 4 (by omega)
  obtain ⟨m, hm⟩ : ∃ m, pickI zs 0 4 = m := ⟨_, rfl⟩
  have HM := Lib.hid hm
  rw [hm] at m1
  clear hm
  go_wp2_with fail
  go_loopw [5, 6] (fun v i wr => ∃ (k : Nat) (ms : List M3) (sb : Value), sb = v ∧ k ≤ 3 ∧ i = .int .i64 k ∧ ms.length = k ∧ wr.ownsRow w0.heap.size 24 3 sb ms.length (ms.flatMap cells3) ∧ MsOf ms ∧ Below w0.heap.size w0 wr) (fun _ i _ => 3 - (intOf i).toNat)
  case atStart => exact ⟨0, [], _, rfl, by omega, rfl, rfl, World.ownsRow_nil _ _ _ _, ⟨by simp, by simp⟩, Below.refl _ _⟩
  case round =>
    obtain ⟨k, ms, sb, rfl, hk, rfl, hil, hown, hD, hB⟩ := hrel
    have HIL := Lib.hid hil
    have hile : ms.length ≤ 3 := by omega
    have HD := Lib.hid hD
    clear hD hil
    have hP0 := HP.out wr hB 0 4 (by omega) (by omega) (by omega)
    rw [HM.out] at hP0
    go_wp2_with fail
    refine hP0.mono ?_
    rintro e w' ⟨rfl, rfl⟩
    clear hP0
    by_cases hlt : (k : Int) < m
    · have hPa := HP.out wr.drew hB.drew (3 * k + 1) 6 (by omega) (by omega) (by omega)
      have hPb := HP.out wr.drew hB.drew (3 * k + 2) 3 (by omega) (by omega) (by omega)
      have hPc := HP.out wr.drew hB.drew (3 * k + 3) 8 (by omega) (by omega) (by omega)
      rw [show ((3 * k + 1 : Nat) : Int) = 3 * (k : Int) + 1 by omega] at hPa
      rw [show ((3 * k + 2 : Nat) : Int) = 3 * (k : Int) + 2 by omega] at hPb
      rw [show ((3 * k + 3 : Nat) : Int) = 3 * (k : Int) + 3 by omega] at hPc
      have p0 := pickI_lo zs (3 * k + 1) 6 (by omega)
      have p1 := pickI_hi zs (3 * k + 1) 6 (by omega)
      have r0 := pickI_lo zs (3 * k + 3) 8 (by omega)
      have r1 := pickI_hi zs (3 * k + 3) 8 (by omega)
      obtain ⟨q, hq⟩ : ∃ q, pickI zs (3 * k + 2) 3 = q := ⟨_, rfl⟩
      obtain ⟨p, hp⟩ := Int.eq_ofNat_of_zero_le p0
      obtain ⟨r, hr⟩ := Int.eq_ofNat_of_zero_le r0
      rw [hp] at hPa p1
      rw [hq] at hPb
      rw [hr] at hPc r1
      have HPa := Lib.hid hPa
      have HPb := Lib.hid hPb
      have HPc := Lib.hid hPc
      clear hp hq hr p0 r0 hPa hPb hPc
      obtain ⟨n, hn⟩ : ∃ n, namesL[p]? = some n := ⟨_, List.getElem?_eq_getElem (by show p < 6; omega)⟩
      obtain ⟨v, hv⟩ : ∃ v, vals8[r]? = some v := ⟨_, List.getElem?_eq_getElem (by show r < 8; omega)⟩
      have hgN0 : w.heap.size < w0.heap.size := HSN0.out.1
      have hgV0 : gV < w0.heap.size := HSV.out.1
      have c0 := (HSN0.out.below hgN0 hB).2 p n hn
      have c1 := (HSV.out.below hgV0 hB).2 r v hv
      have HD2 := Lib.hid (show MsOf (ms ++ [(n, q, v)]) from ⟨by rw [List.length_append]; have := HIL.out; simp; omega, fun t ht => by
        rcases List.mem_append.1 ht with h | h
        · exact HD.out.2 t h
        · rw [List.mem_singleton] at h
          subst h
          exact ⟨List.mem_of_getElem? hn, List.mem_of_getElem? hv⟩⟩)
      have P2 : (p : Int) < 6 := by omega
      have R2 : (r : Int) < 8 := by omega
      have P0 : (0 : Int) ≤ (p : Int) := by omega
      have R0 : (0 : Int) ≤ (r : Int) := by omega
      have k0 : IntKind.i64.wrap (3 * (k : Int)) = 3 * (k : Int) := by rw [IntKind.wrap_i64]; omega
      have k1 : IntKind.i64.wrap (3 * (k : Int) + 1) = 3 * (k : Int) + 1 := by rw [IntKind.wrap_i64]; omega
      have k2 : IntKind.i64.wrap (3 * (k : Int) + 2) = 3 * (k : Int) + 2 := by rw [IntKind.wrap_i64]; omega
      have k3 : IntKind.i64.wrap (3 * (k : Int) + 3) = 3 * (k : Int) + 3 := by rw [IntKind.wrap_i64]; omega
      clear hn hv
      go_wp2_with fail
      go_region_law (first | (go_simp; go_at_call 43; first | (with_reducible refine HPa.out.mono ?_) | (with_reducible refine HPb.out.mono ?_) | (with_reducible refine HPc.out.mono ?_); rintro e w' ⟨rfl, rfl⟩) | (refine step_append_lies _ (by rfl) _ _ _ (by rfl) w0.heap.size 24 il (.agg #[.string ⟨#[]⟩, .int .i64 0, .string ⟨#[]⟩]) 3 40 Try.underlying50 hi hz0 hz1 hz2 rfl (by decide) sb ms.length (ms.flatMap cells3) (by rfl) ((hown.alloc _).drew) ⟨wr.heap.size, 0, none⟩ 1 1 [.string n, .int .i64 q, .string v] (by rfl) (by rfl) (World.news_of_block (cs := #[.string n, .int .i64 q, .string v]) (t := 24) (fr := (0, 0)) (heap_alloc_new wr _)) (by simp [Value.oneCell']) (by omega) (by unfold maxLen; omega) (by omega) (by have := hB.size; simp; omega) (wr.heap.size + 1) (by simp) ?_; intro g cap2 w4 hown4 hgrow hat hlt4))
      all_goals
        have hB4 : Below w0.heap.size w0 w4 := ((hB.alloc hB.size _).drew).grown hgrow (by have := hB.size; simp; omega) (fun j hj => (hown.lt j hj).1)
        clear hgrow hat hlt4
        go_wp2
        go_roundw
        case rel => exact ⟨k + 1, ms ++ [(n, q, v)], _, rfl, by omega, by go_num, by rw [List.length_append, HIL.out]; rfl, by rw [List.length_append, List.flatMap_append]; exact hown4, HD2.out, hB4⟩
        case measure => simp [intOf]; omega
    · go_wp2
      go_ret
      exact ⟨_, ms, rfl, owns_weak hown HB0.out.size, HD.out, below_st HB0.out hB⟩
end Go.Proofs.Ytmgjbbkccgncgaa
