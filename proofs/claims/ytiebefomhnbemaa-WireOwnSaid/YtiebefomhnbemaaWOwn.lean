/- Statement WireOwn: later changes of arguments and results affect neither a Writer nor a Reader. Conditions: none. -/
import Derived.Test.YtiebefomhnbemaaWSizes
namespace Go.Proofs.Ytiebefomhnbemaa
open Go.ChangeShapes Go.WideShapes Go.ChangeAt Go.RowKit

/-- A store into a row keeps what lies outside the row's range. -/
theorem fill_step {k : IntKind} {e lo hi g n c : Nat} {w0 wr : World} {zs : List Int} (hr : Row k e lo wr (.slice (some ⟨g, 0, none⟩) n c) zs) (hn : n = zs.length) (hK : Kp (fun j => ¬ (lo ≤ j ∧ j < hi)) w0 wr) (hg : g < hi) (j : Nat) (z : Int) :
    Row k e lo (wr.setCell ⟨g, j, none⟩ (.int k z)) (.slice (some ⟨g, 0, none⟩) n c) (zs.set j z) ∧ Kp (fun j => ¬ (lo ≤ j ∧ j < hi)) w0 (wr.setCell ⟨g, j, none⟩ (.int k z)) :=
  ⟨hr.stored hn j z, hK.setCell (p := ⟨g, j, none⟩) (fun h => h ⟨hr.lt.1, hg⟩) _⟩
theorem Row.top {k : IntKind} {e base : Nat} {W : World} {a : Option Addr} {n c : Nat} {zs : List Int} (h : Row k e base W (.slice a n c) zs) : ∀ g : Nat, a = some ⟨g, 0, none⟩ → base ≤ g ∧ g < W.heap.size := by
  rintro g rfl
  exact h.lt
theorem Row.kp {k : IntKind} {e base : Nat} {P : Nat → Prop} {W W' : World} {v : Value} {zs : List Int} (h : Row k e base W v zs) (hk : Kp P W W') (hp : ∀ j, base ≤ j → j < W.heap.size → P j) : Row k e base W' v zs := owns_kp h hk hp
/-- What is copied: a new slice of the same bytes. -/
theorem copied {W w1 : World} {v' : Value} {ys : List UInt8} (hown : w1.ownsRow W.heap.size 5 1 v' (0 + ys.length) ([] ++ u8s ys)) (hgrow : (W.alloc (.cells #[] 5)).grownBy w1 (some W.heap.size)) : Bs W.heap.size w1 v' ys ∧ Below W.heap.size W w1 := by
  rw [Nat.zero_add, List.nil_append] at hown
  refine ⟨hown, ((Below.refl _ W).alloc (Nat.le_refl _) _).grown hgrow (by simp) (fun j hj => ?_)⟩
  simp only [Option.some.injEq] at hj
  omega
theorem rInts_at (l : List Int) (h : ∀ z ∈ l, -9223372036854775808 ≤ z ∧ z ≤ 9223372036854775807) (hl : l.length ≤ 1000000) : rInts ⟨uv l.length ++ encL l, 0⟩ = (l, ⟨[], 0⟩) := by
  unfold rInts
  rw [rL_uv l.length (encL l) (by omega) (encL_length l)]
  simp only [if_true]
  have := rIs_enc l [] [] h
  rwa [List.append_nil, List.nil_append] at this
theorem rRaw_at (b r : List UInt8) (hl : b.length ≤ 1000000) : rRaw ⟨uv b.length ++ b ++ r, 0⟩ = (b, ⟨r, 0⟩) := by
  rw [List.append_assoc]
  unfold rRaw
  rw [rL_uv b.length (b ++ r) (by omega) (by simp)]
  simp

set_option maxRecDepth 100000 in
set_option maxHeartbeats 8000000 in
theorem own_walk (a : Option Addr) (cap : Nat) (bs : List UInt8) (a' : Option Addr) (cap' : Nat) (zs : List Int) (w : World) (hb : bs.length ≤ 140737488351232) (hI : InAt .u8 w.heap.size w (.slice a bs.length cap) (bs.map ofByte)) (hz : zs.length ≤ 140737488351232) (hzi : ∀ z ∈ zs, (Lit.int .i64 z).wf = true) (hJ : InAt .i64 w.heap.size w (.slice a' zs.length cap') zs) :
    Calls Try.prog 9 #[.slice a bs.length cap, .slice a' zs.length cap'] w fun e w' => e = .returned (.bool true) ∧ Below w.heap.size w w' := by
  obtain ⟨i0, hi, hz0, hz1, hz2⟩ := info_parts Try.infoU8
  have hf1 := few_row a cap bs 30 w hb (by omega) (by omega) hI
  have hXl : (bs.take (30 : Int).toNat).length ≤ 30 := List.length_take_le _ _
  obtain ⟨X, hX⟩ : ∃ X, bs.take (30 : Int).toNat = X := ⟨_, rfl⟩
  rw [hX] at hf1 hXl
  clear hX
  have hf2 := fun (W : World) (hW : Below w.heap.size w W) => ints_row a' cap' zs 10 W hz (by omega) (by omega) (hJ.below hW)
  have hZl : (zs.take (10 : Int).toNat).length ≤ 10 := List.length_take_le _ _
  have hZi : ∀ z ∈ zs.take (10 : Int).toNat, -9223372036854775808 ≤ z ∧ z ≤ 9223372036854775807 := fun z h => in_of_i64 (hzi z (List.mem_of_mem_take h))
  obtain ⟨Z, hZ⟩ : ∃ Z, zs.take (10 : Int).toNat = Z := ⟨_, rfl⟩
  simp only [hZ] at hf2 hZl hZi
  have Hf2 := Lib.hid hf2
  have HZi := Lib.hid hZi
  have hrr := rRaw_at X (uv Z.length ++ encL Z) (by omega)
  have hri := rInts_at Z hZi (by omega)
  have Hrr := Lib.hid hrr
  have Hri := Lib.hid hri
  clear hZ hf2 hzi hI hJ hZi hrr hri
  go_enter Try.func9, Try.ntmps9
  go_wp2_with fail
  refine hf1.mono ?_
  rintro e w1 ⟨a1, c1, rfl, hr1, hB1⟩
  go_wp2_with fail
  refine (Hf2.out w1 hB1).mono ?_
  rintro e w2 ⟨a2, c2, rfl, hr2, hB2⟩
  have hr12 := hr1.below hB2
  have hA := below_then hB1 hB2
  have hw0 := Wr.new w2.heap.size w2 (Nat.le_refl _)
  have hs1 := hB1.size
  have hs2 := hB2.size
  have hg10 := hr1.top
  have hg11 := hr2.top
  have hal : Below w2.heap.size w2 (w2.alloc (.cells #[.slice none 0 0] 32)) := (Below.refl _ w2).alloc (Nat.le_refl _) _
  have hIn1 : BIn w2.heap.size (w2.alloc (.cells #[.slice none 0 0] 32)) (.slice a1 X.length c1) X := BIn.below (hr12.bs.in) hal
  have hIn2 : InAt .i64 w2.heap.size (w2.alloc (.cells #[.slice none 0 0] 32)) (.slice a2 Z.length c2) Z := InAt.below hal (.inl hr2.at)
  clear hr1 hf1 hB1 hB2
  go_wp2_with fail
  refine (wraw_any w2.heap.size w2.heap.size a1 c1 X [] _ (by simp) (by omega) hIn1 hw0).mono ?_
  rintro e w3 ⟨rfl, hW3, hB3⟩
  rw [List.nil_append] at hW3
  replace hB3 := hal.trans hB3
  have hul := uv_length X.length
  have hIn23 : InAt .i64 w2.heap.size w3 (.slice a2 Z.length c2) Z := InAt.below hB3 (.inl hr2.at)
  clear hIn1 hIn2 hw0 hal
  go_wp2_with fail
  refine (wints_any w2.heap.size w2.heap.size a2 c2 Z _ w3 (by rw [List.length_append]; omega) HZi.out hIn23 hW3).mono ?_
  rintro e w4 ⟨rfl, hW4, hB4⟩
  replace hB4 := hB3.trans hB4
  have hr14 := hr12.below hB4
  have hr24 := hr2.below hB4
  replace hA := below_then hA hB4
  have hs4 := hB4.size
  have hBl : (uv X.length ++ X ++ (uv Z.length ++ encL Z)).length ≤ 1000 := by
    have h1 := uv_length Z.length
    have h2 := encL_le Z
    simp only [List.length_append]
    omega
  obtain ⟨B, hBdef⟩ : ∃ B, uv X.length ++ X ++ (uv Z.length ++ encL Z) = B := ⟨_, rfl⟩
  rw [hBdef] at hW4 hBl
  have HB := Lib.hid hBdef
  clear hBdef hW3 hB3 hB4 hIn23 hr12 hr2 hul
  go_wp2_with fail
  refine (wdone_any _ _ B w4 (by omega) hW4).mono ?_
  rintro e w5 ⟨v, rfl, hv5, hB5⟩
  obtain ⟨a5, c5, rfl⟩ := hv5.slice
  have hs5 := hB5.size
  have hg12 := hv5.row.top
  have hBp : 1 ≤ B.length := by
    have h0 := congrArg List.length HB.out
    have := uv_pos X.length
    simp only [List.length_append] at h0
    omega
  have hsrc := hv5.in
  have hal : Below w5.heap.size w5 (w5.alloc (.cells #[] 5)) := (Below.refl _ w5).alloc (Nat.le_refl _) _
  have hsrc2 := hsrc.below hal
  obtain ⟨g5, rfl⟩ := row_some hv5.row (by rw [List.length_map]; omega)
  have hg5 := hg12 g5 rfl
  rcases hsrc2.cases with ⟨h, -⟩ | ⟨d, hd, -, hcs⟩
  · cases h
  have hd' : d = ⟨g5, 0, none⟩ := by injection hd with hd; exact hd.symm
  subst hd'
  have Hcs := Lib.hid hcs
  have hemp := owns_empty w5 w5.heap.size 5 (Nat.le_refl _)
  have Hg10 := Lib.hid hg10
  have Hg11 := Lib.hid hg11
  clear hcs hd hsrc hsrc2 hal hg10 hg11 hg12
  go_wp2_with (at_builtin; refine wpList_append_own _ rfl _ _ 24 rfl w5.heap.size 5 i0 (.int .u8 0) 1 1 Try.underlying24 hi hz0 hz1 hz2 rfl (by decide) _ _ _ rfl hemp ⟨g5, 0, none⟩ B.length c5 (u8s B) rfl (by rw [u8s_length, Nat.mul_one]) Hcs.out (u8s_one _) (by unfold maxLen; omega) (by omega) (by simp) ?_; intro v' w6 hown' hgrow hnn; clear hnn; have hcp := copied hown' hgrow; obtain ⟨a6, c6, rfl⟩ := hcp.1.slice; clear hown' hgrow)
  obtain ⟨hv6, hB6⟩ := hcp
  have hs6 := hB6.size
  have hg6 := hv6.row.top
  have hr16 := (hr14.below hB5).below hB6
  have hr26 := (hr24.below hB5).below hB6
  have hf6 := hv5.below hB6
  replace hA := below_then (below_then hA hB5) hB6
  have hK6 : Kp (fun k => w2.heap.size ≤ k ∧ k < w4.heap.size) w4 w6 := (Kp.of_below hB5).trans (Kp.of_below hB6)
  clear hr14 hr24 hB5 hB6 hv5 hg6 Hcs hemp
  go_loopw [10] (fun i wr => ∃ (k : Nat) (zs : List Int), k ≤ X.length ∧ i = .int .i64 k ∧ zs.length = X.length ∧ Row .u8 5 w.heap.size wr (.slice a1 X.length c1) zs ∧ Kp (fun j => ¬ (w.heap.size ≤ j ∧ j < w1.heap.size)) w6 wr) (fun i _ => X.length - (intOf i).toNat)
  case atStart => exact ⟨0, X.map ofByte, Nat.zero_le _, rfl, List.length_map .., hr16, Kp.refl _ _⟩
  case round =>
    obtain ⟨k, zs, hk, rfl, hzl, hr, hK⟩ := hrel
    have Hzl := Lib.hid hzl
    clear hzl
    by_cases hlt : k < X.length
    · obtain ⟨g, hga⟩ := row_some hr (by rw [Hzl.out]; omega)
      subst hga
      have hc := hr.cell Hzl.out.symm k (by rw [Hzl.out]; exact hlt)
      have hf := hr.free Hzl.out.symm k
      have hs := fill_step hr Hzl.out.symm hK (by have := Hg10.out g rfl; omega) k 7
      go_wp2
      go_roundw
      case rel => exact ⟨k + 1, zs.set k 7, by omega, by go_num, by rw [List.length_set, Hzl.out], hs.1, hs.2⟩
      case measure => simp [intOf]; omega
    · obtain rfl : k = X.length := by omega
      obtain ⟨w7, rfl⟩ : ∃ w7, w7 = wr := ⟨_, rfl⟩
      have hL7 := hK
      clear hr Hzl hk hlt hK
      have hr27 := hr26.kp hL7 (fun j h1 h2 => by omega)
      clear hr16 hr26
      go_wp2_with fail
      go_loopw [11] (fun i wr => ∃ (k : Nat) (zs : List Int), k ≤ Z.length ∧ i = .int .i64 k ∧ zs.length = Z.length ∧ Row .i64 3 w1.heap.size wr (.slice a2 Z.length c2) zs ∧ Kp (fun j => ¬ (w1.heap.size ≤ j ∧ j < w2.heap.size)) w7 wr) (fun i _ => Z.length - (intOf i).toNat)
      case atStart => exact ⟨0, Z, Nat.zero_le _, rfl, rfl, hr27, Kp.refl _ _⟩
      case round =>
        obtain ⟨k, zs, hk, rfl, hzl, hr, hK⟩ := hrel
        have Hzl := Lib.hid hzl
        clear hzl
        by_cases hlt : k < Z.length
        · obtain ⟨g, hga⟩ := row_some hr (by rw [Hzl.out]; omega)
          subst hga
          have hc := hr.cell Hzl.out.symm k (by rw [Hzl.out]; exact hlt)
          have hf := hr.free Hzl.out.symm k
          have hs := fill_step hr Hzl.out.symm hK (by have := Hg11.out g rfl; omega) k 7
          go_wp2
          go_roundw
          case rel => exact ⟨k + 1, zs.set k 7, by omega, by go_num, by rw [List.length_set, Hzl.out], hs.1, hs.2⟩
          case measure => simp [intOf]; omega
        · obtain rfl : k = Z.length := by omega
          obtain ⟨w8, rfl⟩ : ∃ w8, w8 = wr := ⟨_, rfl⟩
          have hL8 := hK
          clear hr Hzl hk hlt hK
          have hf8 := (hf6.kp hL7 (fun j h1 h2 => by omega)).kp hL8 (fun j h1 h2 => by omega)
          clear hr27 hf6
          go_wp2_with fail
          go_loopw [12] (fun i wr => ∃ (k : Nat) (zs : List Int), k ≤ B.length ∧ i = .int .i64 k ∧ zs.length = B.length ∧ Row .u8 5 w4.heap.size wr (.slice (some ⟨g5, 0, none⟩) B.length c5) zs ∧ Kp (fun j => ¬ (w4.heap.size ≤ j ∧ j < w5.heap.size)) w8 wr) (fun i _ => B.length - (intOf i).toNat)
          case atStart => exact ⟨0, B.map ofByte, Nat.zero_le _, rfl, List.length_map .., hf8.row, Kp.refl _ _⟩
          case round =>
            obtain ⟨k, zs, hk, rfl, hzl, hr, hK⟩ := hrel
            have Hzl := Lib.hid hzl
            clear hzl
            by_cases hlt : k < B.length
            · have hgk := hg5
              have hc := hr.cell Hzl.out.symm k (by rw [Hzl.out]; exact hlt)
              have hf := hr.free Hzl.out.symm k
              have hs := fill_step hr Hzl.out.symm hK (by omega) k 9
              go_wp2
              go_roundw
              case rel => exact ⟨k + 1, zs.set k 9, by omega, by go_num, by rw [List.length_set, Hzl.out], hs.1, hs.2⟩
              case measure => simp [intOf]; omega
            · obtain rfl : k = B.length := by omega
              obtain ⟨w9, rfl⟩ : ∃ w9, w9 = wr := ⟨_, rfl⟩
              have hL9 := hK
              clear hr Hzl hk hlt hK
              have hK9 : Kp (fun k => w2.heap.size ≤ k ∧ k < w4.heap.size) w4 w9 := ((hK6.trans (hL7.mono (fun k h => by omega))).trans (hL8.mono (fun k h => by omega))).trans (hL9.mono (fun k h => by omega))
              have hW9 := hW4.kp hK9 (fun j h1 h2 => ⟨h1, h2⟩)
              have hv9 := ((hv6.kp hL7 (fun j h1 h2 => by omega)).kp hL8 (fun j h1 h2 => by omega)).kp hL9 (fun j h1 h2 => by omega)
              have hB7 : Below w.heap.size w6 w7 := hL7.below hA.size (fun k h => by omega)
              have hB8 : Below w.heap.size w7 w8 := hL8.below (Nat.le_trans hA.size hB7.size) (fun k h => by omega)
              have hB9 : Below w.heap.size w8 w9 := hL9.below (Nat.le_trans (Nat.le_trans hA.size hB7.size) hB8.size) (fun k h => by omega)
              replace hA := ((hA.trans hB7).trans hB8).trans hB9
              clear hK6 hK9 hW4 hL7 hL8 hL9 hB7 hB8 hB9 hv6 hf8 hs1 hs2 hs4 hs5 hs6 Hg10 Hg11 hg5
              go_wp2_with fail
              refine (wdone_any _ _ B w9 (by omega) hW9).mono ?_
              rintro e w10 ⟨v, rfl, hv10, hB10⟩
              obtain ⟨a10, c10, rfl⟩ := hv10.slice
              have hv610 := hv9.below hB10
              replace hA := below_then hA hB10
              clear hW9 hv9 hB10
              go_wp2_with fail
              refine (sameb_any a10 a6 c10 c6 B B w10 (by omega) (Nat.le_refl _) hv10.in hv610.in).mono ?_
              rintro e w11 ⟨rfl, hB11⟩
              have hv11 := hv610.below hB11
              replace hA := below_then hA hB11
              have hw11 := hA.size
              obtain ⟨g6, rfl⟩ := row_some hv11.row (by rw [List.length_map]; omega)
              have hsrc2 := hv11.in.below ((Below.refl _ w11).alloc (Nat.le_refl _) (.cells #[] 5))
              rcases hsrc2.cases with ⟨h, -⟩ | ⟨d, hd, -, hcs⟩
              · cases h
              have hd' : d = ⟨g6, 0, none⟩ := by injection hd with hd; exact hd.symm
              subst hd'
              have Hcs := Lib.hid hcs
              have hemp := owns_empty w11 w11.heap.size 5 (Nat.le_refl _)
              clear hcs hd hsrc2 hv10 hv610 hv11 hB11
              go_wp2_with (at_builtin; refine wpList_append_own _ rfl _ _ 24 rfl w11.heap.size 5 i0 (.int .u8 0) 1 1 Try.underlying24 hi hz0 hz1 hz2 rfl (by decide) _ _ _ rfl hemp ⟨g6, 0, none⟩ B.length c6 (u8s B) rfl (by rw [u8s_length, Nat.mul_one]) Hcs.out (u8s_one _) (by unfold maxLen; omega) (by omega) (by simp) ?_; intro v' w12 hown' hgrow hnn; clear hnn; have hcp := copied hown' hgrow; obtain ⟨a12, c12, rfl⟩ := hcp.1.slice; clear hown' hgrow)
              obtain ⟨hv12, hB12⟩ := hcp
              replace hA := below_then hA hB12
              have hs12 := hB12.size
              obtain ⟨g12, rfl⟩ := row_some hv12.row (by rw [List.length_map]; omega)
              clear hB12 hemp Hcs
              refine (read_any w12.heap.size _ c12 B w12 (by omega) hv12.in (Nat.le_refl _)).mono ?_
              rintro e w13 ⟨r, rfl, hrb, hR13, hB13⟩
              have hv13 := hv12.below hB13
              have hg12 := hv12.row.lt
              have hs13 := hB13.size
              have hrl := hR13.lt
              replace hA := below_then hA hB13
              clear hv12 hB13
              go_wp2_with fail
              go_loopw [15] (fun i wr => ∃ (k : Nat) (zs : List Int), k ≤ B.length ∧ i = .int .i64 k ∧ zs.length = B.length ∧ Row .u8 5 w11.heap.size wr (.slice (some ⟨g12, 0, none⟩) B.length c12) zs ∧ Kp (fun j => ¬ (w11.heap.size ≤ j ∧ j < w12.heap.size)) w13 wr) (fun i _ => B.length - (intOf i).toNat)
              case atStart => exact ⟨0, B.map ofByte, Nat.zero_le _, rfl, List.length_map .., hv13.row, Kp.refl _ _⟩
              case round =>
                obtain ⟨k, zs, hk, rfl, hzl, hr, hK⟩ := hrel
                have Hzl := Lib.hid hzl
                clear hzl
                by_cases hlt : k < B.length
                · have hgk := hg12
                  have hc := hr.cell Hzl.out.symm k (by rw [Hzl.out]; exact hlt)
                  have hf := hr.free Hzl.out.symm k
                  have hs := fill_step hr Hzl.out.symm hK (by omega) k 255
                  go_wp2
                  go_roundw
                  case rel => exact ⟨k + 1, zs.set k 255, by omega, by go_num, by rw [List.length_set, Hzl.out], hs.1, hs.2⟩
                  case measure => simp [intOf]; omega
                · obtain rfl : k = B.length := by omega
                  obtain ⟨w14, rfl⟩ : ∃ w14, w14 = wr := ⟨_, rfl⟩
                  have hL14 := hK
                  clear hr Hzl hk hlt hK
                  have hR14 := hR13.kp hL14 (fun k h => by omega)
                  replace hA := hA.trans (hL14.below hA.size (fun k h => by have := hA.size; omega))
                  have hs14 := hL14.size
                  have hrw : rRaw ⟨B, 0⟩ = (X, ⟨uv Z.length ++ encL Z, 0⟩) := by rw [← HB.out]; exact Hrr.out
                  have hrr := rraw_any r _ w14 (by show B.length ≤ 1000000; omega) hR14
                  rw [hrw] at hrr
                  clear hR13 hv13 hL14 hrw hR14
                  go_wp2_with fail
                  refine hrr.mono ?_
                  rintro e w15 ⟨v, rfl, hv15, hR15, hk15⟩
                  obtain ⟨a15, c15, rfl⟩ := hv15.slice
                  have hg17 := hv15.row.top
                  have Hg17 := Lib.hid hg17
                  have hs15 := hk15.size
                  have hwr : w.heap.size ≤ w12.heap.size ∧ w.heap.size ≤ w14.heap.size := by have := hA.size; omega
                  replace hA := hA.trans (hk15.below hwr.2 (fun k h => by show k ≠ r; omega))
                  clear hrr hk15 hg17
                  go_wp2_with fail
                  go_loopw [17] (fun i wr => ∃ (k : Nat) (zs : List Int), k ≤ X.length ∧ i = .int .i64 k ∧ zs.length = X.length ∧ Row .u8 5 w14.heap.size wr (.slice a15 X.length c15) zs ∧ Kp (fun j => ¬ (w14.heap.size ≤ j ∧ j < w15.heap.size)) w15 wr) (fun i _ => X.length - (intOf i).toNat)
                  case atStart => exact ⟨0, X.map ofByte, Nat.zero_le _, rfl, List.length_map .., hv15.row, Kp.refl _ _⟩
                  case round =>
                    obtain ⟨k, zs, hk, rfl, hzl, hr, hK⟩ := hrel
                    have Hzl := Lib.hid hzl
                    clear hzl
                    by_cases hlt : k < X.length
                    · obtain ⟨g, hga⟩ := row_some hr (by rw [Hzl.out]; omega)
                      subst hga
                      have hc := hr.cell Hzl.out.symm k (by rw [Hzl.out]; exact hlt)
                      have hf := hr.free Hzl.out.symm k
                      have hs := fill_step hr Hzl.out.symm hK (by have := Hg17.out g rfl; omega) k 1
                      go_wp2
                      go_roundw
                      case rel => exact ⟨k + 1, zs.set k 1, by omega, by go_num, by rw [List.length_set, Hzl.out], hs.1, hs.2⟩
                      case measure => simp [intOf]; omega
                    · obtain rfl : k = X.length := by omega
                      obtain ⟨w16, rfl⟩ : ∃ w16, w16 = wr := ⟨_, rfl⟩
                      have hL16 := hK
                      clear hr Hzl hk hlt hK
                      have hR16 := hR15.kp hL16 (fun k h => by omega)
                      replace hA := hA.trans (hL16.below hA.size (fun k h => by omega))
                      have hri := rints_any r _ w16 (by have := encL_le Z; have := uv_length Z.length; show (uv Z.length ++ encL Z).length ≤ 1000000; rw [List.length_append]; omega) hR16
                      rw [Hri.out] at hri
                      clear hR15 hv15 hL16 hR16
                      go_wp2_with fail
                      refine hri.mono ?_
                      rintro e w17 ⟨v, rfl, hv17, hR17, hk17⟩
                      obtain ⟨a17, c17, rfl⟩ := hv17.slice
                      replace hA := hA.trans (hk17.below hA.size (fun k h => by show k ≠ r; omega))
                      clear hri hk17
                      go_wp2_with fail
                      refine (Hf2.out w17 hA).mono ?_
                      rintro e w18 ⟨a18, c18, rfl, hr18, hB18⟩
                      have hv18 := hv17.below hB18
                      have hR18 := hR17.below hB18
                      replace hA := below_then hA hB18
                      clear hv17 hR17 hB18
                      go_wp2_with fail
                      refine (samei_any a17 a18 c17 c18 Z Z w18 (by omega) (Nat.le_refl _) (.inl hv18.at) (.inl hr18.at)).mono ?_
                      rintro e w19 ⟨rfl, hB19⟩
                      have hR19 := hR18.below hB19
                      replace hA := below_then hA hB19
                      clear hv18 hr18 hR18 hB19
                      have hE := rend_any r _ w19 (by decide) hR19
                      go_wp2_with fail
                      refine hE.mono ?_
                      rintro e w' ⟨rfl, rfl⟩
                      clear hE
                      go_wp2_with fail
                      refine (lives_any w19).mono ?_
                      rintro e w20 ⟨rfl, hB20⟩
                      go_wp2
                      go_ret
                      exact ⟨rfl, below_then hA hB20⟩

set_option maxRecDepth 100000 in
theorem own_lifted (os : Os) (started : os.Started) (H : Type) (enc : TypeId × Value → H) :
    ReturnsInHanded {} Try.checked os 9 .any (Rows.wireOwnSpec.pre6 enc Try.prog Try.f9 Rows.wireOwnRow.domain false) (Rows.wireOwnSpec.post enc Try.prog Try.f9 false true false false) := by
  refine returnsInHanded_of_change_sized (C := Try.checked) Try.own started (by kernel_rfl) Try.func9
    (ChangeSpec.witness6 (enc := enc) (C := Try.checked) false ⟨#[], #[.slice none 0 0, .slice none 0 0], []⟩ 8 (by kernel_rfl) (by kernel_rfl) (by kernel_rfl) (by kernel_rfl)) ?_
  intro W base args ds gs before hval0 hW _ hsz0 _
  have hsz : (DataW.weightsEach Try.prog (Try.f9.params.toList ++ Rows.wireOwnSpec.plain.varTypes Try.prog) (ds ++ gs)).all (· ≤ reachBytes) = true := hsz0
  clear hsz0
  have hval : ∀ (j : Nat) t v, Try.f9.params[j]? = some t → args[j]? = some v → Value.okWide Try.prog W .any base t v := hval0
  have hW' := hW
  obtain ⟨p, q, hA0, hV, rfl, _, _⟩ := hW
  have hA : DataW.TrodAll enc Try.prog W 0 (fun _ => true) true Try.f9.params.toList args.toList ds p := hA0
  rw [Try.params9] at hA hval hsz
  obtain ⟨v0, vs0, d0, ds0, p0, q0, hargs, rfl, rfl, h0, r0⟩ := trodAll_cons hA
  obtain ⟨v1, vs1, d1, ds1, p1, q1, rfl, rfl, rfl, h1, r1⟩ := trodAll_cons r0
  obtain ⟨rfl, rfl, rfl⟩ := trodAll_nil r1
  obtain rfl : args = #[v0, v1] := by cases args; simp_all
  obtain ⟨rfl, rfl⟩ := trodVars_none hV
  obtain ⟨a0, c0, zs0, rfl, hI0, hw0, hz0⟩ := open_row Try.underlying24 Try.underlying5 Try.cellsU8 Try.bytesU8 (hval 0 24 v0 rfl rfl) h0 (fun x hx => by simpa using hW'.lt x (by simp [hx])) hsz (j := 0) rfl rfl
  obtain ⟨bs0, rfl⟩ := bytes_of zs0 hw0
  rw [List.length_map] at hI0 hz0
  obtain ⟨a1, c1, zs1, rfl, hI1, hw1, hz1⟩ := open_row Try.underlying22 Try.underlying3 Try.cellsInt Try.bytesInt (hval 1 22 v1 rfl rfl) h1 (fun x hx => by simpa using hW'.lt x (by simp [hx])) hsz (j := 1) rfl rfl
  clear hA0 hval0
  have hwalk := own_walk a0 c0 bs0 a1 c1 zs1 W (by omega) hI0 (by omega) hw1 hI1
  try rw [List.length_map] at hW'
  try rw [List.length_map]
  refine hwalk.mono fun e W' ⟨he, hB⟩ => ?_
  subst he
  exact ⟨_, rfl, law_post (by kernel_rfl) (by kernel_rfl) rfl hW' rfl hB⟩

theorem own_holds : Rows.WireOwnSaid :=
  OpenClaim.holds_of_wide 9 Try.f9 rfl rfl rfl rfl rfl rfl rfl ⟨rfl, rfl, rfl, rfl, rfl⟩ rfl rfl rfl rfl rfl (by kernel_rfl) Try.func9 (by kernel_rfl)
    (of_decide_eq_true (by kernel_rfl)) (by unfold Func.isWrapper; first | (rw [if_pos (by decide +kernel)]; kernel_rfl) | (rw [if_neg (by decide +kernel)]; exact ⟨rfl, rfl⟩))
    (fun os started H enc _ => own_lifted os started H enc)
#print axioms own_holds
end Go.Proofs.Ytiebefomhnbemaa
