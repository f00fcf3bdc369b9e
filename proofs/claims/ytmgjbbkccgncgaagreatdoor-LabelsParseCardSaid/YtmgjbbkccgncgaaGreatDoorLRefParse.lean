/- The contract of the reference's Parse. Conditions: a text of at most 1000 bytes. -/
import Derived.Deep.RegionLaw
import Derived.Test.YtmgjbbkccgncgaaGreatDoorLParse
namespace Go.Proofs.YtmgjbbkccgncgaaGreatDoor
open Go.RowKit

/-- The place of a byte at or behind a place, or -1. -/
def untilI (s : ByteArray) (i : Nat) (c : UInt8) : Int := if Lib.indexByte (s.data.toList.drop i) c < 0 then -1 else (i : Int) + Lib.indexByte (s.data.toList.drop i) c
theorem drop_at {s : ByteArray} {k : Nat} (h : k < s.size) : s.data.toList.drop k = s[k]'h :: s.data.toList.drop (k + 1) := by
  have h' : k < s.data.toList.length := by rw [ba_size]; exact h
  rw [List.drop_eq_getElem_cons h']
  rfl
theorem until_hit {s : ByteArray} {k : Nat} {c : UInt8} (h : k < s.size) (e : s[k]'h = c) : untilI s k c = (k : Int) := by
  unfold untilI
  rw [drop_at h, e, Lib.indexByte]
  simp
theorem until_miss {s : ByteArray} {k : Nat} {c : UInt8} (h : k < s.size) (e : s[k]'h ≠ c) : untilI s k c = untilI s (k + 1) c := by
  unfold untilI
  rw [drop_at h, Lib.indexByte]
  have hx : (s[k]'h == c) = false := by simpa using e
  rw [hx]
  have hge := Lib.indexByte_ge (s.data.toList.drop (k + 1)) c
  by_cases hm : Lib.indexByte (s.data.toList.drop (k + 1)) c = -1
  · rw [hm]; rfl
  · have h1 : (Lib.indexByte (s.data.toList.drop (k + 1)) c == -1) = false := by rw [beq_eq_false_iff_ne]; exact hm
    rw [h1]
    simp only [Bool.false_eq_true, if_false]
    rw [if_neg (by omega), if_neg (by omega)]
    omega
theorem until_end {s : ByteArray} {k : Nat} {c : UInt8} (h : s.size ≤ k) : untilI s k c = -1 := by
  unfold untilI
  rw [List.drop_eq_nil_of_le (by rw [ba_size]; exact h)]
  rfl
theorem ret_i64x {a b : Int} (h : a = b) : Ending.returned (.int .i64 a) = .returned (.int .i64 b) := by rw [h]
set_option maxHeartbeats 4000000 in
theorem until_any (s : ByteArray) (i : Nat) (c : UInt8) (w : World) (hs : s.size ≤ 100000) (hi : i ≤ 100000) :
    Calls Tryz.prog 25 #[.string s, .int .i64 (i : Int), .int .u8 (c.toNat : Int)] w fun e w' => e = .returned (.int .i64 (untilI s i c)) ∧ w = w' := by
  go_enter Tryz.func25, Tryz.ntmps25
  go_wp2
  go_loop [7] (fun v => ∃ k : Nat, k ≤ 200000 ∧ v = .int .i64 k ∧ untilI s k c = untilI s i c) (fun v => s.size - (intOf v).toNat)
  case atStart => exact ⟨i, by omega, rfl, rfl⟩
  case round =>
    obtain ⟨k, hk, rfl, hp⟩ := hrel
    have HP := Lib.hid hp
    clear hp
    by_cases hlt : k < s.size
    · by_cases he : s[k] = c
      · have HR := Lib.hid ((until_hit hlt he).symm.trans HP.out)
        have e1 : ((s[k].toNat : Int) == (c.toNat : Int)) = true := by rw [he]; simp
        clear he
        go_wp2
        go_ret
        exact ⟨ret_i64x HR.out, rfl⟩
      · have HR := Lib.hid ((until_miss hlt he).symm.trans HP.out)
        have e1 : ((s[k].toNat : Int) == (c.toNat : Int)) = false := by
          rw [beq_eq_false_iff_ne]
          intro h
          exact he (UInt8.toNat_inj.1 (by omega))
        clear he
        go_wp2
        go_round
        case rel => exact ⟨k + 1, by omega, by go_num, HR.out⟩
        case measure => simp [intOf]; omega
    · have HR := Lib.hid ((until_end (c := c) (Nat.le_of_not_lt hlt)).symm.trans HP.out)
      go_wp2
      go_ret
      exact ⟨ret_i64x HR.out, rfl⟩

theorem until61 (s : ByteArray) (i : Nat) (w : World) (hs : s.size ≤ 100000) (hi : i ≤ 100000) :
    Calls Tryz.prog 25 #[.string s, .int .i64 (i : Int), .int .u8 61] w fun e w' => e = .returned (.int .i64 (untilI s i 61)) ∧ w = w' := until_any s i 61 w hs hi
theorem until34 (s : ByteArray) (i : Nat) (w : World) (hs : s.size ≤ 100000) (hi : i ≤ 100000) :
    Calls Tryz.prog 25 #[.string s, .int .i64 (i : Int), .int .u8 34] w fun e w' => e = .returned (.int .i64 (untilI s i 34)) ∧ w = w' := until_any s i 34 w hs hi
theorem owns_len {W : World} {base n m : Nat} {v : Value} {e size : Nat} {xs : List Value} (h : n = m) (ho : W.ownsRow base e size v m xs) : W.ownsRow base e size v n xs := by rw [h]; exact ho

theorem indexByte_lt2 (l : Bs) (c : UInt8) (h : 0 ≤ Lib.indexByte l c) : Lib.indexByte l c < l.length := by
  induction l with
  | nil => simp [Lib.indexByte] at h
  | cons x l ih =>
    unfold Lib.indexByte at h ⊢
    by_cases hx : (x == c) = true
    · rw [if_pos hx]; simp only [List.length_cons]; omega
    · rw [if_neg hx] at h ⊢
      by_cases hm : (Lib.indexByte l c == -1) = true
      · rw [if_pos hm] at h; omega
      · rw [if_neg hm] at h ⊢
        have := Lib.indexByte_ge l c
        have hne : Lib.indexByte l c ≠ -1 := fun e => hm (beq_iff_eq.2 e)
        have := ih (by omega)
        simp only [List.length_cons]; omega
/-- What until answers, and what it says of the index behind the place. -/
theorem until_cases (s : ByteArray) (i : Nat) (c : UInt8) : (untilI s i c = -1 ∧ Lib.indexByte (s.data.toList.drop i) c < 0) ∨
    ∃ e : Nat, untilI s i c = ((i + e : Nat) : Int) ∧ Lib.indexByte (s.data.toList.drop i) c = (e : Int) ∧ i + e < s.size := by
  unfold untilI
  by_cases h : Lib.indexByte (s.data.toList.drop i) c < 0
  · left; rw [if_pos h]; exact ⟨rfl, h⟩
  · right
    rw [if_neg h]
    have h1 := indexByte_lt2 (s.data.toList.drop i) c (by omega)
    rw [List.length_drop, ba_size] at h1
    exact ⟨(Lib.indexByte (s.data.toList.drop i) c).toNat, by omega, by omega, by omega⟩
theorem ext_eq (s : ByteArray) (i j : Nat) : s.extract i j = ⟨((s.data.toList.drop i).take (j - i)).toArray⟩ := by
  apply ba_ext
  rw [ByteArray.data_extract, Array.toList_extract, List.extract_eq_take_drop]
theorem ref_step {s : ByteArray} {i e f n : Nat} {acc : List L2} (hn : acc.length = n) (h9 : n < 9) (h1 : Lib.indexByte (s.data.toList.drop i) 61 = (e : Int)) (h2 : Lib.indexByte (s.data.toList.drop (i + e + 2)) 34 = (f : Int))
    (h : acc ++ (refL (9 - n) (s.data.toList.drop i)).map ofB = refP s) :
    (acc ++ [(s.extract i (i + e), s.extract (i + e + 2) (i + e + 2 + f))]) ++ (refL (9 - (n + 1)) (s.data.toList.drop (i + e + 2 + f + 2))).map ofB = refP s := by
  have hd : (s.data.toList.drop i).drop (e + 2) = s.data.toList.drop (i + e + 2) := by rw [List.drop_drop]; congr 1
  have hd2 : (s.data.toList.drop (i + e + 2)).drop (f + 2) = s.data.toList.drop (i + e + 2 + f + 2) := by rw [List.drop_drop]; congr 1
  rw [show 9 - n = (9 - (n + 1)) + 1 by omega, refL_yes h1 (by rw [hd]; exact h2), hd, hd2, List.map_cons] at h
  rw [← h, List.append_assoc]
  congr 1
  rw [List.cons_append, List.nil_append]
  congr 1
  unfold ofB
  rw [ext_eq, ext_eq, show i + e - i = e by omega, show i + e + 2 + f - (i + e + 2) = f by omega]
theorem ref_stop0 {s : ByteArray} {i n : Nat} {acc : List L2} (h : acc ++ (refL (9 - n) (s.data.toList.drop i)).map ofB = refP s) (hc : s.size ≤ i ∨ n = 9) : refP s = acc := by
  have e : refL (9 - n) (s.data.toList.drop i) = [] := by
    rcases hc with hc | hc
    · rw [List.drop_eq_nil_of_le (by rw [ba_size]; exact hc)]
      exact refL_no1 (by decide)
    · rw [hc]; rfl
  rw [e] at h
  rw [← h]; simp
theorem ref_stop1 {s : ByteArray} {i n : Nat} {acc : List L2} (h : acc ++ (refL (9 - n) (s.data.toList.drop i)).map ofB = refP s) (hc : Lib.indexByte (s.data.toList.drop i) 61 < 0) : refP s = acc := by
  rw [refL_no1 hc] at h
  rw [← h]; simp
theorem ref_stop2 {s : ByteArray} {i e n : Nat} {acc : List L2} (h : acc ++ (refL (9 - n) (s.data.toList.drop i)).map ofB = refP s) (h1 : Lib.indexByte (s.data.toList.drop i) 61 = (e : Int)) (hc : Lib.indexByte (s.data.toList.drop (i + e + 2)) 34 < 0) : refP s = acc := by
  have hd : (s.data.toList.drop i).drop (e + 2) = s.data.toList.drop (i + e + 2) := by rw [List.drop_drop]; congr 1
  rw [refL_no2 h1 (by rw [hd]; exact hc)] at h
  rw [← h]; simp
theorem Sz.snoc {it : List L2} (h : Sz it) {n v : ByteArray} (hn : n.size ≤ 1000) (hv : v.size ≤ 1000) : Sz (it ++ [(n, v)]) := fun t ht => by
  rcases List.mem_append.1 ht with h1 | h1
  · exact h t h1
  · rw [List.mem_singleton] at h1
    subst h1
    exact ⟨hn, hv⟩

set_option maxRecDepth 100000 in
set_option maxHeartbeats 8000000 in
theorem refparse_any (s : ByteArray) (w : World) (hs : s.size ≤ 1000) : Calls Tryz.prog 15 #[.string s] w (ParR s (refP s) w) := by
  obtain ⟨il, hi, hz0, hz1, hz2⟩ := info_parts Tryz.infoLabel
  have HU := Lib.hid (fun (i : Nat) (W : World) (h : i ≤ 100000) => until61 s i W (by omega) h)
  have HU2 := Lib.hid (fun (i : Nat) (W : World) (h : i ≤ 100000) => until34 s i W (by omega) h)
  go_enter Tryz.func15, Tryz.ntmps15
  go_wp2
  go_loopw [4, 5] (fun x v wr => ∃ (i n : Nat) (acc : List L2) (sb : Value), sb = x ∧ i ≤ s.size + 1 ∧ v = .int .i64 i ∧ acc.length = n ∧ n ≤ 9 ∧ acc ++ (refL (9 - n) (s.data.toList.drop i)).map ofB = refP s ∧ Sz acc ∧ wr.ownsRow w.heap.size 32 2 sb n (acc.flatMap cells2) ∧ Below w.heap.size w wr) (fun _ v _ => s.size + 2 - (intOf v).toNat)
  case atStart => exact ⟨1, 0, [], _, rfl, by omega, rfl, rfl, by omega, rfl, (fun t ht => by simp at ht), World.ownsRow_nil _ _ _ _, Below.refl _ _⟩
  case round =>
    obtain ⟨i, n, acc, sb, rfl, hi1, rfl, hn, hn9, hacc, hsz, hown, hB⟩ := hrel
    have HA := Lib.hid hacc
    have HN := Lib.hid hn
    have HZ := Lib.hid hsz
    have hsl : ∃ a c, sb = .slice a n c := by
      rcases hown.2 with ⟨h1, h2⟩ | ⟨gS, cS, cur, h1, h2, h3, h4, -⟩
      · exact ⟨none, 0, by rw [h1, h2]⟩
      · exact ⟨_, cS, h1⟩
    obtain ⟨sa, sc, rfl⟩ := hsl
    have i9 : (n : Int) ≤ 9 := by omega
    clear hacc hn hsz
    by_cases hgo : i < s.size ∧ n < 9
    · obtain ⟨hlt, hn8⟩ := hgo
      have j1 : (i : Int) < (s.size : Int) := by omega
      have j2 : (n : Int) < 9 := by omega
      have hu := HU.out i wr (by omega)
      rcases until_cases s i 61 with ⟨eu, hneg⟩ | ⟨e, eu, he, hes⟩
      · have HX := Lib.hid (ref_stop1 HA.out hneg)
        have HL := Lib.hid (LsAt.of_owns (owns_len HN.out hown))
        have HBw := Lib.hid hB
        have hll : acc.length ≤ 1000 := by have := HN.out; omega
        rw [eu] at hu
        have HUU := Lib.hid hu
        have HV := Lib.hid (refvalid_any (.slice sa n sc) acc wr HL.out hll HZ.out)
        clear hu hown hB hneg eu
        go_wp2_with fail
        (with_reducible refine HUU.out.mono ?_)
        rintro e w' ⟨rfl, rfl⟩
        cases hvb : validB (acc)
        · have HE := Lib.hid (ok_no1 (s := s) hvb)
          rw [hvb] at HV
          go_wp2_with fail
          (with_reducible refine HV.out.mono ?_)
          rintro e wa ⟨rfl, hb⟩
          go_wp2
          go_ret2
          rw [HX.out]; exact par_bad HE.out (below_st (HBw.out) hb)
        · have HVB := Lib.hid hvb
          rw [hvb] at HV
          have HTX := Lib.hid (fun (W : World) (hb : Below wr.heap.size wr W) => reftext_any (.slice sa n sc) (acc) W (LsAt.below (HL.out) hb) (by first | omega | decide) (by first | exact HZ.out | exact sz_ex _ rfl))
          have HLL := Lib.hid (fun (W : World) (hb : Below wr.heap.size wr W) => LsAt.below (HL.out) hb)
          by_cases ht : textB (acc) = s
          · have HE := Lib.hid (ok_yes HVB.out ht)
            have e2 := str_yes ht
            obtain ⟨tx, htx⟩ : ∃ tx, textB (acc) = tx := ⟨_, rfl⟩
            rw [htx] at HTX e2
            clear ht htx
            go_wp2_with fail
            (with_reducible refine HV.out.mono ?_)
            rintro e wa ⟨rfl, hb⟩
            have HB := Lib.hid hb
            clear hb
            go_wp2_with fail
            (with_reducible refine (HTX.out wa HB.out).mono ?_)
            rintro e wb ⟨rfl, hb⟩
            have HB2 := Lib.hid (below_st HB.out hb)
            clear hb
            go_wp2
            go_ret2
            rw [HX.out]; exact par_good HE.out (HLL.out wb HB2.out) (below_st (HBw.out) HB2.out)
          · have HE := Lib.hid (ok_no2 ht)
            have e2 := str_no ht
            obtain ⟨tx, htx⟩ : ∃ tx, textB (acc) = tx := ⟨_, rfl⟩
            rw [htx] at HTX e2
            clear ht htx
            go_wp2_with fail
            (with_reducible refine HV.out.mono ?_)
            rintro e wa ⟨rfl, hb⟩
            have HB := Lib.hid hb
            clear hb
            go_wp2_with fail
            (with_reducible refine (HTX.out wa HB.out).mono ?_)
            rintro e wb ⟨rfl, hb⟩
            have HB2 := Lib.hid (below_st HB.out hb)
            clear hb
            go_wp2
            go_ret2
            rw [HX.out]; exact par_bad HE.out (below_st (HBw.out) HB2.out)
      · obtain ⟨p, hp⟩ : ∃ p, i + e = p := ⟨_, rfl⟩
        rw [hp] at eu hes
        rw [eu] at hu
        have HUU := Lib.hid hu
        have p2 : IntKind.i64.wrap ((p : Int) + 2) = (p : Int) + 2 := by rw [IntKind.wrap_i64]; omega
        have hu2 := HU2.out (p + 2) wr (by omega)
        rcases until_cases s (p + 2) 34 with ⟨eu2, hneg⟩ | ⟨f, eu2, hf, hfs⟩
        · have HX := Lib.hid (ref_stop2 HA.out he (by rw [hp]; exact hneg))
          have HL := Lib.hid (LsAt.of_owns (owns_len HN.out hown))
          have HBw := Lib.hid hB
          have hll : acc.length ≤ 1000 := by have := HN.out; omega
          rw [eu2, show ((p + 2 : Nat) : Int) = (p : Int) + 2 by omega] at hu2
          have HUV := Lib.hid hu2
          have HV := Lib.hid (refvalid_any (.slice sa n sc) acc wr HL.out hll HZ.out)
          have p0 : (0 : Int) ≤ (p : Int) := by omega
          clear hu hu2 hown hB hneg eu eu2 he hp
          go_wp2_with fail
          (with_reducible refine HUU.out.mono ?_)
          rintro e w' ⟨rfl, rfl⟩
          go_wp2_with fail
          (with_reducible refine HUV.out.mono ?_)
          rintro e w' ⟨rfl, rfl⟩
          cases hvb : validB (acc)
          · have HE := Lib.hid (ok_no1 (s := s) hvb)
            rw [hvb] at HV
            go_wp2_with fail
            (with_reducible refine HV.out.mono ?_)
            rintro e wa ⟨rfl, hb⟩
            go_wp2
            go_ret2
            rw [HX.out]; exact par_bad HE.out (below_st (HBw.out) hb)
          · have HVB := Lib.hid hvb
            rw [hvb] at HV
            have HTX := Lib.hid (fun (W : World) (hb : Below wr.heap.size wr W) => reftext_any (.slice sa n sc) (acc) W (LsAt.below (HL.out) hb) (by first | omega | decide) (by first | exact HZ.out | exact sz_ex _ rfl))
            have HLL := Lib.hid (fun (W : World) (hb : Below wr.heap.size wr W) => LsAt.below (HL.out) hb)
            by_cases ht : textB (acc) = s
            · have HE := Lib.hid (ok_yes HVB.out ht)
              have e2 := str_yes ht
              obtain ⟨tx, htx⟩ : ∃ tx, textB (acc) = tx := ⟨_, rfl⟩
              rw [htx] at HTX e2
              clear ht htx
              go_wp2_with fail
              (with_reducible refine HV.out.mono ?_)
              rintro e wa ⟨rfl, hb⟩
              have HB := Lib.hid hb
              clear hb
              go_wp2_with fail
              (with_reducible refine (HTX.out wa HB.out).mono ?_)
              rintro e wb ⟨rfl, hb⟩
              have HB2 := Lib.hid (below_st HB.out hb)
              clear hb
              go_wp2
              go_ret2
              rw [HX.out]; exact par_good HE.out (HLL.out wb HB2.out) (below_st (HBw.out) HB2.out)
            · have HE := Lib.hid (ok_no2 ht)
              have e2 := str_no ht
              obtain ⟨tx, htx⟩ : ∃ tx, textB (acc) = tx := ⟨_, rfl⟩
              rw [htx] at HTX e2
              clear ht htx
              go_wp2_with fail
              (with_reducible refine HV.out.mono ?_)
              rintro e wa ⟨rfl, hb⟩
              have HB := Lib.hid hb
              clear hb
              go_wp2_with fail
              (with_reducible refine (HTX.out wa HB.out).mono ?_)
              rintro e wb ⟨rfl, hb⟩
              have HB2 := Lib.hid (below_st HB.out hb)
              clear hb
              go_wp2
              go_ret2
              rw [HX.out]; exact par_bad HE.out (below_st (HBw.out) HB2.out)
        · have HST := Lib.hid (ref_step HN.out hn8 he (by rw [hp]; exact hf) HA.out)
          rw [hp] at HST
          obtain ⟨r, hr⟩ : ∃ r, p + 2 + f = r := ⟨_, rfl⟩
          rw [hr] at HST eu2 hfs
          rw [eu2, show ((p + 2 : Nat) : Int) = (p : Int) + 2 by omega] at hu2
          have HUV := Lib.hid hu2
          have hZ2 := HZ.out.snoc (n := s.extract i p) (v := s.extract (p + 2) r) (by rw [ByteArray.size_extract]; omega) (by rw [ByteArray.size_extract]; omega)
          obtain ⟨nm, hnm⟩ : ∃ nm, s.extract i p = nm := ⟨_, rfl⟩
          obtain ⟨vl, hvl⟩ : ∃ vl, s.extract (p + 2) r = vl := ⟨_, rfl⟩
          rw [hnm, hvl] at HST hZ2
          have HZ2 := Lib.hid hZ2
          have p0 : (0 : Int) ≤ (p : Int) := by omega
          have r0 : (0 : Int) ≤ (r : Int) := by omega
          have i0 : (0 : Int) ≤ (i : Int) := by omega
          have q1 : (i : Int) ≤ (p : Int) := by omega
          have q2 : (p : Int) ≤ (s.size : Int) := by omega
          have q3 : (p : Int) + 2 ≤ (r : Int) := by omega
          have q4 : (r : Int) ≤ (s.size : Int) := by omega
          have q5 : (0 : Int) ≤ (p : Int) + 2 := by omega
          have q6 : ((p : Int) + 2).toNat = p + 2 := by omega
          clear hu hu2 eu eu2 he hf hp hr hZ2
          go_wp2_with fail
          (with_reducible refine HUU.out.mono ?_)
          rintro e w' ⟨rfl, rfl⟩
          go_wp2_with fail
          (with_reducible refine HUV.out.mono ?_)
          rintro e w' ⟨rfl, rfl⟩
          go_wp2_with fail
          go_region_law (refine step_append_lies _ (by rfl) _ _ _ (by rfl) w.heap.size 32 il (.agg #[.string ⟨#[]⟩, .string ⟨#[]⟩]) 2 32 Tryz.underlying25 hi hz0 hz1 hz2 rfl (by decide) (.slice sa n sc) n (acc.flatMap cells2) (by rfl) ((hown.alloc _).drew) ⟨wr.heap.size, 0, none⟩ 1 1 [.string nm, .string vl] (by rfl) (by rfl) (World.news_of_block (cs := #[.string nm, .string vl]) (t := 32) (fr := (0, 0)) (heap_alloc_new wr _)) (by simp [Value.oneCell']) (by omega) (by unfold maxLen; omega) (by omega) (by have := hB.size; simp; omega) (wr.heap.size + 1) (by simp) ?_; intro g2 cap2 w4 hown4 hgrow hat hlt4)
          all_goals
            have hB4 : Below w.heap.size w w4 := ((hB.alloc hB.size _).drew).grown hgrow (by have := hB.size; simp; omega) (fun j hj => (hown.lt j hj).1)
            clear hgrow hat hlt4
            go_wp2
            go_roundw
            case rel => exact ⟨r + 2, n + 1, acc ++ [(nm, vl)], _, rfl, by omega, by go_num, by rw [List.length_append, HN.out]; rfl, by omega, HST.out, HZ2.out, by rw [List.flatMap_append]; exact hown4, hB4⟩
            case measure => simp [intOf]; omega
    · have HX := Lib.hid (ref_stop0 HA.out (by omega))
      have HL := Lib.hid (LsAt.of_owns (owns_len HN.out hown))
      have HBw := Lib.hid hB
      have hll : acc.length ≤ 1000 := by have := HN.out; omega
      have HV := Lib.hid (refvalid_any (.slice sa n sc) acc wr HL.out hll HZ.out)
      have hnot : ¬ ((i : Int) < (s.size : Int) ∧ (n : Int) < 9) := by omega
      clear hown hB
      by_cases hlt : (i : Int) < (s.size : Int)
      · have hn8 : ¬ (n : Int) < 9 := by omega
        clear hgo hnot
        cases hvb : validB (acc)
        · have HE := Lib.hid (ok_no1 (s := s) hvb)
          rw [hvb] at HV
          go_wp2_with fail
          (with_reducible refine HV.out.mono ?_)
          rintro e wa ⟨rfl, hb⟩
          go_wp2
          go_ret2
          rw [HX.out]; exact par_bad HE.out (below_st (HBw.out) hb)
        · have HVB := Lib.hid hvb
          rw [hvb] at HV
          have HTX := Lib.hid (fun (W : World) (hb : Below wr.heap.size wr W) => reftext_any (.slice sa n sc) (acc) W (LsAt.below (HL.out) hb) (by first | omega | decide) (by first | exact HZ.out | exact sz_ex _ rfl))
          have HLL := Lib.hid (fun (W : World) (hb : Below wr.heap.size wr W) => LsAt.below (HL.out) hb)
          by_cases ht : textB (acc) = s
          · have HE := Lib.hid (ok_yes HVB.out ht)
            have e2 := str_yes ht
            obtain ⟨tx, htx⟩ : ∃ tx, textB (acc) = tx := ⟨_, rfl⟩
            rw [htx] at HTX e2
            clear ht htx
            go_wp2_with fail
            (with_reducible refine HV.out.mono ?_)
            rintro e wa ⟨rfl, hb⟩
            have HB := Lib.hid hb
            clear hb
            go_wp2_with fail
            (with_reducible refine (HTX.out wa HB.out).mono ?_)
            rintro e wb ⟨rfl, hb⟩
            have HB2 := Lib.hid (below_st HB.out hb)
            clear hb
            go_wp2
            go_ret2
            rw [HX.out]; exact par_good HE.out (HLL.out wb HB2.out) (below_st (HBw.out) HB2.out)
          · have HE := Lib.hid (ok_no2 ht)
            have e2 := str_no ht
            obtain ⟨tx, htx⟩ : ∃ tx, textB (acc) = tx := ⟨_, rfl⟩
            rw [htx] at HTX e2
            clear ht htx
            go_wp2_with fail
            (with_reducible refine HV.out.mono ?_)
            rintro e wa ⟨rfl, hb⟩
            have HB := Lib.hid hb
            clear hb
            go_wp2_with fail
            (with_reducible refine (HTX.out wa HB.out).mono ?_)
            rintro e wb ⟨rfl, hb⟩
            have HB2 := Lib.hid (below_st HB.out hb)
            clear hb
            go_wp2
            go_ret2
            rw [HX.out]; exact par_bad HE.out (below_st (HBw.out) HB2.out)
      · clear hgo hnot
        cases hvb : validB (acc)
        · have HE := Lib.hid (ok_no1 (s := s) hvb)
          rw [hvb] at HV
          go_wp2_with fail
          (with_reducible refine HV.out.mono ?_)
          rintro e wa ⟨rfl, hb⟩
          go_wp2
          go_ret2
          rw [HX.out]; exact par_bad HE.out (below_st (HBw.out) hb)
        · have HVB := Lib.hid hvb
          rw [hvb] at HV
          have HTX := Lib.hid (fun (W : World) (hb : Below wr.heap.size wr W) => reftext_any (.slice sa n sc) (acc) W (LsAt.below (HL.out) hb) (by first | omega | decide) (by first | exact HZ.out | exact sz_ex _ rfl))
          have HLL := Lib.hid (fun (W : World) (hb : Below wr.heap.size wr W) => LsAt.below (HL.out) hb)
          by_cases ht : textB (acc) = s
          · have HE := Lib.hid (ok_yes HVB.out ht)
            have e2 := str_yes ht
            obtain ⟨tx, htx⟩ : ∃ tx, textB (acc) = tx := ⟨_, rfl⟩
            rw [htx] at HTX e2
            clear ht htx
            go_wp2_with fail
            (with_reducible refine HV.out.mono ?_)
            rintro e wa ⟨rfl, hb⟩
            have HB := Lib.hid hb
            clear hb
            go_wp2_with fail
            (with_reducible refine (HTX.out wa HB.out).mono ?_)
            rintro e wb ⟨rfl, hb⟩
            have HB2 := Lib.hid (below_st HB.out hb)
            clear hb
            go_wp2
            go_ret2
            rw [HX.out]; exact par_good HE.out (HLL.out wb HB2.out) (below_st (HBw.out) HB2.out)
          · have HE := Lib.hid (ok_no2 ht)
            have e2 := str_no ht
            obtain ⟨tx, htx⟩ : ∃ tx, textB (acc) = tx := ⟨_, rfl⟩
            rw [htx] at HTX e2
            clear ht htx
            go_wp2_with fail
            (with_reducible refine HV.out.mono ?_)
            rintro e wa ⟨rfl, hb⟩
            have HB := Lib.hid hb
            clear hb
            go_wp2_with fail
            (with_reducible refine (HTX.out wa HB.out).mono ?_)
            rintro e wb ⟨rfl, hb⟩
            have HB2 := Lib.hid (below_st HB.out hb)
            clear hb
            go_wp2
            go_ret2
            rw [HX.out]; exact par_bad HE.out (below_st (HBw.out) HB2.out)
end Go.Proofs.YtmgjbbkccgncgaaGreatDoor
