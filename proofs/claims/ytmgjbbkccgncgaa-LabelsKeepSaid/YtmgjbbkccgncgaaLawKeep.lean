/- Statement LabelsKeep: Keep is what the reference model gives, idempotent, and keeps label sets. Conditions: none. -/
import Derived.Deep.RegionLaw
import Derived.Deep.AppendLies
import Derived.Test.YtmgjbbkccgncgaaLOpen
import Derived.Test.YtmgjbbkccgncgaaLKeep
namespace Go.Proofs.Ytmgjbbkccgncgaa
open Go.ChangeShapes Go.WideShapes Go.ChangeAt Go.RowKit

theorem tdiv6 (x : Int) (h : -9223372036854775808 ≤ x ∧ x ≤ 9223372036854775807) : -9223372036854775808 ≤ x.tdiv 6 ∧ x.tdiv 6 ≤ 9223372036854775807 := by
  rcases Int.le_total 0 x with h0 | h0
  · rw [Int.tdiv_eq_ediv_of_nonneg h0]; omega
  · have e : x.tdiv 6 = -((-x).tdiv 6) := by rw [Int.neg_tdiv, Int.neg_neg]
    rw [e, Int.tdiv_eq_ediv_of_nonneg (by omega)]; omega
theorem keepL_twice (it : List L2) (ss : List ByteArray) : keepL (keepL it ss) ss = keepL it ss := by
  unfold keepL
  rw [List.filter_filter]
  simp
theorem keepL_all {k : Nat} {it : List L2} (h : SetOf k it) : keepL it namesL = it := by
  unfold keepL
  rw [List.filter_eq_self]
  exact fun t ht => inL_iff.2 (List.mem_of_mem_take (h.2.2 t ht).1)
theorem keepL_none (it : List L2) : keepL it [] = [] := by
  unfold keepL
  rw [List.filter_eq_nil_iff]
  intro t _ h
  simp [inL] at h
theorem keepL_valid {it : List L2} (ss : List ByteArray) (h : SetOf 6 it) : validB (keepL it ss) = true :=
  valid_of (by have := keepL_len it ss; have := h.2.1; omega) (fun t ht => h.good t (List.mem_filter.1 ht).1) (h.1.filter _)
theorem keepL_sz {it : List L2} (ss : List ByteArray) (h : Sz it) : Sz (keepL it ss) := fun t ht => h t (List.mem_filter.1 ht).1

set_option maxRecDepth 100000 in
set_option maxHeartbeats 16000000 in
theorem keep_walk (sl : Value) (ls : List Int) (nv : Value) (ns : List ByteArray) (q : Int) (w : World) (hI : IntsIn w sl ls) (hN : StrsIn w nv ns) (hq : (Lit.int .i64 q).wf = true) :
    Calls Try.prog 7 #[sl, nv, .int .i64 q] w fun e w' => e = .returned (.bool true) ∧ Below w.heap.size w w' := by
  have hq2 := wf64 hq
  have hq6 := tdiv6 q hq2
  have HI := Lib.hid hI
  obtain ⟨is, si, sz0, sz1, sz2⟩ := info_parts Try.infoStr
  obtain ⟨na, nc, rfl, hnl, hel⟩ := hN
  have HEL := Lib.hid hel
  have Q1 := Lib.hid (fun W => around_any q 6 W hq2.1 hq2.2 (by omega) (by omega))
  have Q2 := Lib.hid (fun W => around_any (q.tdiv 6) 6 W hq6.1 hq6.2 (by omega) (by omega))
  have p0 := aroundI_lo q 6 (by omega)
  have p1 := aroundI_hi q 6 (by omega)
  have r0 := aroundI_lo (q.tdiv 6) 6 (by omega)
  have r1 := aroundI_hi (q.tdiv 6) 6 (by omega)
  obtain ⟨P, hP⟩ := Int.eq_ofNat_of_zero_le p0
  obtain ⟨R, hR⟩ := Int.eq_ofNat_of_zero_le r0
  rw [hP] at Q1 p1
  rw [hR] at Q2 r1
  have qq : IntKind.i64.wrap (q.tdiv 6) = q.tdiv 6 := by rw [IntKind.wrap_i64]; omega
  have QQ := Lib.hid qq
  clear hel hI hq p0 r0 hP hR qq
  go_enter Try.func7, Try.ntmps7
  go_wp2_with fail
  refine (dirty_any sl ls w HI.out).mono ?_
  rintro e w1 ⟨dv, d, rfl, hO, hD, hB1⟩
  have HDl := Lib.hid (LsAt.of_owns hO)
  have HDz := Lib.hid hD.sz
  have nd : d.length ≤ 10 := hD.1
  clear hO hD
  go_wp2_with fail
  refine (set_any sl ls w1 (HI.out.below hB1)).mono ?_
  rintro e w2 ⟨sv, s, rfl, hO, hS, hb⟩
  have HD2 := Lib.hid (HDl.out.below hb)
  have HS2 := Lib.hid (LsAt.of_owns hO)
  have HSO := Lib.hid hS
  have ns6 : s.length ≤ 6 := hS.2.1
  have HB2 := Lib.hid (below_st hB1 hb)
  clear hO hS hb hB1 HDl HI
  go_wp2
  go_loopw [9, 10] (fun x i wr => ∃ (k : Nat) (sb : Value), sb = x ∧ k ≤ 8 ∧ k ≤ ns.length ∧ i = .int .i64 k ∧ wr.ownsRow w2.heap.size 9 1 sb k ((ns.take k).map Value.string) ∧ Below w2.heap.size w2 wr) (fun _ i _ => 8 - (intOf i).toNat)
  case atStart => exact ⟨0, _, rfl, by omega, Nat.zero_le _, rfl, World.ownsRow_nil _ _ _ _, Below.refl _ _⟩
  case round =>
    obtain ⟨k, sb, rfl, hk8, hkl, rfl, hown, hB⟩ := hrel
    by_cases hlt : k < ns.length ∧ k < 8
    · obtain ⟨hl1, hl2⟩ := hlt
      obtain ⟨x, hx⟩ : ∃ x, ns[k]? = some x := ⟨_, List.getElem?_eq_getElem hl1⟩
      obtain ⟨g, off, rfl, hgs, c0⟩ := HEL.out k x hx
      have c0 := ((below_st HB2.out hB).cell (p := ⟨g, off + k, none⟩) hgs).trans c0
      have HX := Lib.hid (show (ns.take (k + 1)).map Value.string = (ns.take k).map Value.string ++ [.string x] by rw [List.take_add_one, hx]; simp)
      have i1 : (k : Int) < (ns.length : Int) := by omega
      have i2 : (k : Int) < 8 := by omega
      clear hx
      go_wp2_with (at_builtin; refine wpList_append_own _ rfl _ _ 46 rfl w2.heap.size 9 is (.string ⟨#[]⟩) 1 16 Try.underlying46 si sz0 sz1 sz2 rfl (by decide) sb k _ rfl (hown.alloc _) ⟨wr.heap.size, 0, none⟩ 1 1 [.string x] rfl rfl (cell_one_new _ _ _) (by simp [Value.oneCell']) (by unfold maxLen; omega) (by omega) (by have := hB.size; simp; omega) ?_; intro v3 w3 hown3 hgrow3 _)
      go_roundw
      case rel => exact ⟨k + 1, v3, rfl, by omega, by omega, by go_num, by rw [HX.out]; exact hown3, (hB.alloc hB.size _).grown hgrow3 (by have := hB.size; simp; omega) (fun j hj => (hown.lt j hj).1)⟩
      case measure => simp [intOf]; omega
    · have hnot : ¬ ((k : Int) < (ns.length : Int) ∧ (k : Int) < 8) := by omega
      have hwr := names_any wr
      have HN := Lib.hid (Blk.new wr 9 (rowS namesL))
      have hB3 := hB.alloc hB.size (.cells (rowS namesL) 9)
      obtain ⟨n1, hn1⟩ : ∃ n, namesL[P]? = some n := ⟨_, List.getElem?_eq_getElem (by simp [namesL]; omega)⟩
      obtain ⟨n2, hn2⟩ : ∃ n, namesL[R]? = some n := ⟨_, List.getElem?_eq_getElem (by simp [namesL]; omega)⟩
      have c1 := rowS_cell HN.out hn1
      have c2 := rowS_cell HN.out hn2
      have hown1 := hown.alloc (.cells (rowS namesL) 9)
      have hNA : SsAt (wr.alloc (.cells (rowS namesL) 9)) (.slice (some ⟨wr.heap.size, 0, none⟩) 6 6) namesL := .inr ⟨_, _, rfl, Nat.le_refl _, HN.out.lt, fun j x hj => rowS_cell HN.out hj⟩
      have HNA := Lib.hid hNA
      obtain ⟨wn, hwn⟩ : ∃ wn : World, wr.alloc (.cells (rowS namesL) 9) = wn := ⟨_, rfl⟩
      rw [hwn] at HN hB3 c1 c2 hown1 HNA hwr
      have HWR := Lib.hid hwr
      have P0 : (0 : Int) ≤ (P : Int) := by omega
      have R0 : (0 : Int) ≤ (R : Int) := by omega
      have hws : wr.heap.size < wn.heap.size := by rw [← hwn]; simp
      have HSB := Lib.hid (fun j hj => (hown.lt j hj).2)
      have HKN := Lib.hid (show (ns.take k ++ [n1, n2]).length = k + 2 by rw [List.length_append, List.length_take]; simp; omega)
      clear hn1 hn2 hwr hwn hown hB hNA
      have hst : ¬ (k : Int) < (ns.length : Int) ∨ ((k : Int) < (ns.length : Int) ∧ ¬ (k : Int) < 8) := by omega
      clear hlt hnot
      rcases hst with s1 | ⟨s1, s2⟩
      all_goals
        go_wp2_with fail
        (with_reducible refine HWR.out.mono ?_)
        rintro e w' ⟨rfl, rfl⟩
        have qq := QQ.out
        go_wp2_with fail
        go_region_law (first | (refine step_append_lies _ (by rfl) _ _ _ (by rfl) w2.heap.size 9 is (.string ⟨#[]⟩) 1 16 Try.underlying46 si sz0 sz1 sz2 rfl (by decide) sb k ((ns.take k).map Value.string) (by rfl) ((hown1.alloc _).drew) ⟨w'.heap.size, 0, none⟩ 2 2 [.string n1, .string n2] (by rfl) (by rfl) (World.news_of_block (cs := #[.string n1, .string n2]) (t := 9) (fr := (0, 0)) (heap_alloc_new w' _)) (by simp [Value.oneCell']) (by omega) (by unfold maxLen; omega) (by omega) (by have := hB3.size; simp; omega) (w'.heap.size + 1) (by simp) ?_; intro g2 cap2 w4 hown4 hgrow hat hlt4) | (go_simp; go_at_call 11; first | ((with_reducible refine (Q1.out _).mono ?_); rintro e w'' ⟨rfl, rfl⟩) | ((with_reducible refine (Q2.out _).mono ?_); rintro e w'' ⟨rfl, rfl⟩)))
        all_goals
          have hB4 : Below w2.heap.size w2 w4 := ((hB3.alloc hB3.size _).drew).grown hgrow (by have := hB3.size; simp; omega) (fun j hj => (hown1.lt j hj).1)
          have hblk : Blk w4 wr.heap.size 9 (rowS namesL) := (hgrow.block wr.heap.size (by simp; omega) (fun e => by have := HSB.out _ e.symm; omega)).trans ((Below.heap_alloc w' _ _ hws).trans HN.out)
          have HNB := Lib.hid hblk
          have hfo : w4.ownsRow w2.heap.size 9 1 (.slice (some ⟨g2, 0, none⟩) (k + 2) cap2) (ns.take k ++ [n1, n2]).length ((ns.take k ++ [n1, n2]).map Value.string) := by
            rw [HKN.out, List.map_append]; exact hown4
          have HFo := Lib.hid (SsAt.of_owns hfo)
          obtain ⟨fs, hfs⟩ : ∃ fs, ns.take k ++ [n1, n2] = fs := ⟨_, rfl⟩
          rw [hfs] at HFo
          have nf : fs.length ≤ 1000 := by have := HKN.out; rw [hfs] at this; omega
          have KF := Lib.hid (fun (W : World) (hb : Below w4.heap.size w4 W) => HFo.out.below hb)
          have KD := Lib.hid (fun (W : World) (hb : Below w4.heap.size w4 W) => (HD2.out.below hB4).below hb)
          have KS := Lib.hid (fun (W : World) (hb : Below w4.heap.size w4 W) => (HS2.out.below hB4).below hb)
          have KN := Lib.hid (fun (W : World) (hb : Below w4.heap.size w4 W) => show SsAt W (.slice (some ⟨wr.heap.size, 0, none⟩) 6 6) namesL from SsAt.below (.inr ⟨_, _, rfl, Nat.le_refl _, HNB.out.lt, fun j x hj => rowS_cell HNB.out hj⟩) hb)
          have HW4 := Lib.hid (below_st HB2.out hB4)
          have g0 := Below.refl w4.heap.size w4
          clear hgrow hat hlt4 hown4 hown1 hB3 hB4 hfo hblk c1 c2 qq hfs hws
          have R1 := Lib.hid (keep_any dv _ d fs w4 (KD.out _ g0) (KF.out _ g0) (by omega) nf)
          go_wp2_with fail
          (with_reducible refine R1.out.mono ?_)
          rintro e v1 ⟨av, rfl, hO, hb⟩
          have g1 := below_st g0 hb
          have HA := Lib.hid (LsAt.of_owns hO)
          clear hb R1 g0 hO
          have R2 := Lib.hid (keep_any sv _ s fs v1 (KS.out _ g1) (KF.out _ g1) (by omega) nf)
          go_wp2_with fail
          (with_reducible refine R2.out.mono ?_)
          rintro e v2 ⟨bv, rfl, hO, hb⟩
          have g2 := below_st g1 hb
          have HBv := Lib.hid (LsAt.of_owns hO)
          have HA2 := Lib.hid (HA.out.below hb)
          clear hb R2 g1 hO HA
          have la := keepL_len d fs
          have lb := keepL_len s fs
          have HV := Lib.hid (keepL_valid fs HSO.out)
          have HT := Lib.hid (keepL_twice s fs)
          have HZ := Lib.hid (keepL_sz fs HSO.out.sz)
          obtain ⟨ka, hka⟩ : ∃ x, keepL d fs = x := ⟨_, rfl⟩
          obtain ⟨kb, hkb⟩ : ∃ x, keepL s fs = x := ⟨_, rfl⟩
          have HKA := Lib.hid hka
          have HKB := Lib.hid hkb
          rw [hka] at HA2 la
          rw [hkb] at HBv lb HV HT HZ
          clear hka hkb
          obtain ⟨aa, ac, rfl, -⟩ := HA2.out.slice
          obtain ⟨ba, bc, rfl, -⟩ := HBv.out.slice
          have KB := Lib.hid (fun (W : World) (hb : Below v2.heap.size v2 W) => HBv.out.below hb)
          have b0 := Below.refl v2.heap.size v2
          have R3 := Lib.hid (refkeep_any dv _ d fs v2 (KD.out _ g2) (KF.out _ g2) (by omega) nf)
          go_wp2_with fail
          (with_reducible refine R3.out.mono ?_)
          rintro e v3 ⟨cv, rfl, hO, hb⟩
          have g3 := below_st g2 hb
          have b1 := below_st b0 hb
          have HC := Lib.hid (LsAt.of_owns hO)
          rw [HKA.out] at HC
          have HA3 := Lib.hid (HA2.out.below hb)
          obtain ⟨ca, cc, rfl, -⟩ := HC.out.slice
          clear hO
          clear hb R3 g2 b0
          have R4 := Lib.hid (same_any aa ca ac cc ka ka v3 HA3.out HC.out (by omega) (by omega))
          rw [sameL_of rfl] at R4
          go_wp2_with fail
          (with_reducible refine R4.out.mono ?_)
          rintro e v4 ⟨rfl, hb⟩
          have g4 := below_st g3 hb
          have b2 := below_st b1 hb
          clear hb R4 g3 b1
          have R5 := Lib.hid (refkeep_any sv _ s fs v4 (KS.out _ g4) (KF.out _ g4) (by omega) nf)
          go_wp2_with fail
          (with_reducible refine R5.out.mono ?_)
          rintro e v5 ⟨cv2, rfl, hO, hb⟩
          have g5 := below_st g4 hb
          have b3 := below_st b2 hb
          have HC2 := Lib.hid (LsAt.of_owns hO)
          rw [HKB.out] at HC2
          obtain ⟨ea, ec, rfl, -⟩ := HC2.out.slice
          clear hO
          clear hb R5 g4 b2
          have R6 := Lib.hid (same_any ba ea bc ec kb kb v5 (KB.out _ b3) HC2.out (by omega) (by omega))
          rw [sameL_of rfl] at R6
          go_wp2_with fail
          (with_reducible refine R6.out.mono ?_)
          rintro e v6 ⟨rfl, hb⟩
          have g6 := below_st g5 hb
          have b4 := below_st b3 hb
          clear hb R6 g5 b3
          have R7 := Lib.hid (keep_any (.slice ba kb.length bc) _ kb fs v6 (KB.out _ b4) (KF.out _ g6) (by omega) nf)
          go_wp2_with fail
          (with_reducible refine R7.out.mono ?_)
          rintro e v7 ⟨cv3, rfl, hO, hb⟩
          have g7 := below_st g6 hb
          have b5 := below_st b4 hb
          have HC3 := Lib.hid (LsAt.of_owns hO)
          rw [HT.out] at HC3
          obtain ⟨fa, fc, rfl, -⟩ := HC3.out.slice
          clear hO
          clear hb R7 g6 b4
          have R8 := Lib.hid (same_any fa ba fc bc kb kb v7 HC3.out (KB.out _ b5) (by omega) (by omega))
          rw [sameL_of rfl] at R8
          go_wp2_with fail
          (with_reducible refine R8.out.mono ?_)
          rintro e v8 ⟨rfl, hb⟩
          have g8 := below_st g7 hb
          have b6 := below_st b5 hb
          clear hb R8 g7 b5
          have R9 := Lib.hid (valid_any (.slice ba kb.length bc) kb v8 (KB.out _ b6) (by omega) HZ.out)
          rw [HV.out] at R9
          go_wp2_with fail
          (with_reducible refine R9.out.mono ?_)
          rintro e v9 ⟨rfl, hb⟩
          have g9 := below_st g8 hb
          have b7 := below_st b6 hb
          clear hb R9 g8 b6
          have R10 := Lib.hid (keep_any sv _ s namesL v9 (KS.out _ g9) (KN.out _ g9) (by omega) (by decide))
          go_wp2_with fail
          (with_reducible refine R10.out.mono ?_)
          rintro e v10 ⟨cv4, rfl, hO, hb⟩
          have g10 := below_st g9 hb
          have b8 := below_st b7 hb
          have HC4 := Lib.hid (LsAt.of_owns hO)
          rw [keepL_all HSO.out] at HC4
          obtain ⟨ha, hc, rfl, -⟩ := HC4.out.slice
          clear hO
          clear hb R10 g9 b7
          have hsl := KS.out _ g10
          obtain ⟨sa, sc, hse, -⟩ := hsl.slice
          have R11 := Lib.hid (same_any ha sa hc sc s s v10 HC4.out (by rw [← hse]; exact hsl) (by omega) (by omega))
          rw [sameL_of rfl, ← hse] at R11
          clear hsl hse
          go_wp2_with fail
          (with_reducible refine R11.out.mono ?_)
          rintro e v11 ⟨rfl, hb⟩
          have g11 := below_st g10 hb
          clear hb R11 g10
          have R12 := Lib.hid (keep_any sv (.slice none 0 0) s [] v11 (KS.out _ g11) .nil (by omega) (by decide))
          go_wp2_with fail
          (with_reducible refine R12.out.mono ?_)
          rintro e v12 ⟨cv5, rfl, hO, hb⟩
          have hC5 := LsAt.of_owns hO
          rw [keepL_none] at hC5
          obtain ⟨ja, jc, rfl, -⟩ := hC5.slice
          have g12 := below_st g11 hb
          clear hb R12 g11 hO hC5
          go_wp2_with fail
          refine (lives_any _).mono ?_
          rintro e v13 ⟨rfl, hb⟩
          go_wp2
          go_ret
          exact ⟨rfl, below_st HW4.out (below_st g12 hb)⟩

set_option maxRecDepth 100000 in
theorem keep_lifted (os : Os) (started : os.Started) (H : Type) (enc : TypeId × Value → H) :
    ReturnsInHanded {} Try.checked os 7 .any (Rows.labelsKeepSpec.pre6 enc Try.prog Try.f7 Rows.labelsKeepRow.domain false) (Rows.labelsKeepSpec.post enc Try.prog Try.f7 false true false false) := by
  refine returnsInHanded_of_change_sized (C := Try.checked) Try.own started (by kernel_rfl) Try.func7
    (ChangeSpec.witness6 (enc := enc) (C := Try.checked) false ⟨#[], #[.slice none 0 0, .slice none 0 0, .int .i64 0], []⟩ 8 (by kernel_rfl) (by kernel_rfl) (by kernel_rfl) (by kernel_rfl)) ?_
  intro W base args ds gs before hval0 hW _ hsz0 _
  have hsz : (DataW.weightsEach Try.prog (Try.f7.params.toList ++ Rows.labelsKeepSpec.plain.varTypes Try.prog) (ds ++ gs)).all (· ≤ reachBytes) = true := hsz0
  clear hsz0
  have hval : ∀ (j : Nat) t v, Try.f7.params[j]? = some t → args[j]? = some v → Value.okWide Try.prog W .any base t v := hval0
  have hW' := hW
  obtain ⟨p, q, hA0, hV, rfl, _, _⟩ := hW
  have hA : DataW.TrodAll enc Try.prog W 0 (fun _ => true) true Try.f7.params.toList args.toList ds p := hA0
  rw [Try.params7] at hA hval hsz
  obtain ⟨v0, vs0, d0, ds0, p0, q0, hargs, rfl, rfl, h0, r0⟩ := trodAll_cons hA
  obtain ⟨v1, vs1, d1, ds1, p1, q1, rfl, rfl, rfl, h1, r1⟩ := trodAll_cons r0
  obtain ⟨v2, vs2, d2, ds2, p2, q2, rfl, rfl, rfl, h2, r2⟩ := trodAll_cons r1
  obtain ⟨rfl, rfl, rfl⟩ := trodAll_nil r2
  obtain rfl : args = #[v0, v1, v2] := by cases args; simp_all
  obtain ⟨rfl, rfl⟩ := trodVars_none hV
  obtain ⟨zs0, hI0⟩ := open_ints5 (hval 0 30 v0 rfl rfl) h0 (fun x hx => by simpa using hW'.lt x (by simp [hx])) hsz (j := 0) rfl rfl
  obtain ⟨l1, hL1⟩ := open_strs5 (hval 1 46 v1 rfl rfl) h1 (fun x hx => by simpa using hW'.lt x (by simp [hx]))
  obtain ⟨a2, rfl, rfl, rfl, w2⟩ := open_int Try.underlying3 (hval 2 3 v2 rfl rfl) h2
  clear hA0 hval0
  have hwalk := keep_walk v0 zs0 v1 l1 a2 W hI0 hL1 w2
  refine hwalk.mono fun e W' ⟨he, hB⟩ => ?_
  subst he
  exact ⟨_, rfl, law_post (by kernel_rfl) (by kernel_rfl) rfl hW' rfl hB⟩

theorem keep_holds : Rows.LabelsKeepSaid :=
  OpenClaim.holds_of_wide 7 Try.f7 rfl rfl rfl rfl rfl rfl rfl ⟨rfl, rfl, rfl, rfl, rfl⟩ rfl rfl rfl rfl rfl (by kernel_rfl) Try.func7 (by kernel_rfl)
    (of_decide_eq_true (by kernel_rfl)) (by unfold Func.isWrapper; first | (rw [if_pos (by decide +kernel)]; kernel_rfl) | (rw [if_neg (by decide +kernel)]; exact ⟨rfl, rfl⟩))
    (fun os started H enc _ => keep_lifted os started H enc)
#print axioms keep_holds
end Go.Proofs.Ytmgjbbkccgncgaa
