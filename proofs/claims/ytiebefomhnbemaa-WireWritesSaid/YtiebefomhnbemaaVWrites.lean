/- Statement WireWrites: a writer's bytes after every value. Conditions: none. -/
import Derived.Deep.RegionHeld3
import Derived.Test.YtiebefomhnbemaaVRefE
namespace Go.Proofs.Ytiebefomhnbemaa
open Go.ChangeShapes Go.WideShapes Go.ChangeAt Go.RowKit

theorem VsAt.take {P : Nat → Prop} {W : World} {a : Option Addr} {l c : Nat} {it : List VT} (h : VsAt P W (.slice a l c) it) (j : Nat) (hj : j ≤ it.length) : VsAt P W (.slice a j c) (it.take j) ∧ it.length ≤ c := by
  obtain ⟨⟨a', c', e, hl, h1⟩, h2⟩ := h
  simp only [Value.slice.injEq] at e
  obtain ⟨rfl, rfl, rfl⟩ := e
  have hlen : (it.take j).length = j := by rw [List.length_take]; omega
  refine ⟨⟨⟨a, c, by rw [hlen], by omega, fun hne => ?_⟩, fun t ht => h2 t (List.mem_of_mem_take ht)⟩, hl⟩
  have hne' : it ≠ [] := by rintro rfl; simp at hne
  obtain ⟨g, ea, hp, hg, hc⟩ := h1 hne'
  refine ⟨g, ea, hp, hg, fun i hi => ?_⟩
  rw [hlen] at hi
  rw [hc i (by omega)]
  have e1 : it.flatMap cells5 = (it.take j).flatMap cells5 ++ (it.drop j).flatMap cells5 := by rw [← List.flatMap_append, List.take_append_drop]
  rw [e1, List.getElem?_append_left (by rw [cells5_length, hlen]; omega)]
theorem small4 (ys : List UInt8) (h : ys.length ≤ 200) : Small ⟨4, 0, 0, ys, []⟩ :=
  ⟨⟨by simp, by simp, by simp, by simp, by simp, by simp, by simp, by simp, by simp, by show ys.length ≤ 1000000; omega, by simp⟩, by show ys.length ≤ 1000; omega, by simp⟩
theorem small5 (ls : List Int) (h : ls.length ≤ 20) (hz : ∀ z ∈ ls, -9223372036854775808 ≤ z ∧ z ≤ 9223372036854775807) : Small ⟨5, 0, 0, [], ls⟩ :=
  ⟨⟨by simp, by simp, by simp, hz, by simp, by simp, by simp, by simp, by simp, by simp, by show ls.length ≤ 1000000; omega⟩, by simp, by show ls.length ≤ 1000; omega⟩
theorem small2 : Small ⟨2, 0, 1, [], []⟩ := ⟨⟨by simp, by simp, by simp, by simp, by simp, by simp, by simp, by simp, by simp, by simp, by simp⟩, by simp, by simp⟩

/-- The two sides of the comparison, each from any later world. -/
theorem done_from (base b : Nat) (xs : List UInt8) (wr : World) (hx : xs.length ≤ 1000000) (hw : Wr base wr b xs) (W : World) (hB : Below wr.heap.size wr W) :
    Calls Try.prog 16 #[.pointer (some ⟨b, 0, none⟩)] W fun e w' => ∃ a c, e = .returned (.slice a xs.length c) ∧ Bs wr.heap.size w' (.slice a xs.length c) xs ∧ Below W.heap.size W w' ∧ Below wr.heap.size wr w' :=
  (wdone_any base b xs W (by omega) (hw.below hB)).mono fun e w' h => by
    obtain ⟨v, he, hb, hB2⟩ := h
    obtain ⟨a, c, rfl⟩ := hb.slice
    exact ⟨a, c, he, hb.weak hB.size, hB2, below_then hB hB2⟩
theorem enc_from (P : Nat → Prop) (a : Option Addr) (c k : Nat) (it : List VT) (wr : World) (hk : it.length = k) (hn : k ≤ 30) (hs : ∀ t ∈ it, Small t.1) (hI : VsAt P wr (.slice a k c) it) (W : World) (hB : Below wr.heap.size wr W) :
    Calls Try.prog 17 #[.slice a k c] W fun e w' => ∃ a c, e = .returned (.slice a (encAll (vals it)).length c) ∧ Bs wr.heap.size w' (.slice a (encAll (vals it)).length c) (encAll (vals it)) ∧ Below W.heap.size W w' ∧ Below wr.heap.size wr w' := by
  subst hk
  refine (refenc_any P a c it W hn hs (hI.below hB)).mono fun e w' h => ?_
  obtain ⟨v, he, hb, hB2⟩ := h
  obtain ⟨a, c, rfl⟩ := hb.slice
  exact ⟨a, c, he, hb.weak hB.size, hB2, below_then hB hB2⟩
theorem sameb_from (n : Nat) (a a' : Option Addr) (c c' : Nat) (xs : List UInt8) (w : World) (hx : xs.length ≤ 1000000) (hX : Bs n w (.slice a xs.length c) xs) (hY : Bs n w (.slice a' xs.length c') xs) :
    Calls Try.prog 15 #[.slice a xs.length c, .slice a' xs.length c'] w fun e w' => e = .returned (.bool true) ∧ Below w.heap.size w w' :=
  (sameb_any a a' c c' xs xs w (by omega) (Nat.le_refl _) hX.in hY.in).mono fun e w' h => by
    rw [decide_eq_true (rfl : xs = xs)] at h
    exact h
theorem Bs.from_drew {n : Nat} {W : World} {v : Value} {xs : List UInt8} (h : Bs n W v xs) : Bs n W.drew v xs := h

set_option maxRecDepth 100000 in
set_option maxHeartbeats 16000000 in
theorem writes_walk (a : Option Addr) (cap : Nat) (zs : List Int) (u n : Int) (ba : Option Addr) (bcap : Nat) (bs : List UInt8) (la : Option Addr) (lcap : Nat) (li : List Int) (w : World) (hz : zs.length ≤ 140737488351232) (hzi : ∀ z ∈ zs, (Lit.int .i64 z).wf = true) (hI : InAt .i64 w.heap.size w (.slice a zs.length cap) zs) (hu' : (Lit.int .u64 u).wf = true) (hn' : (Lit.int .i64 n).wf = true) (hbl : bs.length ≤ 140737488351232) (hIb : InAt .u8 w.heap.size w (.slice ba bs.length bcap) (bs.map ofByte)) (hll : li.length ≤ 140737488351232) (hli : ∀ z ∈ li, (Lit.int .i64 z).wf = true) (hIl : InAt .i64 w.heap.size w (.slice la li.length lcap) li) :
    Calls Try.prog 3 #[.slice a zs.length cap, .int .u64 u, .int .i64 n, .slice ba bs.length bcap, .slice la li.length lcap] w fun e w' => e = .returned (.bool true) ∧ Below w.heap.size w w' := by
  obtain ⟨i0, hi, hz0, hz1, hz2⟩ := info_parts Try.infoVal
  have hu := in_of_u64 hu'
  have hn := in_of_i64 hn'
  obtain ⟨U, rfl⟩ := Int.eq_ofNat_of_zero_le hu.1
  have hv := vals_any a cap zs w hz hzi hI
  have Hli := Lib.hid hli
  have HIb := Lib.hid hIb
  have HIl := Lib.hid hIl
  clear hu' hn' hzi hI hli hIb hIl
  go_enter Try.func3, Try.ntmps3
  go_wp2_with fail
  refine hv.mono ?_
  rintro e w1 ⟨v, it, rfl, hG, hF, hil, hB1⟩
  have HF := Lib.hid hF
  clear hv hF
  go_wp2_with fail
  refine (few_row ba bcap bs 200 w1 (by omega) (by omega) (by omega) (n₀ := w.heap.size) (InAt.below hB1 HIb.out)).mono ?_
  rintro e w2 ⟨a3, c3, rfl, hf2, hB2⟩
  obtain ⟨ys, hys⟩ : ∃ ys, bs.take (200 : Int).toNat = ys := ⟨_, rfl⟩
  have hyl : ys.length ≤ 200 := by rw [← hys]; exact Nat.le_trans (List.length_take_le _ _) (by decide)
  rw [hys] at hf2 ⊢
  have hA2 := below_then hB1 hB2
  have hys1 := hf2.bs.sat
  clear hys hf2
  go_wp2_with fail
  refine (ints_row la lcap li 20 w2 (by omega) (by omega) (by omega) (n₀ := w.heap.size) (InAt.below hA2 HIl.out)).mono ?_
  rintro e w3 ⟨a4, c4, rfl, hf3, hB3⟩
  obtain ⟨ls, hls⟩ : ∃ ls, li.take (20 : Int).toNat = ls := ⟨_, rfl⟩
  have hlsl : ls.length ≤ 20 := by rw [← hls]; exact Nat.le_trans (List.length_take_le _ _) (by decide)
  have hlsi : ∀ z ∈ ls, -9223372036854775808 ≤ z ∧ z ≤ 9223372036854775807 := by
    intro z hz
    rw [← hls] at hz
    exact in_of_i64 (Hli.out z (List.mem_of_mem_take hz))
  rw [hls] at hf3 ⊢
  have hls3 := hf3.inp
  have hs12 := hB2.size
  have hys3 := hys1.kp (.of_below hB3)
  have hB23 := below_then hB2 hB3
  have hs13 := hB23.size
  have hrow := owns_kp hG.1 (Kp.of_below (P := fun _ => True) hB23) (fun _ _ _ => trivial)
  have hs01 := hB1.size
  have Hlsi := Lib.hid hlsi
  clear hls hf3 hB2 hB3 hys1 hlsi hA2
  go_wp2_with (at_builtin; refine wpList_append_own_at _ rfl _ _ 25 rfl w.heap.size 28 i0 (.agg #[.int .i64 0, .int .u64 0, .int .i64 0, .slice none 0 0, .slice none 0 0]) 5 72 Try.underlying25 hi hz0 hz1 hz2 rfl (by decide) _ _ _ rfl (hrow.alloc _) ⟨w3.heap.size, 0, none⟩ 5 5 [.int .i64 0, .int .u64 (U : Int), .int .i64 0, .slice none 0 0, .slice none 0 0, .int .i64 1, .int .u64 0, .int .i64 n, .slice none 0 0, .slice none 0 0, .int .i64 4, .int .u64 0, .int .i64 0, .slice a3 ys.length c3, .slice none 0 0, .int .i64 5, .int .u64 0, .int .i64 0, .slice none 0 0, .slice a4 ls.length c4, .int .i64 2, .int .u64 0, .int .i64 1, .slice none 0 0, .slice none 0 0] rfl rfl (World.news_of_block (cs := #[.int .i64 0, .int .u64 (U : Int), .int .i64 0, .slice none 0 0, .slice none 0 0, .int .i64 1, .int .u64 0, .int .i64 n, .slice none 0 0, .slice none 0 0, .int .i64 4, .int .u64 0, .int .i64 0, .slice a3 ys.length c3, .slice none 0 0, .int .i64 5, .int .u64 0, .int .i64 0, .slice none 0 0, .slice a4 ls.length c4, .int .i64 2, .int .u64 0, .int .i64 1, .slice none 0 0, .slice none 0 0]) (World.alloc_heap_new _ _)) (by simp [Value.oneCell']) (by unfold maxLen; omega) (by omega) (by simp; omega) ?_; intro v' w4 hown' hgrow hnn hat; clear hnn)
  have hp := Gen.pushes (ts := [((⟨0, U, 0, [], []⟩ : V), Value.slice none 0 0, Value.slice none 0 0), ((⟨1, 0, n, [], []⟩ : V), Value.slice none 0 0, Value.slice none 0 0), ((⟨4, 0, 0, ys, []⟩ : V), Value.slice a3 ys.length c3, Value.slice none 0 0), ((⟨5, 0, 0, [], ls⟩ : V), Value.slice none 0 0, Value.slice a4 ls.length c4), ((⟨2, 0, 1, [], []⟩ : V), Value.slice none 0 0, Value.slice none 0 0)]) hG hs01 hB23 (by
    intro t ht
    simp only [List.mem_cons, List.not_mem_nil, or_false] at ht
    rcases ht with rfl | rfl | rfl | rfl | rfl
    · exact ⟨.nil, .nil⟩
    · exact ⟨.nil, .nil⟩
    · exact ⟨hys3, .nil⟩
    · exact ⟨.nil, hls3.mono (fun k _ h => Nat.le_trans hs12 h)⟩
    · exact ⟨.nil, .nil⟩) hown' hgrow hat
  have hsm0 : ∀ t ∈ it ++ [((⟨0, U, 0, [], []⟩ : V), Value.slice none 0 0, Value.slice none 0 0), ((⟨1, 0, n, [], []⟩ : V), Value.slice none 0 0, Value.slice none 0 0), ((⟨4, 0, 0, ys, []⟩ : V), Value.slice a3 ys.length c3, Value.slice none 0 0), ((⟨5, 0, 0, [], ls⟩ : V), Value.slice none 0 0, Value.slice a4 ls.length c4), ((⟨2, 0, 1, [], []⟩ : V), Value.slice none 0 0, Value.slice none 0 0)], Small t.1 := by
    intro t ht
    rcases List.mem_append.1 ht with h | h
    · exact (HF.out t h).small
    · simp only [List.mem_cons, List.not_mem_nil, or_false] at h
      rcases h with rfl | rfl | rfl | rfl | rfl
      · exact (fine0 U (by omega) (.slice none 0 0) (.slice none 0 0)).small
      · exact (fine1 n hn (.slice none 0 0) (.slice none 0 0)).small
      · exact small4 ys hyl
      · exact small5 ls hlsl Hlsi.out
      · exact small2
  obtain ⟨is, his⟩ : ∃ is, it ++ [((⟨0, U, 0, [], []⟩ : V), Value.slice none 0 0, Value.slice none 0 0), ((⟨1, 0, n, [], []⟩ : V), Value.slice none 0 0, Value.slice none 0 0), ((⟨4, 0, 0, ys, []⟩ : V), Value.slice a3 ys.length c3, Value.slice none 0 0), ((⟨5, 0, 0, [], ls⟩ : V), Value.slice none 0 0, Value.slice a4 ls.length c4), ((⟨2, 0, 1, [], []⟩ : V), Value.slice none 0 0, Value.slice none 0 0)] = is := ⟨_, rfl⟩
  have hisl : is.length ≤ 13 := by rw [← his, List.length_append]; simp; omega
  have hisv : v'.ownBlock = v'.ownBlock := rfl
  rw [his] at hp hsm0
  have Hsm := Lib.hid hsm0
  obtain ⟨hG2, hB4⟩ := hp
  have hvs := hG2.at
  obtain ⟨a2, c2, rfl⟩ := hvs.slice
  have hv4 := hvs.mono (Q := (· < w4.heap.size)) (fun k hk _ => hk)
  have hA4 := hB1.trans hB4
  have hs4 := hA4.size
  clear his hown' hgrow hat hrow hG hG2 hvs hsm0 hisv hB1 hB4 hB23 hls3 hys3
  have hw0 := Wr.new w4.heap.size w4 (Nat.le_refl _)
  have hal : Below w4.heap.size w4 (w4.alloc (.cells #[.slice none 0 0] 32)) := (Below.refl _ w4).alloc (Nat.le_refl _) _
  go_wp2_with fail
  go_loopw [13] (fun i wr => ∃ k : Nat, k ≤ is.length ∧ i = .int .i64 k ∧ Wr w4.heap.size wr w4.heap.size (encAll (vals (is.take k))) ∧ Below w4.heap.size w4 wr) (fun i _ => is.length - (intOf i).toNat)
  case atStart => exact ⟨0, Nat.zero_le _, rfl, hw0, hal⟩
  case round =>
    obtain ⟨k, hk, rfl, hW, hB⟩ := hrel
    clear hw0 hal
    have hlenk : ∀ j, (encAll (vals (is.take j))).length ≤ 330600 := by
      intro j
      have h1 := encAll_length (vals (is.take j)) (fun v hv => by
        obtain ⟨t, ht, rfl⟩ := List.mem_map.1 hv
        exact Hsm.out t (List.mem_of_mem_take ht))
      have h2 : (is.take j).length ≤ is.length := by rw [List.length_take]; omega
      rw [vals_length] at h1
      omega
    have hlen := hlenk k
    have hlen1 := hlenk (k + 1)
    clear hlenk
    by_cases hlt : k < is.length
    · have hsm := Hsm.out is[k] (List.getElem_mem hlt)
      have hIr := hv4.kp (.of_base hB)
      obtain ⟨g, rfl, hg, hgs, hlc, hcell, hvp⟩ := hIr.get k hlt
      have hvt := vals_take is k hlt
      have c0 := hcell 0 (by omega)
      have c1 := hcell 1 (by omega)
      have cc2 := hcell 2 (by omega)
      have cc3 := hcell 3 (by omega)
      have cc4 := hcell 4 (by omega)
      have hwr := write_any w4.heap.size w4.heap.size is[k] _ wr (by have := hsm.2.2; omega) hsm.1 hvp hW
      rw [← encAll_snoc, ← hvt] at hwr
      unfold aggV at hwr
      have hvk := hIr.take (k + 1) (by omega)
      have hcap := hvk.2
      have Hvk := Lib.hid hvk.1
      obtain ⟨t, ht⟩ : ∃ t, is[k] = t := ⟨_, rfl⟩
      rw [ht] at c0 c1 cc2 cc3 cc4 hwr
      obtain ⟨⟨vk, vu, vn, vb, vl⟩, sb, sl⟩ := t
      simp only [cells5, Nat.add_zero, List.getElem?_cons_zero, List.getElem?_cons_succ] at c0 c1 cc2 cc3 cc4 hwr
      have Hwr := Lib.hid hwr
      have hk0 : (0 : Int) ≤ (k : Int) := by omega
      have hk1 : (k : Int) < (is.length : Int) := by omega
      have hsmk : ∀ t ∈ is.take (k + 1), Small t.1 := fun t ht => Hsm.out t (List.mem_of_mem_take ht)
      have Hsmk := Lib.hid hsmk
      clear hcell hvt hsm hvp ht hW hwr hIr hvk hsmk
      go_wp2_with fail
      refine Hwr.out.mono ?_
      rintro e w5 ⟨rfl, hW5, hB5⟩
      have hlk : (is.take (k + 1)).length = k + 1 := by rw [List.length_take]; omega
      have hv5 := (Hvk.out.kp (.of_base hB5))
      have hA5 := hB.trans hB5
      have hs5 := hA5.size
      obtain ⟨B, hBB⟩ : ∃ B, encAll (vals (is.take (k + 1))) = B := ⟨_, rfl⟩
      have he := enc_from (· < w4.heap.size) (some ⟨g, 0, none⟩) c2 (k + 1) (is.take (k + 1)) w5 hlk (by omega) Hsmk.out hv5
      have hd := done_from w4.heap.size w4.heap.size _ w5 (by omega) hW5
      rw [hBB] at he hd hlen1 hW5
      have HBB := Lib.hid hBB
      have hk2 : (k : Int) + 1 ≤ (c2 : Int) := by omega
      have hk3 : (0 : Int) ≤ (k : Int) + 1 := by omega
      have hwk : IntKind.i64.wrap ((k : Int) + 1) = (k : Int) + 1 := by rw [IntKind.wrap_i64]; omega
      have h00 := Below.refl w5.heap.size w5
      clear hBB hlk hv5 c0 c1 cc2 cc3 cc4
      go_wp2_with fail
      go_region_held3 (fun w' => Below w5.heap.size w5 w') (first | assumption | exact Below.drew (by assumption))
        (first | (go_at_call 16; refine (hd _ (by assumption)).mono ?_; rintro e wd ⟨ad, cd, rfl, hdd, hdW, hdR⟩)
               | (go_at_call 17; refine (he _ (by assumption)).mono ?_; rintro e we ⟨ae, ce, rfl, hee, heW, heR⟩)
               | (go_at_call 15; refine (sameb_from w5.heap.size _ _ _ _ B _ (by omega) (by first | exact hdd | exact Bs.below hdd heW | exact Bs.below (Bs.from_drew hdd) heW) (by first | exact hee | exact Bs.below hee hdW | exact Bs.below (Bs.from_drew hee) hdW)).mono ?_; rintro e ws ⟨rfl, hS⟩; have hR9 : Below w5.heap.size w5 ws := (by first | exact below_then heR hS | exact below_then hdR hS)))
      all_goals
        go_wp2
        go_roundw
        case rel => exact ⟨k + 1, by omega, by go_num, by rw [HBB.out]; exact hW5.below hR9, hA5.trans (hR9.mono hs5)⟩
        case measure => simp [intOf]; omega
    · obtain rfl : k = is.length := by omega
      have hBr : Below w.heap.size w wr := hA4.trans (hB.mono hs4)
      go_wp2_with fail
      refine (lives_any wr).mono ?_
      rintro e w7 ⟨rfl, hB7⟩
      go_wp2
      go_ret
      exact ⟨rfl, below_then hBr hB7⟩

set_option maxRecDepth 100000 in
theorem writes_lifted (os : Os) (started : os.Started) (H : Type) (enc : TypeId × Value → H) :
    ReturnsInHanded {} Try.checked os 3 .any (Rows.wireWritesSpec.pre6 enc Try.prog Try.f3 Rows.wireWritesRow.domain false) (Rows.wireWritesSpec.post enc Try.prog Try.f3 false true false false) := by
  refine returnsInHanded_of_change_sized (C := Try.checked) Try.own started (by kernel_rfl) Try.func3
    (ChangeSpec.witness6 (enc := enc) (C := Try.checked) false ⟨#[], #[.slice none 0 0, .int .u64 0, .int .i64 0, .slice none 0 0, .slice none 0 0], []⟩ 8 (by kernel_rfl) (by kernel_rfl) (by kernel_rfl) (by kernel_rfl)) ?_
  intro W base args ds gs before hval0 hW _ hsz0 _
  have hsz : (DataW.weightsEach Try.prog (Try.f3.params.toList ++ Rows.wireWritesSpec.plain.varTypes Try.prog) (ds ++ gs)).all (· ≤ reachBytes) = true := hsz0
  clear hsz0
  have hval : ∀ (j : Nat) t v, Try.f3.params[j]? = some t → args[j]? = some v → Value.okWide Try.prog W .any base t v := hval0
  have hW' := hW
  obtain ⟨p, q, hA0, hV, rfl, _, _⟩ := hW
  have hA : DataW.TrodAll enc Try.prog W 0 (fun _ => true) true Try.f3.params.toList args.toList ds p := hA0
  rw [Try.params3] at hA hval hsz
  obtain ⟨v0, vs0, d0, ds0, p0, q0, hargs, rfl, rfl, h0, r0⟩ := trodAll_cons hA
  obtain ⟨v1, vs1, d1, ds1, p1, q1, rfl, rfl, rfl, h1, r1⟩ := trodAll_cons r0
  obtain ⟨v2, vs2, d2, ds2, p2, q2, rfl, rfl, rfl, h2, r2⟩ := trodAll_cons r1
  obtain ⟨v3, vs3, d3, ds3, p3, q3, rfl, rfl, rfl, h3, r3⟩ := trodAll_cons r2
  obtain ⟨v4, vs4, d4, ds4, p4, q4, rfl, rfl, rfl, h4, r4⟩ := trodAll_cons r3
  obtain ⟨rfl, rfl, rfl⟩ := trodAll_nil r4
  obtain rfl : args = #[v0, v1, v2, v3, v4] := by cases args; simp_all
  obtain ⟨rfl, rfl⟩ := trodVars_none hV
  obtain ⟨a0, c0, zs0, rfl, hI0, hw0, hz0⟩ := open_row Try.underlying22 Try.underlying3 Try.cellsInt Try.bytesInt (hval 0 22 v0 rfl rfl) h0 (fun x hx => by simpa using hW'.lt x (by simp [hx])) hsz (j := 0) rfl rfl
  obtain ⟨a1, rfl, rfl, rfl, w1⟩ := open_int Try.underlying23 (hval 1 23 v1 rfl rfl) h1
  obtain ⟨a2, rfl, rfl, rfl, w2⟩ := open_int Try.underlying3 (hval 2 3 v2 rfl rfl) h2
  obtain ⟨a3, c3, zs3, rfl, hI3, hw3, hz3⟩ := open_row Try.underlying24 Try.underlying5 Try.cellsU8 Try.bytesU8 (hval 3 24 v3 rfl rfl) h3 (fun x hx => by simpa using hW'.lt x (by simp [hx])) hsz (j := 3) rfl rfl
  obtain ⟨bs3, rfl⟩ := bytes_of zs3 hw3
  rw [List.length_map] at hI3 hz3
  obtain ⟨a4, c4, zs4, rfl, hI4, hw4, hz4⟩ := open_row Try.underlying22 Try.underlying3 Try.cellsInt Try.bytesInt (hval 4 22 v4 rfl rfl) h4 (fun x hx => by simpa using hW'.lt x (by simp [hx])) hsz (j := 4) rfl rfl
  clear hA0 hval0
  have hwalk := writes_walk a0 c0 zs0 a1 a2 a3 c3 bs3 a4 c4 zs4 W (by omega) hw0 hI0 w1 w2 (by omega) hI3 (by omega) hw4 hI4
  try rw [List.length_map] at hW'
  try rw [List.length_map]
  refine hwalk.mono fun e W' ⟨he, hB⟩ => ?_
  subst he
  exact ⟨_, rfl, law_post (by kernel_rfl) (by kernel_rfl) rfl hW' rfl hB⟩

theorem writes_holds : Rows.WireWritesSaid :=
  OpenClaim.holds_of_wide 3 Try.f3 rfl rfl rfl rfl rfl rfl rfl ⟨rfl, rfl, rfl, rfl, rfl⟩ rfl rfl rfl rfl rfl (by kernel_rfl) Try.func3 (by kernel_rfl)
    (of_decide_eq_true (by kernel_rfl)) (by unfold Func.isWrapper; first | (rw [if_pos (by decide +kernel)]; kernel_rfl) | (rw [if_neg (by decide +kernel)]; exact ⟨rfl, rfl⟩))
    (fun os started H enc _ => writes_lifted os started H enc)
#print axioms writes_holds
end Go.Proofs.Ytiebefomhnbemaa
