/- Statement HashOneGroup: changing bytes within one group of 8 bytes changes the hash. Conditions: none. -/
import Derived.Test.YtialohbnhiechaaOwn
import Derived.Test.YtialohbnhiechaaInj
namespace Go.Proofs.Ytialohbnhiechaa
open Go.ChangeShapes Go.WideShapes Go.ChangeAt Go.RowKit

theorem below_append2 {w W w1 : World} (hB : Below w.heap.size w W) (tmp : Obj) {v : Value} {base e n : Nat} {xs : List Value} (hown : W.ownsRow base e 1 v n xs) (hbase : w.heap.size ≤ base) (hgrow : (W.alloc tmp).grownBy w1 v.ownBlock) : Below w.heap.size w w1 :=
  (hB.alloc hB.size tmp).grown hgrow (by have := hB.size; simp; omega) (fun j hj => Nat.le_trans hbase (hown.lt j hj).1)
theorem byte_of {z : Int} (h : (Lit.int .u8 z).wf = true) : ∃ b : UInt8, z = ofByte b := by
  obtain ⟨bs, hb⟩ := bytes_of [z] (by simpa using h)
  cases bs with
  | nil => simp at hb
  | cons b r => exact ⟨b, by simp at hb; exact hb.1⟩
theorem byte_xor (p q : UInt8) : bits .xor .u8 (ofByte p) (ofByte q) = ofByte (p ^^^ q) := by
  unfold ofByte
  rw [u8_xor_nat _ _ p.toNat_lt q.toNat_lt, UInt8.toNat_xor]
theorem ofByte_inj {p q : UInt8} (h : ofByte p = ofByte q) : p = q := by
  unfold ofByte at h
  exact UInt8.toNat_inj.1 (by omega)
theorem bytes_inj {X Y : List UInt8} (h : X.map ofByte = Y.map ofByte) : X = Y := by
  induction X generalizing Y with
  | nil => cases Y with
    | nil => rfl
    | cons => simp at h
  | cons x r ih => cases Y with
    | nil => simp at h
    | cons y t =>
      simp only [List.map_cons, List.cons.injEq] at h
      rw [ofByte_inj h.1, ih h.2]
theorem rowAt_length {k : IntKind} {n₀ : Nat} {W : World} {a : Option Addr} {l cap : Nat} {zs : List Int} (h : RowAt k n₀ W (.slice a l cap) zs) : l = zs.length := by
  rcases h with ⟨e, rfl⟩ | ⟨b, off, c', e, _⟩
  · simp at e; exact e.2.1
  · simp at e; exact e.2.1
theorem bytes_at (s : ByteArray) (a : Option Addr) (l cap : Nat) (X : List UInt8) (W : World) (hs : s.size ≤ 140737488351232) (hX : X.length ≤ 140737488351232) (hR : RowAt .u8 W.heap.size W (.slice a l cap) (X.map ofByte)) :
    Calls Try.prog 17 #[.string s, .slice a l cap] W fun e w' => e = .returned (.int .u64 (bytesI s.data.toList X)) ∧ Below W.heap.size W w' := by
  have hl := rowAt_length hR
  rw [List.length_map] at hl
  subst hl
  exact bytes_any s X a cap W hs hX (bytesAt_of_row hR)
theorem same_at (a a' : Option Addr) (l l' cap cap' : Nat) (X Y : List UInt8) (W : World) (hX : X.length ≤ 1000) (hR : RowAt .u8 W.heap.size W (.slice a l cap) (X.map ofByte)) (hS : RowAt .u8 W.heap.size W (.slice a' l' cap') (Y.map ofByte)) :
    Calls Try.prog 22 #[.slice a l cap, .slice a' l' cap'] W fun e w' => e = .returned (.bool (sameL (X.map ofByte) (Y.map ofByte))) ∧ Below W.heap.size W w' := by
  obtain rfl := rowAt_length hR
  obtain rfl := rowAt_length hS
  exact samebytes_any a a' cap cap' _ _ W (by rw [List.length_map]; omega) hR hS
theorem group_fact (L X Y : List UInt8) (g : Nat) (hl : X.length = Y.length) (hg : g < nWords X.length) (hd : ∀ i, i / 8 ≠ g → X[i]? = Y[i]?) : ((bytesI L X == bytesI L Y) == sameL (X.map ofByte) (Y.map ofByte)) = true := by
  by_cases h : X = Y
  · subst h
    rw [sameL_self]; simp
  · have h1 : bytesI L X ≠ bytesI L Y := fun e => h (bytes_group g hl hg hd e)
    have e1 : (bytesI L X == bytesI L Y) = false := beq_eq_false_iff_ne.2 h1
    rw [e1, sameL_not (fun e => h (bytes_inj e))]; rfl
theorem set_other (X : List UInt8) (k i : Nat) (v : UInt8) (h : i ≠ k) : (X.set k v)[i]? = X[i]? := by
  rw [List.getElem?_set_ne (Ne.symm h)]
theorem map_set_byte (X : List UInt8) (k : Nat) (v : UInt8) : (X.map ofByte).set k (ofByte v) = (X.set k v).map ofByte := (List.map_set).symm

set_option maxRecDepth 100000 in
set_option maxHeartbeats 8000000 in
theorem grouplaw_walk (s : ByteArray) (a : Option Addr) (cap : Nat) (bs : List UInt8) (i one two : Int) (w : World) (hs : s.size ≤ 140737488351232) (hb : bs.length ≤ 140737488351232) (hI : InAt .u8 w.heap.size w (.slice a bs.length cap) (bs.map ofByte)) (hi' : (Lit.int .i64 i).wf = true) (ho : (Lit.int .u8 one).wf = true) (ht : (Lit.int .u8 two).wf = true) :
    Calls Try.prog 6 #[.string s, .slice a bs.length cap, .int .i64 i, .int .u8 one, .int .u8 two] w fun e w' => e = .returned (.bool true) ∧ Below w.heap.size w w' := by
  obtain ⟨i0, hi, hz0, hz1, hz2⟩ := info_parts Try.infoU8
  have hi1 : -9223372036854775808 ≤ i := by
    have h1 : IntKind.i64.min = -9223372036854775808 := rfl
    simp only [Lit.wf, Bool.and_eq_true, decide_eq_true_eq] at hi'
    omega
  have hi2 : i ≤ 9223372036854775807 := by
    have h2 : IntKind.i64.max = 9223372036854775807 := rfl
    simp only [Lit.wf, Bool.and_eq_true, decide_eq_true_eq] at hi'
    omega
  clear hi'
  obtain ⟨o8, rfl⟩ := byte_of ho
  obtain ⟨t8, rfl⟩ := byte_of ht
  clear ho ht
  go_enter Try.func6, Try.ntmps6
  go_wp2_with fail
  refine (short_any s 20 w hs (by omega) (by omega)).mono ?_
  rintro e w' ⟨⟨s', rfl, hs'⟩, rfl⟩
  go_wp2_with fail
  refine (few_row a cap bs 39 w hb (by omega) (by omega) hI).mono ?_
  rintro e w1 ⟨a1, c1, rfl, hr1, hB1⟩
  have hle : (bs.take (39 : Int).toNat).length ≤ 39 := List.length_take_le _ _
  obtain ⟨ys, hys⟩ : ∃ ys, bs.take (39 : Int).toNat = ys := ⟨_, rfl⟩
  rw [hys] at hr1 hle
  rw [hys]
  clear hys hI
  have hown : w1.ownsRow w.heap.size 5 1 (.slice a1 ys.length c1) (ys.map ofByte).length ((ys.map ofByte).map (Value.int .u8)) := hr1
  rw [List.length_map] at hown
  go_wp2_with (at_builtin; refine wpList_append_own _ rfl _ _ 30 rfl w.heap.size 5 i0 (.int .u8 0) 1 1 Try.underlying30 hi hz0 hz1 hz2 rfl (by decide) _ _ _ rfl (hown.alloc _) ⟨w1.heap.size, 0, none⟩ 1 1 [.int .u8 65] rfl rfl (cell_one_new _ _ _) (by simp [Value.oneCell']) (by unfold maxLen; omega) (by omega) (by have := hB1.size; simp; omega) ?_; intro v' w2 hown' hgrow hnn; clear hnn; obtain ⟨g, c2, rfl⟩ := slice_succ hown')
  have hB2 := below_append2 hB1 _ hown (Nat.le_refl _) hgrow
  have hr2 : Row .u8 5 w.heap.size w2 (.slice (some ⟨g, 0, none⟩) (ys.length + 1) c2) ((ys ++ [65]).map ofByte) := by
    unfold Row
    rw [List.map_append, List.map_append, List.length_append, List.length_map]
    exact hown'
  have hXlen : (ys ++ [(65 : UInt8)]).length = ys.length + 1 := by rw [List.length_append, List.length_singleton]
  obtain ⟨X, hX⟩ : ∃ X, ys ++ [(65 : UInt8)] = X := ⟨_, rfl⟩
  rw [hX] at hr2 hXlen
  obtain ⟨la, hla⟩ : ∃ la, ys.length + 1 = la := ⟨_, rfl⟩
  rw [hla] at hr2 hXlen
  rw [hla]
  have hla2 : la ≤ 40 := by omega
  have hla1 : 1 ≤ la := by omega
  have HXl := Lib.hid hXlen
  clear hX hla hown hown' hgrow hB1 hr1 hle hXlen
  have hIA := few_row (some ⟨g, 0, none⟩) c2 X 40 w2 (by rw [HXl.out]; omega) (by omega) (by omega) (n₀ := w2.heap.size) (.inl (by rw [HXl.out]; exact hr2.at))
  have htk : X.take (40 : Int).toNat = X := List.take_of_length_le (by rw [HXl.out]; exact hla2)
  rw [htk, HXl.out] at hIA
  clear htk
  refine hIA.mono ?_
  rintro e w3 ⟨a3, c3, rfl, hr3, hB⟩
  clear hIA
  obtain ⟨g3, rfl⟩ := row_some hr3 (by rw [List.length_map, HXl.out]; exact hla1)
  have hB3 := below_then hB2 hB
  have hg := hr2.lt
  have hg3 := hr3.lt
  have hr2' := hr2.below hB
  clear hB hB2 hr2
  go_wp2_with fail
  refine (around_any i la w3 hi1 hi2 (by omega) (by omega)).mono ?_
  rintro e w' ⟨rfl, rfl⟩
  obtain ⟨k, hk⟩ := Int.eq_ofNat_of_zero_le (aroundI_lo i la (by omega))
  have hkl := aroundI_hi i la (by omega)
  rw [hk] at hkl ⊢
  clear hk
  have hkl' : k < la := by omega
  have hkX : k < X.length := by rw [HXl.out]; exact hkl'
  have hkM : k < (X.map ofByte).length := by rw [List.length_map]; exact hkX
  have hMl : la = (X.map ofByte).length := by rw [List.length_map, HXl.out]
  have HMl := Lib.hid hMl
  clear hMl
  have hc3 := hr3.cell HMl.out k hkM
  rw [List.getElem_map] at hc3
  have hf3 := hr3.free HMl.out k
  have hRX := fun u : Value => hr2'.other (u := u) (j := k) (base' := w2.heap.size) (fun b hb => by simp [Value.ownBlock] at hb; omega) hg3.1
  have HRX := Lib.hid hRX
  have hRY := hr3.stored HMl.out k (ofByte (X[k] ^^^ o8))
  rw [map_set_byte, ← byte_xor] at hRY
  have HRY := Lib.hid hRY
  have hB4 : ∀ u, Below w.heap.size w (w3.setCell ⟨g3, k, none⟩ u) := fun u => hB3.setCell (p := ⟨g3, k, none⟩) (by show w.heap.size ≤ g3; omega) _
  have HB4 := Lib.hid hB4
  have hs2 : s'.size ≤ 140737488351232 := by omega
  have Hr3 := Lib.hid hr3
  clear hr3 hr2' hRX hRY hB4
  have hk0 : (0 : Int) ≤ (k : Int) := by omega
  have hcase : (¬ k + 1 < la) ∨ (k + 1 < la ∧ (k + 1) % 8 = 0) ∨ (k + 1 < la ∧ (k + 1) % 8 ≠ 0) := by omega
  rcases hcase with h | ⟨h, h8⟩ | ⟨h, h8⟩
  · have hd : decide ((k : Int) + 1 < (la : Int)) = false := by simp; omega
    clear h
    obtain ⟨W4, hW4⟩ : ∃ W4, w3.setCell ⟨g3, k, none⟩ (.int .u8 (bits .xor .u8 (ofByte X[k]) (ofByte o8))) = W4 := ⟨_, rfl⟩
    have hRX := HRX.out (.int .u8 (bits .xor .u8 (ofByte X[k]) (ofByte o8)))
    have hRY := HRY.out
    have hB4 := HB4.out (.int .u8 (bits .xor .u8 (ofByte X[k]) (ofByte o8)))
    rw [hW4] at hRX hRY hB4
    have HW4 := Lib.hid hW4
    clear hW4 HRX HRY HB4 hB3
    obtain ⟨Y, hY⟩ : ∃ Y, X.set k (X[k] ^^^ o8) = Y := ⟨_, rfl⟩
    rw [hY] at hRY
    have hYX : Y.length = X.length := by rw [← hY, List.length_set]
    have hdY : ∀ i, i / 8 ≠ k / 8 → X[i]? = Y[i]? := fun i hi => by rw [← hY, set_other X k i _ (by rintro rfl; exact hi rfl)]
    have HYl := Lib.hid hYX
    clear hY hYX
    have hXl : X.length ≤ 140737488351232 := by rw [HXl.out]; omega
    have hXs : X.length ≤ 1000 := by rw [HXl.out]; omega
    have hYl : Y.length ≤ 140737488351232 := by rw [HYl.out, HXl.out]; omega
    have Hfact := Lib.hid (group_fact s'.data.toList X Y (k / 8) HYl.out.symm (by unfold nWords; rw [HXl.out]; omega) hdY)
    clear hdY
    go_wp2_with fail
    rw [HW4.out]
    refine (bytes_at s' _ la _ X _ hs2 hXl hRX.at).mono ?_
    rintro e w5 ⟨rfl, hB⟩
    have hB5 := below_then hB4 hB
    replace hRX := hRX.below hB
    replace hRY := hRY.below hB
    clear hB hB4
    go_wp2_with fail
    refine (bytes_at s' _ la _ Y _ hs2 hYl hRY.at).mono ?_
    rintro e w6 ⟨rfl, hB⟩
    have hB6 := below_then hB5 hB
    replace hRX := hRX.below hB
    replace hRY := hRY.below hB
    clear hB hB5
    go_wp2_with fail
    refine (same_at _ _ la la _ _ X Y _ hXs hRX.at hRY.at).mono ?_
    rintro e w7 ⟨rfl, hB⟩
    have hB7 := below_then hB6 hB
    clear hB hB6 hRX hRY
    have h1 := Hfact.out
    go_wp2_with fail
    clear h1
    refine (lives_any _).mono ?_
    rintro e w8 ⟨rfl, hB⟩
    have hB8 := below_then hB7 hB
    clear hB hB7
    go_wp2
    go_ret
    exact ⟨rfl, hB8⟩
  · have hd : decide ((k : Int) + 1 < (la : Int)) = true := by simp; omega
    have hk8 : ((((k : Int) + 1) % 8) != 0) = false := by rw [bne_eq_false_iff_eq]; omega
    clear h h8
    obtain ⟨W4, hW4⟩ : ∃ W4, w3.setCell ⟨g3, k, none⟩ (.int .u8 (bits .xor .u8 (ofByte X[k]) (ofByte o8))) = W4 := ⟨_, rfl⟩
    have hRX := HRX.out (.int .u8 (bits .xor .u8 (ofByte X[k]) (ofByte o8)))
    have hRY := HRY.out
    have hB4 := HB4.out (.int .u8 (bits .xor .u8 (ofByte X[k]) (ofByte o8)))
    rw [hW4] at hRX hRY hB4
    have HW4 := Lib.hid hW4
    clear hW4 HRX HRY HB4 hB3
    obtain ⟨Y, hY⟩ : ∃ Y, X.set k (X[k] ^^^ o8) = Y := ⟨_, rfl⟩
    rw [hY] at hRY
    have hYX : Y.length = X.length := by rw [← hY, List.length_set]
    have hdY : ∀ i, i / 8 ≠ k / 8 → X[i]? = Y[i]? := fun i hi => by rw [← hY, set_other X k i _ (by rintro rfl; exact hi rfl)]
    have HYl := Lib.hid hYX
    clear hY hYX
    have hXl : X.length ≤ 140737488351232 := by rw [HXl.out]; omega
    have hXs : X.length ≤ 1000 := by rw [HXl.out]; omega
    have hYl : Y.length ≤ 140737488351232 := by rw [HYl.out, HXl.out]; omega
    have Hfact := Lib.hid (group_fact s'.data.toList X Y (k / 8) HYl.out.symm (by unfold nWords; rw [HXl.out]; omega) hdY)
    clear hdY
    go_wp2_with fail
    rw [HW4.out]
    refine (bytes_at s' _ la _ X _ hs2 hXl hRX.at).mono ?_
    rintro e w5 ⟨rfl, hB⟩
    have hB5 := below_then hB4 hB
    replace hRX := hRX.below hB
    replace hRY := hRY.below hB
    clear hB hB4
    go_wp2_with fail
    refine (bytes_at s' _ la _ Y _ hs2 hYl hRY.at).mono ?_
    rintro e w6 ⟨rfl, hB⟩
    have hB6 := below_then hB5 hB
    replace hRX := hRX.below hB
    replace hRY := hRY.below hB
    clear hB hB5
    go_wp2_with fail
    refine (same_at _ _ la la _ _ X Y _ hXs hRX.at hRY.at).mono ?_
    rintro e w7 ⟨rfl, hB⟩
    have hB7 := below_then hB6 hB
    clear hB hB6 hRX hRY
    have h1 := Hfact.out
    go_wp2_with fail
    clear h1
    refine (lives_any _).mono ?_
    rintro e w8 ⟨rfl, hB⟩
    have hB8 := below_then hB7 hB
    clear hB hB7
    go_wp2
    go_ret
    exact ⟨rfl, hB8⟩
  · have hd : decide ((k : Int) + 1 < (la : Int)) = true := by simp; omega
    have hkX2 : k + 1 < X.length := by rw [HXl.out]; exact h
    have hc4 := Hr3.out.cell HMl.out (k + 1) (by rw [List.length_map]; exact hkX2)
    rw [List.getElem_map] at hc4
    have hf4 := Hr3.out.free HMl.out (k + 1)
    have hk8 : ((((k : Int) + 1) % 8) != 0) = true := by rw [bne_iff_ne]; omega
    obtain ⟨W4, hW4⟩ : ∃ W4, (w3.setCell ⟨g3, k, none⟩ (.int .u8 (bits .xor .u8 (ofByte X[k]) (ofByte o8)))).setCell ⟨g3, k + 1, none⟩ (.int .u8 (bits .xor .u8 (ofByte X[k + 1]) (ofByte t8))) = W4 := ⟨_, rfl⟩
    have hRX := (HRX.out (.int .u8 (bits .xor .u8 (ofByte X[k]) (ofByte o8)))).other (u := .int .u8 (bits .xor .u8 (ofByte X[k + 1]) (ofByte t8))) (j := k + 1) (base' := w2.heap.size) (fun b hb => by simp [Value.ownBlock] at hb; omega) hg3.1
    have hRY := HRY.out.stored (by rw [List.length_map, List.length_set, HXl.out]) (k + 1) (ofByte (X[k + 1] ^^^ t8))
    rw [map_set_byte, ← byte_xor] at hRY
    have hB4 := (HB4.out (.int .u8 (bits .xor .u8 (ofByte X[k]) (ofByte o8)))).setCell (p := ⟨g3, k + 1, none⟩) (by show w.heap.size ≤ g3; omega) (.int .u8 (bits .xor .u8 (ofByte X[k + 1]) (ofByte t8)))
    rw [hW4] at hRX hRY hB4
    have HW4 := Lib.hid hW4
    clear hW4 HRX HRY HB4 hB3
    obtain ⟨Y, hY⟩ : ∃ Y, (X.set k (X[k] ^^^ o8)).set (k + 1) (X[k + 1] ^^^ t8) = Y := ⟨_, rfl⟩
    rw [hY] at hRY
    have hYX : Y.length = X.length := by rw [← hY, List.length_set, List.length_set]
    have hdY : ∀ i, i / 8 ≠ k / 8 → X[i]? = Y[i]? := fun i hi => by
      rw [← hY, set_other _ (k + 1) i _ (by rintro rfl; exact hi (by omega)), set_other X k i _ (by rintro rfl; exact hi rfl)]
    have HYl := Lib.hid hYX
    clear hY hYX
    have hXl : X.length ≤ 140737488351232 := by rw [HXl.out]; omega
    have hXs : X.length ≤ 1000 := by rw [HXl.out]; omega
    have hYl : Y.length ≤ 140737488351232 := by rw [HYl.out, HXl.out]; omega
    have Hfact := Lib.hid (group_fact s'.data.toList X Y (k / 8) HYl.out.symm (by unfold nWords; rw [HXl.out]; omega) hdY)
    clear hdY
    go_wp2_with fail
    rw [HW4.out]
    refine (bytes_at s' _ la _ X _ hs2 hXl hRX.at).mono ?_
    rintro e w5 ⟨rfl, hB⟩
    have hB5 := below_then hB4 hB
    replace hRX := hRX.below hB
    replace hRY := hRY.below hB
    clear hB hB4
    go_wp2_with fail
    refine (bytes_at s' _ la _ Y _ hs2 hYl hRY.at).mono ?_
    rintro e w6 ⟨rfl, hB⟩
    have hB6 := below_then hB5 hB
    replace hRX := hRX.below hB
    replace hRY := hRY.below hB
    clear hB hB5
    go_wp2_with fail
    refine (same_at _ _ la la _ _ X Y _ hXs hRX.at hRY.at).mono ?_
    rintro e w7 ⟨rfl, hB⟩
    have hB7 := below_then hB6 hB
    clear hB hB6 hRX hRY
    have h1 := Hfact.out
    go_wp2_with fail
    clear h1
    refine (lives_any _).mono ?_
    rintro e w8 ⟨rfl, hB⟩
    have hB8 := below_then hB7 hB
    clear hB hB7
    go_wp2
    go_ret
    exact ⟨rfl, hB8⟩

set_option maxRecDepth 100000 in
theorem grouplaw_lifted (os : Os) (started : os.Started) (H : Type) (enc : TypeId × Value → H) :
    ReturnsInHanded {} Try.checked os 6 .any (Rows.hashOneGroupSpec.pre6 enc Try.prog Try.f6 Rows.hashOneGroupRow.domain false) (Rows.hashOneGroupSpec.post enc Try.prog Try.f6 false true false false) := by
  refine returnsInHanded_of_change_sized (C := Try.checked) Try.own started (by kernel_rfl) Try.func6
    (ChangeSpec.witness6 (enc := enc) (C := Try.checked) false ⟨#[], #[.string ⟨#[]⟩, .slice none 0 0, .int .i64 0, .int .u8 0, .int .u8 0], []⟩ 8 (by kernel_rfl) (by kernel_rfl) (by kernel_rfl) (by kernel_rfl)) ?_
  intro W base args ds gs before hval0 hW _ hsz0 _
  have hsz : (DataW.weightsEach Try.prog (Try.f6.params.toList ++ Rows.hashOneGroupSpec.plain.varTypes Try.prog) (ds ++ gs)).all (· ≤ reachBytes) = true := hsz0
  clear hsz0
  have hval : ∀ (j : Nat) t v, Try.f6.params[j]? = some t → args[j]? = some v → Value.okWide Try.prog W .any base t v := hval0
  have hW' := hW
  obtain ⟨p, q, hA0, hV, rfl, _, _⟩ := hW
  have hA : DataW.TrodAll enc Try.prog W 0 (fun _ => true) true Try.f6.params.toList args.toList ds p := hA0
  rw [Try.params6] at hA hval hsz
  obtain ⟨v0, vs0, d0, ds0, p0, q0, hargs, rfl, rfl, h0, r0⟩ := trodAll_cons hA
  obtain ⟨v1, vs1, d1, ds1, p1, q1, rfl, rfl, rfl, h1, r1⟩ := trodAll_cons r0
  obtain ⟨v2, vs2, d2, ds2, p2, q2, rfl, rfl, rfl, h2, r2⟩ := trodAll_cons r1
  obtain ⟨v3, vs3, d3, ds3, p3, q3, rfl, rfl, rfl, h3, r3⟩ := trodAll_cons r2
  obtain ⟨v4, vs4, d4, ds4, p4, q4, rfl, rfl, rfl, h4, r4⟩ := trodAll_cons r3
  obtain ⟨rfl, rfl, rfl⟩ := trodAll_nil r4
  obtain rfl : args = #[v0, v1, v2, v3, v4] := by cases args; simp_all
  obtain ⟨rfl, rfl⟩ := trodVars_none hV
  obtain ⟨s0, rfl, rfl, rfl, _⟩ := Go.ChangeMaps.open_string Try.underlying9 (hval 0 9 v0 rfl rfl) h0
  have hs0 : s0.size ≤ 140737488351232 := sized_string hsz (j := 0) (t := 9) rfl rfl
  obtain ⟨a1, c1, zs1, rfl, hI1, hw1, hz1⟩ := open_row Try.underlying30 Try.underlying5 Try.cellsU8 Try.bytesU8 (hval 1 30 v1 rfl rfl) h1 (fun x hx => by simpa using hW'.lt x (by simp [hx])) hsz (j := 1) rfl rfl
  obtain ⟨bs1, rfl⟩ := bytes_of zs1 hw1
  rw [List.length_map] at hI1 hz1
  obtain ⟨a2, rfl, rfl, rfl, w2⟩ := open_int Try.underlying3 (hval 2 3 v2 rfl rfl) h2
  obtain ⟨a3, rfl, rfl, rfl, w3⟩ := open_int Try.underlying5 (hval 3 5 v3 rfl rfl) h3
  obtain ⟨a4, rfl, rfl, rfl, w4⟩ := open_int Try.underlying5 (hval 4 5 v4 rfl rfl) h4
  clear hA0 hval0
  have hwalk := grouplaw_walk s0 a1 c1 bs1 a2 a3 a4 W hs0 (by omega) hI1 w2 w3 w4
  try rw [List.length_map] at hW'
  try rw [List.length_map]
  refine hwalk.mono fun e W' ⟨he, hB⟩ => ?_
  subst he
  exact ⟨_, rfl, law_post (by kernel_rfl) (by kernel_rfl) rfl hW' rfl hB⟩

theorem grouplaw_holds : Rows.HashOneGroupSaid :=
  OpenClaim.holds_of_wide 6 Try.f6 rfl rfl rfl rfl rfl rfl rfl ⟨rfl, rfl, rfl, rfl, rfl⟩ rfl rfl rfl rfl rfl (by kernel_rfl) Try.func6 (by kernel_rfl)
    (of_decide_eq_true (by kernel_rfl)) (by unfold Func.isWrapper; first | (rw [if_pos (by decide +kernel)]; kernel_rfl) | (rw [if_neg (by decide +kernel)]; exact ⟨rfl, rfl⟩))
    (fun os started H enc _ => grouplaw_lifted os started H enc)
#print axioms grouplaw_holds
end Go.Proofs.Ytialohbnhiechaa
