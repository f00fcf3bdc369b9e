/- The reference's Kth. Conditions: at most 12 intervals. -/
import Derived.Test.YteppamchbgnlfaaKth
import Derived.Test.YteppamchbgnlfaaGrow
namespace Go.Proofs.Yteppamchbgnlfaa
open Go.RowKit

theorem grown_of_below {W W' : World} (h : Below W.heap.size W W') : W.grownBy W' none := ⟨h.os, h.tape, h.output, h.size, fun k hk _ => h.block k hk⟩
theorem owns_below {W W' : World} {base : Nat} {e : TypeId} {size n : Nat} {v : Value} {xs : List Value} (h : W.ownsRow base e size v n xs) (hb : Below W.heap.size W W') : W'.ownsRow base e size v n xs :=
  by
  cases hv : v.ownBlock with
  | none => exact h.kept (grown_of_below hb) (.inl hv)
  | some b => exact h.kept (grown_of_below hb) (.inr (by rw [hv]; simp))
theorem Blk.grown {W W' : World} {g : Nat} {t : TypeId} {cs : Array Value} {row : Option Nat} (h : Blk W g t cs) (hg : W.grownBy W' row) (hne : some g ≠ row) : Blk W' g t cs := (hg.block g h.lt hne).trans h
/-- Two rows of fractions that the call owns. -/
def Two2 (base : Nat) (W : World) (sa sb : Value) (na nb : Nat) (A B : List F2) : Prop :=
  W.ownsRow base 23 2 sa na (flatL A) ∧ W.ownsRow base 23 2 sb nb (flatL B) ∧ ∀ g, sa.ownBlock = some g → sb.ownBlock = some g → False
theorem own_low {W : World} {base : Nat} {e : TypeId} {size n : Nat} {v : Value} {xs : List Value} (h : W.ownsRow base e size v n xs) : ∀ b, v.ownBlock = some b → b < W.heap.size := fun b hb => (h.lt b hb).2
theorem Two2.swap {base : Nat} {W : World} {sa sb : Value} {na nb : Nat} {A B : List F2} (h : Two2 base W sa sb na nb A B) : Two2 base W sb sa nb na B A := ⟨h.2.1, h.1, fun g h1 h2 => h.2.2 g h2 h1⟩
theorem Two2.step {base : Nat} {W w3 : World} {sa sb v3 : Value} {na nb : Nat} {A B : List F2} {x : F2} {o : Obj} (h : Two2 base W sa sb na nb A B)
    (h3 : w3.ownsRow base 23 2 v3 (na + 1) (flatL A ++ [.int .i64 x.1, .int .i64 x.2])) (hg : (W.alloc o).grownBy w3 sa.ownBlock) (h5 : v3.ownBlock = sa.ownBlock ∨ v3.ownBlock = some (W.alloc o).heap.size) : Two2 base w3 v3 sb (na + 1) nb (A ++ [x]) B := by
  refine ⟨?_, ?_, fun g k1 k2 => ?_⟩
  · rw [flatL_app]; exact h3
  · refine (h.2.1.alloc o).kept hg ?_
    cases hb : sb.ownBlock with
    | none => exact .inl rfl
    | some g => exact .inr fun e => h.2.2 g e.symm hb
  · rcases h5 with h5 | h5
    · exact h.2.2 g (by rw [← h5]; exact k1) k2
    · have := own_low h.2.1 g k2
      rw [h5] at k1
      cases k1
      simp at this
      omega
/-- A fraction at a place of a block. -/
def OneC (W : World) (g K : Nat) (x1 x2 : Int) : Prop := g < W.heap.size ∧ W.cell? ⟨g, K * 2, none⟩ = some (.int .i64 x1) ∧ W.cell? ⟨g, K * 2 + 1, none⟩ = some (.int .i64 x2)
theorem OneC.below {W W' : World} {g K : Nat} {x1 x2 : Int} (h : OneC W g K x1 x2) (hB : Below W.heap.size W W') : OneC W' g K x1 x2 :=
  ⟨Nat.lt_of_lt_of_le h.1 hB.size, (hB.cell (p := ⟨g, K * 2, none⟩) h.1).trans h.2.1, (hB.cell (p := ⟨g, K * 2 + 1, none⟩) h.1).trans h.2.2⟩
theorem OneC.drew {W : World} {g K : Nat} {x1 x2 : Int} (h : OneC W g K x1 x2) : OneC W.drew g K x1 x2 := h
theorem OneC.far {W : World} {g K : Nat} {x1 x2 : Int} (h : OneC W g K x1 x2) {p : Addr} (hp : ¬ p.block = g) (v : Value) : OneC (W.setCell p v) g K x1 x2 := by
  have e : ∀ i, (W.setCell p v).cell? ⟨g, i, none⟩ = W.cell? ⟨g, i, none⟩ := fun i => World.cell?_setCell_far W p ⟨g, i, none⟩ v hp
  exact ⟨by simpa using h.1, (e _).trans h.2.1, (e _).trans h.2.2⟩
theorem rsortedK {sv : Value} {l : List F2} {n K : Nat} {x1 x2 : Int} (hv : VL l) (hn : l.length = n) (h12 : n ≤ 12) (hk : (sortF l)[K]? = some (x1, x2)) (X : World) (hF : FsAt X sv l) :
    Calls Try.prog 25 #[sv] X fun e w' => ∃ g' cap, e = .returned (.slice (some ⟨g', 0, none⟩) n cap) ∧ (n : Int) ≤ (cap : Int) ∧ X.heap.size ≤ g' ∧ OneC w' g' K x1 x2 ∧ Below X.heap.size X w' := by
  refine (sorted_any _ _ X hF hv (by omega)).mono ?_
  rintro e w' ⟨v, m, rfl, hp, hs, hO, hb⟩
  have hml : m.length = n := by rw [hp.length_eq, hn]
  have he := sortF_eq hv hp hs
  subst he
  have hK := (List.getElem?_eq_some_iff.1 hk).1
  rcases FsAt.of_owns hO with ⟨-, h0⟩ | ⟨g', cap, rfl, hcap, hgb, hg, hF⟩
  · rw [h0] at hK; simp at hK
  · have y := hF.zero hk
    exact ⟨g', cap, by rw [hml], by omega, hgb, ⟨hg, y.1, y.2⟩, hb⟩

set_option maxRecDepth 100000 in
set_option maxHeartbeats 8000000 in
theorem rkth_out (a : Option Addr) (n cap : Nat) (k : Int) (w : World) (h : k < 1 ∨ (n : Int) < k) :
    Calls Try.prog 21 #[.slice a n cap, .int .i64 k] w fun e w' => e = .returned (RI (0, 0, 0, 0, 1)) ∧ Below w.heap.size w w' := by
  obtain ⟨hR, hW⟩ := start1 w 25 #[.int .i64 0, .int .i64 0, .int .i64 0, .int .i64 0]
  have fR := hR.frozen
  have r0 := hR.cell 0
  have r1 := hR.cell 1
  have r2 := hR.cell 2
  have r3 := hR.cell 3
  have HR := Lib.hid hR
  have HW := Lib.hid hW
  clear hR hW
  by_cases h1 : k < 1
  · clear h
    go_enter Try.func21, Try.ntmps21
    go_wp2
    exact ret_iv (p := 4) (q := 5) (by kernel_rfl) rfl rfl HR.out ⟨rfl, HW.out⟩
  · have h2 : (n : Int) < k := by omega
    have d1 : decide (k < 1) = false := decide_eq_false h1
    have d2 : decide ((n : Int) < k) = true := decide_eq_true h2
    clear h
    go_enter Try.func21, Try.ntmps21
    go_wp2
    exact ret_iv (p := 4) (q := 5) (by kernel_rfl) rfl rfl HR.out ⟨rfl, HW.out⟩

set_option linter.unusedSimpArgs false in
set_option maxRecDepth 100000 in
set_option maxHeartbeats 8000000 in
theorem rkth_in (L : List I4) (n : Nat) (hn : L.length = n) (h12 : n ≤ 12) (hwl : WL L) (a : Option Addr) (cap K : Nat) (hK : K < n) (w : World) (hI : IsAt w (.slice a n cap) L) :
    Calls Try.prog 21 #[.slice a n cap, .int .i64 ((K : Int) + 1)] w fun e w' => e = .returned (RI (kthR L ((K : Int) + 1))) ∧ Below w.heap.size w w' := by
  obtain ⟨il, hi0, hz0, hz1, hz2⟩ := info_parts Try.infoFrac
  have HN := Lib.hid hn
  have HI := Lib.hid hI
  have HWL := Lib.hid hwl
  have n1 : (1 : Int) ≤ (n : Int) := by omega
  have n2 : (n : Int) ≤ 12 := by omega
  have k1 : ¬ ((K : Int) + 1 < 1) := by omega
  have k2 : decide ((K : Int) + 1 < 1) = false := decide_eq_false k1
  have k3 : decide ((n : Int) < (K : Int) + 1) = false := decide_eq_false (by omega)
  have k4 : (K : Int) < (n : Int) := by omega
  have k0 : (0 : Int) ≤ (K : Int) := by omega
  obtain ⟨hR0, hW0⟩ := start1 w 25 #[.int .i64 0, .int .i64 0, .int .i64 0, .int .i64 0]
  have HS := Lib.hid (And.intro hR0 hW0)
  clear hn hI hwl hR0 hW0
  go_enter Try.func21, Try.ntmps21
  go_wp2_with fail
  go_loopw [6, 7, 8] (fun s6 s7 iv wr => ∃ (i : Nat) (sa sb : Value), i ≤ n ∧ iv = .int .i64 i ∧ sa = s6 ∧ sb = s7 ∧ (∀ x ∈ L.take i, vX x) ∧ Two2 (w.heap.size + 1) wr sa sb i i (losL (L.take i)) (hisL (L.take i)) ∧ Blk wr w.heap.size 25 #[.int .i64 0, .int .i64 0, .int .i64 0, .int .i64 0] ∧ Below w.heap.size w wr) (fun _ _ iv _ => n - (intOf iv).toNat)
  case atStart => exact ⟨0, _, _, Nat.zero_le _, rfl, rfl, rfl, fun x hx => by simp at hx, ⟨World.ownsRow_nil _ _ _ _, World.ownsRow_nil _ _ _ _, fun g h => by cases h⟩, HS.out.1, HS.out.2⟩
  case round =>
    obtain ⟨i, sa, sb, hi, rfl, e6, e7, hv, h2, hR, hB⟩ := hrel
    obtain ⟨sx, hsx⟩ : ∃ sx, sa = sx := ⟨_, rfl⟩
    obtain ⟨sy, hsy⟩ : ∃ sy, sb = sy := ⟨_, rfl⟩
    rw [← e6, ← e7, hsx, hsy]
    rw [hsx, hsy] at h2
    clear e6 e7 hsx hsy
    clear HS
    by_cases hlt : i < n
    · obtain ⟨x, hx⟩ : ∃ x, L[i]? = some x := ⟨_, List.getElem?_eq_getElem (by have := HN.out; omega)⟩
      have hwx := HWL.out x (List.mem_of_getElem? hx)
      obtain ⟨g, off, rfl, hgl, c0, c1, c2, c3⟩ := (HI.out.below hB).get hx
      have cl : ∀ W, Below wr.heap.size wr W → W.cell? ⟨g, off + i * 4, none⟩ = some (.int .i64 x.1) ∧ W.cell? ⟨g, off + i * 4 + 1, none⟩ = some (.int .i64 x.2.1) ∧ W.cell? ⟨g, off + i * 4 + 2, none⟩ = some (.int .i64 x.2.2.1) ∧ W.cell? ⟨g, off + i * 4 + 3, none⟩ = some (.int .i64 x.2.2.2) := fun W hb =>
        ⟨(hb.cell (p := ⟨g, off + i * 4, none⟩) hgl).trans c0, (hb.cell (p := ⟨g, off + i * 4 + 1, none⟩) hgl).trans c1, (hb.cell (p := ⟨g, off + i * 4 + 2, none⟩) hgl).trans c2, (hb.cell (p := ⟨g, off + i * 4 + 3, none⟩) hgl).trans c3⟩
      have V := jvalid_w hwx.1 hwx.2
      have i1 : (i : Int) < (n : Int) := by omega
      have i0 : (0 : Int) ≤ (i : Int) := by omega
      have hxm : x ∈ L := List.mem_of_getElem? hx
      obtain ⟨x1, x2, x3, x4⟩ := x
      have Cl := Lib.hid cl
      have H2 := Lib.hid h2
      have HR := Lib.hid hR
      have HB := Lib.hid hB
      have HV := Lib.hid hv
      clear cl h2 hR hB hv
      by_cases hvx : vX (x1, x2, x3, x4)
      · rw [show vIB x1 x2 x3 x4 = true from decide_eq_true hvx] at V
        have HTK := Lib.hid (show L.take (i + 1) = L.take i ++ [(x1, x2, x3, x4)] by rw [List.take_add_one, hx]; rfl)
        have HVX := Lib.hid hvx
        have HX := Lib.hid hx
        replace V := Lib.hid V
        clear hvx hwx hx
        go_wp2_with fail
        (with_reducible refine (V.out _).mono ?_)
        rintro e w1 ⟨rfl, hb⟩
        obtain ⟨c0, c1, c2, c3⟩ := Cl.out _ hb
        have hgl := Nat.lt_of_lt_of_le hgl hb.size
        have ho1 : w1.ownsRow (w.heap.size + 1) 23 2 sx i (flatL (losL (L.take i))) := owns_below H2.out.1 hb
        have ho2 : w1.ownsRow (w.heap.size + 1) 23 2 sy i (flatL (hisL (L.take i))) := owns_below H2.out.2.1 hb
        have HT := Lib.hid (show Two2 (w.heap.size + 1) w1 sx sy i i (losL (L.take i)) (hisL (L.take i)) from ⟨ho1, ho2, H2.out.2.2⟩)
        have HR1 := Lib.hid (HR.out.below hb HR.out.lt)
        have HB1 := Lib.hid (below_st HB.out hb)
        have hs1 : w.heap.size + 1 ≤ w1.heap.size := HR1.out.lt
        clear hb ho2
        go_wp2_with (first
          | (at_builtin; refine wpList_append_own_at _ rfl (.tmp 33) (.tmp 39) 40 rfl (w.heap.size + 1) 23 il (.agg #[.int .i64 0, .int .i64 0]) 2 16 Try.underlying40 hi0 hz0 hz1 hz2 rfl (by decide) sx i (flatL (losL (L.take i))) rfl (ho1.alloc _) ⟨w1.heap.size, 0, none⟩ 1 1 [.int .i64 x1, .int .i64 x2] rfl rfl (World.news_of_block (cs := #[.int .i64 x1, .int .i64 x2]) (t := 23) (fr := (0, 0)) (heap_alloc_new w1 _)) (by simp [Value.oneCell']) (by unfold maxLen; omega) (by omega) (by simp; omega) ?_; intro v3 w3 hown3 hgrow3 _ h53
             have H2a := Lib.hid (HT.out.step (x := (x1, x2)) hown3 hgrow3 h53)
             have HB3 := Lib.hid (show Below w.heap.size w w3 from (HB1.out.alloc HB1.out.size _).grown hgrow3 (by have := HB1.out.size; simp; omega) (fun j hj => by have := (ho1.lt j hj).1; omega))
             have HR3 := Lib.hid ((HR1.out.alloc _).grown hgrow3 (fun e => by have := (ho1.lt _ e.symm).1; omega))
             have ho2 : w3.ownsRow (w.heap.size + 1) 23 2 sy i (flatL (hisL (L.take i))) := H2a.out.2.1
             have hs3 : w.heap.size + 1 ≤ w3.heap.size := HR3.out.lt
             obtain ⟨g0, off0, e0, hgl3, c0, c1, c2, c3⟩ := (HI.out.below HB3.out).get HX.out
             cases e0
             clear hown3 hgrow3 h53)
          | (at_builtin; refine wpList_append_own_at _ rfl (.tmp 41) (.tmp 47) 40 rfl (w.heap.size + 1) 23 il (.agg #[.int .i64 0, .int .i64 0]) 2 16 Try.underlying40 hi0 hz0 hz1 hz2 rfl (by decide) sy i (flatL (hisL (L.take i))) rfl (ho2.alloc _) ⟨w3.heap.size, 0, none⟩ 1 1 [.int .i64 x3, .int .i64 x4] rfl rfl (World.news_of_block (cs := #[.int .i64 x3, .int .i64 x4]) (t := 23) (fr := (0, 0)) (heap_alloc_new w3 _)) (by simp [Value.oneCell']) (by unfold maxLen; omega) (by omega) (by simp; omega) ?_; intro v4 w4 hown4 hgrow4 _ h54
             have H2b := Lib.hid (H2a.out.swap.step (x := (x3, x4)) hown4 hgrow4 h54).swap
             have HB4 := Lib.hid (show Below w.heap.size w w4 from (HB3.out.alloc HB3.out.size _).grown hgrow4 (by have := HB3.out.size; simp; omega) (fun j hj => by have := (ho2.lt j hj).1; omega))
             have HR4 := Lib.hid ((HR3.out.alloc _).grown hgrow4 (fun e => by have := (ho2.lt _ e.symm).1; omega))
             clear hown4 hgrow4 h54))
        go_roundw
        case rel =>
          refine ⟨i + 1, v3, v4, by omega, by go_num, rfl, rfl, ?_, ?_, HR4.out, HB4.out⟩
          · rw [HTK.out]
            intro x hx
            rcases List.mem_append.1 hx with hx | hx
            · exact HV.out x hx
            · rw [List.mem_singleton.1 hx]; exact HVX.out
          · rw [HTK.out]
            have j := H2b.out
            unfold losL hisL at j ⊢
            rw [List.map_append, List.map_append]
            exact j
        case measure => simp [intOf]; omega
      · rw [show vIB x1 x2 x3 x4 = false from decide_eq_false hvx] at V
        have HBAD := Lib.hid (kthR_bad (k := (K : Int) + 1) hxm hvx)
        replace V := Lib.hid V
        clear hvx hwx hx
        go_wp2_with fail
        (with_reducible refine (V.out _).mono ?_)
        rintro e w1 ⟨rfl, hb⟩
        have hR := HR.out.below hb HR.out.lt
        have HW := Lib.hid (below_st HB.out hb)
        have r0 := hR.cell 0
        have r1 := hR.cell 1
        have r2 := hR.cell 2
        have r3 := hR.cell 3
        have fr := hR.frozen
        have HR1 := Lib.hid hR
        clear hR hb c0 c1 c2 c3
        go_wp2
        have j := put4 HR1.out HW.out (by omega) 0 0 0 0
        rw [HBAD.out]
        exact ret_iv (p := 4) (q := 5) (by kernel_rfl) rfl rfl j.1 ⟨rfl, j.2⟩
    · obtain rfl : i = n := by omega
      have htk : L.take i = L := List.take_of_length_le (by have := HN.out; omega)
      rw [htk] at hv h2
      have el1 : (losL L).length = i := by unfold losL; rw [List.length_map]; exact HN.out
      have el2 : (hisL L).length = i := by unfold hisL; rw [List.length_map]; exact HN.out
      have v1 := vl_los hv
      have v2 := vl_his hv
      obtain ⟨⟨p1, p2⟩, hp⟩ : ∃ x, (sortF (losL L))[K]? = some x := ⟨_, List.getElem?_eq_getElem (by rw [sortF_len, el1]; exact hK)⟩
      obtain ⟨⟨q1, q2⟩, hq⟩ : ∃ x, (sortF (hisL L))[K]? = some x := ⟨_, List.getElem?_eq_getElem (by rw [sortF_len, el2]; exact hK)⟩
      have hres : kthR L ((K : Int) + 1) = (p1, p2, q1, q2, 0) := by
        unfold kthR
        rw [if_neg, show ((K : Int) + 1 - 1).toNat = K by omega, hp, hq]
        · rfl
        · rintro (h | h | h)
          · omega
          · have := HN.out; omega
          · exact h hv
      have HRES := Lib.hid hres
      have f1 : FsAt wr sx (losL L) := owns_at (by rw [el1]; exact h2.1)
      have f2 : FsAt wr sy (hisL L) := owns_at (by rw [el2]; exact h2.2.1)
      have SA := Lib.hid (fun (X : World) (hb : Below wr.heap.size wr X) => rsortedK v1 el1 h12 hp X (f1.below hb))
      have SB := Lib.hid (fun (X : World) (hb : Below wr.heap.size wr X) => rsortedK v2 el2 h12 hq X (f2.below hb))
      have keep : ∀ W : World, Below wr.heap.size wr W → W.cell? ⟨w.heap.size, 0, none⟩ = some (.int .i64 0) := fun W hb => (hR.below hb hR.lt).cell 0
      have fin := fun (W : World) (hb : Below wr.heap.size wr W) => put4 (hR.below hb hR.lt) (below_st hB hb) (by omega) p1 p2 q1 q2
      have frz := fun (W : World) (hb : Below wr.heap.size wr W) => (show (∀ i, W.frozen? ⟨w.heap.size, i, none⟩ = false) ∧ W.cell? ⟨w.heap.size, 1, none⟩ = some (.int .i64 0) ∧ W.cell? ⟨w.heap.size, 2, none⟩ = some (.int .i64 0) ∧ W.cell? ⟨w.heap.size, 3, none⟩ = some (.int .i64 0) from ⟨(hR.below hb hR.lt).frozen, (hR.below hb hR.lt).cell 1, (hR.below hb hR.lt).cell 2, (hR.below hb hR.lt).cell 3⟩)
      have hne : ∀ g, wr.heap.size ≤ g → ¬ g = w.heap.size := fun g hg => by have := hR.lt; omega
      have Hne := Lib.hid hne
      have Keep := Lib.hid keep
      have Fin := Lib.hid fin
      have Frz := Lib.hid frz
      have h00 := Below.refl wr.heap.size wr
      have h0d : Below wr.heap.size wr wr.drew := h00.drew
      obtain ⟨fR, r1, r2, r3⟩ := frz wr h00
      have c0 := keep wr h00
      have zR := hR.lt
      have kw : IntKind.i64.wrap ((K : Int) + 1 - 1) = (K : Int) := by rw [IntKind.wrap_i64]; omega
      have kw0 : IntKind.i64.wrap (K : Int) = (K : Int) := by rw [IntKind.wrap_i64]; omega
      clear hv h2 htk el1 el2 v1 v2 hp hq hres f1 f2 keep fin frz hR hB hne hlt
      go_wp2_with fail
      refine wp_region_noPanic ?_
      refine wp_region_held_drew (S := fun _ => True) (by kernel_rfl) ?_ (fun hHeld => ?_)
      · trivial
      refine wpAnyH_take (i := 0) (v := ?_) rfl (by kernel_rfl) (by kernel_rfl) (by kernel_rfl) (fun _ _ _ h => h) (Or.inl ⟨by rfl, ?_⟩) hHeld ?_
      rotate_left
      · intro W hSw; (try dsimp only at hSw); go_simp; (try with_reducible rfl)
      (try simp only [Act.put, List.setIfInBounds_toArray, List.set_cons_zero, List.set_cons_succ])
      refine wpAnyH_take (i := 2) (v := ?_) rfl (by kernel_rfl) (by kernel_rfl) (by kernel_rfl) (fun _ _ _ h => h) (Or.inl ⟨by rfl, ?_⟩) hHeld ?_
      rotate_left
      · intro W hSw; (try dsimp only at hSw); go_simp; (try with_reducible rfl)
      (try simp only [Act.put, List.setIfInBounds_toArray, List.set_cons_zero, List.set_cons_succ])
      refine wpAnyH_take (i := 3) (v := ?_) rfl (by kernel_rfl) (by kernel_rfl) (by kernel_rfl) (fun _ _ _ h => h) (Or.inl ⟨by rfl, ?_⟩) hHeld ?_
      rotate_left
      · intro W hSw; (try dsimp only at hSw); go_simp; (try with_reducible rfl)
      (try simp only [Act.put, List.setIfInBounds_toArray, List.set_cons_zero, List.set_cons_succ])
      refine wpAnyH_take (i := 6) (v := ?_) rfl (by kernel_rfl) (by kernel_rfl) (by kernel_rfl) (fun _ _ _ h => h) (Or.inl ⟨by rfl, ?_⟩) hHeld ?_
      rotate_left
      · intro W hSw; (try dsimp only at hSw); go_simp; (try with_reducible rfl)
      (try simp only [Act.put, List.setIfInBounds_toArray, List.set_cons_zero, List.set_cons_succ])
      refine wpAnyH_take (i := 8) (v := ?_) rfl (by kernel_rfl) (by kernel_rfl) (by kernel_rfl) (fun _ _ _ h => h) (Or.inl ⟨by rfl, ?_⟩) hHeld ?_
      rotate_left
      · intro W hSw; (try dsimp only at hSw); go_simp; (try with_reducible rfl)
      (try simp only [Act.put, List.setIfInBounds_toArray, List.set_cons_zero, List.set_cons_succ])
      refine wpAnyH_take (i := 9) (v := ?_) rfl (by kernel_rfl) (by kernel_rfl) (by kernel_rfl) (fun _ _ _ h => h) (Or.inl ⟨by rfl, ?_⟩) hHeld ?_
      rotate_left
      · intro W hSw; (try dsimp only at hSw); go_simp; (try with_reducible rfl)
      (try simp only [Act.put, List.setIfInBounds_toArray, List.set_cons_zero, List.set_cons_succ])
      refine wpAnyH_ready (rs := [1]) (by kernel_rfl) (by simp) ?_
      refine AllReadyH.cons rfl (fun KK hK => ?_) ?_
      · go_simp
        go_at_call 25
        (with_reducible refine (SA.out _ (by (repeat (first | with_reducible assumption | with_reducible refine lat_dr ?_)); done)).mono ?_)
        rintro e v1 ⟨gl, capl, rfl, hcl, hgl, tl, hB⟩
        have hb1 : Below wr.heap.size wr v1 := below_step (by (repeat (first | with_reducible assumption | with_reducible refine lat_dr ?_)); done) hB
        have nl : wr.heap.size ≤ gl := Nat.le_trans (Below.size (w := wr) (B := wr.heap.size) (by (repeat (first | with_reducible assumption | with_reducible refine lat_dr ?_)); done)) hgl
        clear hB
        (try go_wp2_with fail)
        refine hK.out _ _ ?_ (fun hHeld => ?_)
        · exact trivial
        clear hK KK
        refine wpAnyH_grow (T := fun W => W.cell? ⟨gl, K * 2, none⟩ = some (.int .i64 p1) ∧ W.cell? ⟨gl, K * 2 + 1, none⟩ = some (.int .i64 p2)) ?_
        replace hHeld := And.intro hHeld tl.2
        (try simp only [Act.put, List.setIfInBounds_toArray, List.set_cons_zero, List.set_cons_succ])
        refine wpAnyH_take (i := 4) (v := ?_) rfl (by kernel_rfl) (by kernel_rfl) (by kernel_rfl) (fun _ _ _ h => h) (Or.inl ⟨by rfl, ?_⟩) hHeld ?_
        rotate_left
        · intro W hSw; (try dsimp only at hSw); go_simp; (try with_reducible rfl)
        (try simp only [Act.put, List.setIfInBounds_toArray, List.set_cons_zero, List.set_cons_succ])
        refine wpAnyH_take (i := 5) (v := ?_) rfl (by kernel_rfl) (by kernel_rfl) (by kernel_rfl) (fun _ _ _ h => h) (Or.inl ⟨by rfl, ?_⟩) hHeld ?_
        rotate_left
        · intro W hSw; (try dsimp only at hSw); go_simp; (try with_reducible rfl)
        (try simp only [Act.put, List.setIfInBounds_toArray, List.set_cons_zero, List.set_cons_succ])
        refine wpAnyH_ready (rs := [7]) (by kernel_rfl) (by simp) ?_
        refine AllReadyH.cons rfl (fun KK hK => ?_) ?_
        · go_simp
          go_at_call 25
          (with_reducible refine (SB.out _ (by (repeat (first | with_reducible assumption | with_reducible refine lat_dr ?_)); done)).mono ?_)
          rintro e v2 ⟨gh, caph, rfl, hch, hgh, th, hB⟩
          have hb2 : Below wr.heap.size wr v2 := below_step (by (repeat (first | with_reducible assumption | with_reducible refine lat_dr ?_)); done) hB
          replace tl : OneC v2 gl K p1 p2 := OneC.below (by (repeat (first | with_reducible assumption | with_reducible refine OneC.drew ?_ | (refine OneC.far ?_ (by show ¬ w.heap.size = _; omega) _))); done) hB
          have nh : wr.heap.size ≤ gh := Nat.le_trans (Below.size (w := wr) (B := wr.heap.size) (by (repeat (first | with_reducible assumption | with_reducible refine lat_dr ?_)); done)) hgh
          clear hB
          (try go_wp2_with fail)
          refine hK.out _ _ ?_ (fun hHeld => ?_)
          · exact ⟨trivial, (show OneC _ gl K p1 p2 from (by (repeat (first | with_reducible assumption | with_reducible refine OneC.drew ?_ | (refine OneC.far ?_ (by show ¬ w.heap.size = _; omega) _))); done)).2⟩
          clear hK KK
          refine wpAnyH_grow (T := fun W => W.cell? ⟨gh, K * 2, none⟩ = some (.int .i64 q1) ∧ W.cell? ⟨gh, K * 2 + 1, none⟩ = some (.int .i64 q2)) ?_
          replace hHeld := And.intro hHeld th.2
          (try simp only [Act.put, List.setIfInBounds_toArray, List.set_cons_zero, List.set_cons_succ])
          refine wpAnyH_take (i := 10) (v := ?_) rfl (by kernel_rfl) (by kernel_rfl) (by kernel_rfl) (fun _ _ _ h => h) (Or.inl ⟨by rfl, ?_⟩) hHeld ?_
          rotate_left
          · intro W hSw; (try dsimp only at hSw); go_simp; (try with_reducible rfl)
          (try simp only [Act.put, List.setIfInBounds_toArray, List.set_cons_zero, List.set_cons_succ])
          refine wpAnyH_take (i := 11) (v := ?_) rfl (by kernel_rfl) (by kernel_rfl) (by kernel_rfl) (fun _ _ _ h => h) (Or.inl ⟨by rfl, ?_⟩) hHeld ?_
          rotate_left
          · intro W hSw; (try dsimp only at hSw); go_simp; (try with_reducible rfl)
          (try simp only [Act.put, List.setIfInBounds_toArray, List.set_cons_zero, List.set_cons_succ])
          refine wpAnyH_take (i := 12) (v := ?_) rfl (by kernel_rfl) (by kernel_rfl) (by kernel_rfl) (fun _ _ _ h => h) (Or.inl ⟨by rfl, ?_⟩) hHeld ?_
          rotate_left
          · intro W hSw; (try dsimp only at hSw); go_simp; (try with_reducible rfl)
          (try simp only [Act.put, List.setIfInBounds_toArray, List.set_cons_zero, List.set_cons_succ])
          refine wpAnyH_ready (rs := [13]) (by kernel_rfl) (by simp) ?_
          refine AllReadyH.cons rfl (fun KK hK => ?_) ?_
          · obtain ⟨fR, r1, r2, r3⟩ := Frz.out v2 hb2
            have c0 := Keep.out v2 hb2
            go_simp
            refine hK.out _ _ ?_ (fun hHeld => ?_)
            · exact ⟨⟨trivial, (show OneC _ gl K p1 p2 from (by (repeat (first | with_reducible assumption | with_reducible refine OneC.drew ?_ | (refine OneC.far ?_ (by show ¬ w.heap.size = _; omega) _))); done)).2⟩, (show OneC _ gh K q1 q2 from (by (repeat (first | with_reducible assumption | with_reducible refine OneC.drew ?_ | (refine OneC.far ?_ (by show ¬ w.heap.size = _; omega) _))); done)).2⟩
            clear hK KK
            (try simp only [Act.put, List.setIfInBounds_toArray, List.set_cons_zero, List.set_cons_succ])
            refine wpAnyH_take (i := 14) (v := ?_) rfl (by kernel_rfl) (by kernel_rfl) (by kernel_rfl) (fun _ _ _ h => h) (Or.inl ⟨by rfl, ?_⟩) hHeld ?_
            rotate_left
            · intro W hSw; (try dsimp only at hSw); go_simp; (try with_reducible rfl)
            (try simp only [Act.put, List.setIfInBounds_toArray, List.set_cons_zero, List.set_cons_succ])
            refine wpAnyH_done (by kernel_rfl) ?_ _
            refine NoPanic.normal ?_
            (try simp only [Act.put, List.getElem_toArray, List.getElem_cons_zero, List.getElem_cons_succ, List.setIfInBounds_toArray, List.set_cons_zero, List.set_cons_succ])
            go_wp2
            rw [HRES.out]
            refine ret_iv (p := 4) (q := 5) (by kernel_rfl) rfl rfl (Fin.out _ ?_).1 ⟨rfl, (Fin.out _ ?_).2⟩ <;> assumption
          exact AllReadyH.nil
        exact AllReadyH.nil
      exact AllReadyH.nil
end Go.Proofs.Yteppamchbgnlfaa
