/- Statement LabelsMatch: Match is what the reference model gives, for made matchers, for any further one, and for none. Conditions: none. -/
import Derived.Deep.RegionLaw
import Derived.Deep.RegionHeld3
import Derived.Deep.AppendLies
import Derived.Deep.DeepCutAuto
import Derived.Test.YtmgjbbkccgncgaaLOpen
import Derived.Test.YtmgjbbkccgncgaaLMatchers
namespace Go.Proofs.Ytmgjbbkccgncgaa
open Go.ChangeShapes Go.WideShapes Go.ChangeAt Go.RowKit

theorem al_below {w X : World} (h : Below w.heap.size w X) (o : Obj) : Below w.heap.size w (X.alloc o) := h.alloc h.size o
/-- The block of a list of one matcher. -/
abbrev oneM (n : ByteArray) (q : Int) (v : ByteArray) : Obj := .cells #[.string n, .int .i64 q, .string v] 24
theorem two_a (X : World) (n v : ByteArray) (q : Int) : MsAt ((X.alloc (oneM n q v)).alloc (oneM n q v)) (.slice (some ⟨X.heap.size, 0, none⟩) 1 1) [(n, q, v)] :=
  (msAt_new X 24 n v q).below ((Below.refl _ _).alloc (Nat.le_refl _) _)
theorem two_b (X : World) (n v : ByteArray) (q : Int) : MsAt ((X.alloc (oneM n q v)).alloc (oneM n q v)) (.slice (some ⟨X.heap.size + 1, 0, none⟩) 1 1) [(n, q, v)] := by
  have h := msAt_new (X.alloc (oneM n q v)) 24 n v q
  rwa [World.size_alloc] at h
theorem later4 {P : Program} {f : Nat} {args : Array Value} {x : Value} {w0 W : World} {sv : Value} {ms : List M3} (hW : Below w0.heap.size w0 W) (hM : MsAt W sv ms) (h : Calls P f args W fun e w' => e = .returned x ∧ Below W.heap.size W w') : Calls P f args W fun e w' => e = .returned x ∧ MsAt w' sv ms ∧ Below w0.heap.size w0 w' :=
  h.mono fun _ _ ⟨he, hb⟩ => ⟨he, hM.below hb, below_st hW hb⟩

set_option maxRecDepth 100000 in
set_option maxHeartbeats 16000000 in
theorem match_walk (sl : Value) (ls : List Int) (sm : Value) (ks : List Int) (n : ByteArray) (k : Int) (v : ByteArray) (w : World) (hI1 : IntsIn w sl ls) (hI2 : IntsIn w sm ks) (hk : -9223372036854775808 ≤ k ∧ k ≤ 9223372036854775807) :
    Calls Try.prog 8 #[sl, sm, .agg #[.string n, .int .i64 k, .string v]] w fun e w' => e = .returned (.bool true) ∧ Below w.heap.size w w' := by
  obtain ⟨il, hi, hz0, hz1, hz2⟩ := info_parts Try.infoMatcher
  obtain ⟨k0, k1⟩ := hk
  have hAr := fun (W : World) => around_any k 4 W k0 k1 (by omega) (by omega)
  obtain ⟨q, hq⟩ : ∃ q, aroundI k 4 = q := ⟨_, rfl⟩
  rw [hq] at hAr
  have HAr := Lib.hid hAr
  clear hAr hq
  have hA := Blk.new w 24 #[.string n, .int .i64 k, .string v]
  have hB0 := (Below.refl _ w).alloc (Nat.le_refl _) (.cells #[.string n, .int .i64 k, .string v] 24)
  have HA := Lib.hid hA
  have HB0 := Lib.hid hB0
  have H1 := Lib.hid hI1
  have H2 := Lib.hid hI2
  clear hA hB0 hI1 hI2
  go_enter Try.func8, Try.ntmps8
  go_wp2_with fail
  refine (set_any sl ls _ (H1.out.below HB0.out)).mono ?_
  rintro e w1 ⟨av, it, rfl, hO, hS, hb⟩
  have HI := Lib.hid (LsAt.of_owns hO)
  have na : it.length ≤ 6 := hS.2.1
  have HA1 := Lib.hid (HA.out.below hb HA.out.lt)
  have HB1 := Lib.hid (below_st HB0.out hb)
  clear hO hS hb HA HB0 H1
  go_wp2_with fail
  refine (matchers_any sm ks w1 (H2.out.below HB1.out)).mono ?_
  rintro e w2 ⟨bv, few, rfl, hO, hM, hb⟩
  have HI2 := Lib.hid (HI.out.below hb)
  have HF := Lib.hid (MsAt.of_owns hO)
  have nf : few.length ≤ 3 := hM.1
  have HA2 := Lib.hid (HA1.out.below hb HA1.out.lt)
  have HB2 := Lib.hid (below_st HB1.out hb)
  clear hO hM hb HA1 HB1 HI
  obtain ⟨aa, ac, rfl, -⟩ := HI2.out.slice
  obtain ⟨fa, fc, rfl⟩ := HF.out.slice
  have hM2 : ∀ W : World, Below w2.heap.size w2 W → Calls Try.prog 35 #[sm] W (MsR W) := fun W hb => matchers_any sm ks W ((H2.out.below HB2.out).below hb)
  have M2 := Lib.hid hM2
  have Keep := Lib.hid (fun (W : World) (hb : Below w2.heap.size w2 W) => show W.cell? ⟨w.heap.size, 0, none⟩ = some (.string n) ∧ W.cell? ⟨w.heap.size, 1, none⟩ = some (.int .i64 k) ∧ W.cell? ⟨w.heap.size, 2, none⟩ = some (.string v) from
    ⟨(HA2.out.below hb HA2.out.lt).cell 0, (HA2.out.below hb HA2.out.lt).cell 1, (HA2.out.below hb HA2.out.lt).cell 2⟩)
  clear hM2
  have h00 := Below.refl w2.heap.size w2
  have hd0 : Below w2.heap.size w2 w2.drew := h00.drew
  have hd1 : Below w2.heap.size w2 (w2.alloc (.cells #[.string n, .int .i64 k, .string v] 24)).drew := (h00.alloc (Nat.le_refl _) _).drew
  obtain ⟨c0, c1, c2⟩ := Keep.out w2 h00
  go_upto_region 3 with fail
  go_cut [9] (fun x wx => ∃ more : List M3, MsAt wx x (more ++ [(n, k, v)]) ∧ more.length ≤ 3 ∧ Below w2.heap.size w2 wx)
  case first =>
    go_region_law (first
      | (go_simp; go_at_call 35; first
        | ((with_reducible refine (M2.out w2.drew hd0).mono ?_); rintro e w' ⟨mv, more, rfl, hown, hMO, hb⟩; replace hown := owns_weak (b := w2.heap.size) hown (by simp); replace hb := below_st hd0 hb; obtain ⟨d0, d1, d2⟩ := Keep.out _ hb; have hmo := hMO.1)
        | ((with_reducible refine (M2.out _ hd1).mono ?_); rintro e w' ⟨mv, more, rfl, hown, hMO, hb⟩; have hnw := (World.news_of_block (cs := #[.string n, .int .i64 k, .string v]) (t := 24) (fr := (0, 0)) ((hb.block w2.heap.size (by simp)).trans (heap_alloc_new w2 _))); replace hown := owns_weak (b := w2.heap.size) hown (by simp); replace hb := below_st hd1 hb; obtain ⟨d0, d1, d2⟩ := Keep.out _ hb; have hmo := hMO.1))
      | (refine step_append_lies _ (by rfl) _ _ _ (by rfl) w2.heap.size 24 il (.agg #[.string ⟨#[]⟩, .int .i64 0, .string ⟨#[]⟩]) 3 40 Try.underlying50 hi hz0 hz1 hz2 rfl (by decide) mv more.length (more.flatMap cells3) (by rfl) (hown.alloc _) ⟨w'.heap.size, 0, none⟩ 1 1 [.string n, .int .i64 k, .string v] (by rfl) (by rfl) (World.news_of_block (cs := #[.string n, .int .i64 k, .string v]) (t := 24) (fr := (0, 0)) (heap_alloc_new w' _)) (by simp [Value.oneCell']) (by omega) (by unfold maxLen; omega) (by omega) (by have := hb.size; simp; omega) (w'.heap.size + 1) (by simp) ?_; intro g cap2 w4 hown4 hgrow hat hlt4)
      | (refine step_append_lies _ (by rfl) _ _ _ (by rfl) w2.heap.size 24 il (.agg #[.string ⟨#[]⟩, .int .i64 0, .string ⟨#[]⟩]) 3 40 Try.underlying50 hi hz0 hz1 hz2 rfl (by decide) mv more.length (more.flatMap cells3) (by rfl) hown ⟨w2.heap.size, 0, none⟩ 1 1 [.string n, .int .i64 k, .string v] (by rfl) (by rfl) hnw (by simp [Value.oneCell']) (by omega) (by unfold maxLen; omega) (by omega) (by have := hb.size; omega) w'.heap.size rfl ?_; intro g cap2 w4 hown4 hgrow hat hlt4))
    all_goals
      go_wp2_with fail
      go_meet
      case rel => exact ⟨more, MsAt.of_owns (by rw [List.length_append, List.flatMap_append]; exact hown4), hmo, by
        first
        | exact (hb.alloc hb.size _).grown hgrow (by have := hb.size; simp; omega) (fun j hj => (hown.lt j hj).1)
        | exact hb.grown hgrow hb.size (fun j hj => (hown.lt j hj).1)⟩
  case rest =>
    obtain ⟨more, hMo, hmo, hb⟩ := hcut
    obtain ⟨ma, mc, rfl⟩ := hMo.slice
    have hml : (more ++ [(n, k, v)]).length ≤ 4 := by rw [List.length_append]; simp; omega
    obtain ⟨mm, hmm⟩ : ∃ mm, more ++ [(n, k, v)] = mm := ⟨_, rfl⟩
    rw [hmm] at hMo hml ⊢
    clear hmm
    obtain ⟨c0, c1, c2⟩ := Keep.out _ hb
    have HM3 := Lib.hid hMo
    have HF3 := Lib.hid (HF.out.below hb)
    have HI3 := Lib.hid (HI2.out.below hb)
    have HB3 := Lib.hid (below_st HB2.out hb)
    have HA3 := Lib.hid (HA2.out.below hb HA2.out.lt)
    clear M2 Keep HA2 HF HI2 HB2 h00 hd0 hd1 hb hMo hmo H2
    obtain ⟨w3, hw3⟩ : ∃ w3 : World, wc = w3 := ⟨_, rfl⟩
    rw [hw3] at HM3 HF3 HI3 HB3 HA3 c0 c1 c2 ⊢
    clear hw3
    have KA3 := Lib.hid (fun (o : Obj) => show (w3.alloc o).cell? ⟨w.heap.size, 0, none⟩ = some (.string n) ∧ (w3.alloc o).cell? ⟨w.heap.size, 1, none⟩ = some (.int .i64 k) ∧ (w3.alloc o).cell? ⟨w.heap.size, 2, none⟩ = some (.string v) from
      ⟨(HA3.out.alloc o).cell 0, (HA3.out.alloc o).cell 1, (HA3.out.alloc o).cell 2⟩)
    clear HA3
    go_upto_region 4 with fail
    go_cut [10] (fun x wx => ∃ g, x = .pointer (some ⟨g, 0, none⟩) ∧ Blk wx g 24 #[.string n, .int .i64 q, .string v] ∧ Below w3.heap.size w3 wx)
    case first =>
      go_region_held3 (fun W => W.cell? ⟨w.heap.size, 0, none⟩ = some (.string n) ∧ W.cell? ⟨w.heap.size, 1, none⟩ = some (.int .i64 k) ∧ W.cell? ⟨w.heap.size, 2, none⟩ = some (.string v)) (first | (exact ⟨c0, c1, c2⟩) | (exact KA3.out _))
        ((go_at_call 11; (with_reducible refine (HAr.out _).mono ?_); rintro e w' ⟨rfl, rfl⟩))
      all_goals
        go_wp2_with fail
        go_meet
        case rel => exact ⟨_, rfl, (Blk.new w3 24 #[.string n, .int .i64 q, .string v]).below (Below.refl _ _).drew (Blk.new w3 24 #[.string n, .int .i64 q, .string v]).lt, ((Below.refl _ w3).alloc (Nat.le_refl _) _).drew⟩
    case rest =>
      obtain ⟨g, rfl, hG, hb⟩ := hcut
      have HG := Lib.hid hG
      have HM4 := Lib.hid (HM3.out.below hb)
      have HF4 := Lib.hid (HF3.out.below hb)
      have HI4 := Lib.hid (HI3.out.below hb)
      have HB4 := Lib.hid (below_st HB3.out hb)
      clear HAr HM3 HF3 HI3 HB3 KA3 c0 c1 c2 hG hb k0 k1 hi hz0 hz1 hz2
      obtain ⟨w4, hw4⟩ : ∃ w4 : World, wc = w4 := ⟨_, rfl⟩
      rw [hw4] at HG HM4 HF4 HI4 HB4 ⊢
      clear hw4
      obtain ⟨xf, hxf⟩ : ∃ x, matchB it few = x := ⟨_, rfl⟩
      obtain ⟨xm, hxm⟩ : ∃ x, matchB it mm = x := ⟨_, rfl⟩
      obtain ⟨xo, hxo⟩ : ∃ x, matchB it [(n, q, v)] = x := ⟨_, rfl⟩
      have A1 := Lib.hid (fun (W : World) (hb : Below w4.heap.size w4 W) => show Calls Try.prog 36 #[.slice aa it.length ac, .slice fa few.length fc] W fun e w' => e = .returned (.bool xf) ∧ Below w4.heap.size w4 w' from by rw [← hxf]; exact later3 hb (match_any _ _ it few W (HI4.out.below hb) (HF4.out.below hb) (by omega) (by omega)))
      have B1 := Lib.hid (fun (W : World) (hb : Below w4.heap.size w4 W) => show Calls Try.prog 36 #[.slice aa it.length ac, .slice ma mm.length mc] W fun e w' => e = .returned (.bool xm) ∧ Below w4.heap.size w4 w' from by rw [← hxm]; exact later3 hb (match_any _ _ it mm W (HI4.out.below hb) (HM4.out.below hb) (by omega) (by omega)))
      have N1 := Lib.hid (fun (W : World) (hb : Below w4.heap.size w4 W) => show Calls Try.prog 36 #[.slice aa it.length ac, .slice none 0 0] W fun e w' => e = .returned (.bool true) ∧ Below w4.heap.size w4 w' from later3 hb (match_any _ _ it [] W (HI4.out.below hb) .nil (by omega) (by decide)))
      have C1 := Lib.hid (fun (X : World) (hb : Below w4.heap.size w4 X) => show Calls Try.prog 36 #[.slice aa it.length ac, .slice (some ⟨X.heap.size, 0, none⟩) 1 1] (X.alloc (.cells #[.string n, .int .i64 q, .string v] 24)) fun e w' => e = .returned (.bool xo) ∧ Below w4.heap.size w4 w' from by rw [← hxo]; exact later3 (al_below hb _) (match_any _ _ it [(n, q, v)] _ (HI4.out.below (al_below hb _)) (msAt_new X _ n v q) (by omega) (by simp)))
      have D1 := Lib.hid (fun (X : World) (hb : Below w4.heap.size w4 X) => show Calls Try.prog 36 #[.slice aa it.length ac, .slice (some ⟨X.heap.size, 0, none⟩) 1 1] ((X.alloc (.cells #[.string n, .int .i64 q, .string v] 24)).alloc (.cells #[.string n, .int .i64 q, .string v] 24)) fun e w' => e = .returned (.bool xo) ∧ MsAt w' (.slice (some ⟨X.heap.size + 1, 0, none⟩) 1 1) [(n, q, v)] ∧ Below w4.heap.size w4 w' from by rw [← hxo]; exact later4 (al_below (al_below hb _) _) (two_b X n v q) (match_any _ _ it [(n, q, v)] _ (HI4.out.below (al_below (al_below hb _) _)) (two_a X n v q) (by omega) (by simp)))
      have E1 := Lib.hid (fun (X : World) (hb : Below w4.heap.size w4 X) => show Calls Try.prog 36 #[.slice aa it.length ac, .slice (some ⟨X.heap.size + 1, 0, none⟩) 1 1] ((X.alloc (.cells #[.string n, .int .i64 q, .string v] 24)).alloc (.cells #[.string n, .int .i64 q, .string v] 24)) fun e w' => e = .returned (.bool xo) ∧ MsAt w' (.slice (some ⟨X.heap.size, 0, none⟩) 1 1) [(n, q, v)] ∧ Below w4.heap.size w4 w' from by rw [← hxo]; exact later4 (al_below (al_below hb _) _) (two_a X n v q) (match_any _ _ it [(n, q, v)] _ (HI4.out.below (al_below (al_below hb _) _)) (two_b X n v q) (by omega) (by simp)))
      have F1 := Lib.hid (fun (W : World) (sv : Value) (hb : Below w4.heap.size w4 W) (hM : MsAt W sv [(n, q, v)]) => show Calls Try.prog 36 #[.slice aa it.length ac, sv] W fun e w' => e = .returned (.bool xo) ∧ Below w4.heap.size w4 w' from by rw [← hxo]; exact later3 hb (match_any _ _ it [(n, q, v)] W (HI4.out.below hb) hM (by omega) (by simp)))
      have A2 := Lib.hid (fun (W : World) (hb : Below w4.heap.size w4 W) => show Calls Try.prog 37 #[.slice aa it.length ac, .slice fa few.length fc] W fun e w' => e = .returned (.bool xf) ∧ Below w4.heap.size w4 w' from by rw [← hxf]; exact later3 hb (refmatch_any _ _ it few W (HI4.out.below hb) (HF4.out.below hb) (by omega) (by omega)))
      have B2 := Lib.hid (fun (W : World) (hb : Below w4.heap.size w4 W) => show Calls Try.prog 37 #[.slice aa it.length ac, .slice ma mm.length mc] W fun e w' => e = .returned (.bool xm) ∧ Below w4.heap.size w4 w' from by rw [← hxm]; exact later3 hb (refmatch_any _ _ it mm W (HI4.out.below hb) (HM4.out.below hb) (by omega) (by omega)))
      have C2 := Lib.hid (fun (X : World) (hb : Below w4.heap.size w4 X) => show Calls Try.prog 37 #[.slice aa it.length ac, .slice (some ⟨X.heap.size, 0, none⟩) 1 1] (X.alloc (.cells #[.string n, .int .i64 q, .string v] 24)) fun e w' => e = .returned (.bool xo) ∧ Below w4.heap.size w4 w' from by rw [← hxo]; exact later3 (al_below hb _) (refmatch_any _ _ it [(n, q, v)] _ (HI4.out.below (al_below hb _)) (msAt_new X _ n v q) (by omega) (by simp)))
      have D2 := Lib.hid (fun (X : World) (hb : Below w4.heap.size w4 X) => show Calls Try.prog 37 #[.slice aa it.length ac, .slice (some ⟨X.heap.size, 0, none⟩) 1 1] ((X.alloc (.cells #[.string n, .int .i64 q, .string v] 24)).alloc (.cells #[.string n, .int .i64 q, .string v] 24)) fun e w' => e = .returned (.bool xo) ∧ MsAt w' (.slice (some ⟨X.heap.size + 1, 0, none⟩) 1 1) [(n, q, v)] ∧ Below w4.heap.size w4 w' from by rw [← hxo]; exact later4 (al_below (al_below hb _) _) (two_b X n v q) (refmatch_any _ _ it [(n, q, v)] _ (HI4.out.below (al_below (al_below hb _) _)) (two_a X n v q) (by omega) (by simp)))
      have E2 := Lib.hid (fun (X : World) (hb : Below w4.heap.size w4 X) => show Calls Try.prog 37 #[.slice aa it.length ac, .slice (some ⟨X.heap.size + 1, 0, none⟩) 1 1] ((X.alloc (.cells #[.string n, .int .i64 q, .string v] 24)).alloc (.cells #[.string n, .int .i64 q, .string v] 24)) fun e w' => e = .returned (.bool xo) ∧ MsAt w' (.slice (some ⟨X.heap.size, 0, none⟩) 1 1) [(n, q, v)] ∧ Below w4.heap.size w4 w' from by rw [← hxo]; exact later4 (al_below (al_below hb _) _) (two_a X n v q) (refmatch_any _ _ it [(n, q, v)] _ (HI4.out.below (al_below (al_below hb _) _)) (two_b X n v q) (by omega) (by simp)))
      have F2 := Lib.hid (fun (W : World) (sv : Value) (hb : Below w4.heap.size w4 W) (hM : MsAt W sv [(n, q, v)]) => show Calls Try.prog 37 #[.slice aa it.length ac, sv] W fun e w' => e = .returned (.bool xo) ∧ Below w4.heap.size w4 w' from by rw [← hxo]; exact later3 hb (refmatch_any _ _ it [(n, q, v)] W (HI4.out.below hb) hM (by omega) (by simp)))
      have LV := Lib.hid (fun (W : World) (hb : Below w4.heap.size w4 W) => later3 hb (lives_any W))
      have Keep := Lib.hid (fun (W : World) (hb : Below w4.heap.size w4 W) => show W.cell? ⟨g, 0, none⟩ = some (.string n) ∧ W.cell? ⟨g, 1, none⟩ = some (.int .i64 q) ∧ W.cell? ⟨g, 2, none⟩ = some (.string v) from
        ⟨(HG.out.below hb HG.out.lt).cell 0, (HG.out.below hb HG.out.lt).cell 1, (HG.out.below hb HG.out.lt).cell 2⟩)
      have h00 := Below.refl w4.heap.size w4
      have h0d : Below w4.heap.size w4 w4.drew := h00.drew
      clear hxf hxm hxo HG HM4 HF4 HI4
      go_wp2_with fail
      go_region_held3 (fun W => W.cell? ⟨g, 0, none⟩ = some (.string n) ∧ W.cell? ⟨g, 1, none⟩ = some (.int .i64 q) ∧ W.cell? ⟨g, 2, none⟩ = some (.string v)) (first | (exact Keep.out _ (by with_reducible assumption)) | (exact Keep.out _ (al_below (by with_reducible assumption) _)) | (exact Keep.out _ (al_below (al_below (by with_reducible assumption) _) _)))
        (first | (go_at_call 36; first | ((with_reducible refine (A1.out _ (by with_reducible assumption)).mono ?_); rintro e w' ⟨rfl, hb⟩; obtain ⟨c0, c1, c2⟩ := Keep.out _ hb) | ((with_reducible refine (B1.out _ (by with_reducible assumption)).mono ?_); rintro e w' ⟨rfl, hb⟩; obtain ⟨c0, c1, c2⟩ := Keep.out _ hb) | ((with_reducible refine (N1.out _ (by with_reducible assumption)).mono ?_); rintro e w' ⟨rfl, hb⟩; obtain ⟨c0, c1, c2⟩ := Keep.out _ hb) | ((with_reducible refine (C1.out _ (by with_reducible assumption)).mono ?_); rintro e w' ⟨rfl, hb⟩; obtain ⟨c0, c1, c2⟩ := Keep.out _ hb) | ((with_reducible refine (D1.out _ (by with_reducible assumption)).mono ?_); rintro e w' ⟨rfl, hm, hb⟩; obtain ⟨c0, c1, c2⟩ := Keep.out _ hb) | ((with_reducible refine (E1.out _ (by with_reducible assumption)).mono ?_); rintro e w' ⟨rfl, hm, hb⟩; obtain ⟨c0, c1, c2⟩ := Keep.out _ hb) | ((with_reducible refine (F1.out _ _ (by with_reducible assumption) (by with_reducible assumption)).mono ?_); rintro e w' ⟨rfl, hb⟩; obtain ⟨c0, c1, c2⟩ := Keep.out _ hb)) | (go_at_call 37; first | ((with_reducible refine (A2.out _ (by with_reducible assumption)).mono ?_); rintro e w' ⟨rfl, hb⟩; obtain ⟨c0, c1, c2⟩ := Keep.out _ hb) | ((with_reducible refine (B2.out _ (by with_reducible assumption)).mono ?_); rintro e w' ⟨rfl, hb⟩; obtain ⟨c0, c1, c2⟩ := Keep.out _ hb) | ((with_reducible refine (C2.out _ (by with_reducible assumption)).mono ?_); rintro e w' ⟨rfl, hb⟩; obtain ⟨c0, c1, c2⟩ := Keep.out _ hb) | ((with_reducible refine (D2.out _ (by with_reducible assumption)).mono ?_); rintro e w' ⟨rfl, hm, hb⟩; obtain ⟨c0, c1, c2⟩ := Keep.out _ hb) | ((with_reducible refine (E2.out _ (by with_reducible assumption)).mono ?_); rintro e w' ⟨rfl, hm, hb⟩; obtain ⟨c0, c1, c2⟩ := Keep.out _ hb) | ((with_reducible refine (F2.out _ _ (by with_reducible assumption) (by with_reducible assumption)).mono ?_); rintro e w' ⟨rfl, hb⟩; obtain ⟨c0, c1, c2⟩ := Keep.out _ hb)) | (go_at_call 18; first | ((with_reducible refine (LV.out _ (by with_reducible assumption)).mono ?_); rintro e w' ⟨rfl, hb⟩; obtain ⟨c0, c1, c2⟩ := Keep.out _ hb)))
      all_goals
        go_wp2
        go_ret
        exact ⟨rfl, below_st HB4.out (by with_reducible assumption)⟩
set_option maxRecDepth 100000 in
theorem match_lifted (os : Os) (started : os.Started) (H : Type) (enc : TypeId × Value → H) :
    ReturnsInHanded {} Try.checked os 8 .any (Rows.labelsMatchSpec.pre6 enc Try.prog Try.f8 Rows.labelsMatchRow.domain false) (Rows.labelsMatchSpec.post enc Try.prog Try.f8 false true false false) := by
  refine returnsInHanded_of_change_sized (C := Try.checked) Try.own started (by kernel_rfl) Try.func8
    (ChangeSpec.witness6 (enc := enc) (C := Try.checked) false ⟨#[], #[.slice none 0 0, .slice none 0 0, .agg #[.string ⟨#[]⟩, .int .i64 0, .string ⟨#[]⟩]], []⟩ 8 (by kernel_rfl) (by kernel_rfl) (by kernel_rfl) (by kernel_rfl)) ?_
  intro W base args ds gs before hval0 hW _ hsz0 _
  have hsz : (DataW.weightsEach Try.prog (Try.f8.params.toList ++ Rows.labelsMatchSpec.plain.varTypes Try.prog) (ds ++ gs)).all (· ≤ reachBytes) = true := hsz0
  clear hsz0
  have hval : ∀ (j : Nat) t v, Try.f8.params[j]? = some t → args[j]? = some v → Value.okWide Try.prog W .any base t v := hval0
  have hW' := hW
  obtain ⟨p, q, hA0, hV, rfl, _, _⟩ := hW
  have hA : DataW.TrodAll enc Try.prog W 0 (fun _ => true) true Try.f8.params.toList args.toList ds p := hA0
  rw [Try.params8] at hA hval hsz
  obtain ⟨v0, vs0, d0, ds0, p0, q0, hargs, rfl, rfl, h0, r0⟩ := trodAll_cons hA
  obtain ⟨v1, vs1, d1, ds1, p1, q1, rfl, rfl, rfl, h1, r1⟩ := trodAll_cons r0
  obtain ⟨v2, vs2, d2, ds2, p2, q2, rfl, rfl, rfl, h2, r2⟩ := trodAll_cons r1
  obtain ⟨rfl, rfl, rfl⟩ := trodAll_nil r2
  obtain rfl : args = #[v0, v1, v2] := by cases args; simp_all
  obtain ⟨rfl, rfl⟩ := trodVars_none hV
  obtain ⟨zs0, hI0⟩ := open_ints5 (hval 0 30 v0 rfl rfl) h0 (fun x hx => by simpa using hW'.lt x (by simp [hx])) hsz (j := 0) rfl rfl
  obtain ⟨zs1, hI1⟩ := open_ints5 (hval 1 30 v1 rfl rfl) h1 (fun x hx => by simpa using hW'.lt x (by simp [hx])) hsz (j := 1) rfl rfl
  obtain ⟨mn2, mk2, mv2, rfl, hM2⟩ := open_matcher5 (hval 2 24 v2 rfl rfl) h2
  clear hA0 hval0
  have hwalk := match_walk v0 zs0 v1 zs1 mn2 mk2 mv2 W hI0 hI1 hM2
  refine hwalk.mono fun e W' ⟨he, hB⟩ => ?_
  subst he
  exact ⟨_, rfl, law_post (by kernel_rfl) (by kernel_rfl) rfl hW' rfl hB⟩

theorem match_holds : Rows.LabelsMatchSaid :=
  OpenClaim.holds_of_wide 8 Try.f8 rfl rfl rfl rfl rfl rfl rfl ⟨rfl, rfl, rfl, rfl, rfl⟩ rfl rfl rfl rfl rfl (by kernel_rfl) Try.func8 (by kernel_rfl)
    (of_decide_eq_true (by kernel_rfl)) (by unfold Func.isWrapper; first | (rw [if_pos (by decide +kernel)]; kernel_rfl) | (rw [if_neg (by decide +kernel)]; exact ⟨rfl, rfl⟩))
    (fun os started H enc _ => match_lifted os started H enc)
#print axioms match_holds
end Go.Proofs.Ytmgjbbkccgncgaa
