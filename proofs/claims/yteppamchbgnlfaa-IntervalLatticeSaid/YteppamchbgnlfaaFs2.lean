/- The reference's Sorted and from. Conditions: valid fractions. -/
import Derived.Test.YteppamchbgnlfaaFs
namespace Go.Proofs.Yteppamchbgnlfaa
open Go.RowKit

theorem own_put {W : World} {base k : Nat} {v : Value} {m : List F2} {x : F2} (hk : k ≤ m.length) (h : W.ownsRow base 23 2 v (0 + k + 1 + (m.length - k)) ((([] ++ flatL (m.take k)) ++ [.int .i64 x.1, .int .i64 x.2]) ++ flatL (m.drop k))) :
    W.ownsRow base 23 2 v (putAt m k x).length (flatL (putAt m k x)) := by
  have e1 : 0 + k + 1 + (m.length - k) = (putAt m k x).length := by rw [putAt_len hk]; omega
  have e2 : (([] ++ flatL (m.take k)) ++ [Value.int .i64 x.1, Value.int .i64 x.2]) ++ flatL (m.drop k) = flatL (putAt m k x) := by
    unfold putAt
    rw [flatL_app, show flatL (x :: m.drop k) = [Value.int .i64 x.1, Value.int .i64 x.2] ++ flatL (m.drop k) from rfl]
    simp
  rw [e1, e2] at h
  exact h
theorem own_put0 {W : World} {base k : Nat} {v : Value} {m : List F2} {x : F2} (hk : k = m.length) (h : W.ownsRow base 23 2 v (0 + k + 1 + 0) ((([] ++ flatL (m.take k)) ++ [.int .i64 x.1, .int .i64 x.2]) ++ flatL (m.drop k))) :
    W.ownsRow base 23 2 v (putAt m k x).length (flatL (putAt m k x)) := own_put (by omega) (by rw [show m.length - k = 0 by omega]; exact h)
/-- What Sorted answers. -/
def SortedR (l : List F2) (w : World) (e : Ending) (w' : World) : Prop := ∃ v m, e = .returned v ∧ m.Perm l ∧ Srt m m.length ∧ w'.ownsRow w.heap.size 23 2 v m.length (flatL m) ∧ Below w.heap.size w w'

set_option maxRecDepth 100000 in
set_option maxHeartbeats 16000000 in
theorem sorted_any (sv : Value) (l : List F2) (w : World) (hI : FsAt w sv l) (hv : VL l) (hl : l.length ≤ 1000) :
    Calls Try.prog 25 #[sv] w (SortedR l w) := by
  obtain ⟨a, c, rfl⟩ := hI.slice
  obtain ⟨il, hi, hz0, hz1, hz2⟩ := info_parts Try.infoFrac
  have HI := Lib.hid hI
  have HV := Lib.hid hv
  clear hI hv
  go_enter Try.func25, Try.ntmps25
  go_wp2
  go_loopw [3, 4] (fun s iv wr => ∃ (i : Nat) (m : List F2) (sb : Value), sb = s ∧ i ≤ l.length ∧ iv = .int .i64 i ∧ m.Perm (l.take i) ∧ Srt m m.length ∧ wr.ownsRow w.heap.size 23 2 sb m.length (flatL m) ∧ Below w.heap.size w wr) (fun _ iv _ => l.length - (intOf iv).toNat)
  case atStart => exact ⟨0, [], _, rfl, Nat.zero_le _, rfl, List.Perm.refl _, (fun p q _ _ _ h => by simp at h), World.ownsRow_nil _ _ _ _, Below.refl _ _⟩
  case round =>
    obtain ⟨i, m, sb, rfl, hi1, rfl, hmp, hms, hown, hB⟩ := hrel
    have HMP := Lib.hid hmp
    have HMS := Lib.hid hms
    have hml : m.length = i := by rw [hmp.length_eq, List.length_take]; omega
    have HML := Lib.hid hml
    clear hmp hms hml
    by_cases hlt : i < l.length
    · obtain ⟨x, hx⟩ : ∃ x, l[i]? = some x := ⟨_, List.getElem?_eq_getElem hlt⟩
      have hvx := HV.out.get hx
      have HVX := Lib.hid hvx
      have HTK := Lib.hid (show l.take (i + 1) = l.take i ++ [x] by rw [List.take_add_one, hx]; rfl)
      have HVM := Lib.hid (show VL m from fun y hy => HV.out y (List.mem_of_mem_take (HMP.out.mem_iff.1 hy)))
      obtain ⟨g, off, rfl, hgs, c0, c1⟩ := (HI.out.below hB).get hx
      have cl : ∀ W, Below wr.heap.size wr W → W.cell? ⟨g, off + i * 2, none⟩ = some (.int .i64 x.1) ∧ W.cell? ⟨g, off + i * 2 + 1, none⟩ = some (.int .i64 x.2) := fun W hb => ⟨(hb.cell (p := ⟨g, off + i * 2, none⟩) hgs).trans c0, (hb.cell (p := ⟨g, off + i * 2 + 1, none⟩) hgs).trans c1⟩
      have CLr := Lib.hid cl
      have hm8 : m.length ≤ 1000 := by have := HML.out; omega
      have hsh := FsAt.of_owns hown
      have HBr := Lib.hid hB
      have i0 : (0 : Int) ≤ (i : Int) := by omega
      have i1 : (i : Int) < (l.length : Int) := by omega
      clear hx hvx cl hown hB
      rcases hsh with ⟨rfl, hm0⟩ | ⟨gS, cS, rfl, hcS, -, hgS, hFC0⟩
      · subst hm0
        obtain ⟨wo, rfl⟩ : ∃ wo : World, wo = wr := ⟨_, rfl⟩
        have CL := CLr
        have HBL := HBr
        have hnil := World.ownsRow_nil wo wo.heap.size 23 2
        have HPS := Lib.hid (show Srt [x] [x].length from fun p q u v h1 h2 _ _ => by simp at h2; omega)
        go_wp2_with fail
        refine wp_loop_rounds 1 ?_
        rw [rounds_succ]
        go_wp2_with fail
        go_quiet (fail)
        obtain ⟨wq, hwq⟩ : ∃ wq : World, wo.drewN nq = wq := ⟨_, rfl⟩
        have hBq : Below wo.heap.size wo wq := by rw [← hwq]; exact below_draw (Below.refl _ _) _
        obtain ⟨c0, c1⟩ := CL.out _ hBq
        rw [hwq]
        clear hwq
        have hnq := World.ownsRow_nil wq wo.heap.size 23 2
        go_wp2_with (first
          | (at_builtin; refine wpList_append_own_none rfl (.tmp 32) (.tmp 35) 40 rfl wo.heap.size 23 il 2 Try.underlying40 hi _ _ _ rfl hnq rfl ?_)
          | (at_builtin; refine wpList_append_own _ rfl (.tmp 37) (.tmp 42) 40 rfl wo.heap.size 23 il (.agg #[.int .i64 0, .int .i64 0]) 2 16 Try.underlying40 hi hz0 hz1 hz2 rfl (by decide) (.slice none 0 0) 0 [] rfl (hnq.alloc _) ⟨wq.heap.size, 0, none⟩ 1 1 [.int .i64 x.1, .int .i64 x.2] rfl rfl (World.news_of_block (cs := #[.int .i64 x.1, .int .i64 x.2]) (t := 23) (fr := (0, 0)) (heap_alloc_new wq _)) (by simp [Value.oneCell']) (by unfold maxLen; omega) (by omega) (by have := hBq.size; simp; omega) ?_; intro v3 w3 hown3 hgrow3 _; have hB3 : Below wo.heap.size wo w3 := (hBq.alloc hBq.size _).grown hgrow3 (by have := hBq.size; simp; omega) (fun j hj => by cases hj))
          | (at_builtin; refine wpList_append_own_none rfl (.tmp 44) (.tmp 47) 40 rfl wo.heap.size 23 il 2 Try.underlying40 hi _ _ _ rfl hown3 rfl ?_))
        go_roundw
        case rel => exact ⟨i + 1, [x], v3, rfl, by omega, by go_num, by rw [HTK.out]; exact List.Perm.append_right [x] HMP.out, HPS.out, owns_weakF hown3 HBL.out.size, HBL.out.trans (hB3.mono HBL.out.size)⟩
        case measure => simp [intOf]; omega
      · have HFC0 := Lib.hid hFC0
        have k0' : (0 : Int) ≤ (m.length : Int) := by omega
        clear hFC0
        obtain ⟨wo, rfl⟩ : ∃ wo : World, wo = wr := ⟨_, rfl⟩
        go_wp2_with fail
        go_loopw [5] (fun kv wl => ∃ k : Nat, k ≤ m.length ∧ kv = .int .i64 k ∧ (∀ j y, k ≤ j → m[j]? = some y → cmpR x.1 x.2 y.1 y.2 < 0) ∧ Below wo.heap.size wo wl) (fun kv _ => (intOf kv).toNat)
        case atStart => exact ⟨m.length, Nat.le_refl _, rfl, (fun j y h1 h2 => by have := (List.getElem?_eq_some_iff.1 h2).1; omega), Below.refl _ _⟩
        case round =>
          obtain ⟨k, hk, rfl, hup, hB⟩ := hrel
          have HUP := Lib.hid hup
          have hFC := Lib.hid (HFC0.out.below hgS hB)
          have hgw : gS < wr.heap.size := Nat.lt_of_lt_of_le hgS hB.size
          have hbl := below_st HBr.out hB
          have HBL := Lib.hid hbl
          have cl : ∀ W, Below wr.heap.size wr W → W.cell? ⟨g, off + i * 2, none⟩ = some (.int .i64 x.1) ∧ W.cell? ⟨g, off + i * 2 + 1, none⟩ = some (.int .i64 x.2) := fun W hb => CLr.out W (below_st hB hb)
          have CL := Lib.hid cl
          obtain ⟨c0, c1⟩ := cl wr (Below.refl _ _)
          have hgr : g < wr.heap.size := Nat.lt_of_lt_of_le hgs hB.size
          have HBo := Lib.hid hB
          clear hup hbl cl hB
          by_cases hk0 : k = 0
          · subst hk0
            have HPS := Lib.hid (putAt_srt (k := 0) HMS.out HVM.out HVX.out (by omega) (fun y h => by omega) HUP.out)
            go_wp2_with fail
            go_quiet (fail)
            obtain ⟨wl, hwl⟩ : ∃ wl : World, wr.drewN nq = wl := ⟨_, rfl⟩
            have hBl : Below wr.heap.size wr wl := by rw [← hwl]; exact below_draw (Below.refl _ _) _
            rw [hwl]
            have hFCl := Lib.hid (hFC.out.below hgw hBl)
            have hgl : gS < wl.heap.size := Nat.lt_of_lt_of_le hgw hBl.size
            have HBl := Lib.hid (below_st HBL.out hBl)
            have CLl := Lib.hid (fun W (hb : Below wl.heap.size wl W) => CL.out W (below_st hBl hb))
            obtain ⟨c0, c1⟩ := CLl.out wl (Below.refl _ _)
            clear hBl
            by_cases hck : 0 < cS
            · have hck1 : ((0 : Nat) : Int) < (cS : Int) := by omega
              go_wp2_with (first
                | (at_builtin; refine wpList_append_own _ rfl (.tmp 32) (.tmp 35) 40 rfl wl.heap.size 23 il (.agg #[.int .i64 0, .int .i64 0]) 2 16 Try.underlying40 hi hz0 hz1 hz2 rfl (by decide) (.slice none 0 0) 0 [] rfl (World.ownsRow_nil wl _ _ _) ⟨gS, 0, none⟩ 0 cS (flatL (m.take 0)) rfl (by rw [flatL_len, List.length_take]; omega) (hFCl.out.take 0) (flatL_one _) (by unfold maxLen; omega) (by omega) (Nat.le_refl _) ?_; intro v2 w2 hown2 hgrow2 _; have hB2 : Below wl.heap.size wl w2 := (Below.refl _ wl).grown hgrow2 (Nat.le_refl _) (fun j hj => by cases hj); obtain ⟨c0, c1⟩ := CLl.out _ hB2)
                | (at_builtin; refine wpList_append_own _ rfl (.tmp 37) (.tmp 42) 40 rfl wl.heap.size 23 il (.agg #[.int .i64 0, .int .i64 0]) 2 16 Try.underlying40 hi hz0 hz1 hz2 rfl (by decide) v2 _ _ rfl (hown2.alloc _) ⟨w2.heap.size, 0, none⟩ 1 1 [.int .i64 x.1, .int .i64 x.2] rfl rfl (World.news_of_block (cs := #[.int .i64 x.1, .int .i64 x.2]) (t := 23) (fr := (0, 0)) (heap_alloc_new w2 _)) (by simp [Value.oneCell']) (by unfold maxLen; omega) (by omega) (by have := hB2.size; simp; omega) ?_; intro v3 w3 hown3 hgrow3 _; have hB3 : Below wl.heap.size wl w3 := (hB2.alloc hB2.size _).grown hgrow3 (by have := hB2.size; simp; omega) (fun j hj => (hown2.lt j hj).1))
                | (at_builtin; refine wpList_append_own _ rfl (.tmp 44) (.tmp 47) 40 rfl wl.heap.size 23 il (.agg #[.int .i64 0, .int .i64 0]) 2 16 Try.underlying40 hi hz0 hz1 hz2 rfl (by decide) v3 _ _ rfl hown3 ⟨gS, 0, none⟩ m.length cS (flatL (m.drop 0)) rfl (by rw [flatL_len, List.length_drop]; omega) ((hFCl.out.below hgl hB3).drop0) (flatL_one _) (by unfold maxLen; omega) (by omega) hB3.size ?_; intro v4 w4 hown4 hgrow4 _; have hB4 : Below wl.heap.size wl w4 := hB3.grown hgrow4 hB3.size (fun j hj => (hown3.lt j hj).1)))
              go_roundw
              case rel => exact ⟨i + 1, putAt m 0 x, v4, rfl, by omega, by go_num, (putAt_perm m 0 x).trans (by rw [HTK.out]; exact List.Perm.append_right _ HMP.out), HPS.out, owns_weakF (own_put (k := 0) (by omega) hown4) HBl.out.size, HBl.out.trans (hB4.mono HBl.out.size)⟩
              case measure => simp [intOf]; omega
            · have hck1 : cS = 0 := by omega
              subst hck1
              go_wp2_with (first
                | (at_builtin; refine wpList_append_own _ rfl (.tmp 32) (.tmp 35) 40 rfl wl.heap.size 23 il (.agg #[.int .i64 0, .int .i64 0]) 2 16 Try.underlying40 hi hz0 hz1 hz2 rfl (by decide) (.slice none 0 0) 0 [] rfl (World.ownsRow_nil wl _ _ _) ⟨gS, 0, none⟩ 0 0 (flatL (m.take 0)) rfl (by rw [flatL_len, List.length_take]; omega) (hFCl.out.take 0) (flatL_one _) (by unfold maxLen; omega) (by omega) (Nat.le_refl _) ?_; intro v2 w2 hown2 hgrow2 _; have hB2 : Below wl.heap.size wl w2 := (Below.refl _ wl).grown hgrow2 (Nat.le_refl _) (fun j hj => by cases hj); obtain ⟨c0, c1⟩ := CLl.out _ hB2)
                | (at_builtin; refine wpList_append_own _ rfl (.tmp 37) (.tmp 42) 40 rfl wl.heap.size 23 il (.agg #[.int .i64 0, .int .i64 0]) 2 16 Try.underlying40 hi hz0 hz1 hz2 rfl (by decide) v2 _ _ rfl (hown2.alloc _) ⟨w2.heap.size, 0, none⟩ 1 1 [.int .i64 x.1, .int .i64 x.2] rfl rfl (World.news_of_block (cs := #[.int .i64 x.1, .int .i64 x.2]) (t := 23) (fr := (0, 0)) (heap_alloc_new w2 _)) (by simp [Value.oneCell']) (by unfold maxLen; omega) (by omega) (by have := hB2.size; simp; omega) ?_; intro v3 w3 hown3 hgrow3 _; have hB3 : Below wl.heap.size wl w3 := (hB2.alloc hB2.size _).grown hgrow3 (by have := hB2.size; simp; omega) (fun j hj => (hown2.lt j hj).1))
                | (at_builtin; refine wpList_append_own _ rfl (.tmp 44) (.tmp 47) 40 rfl wl.heap.size 23 il (.agg #[.int .i64 0, .int .i64 0]) 2 16 Try.underlying40 hi hz0 hz1 hz2 rfl (by decide) v3 _ _ rfl hown3 ⟨gS, 0, none⟩ 0 0 (flatL (m.drop 0)) rfl (by rw [flatL_len, List.length_drop]; omega) (fun i u hu => by rw [List.drop_eq_nil_of_le (by omega)] at hu; simp [flatL] at hu) (flatL_one _) (by unfold maxLen; omega) (by omega) hB3.size ?_; intro v4 w4 hown4 hgrow4 _; have hB4 : Below wl.heap.size wl w4 := hB3.grown hgrow4 hB3.size (fun j hj => (hown3.lt j hj).1)))
              go_roundw
              case rel => exact ⟨i + 1, putAt m 0 x, v4, rfl, by omega, by go_num, (putAt_perm m 0 x).trans (by rw [HTK.out]; exact List.Perm.append_right _ HMP.out), HPS.out, owns_weakF (own_put0 (k := 0) (by omega) hown4) HBl.out.size, HBl.out.trans (hB4.mono HBl.out.size)⟩
              case measure => simp [intOf]; omega
          · obtain ⟨q, rfl⟩ : ∃ q, k = q + 1 := ⟨k - 1, by omega⟩
            obtain ⟨y, hy⟩ : ∃ y, m[q]? = some y := ⟨_, List.getElem?_eq_getElem (by omega)⟩
            obtain ⟨d0, d1⟩ := hFC.out.zero hy
            have hvy := HVM.out.get hy
            have RC := Lib.hid (fun W => rcmp_w (HVX.out.w2) (hvy.w2) W)
            obtain ⟨r, hr⟩ : ∃ r, cmpR x.1 x.2 y.1 y.2 = r := ⟨_, rfl⟩
            rw [hr] at RC
            have hgw2 := hgw
            have keep : ∀ W, Below wr.heap.size wr W → W.cell? ⟨g, off + i * 2, none⟩ = some (.int .i64 x.1) ∧ W.cell? ⟨g, off + i * 2 + 1, none⟩ = some (.int .i64 x.2) ∧ W.cell? ⟨gS, q * 2, none⟩ = some (.int .i64 y.1) ∧ W.cell? ⟨gS, q * 2 + 1, none⟩ = some (.int .i64 y.2) := fun W hb =>
              ⟨(CL.out W hb).1, (CL.out W hb).2, (hb.cell (p := ⟨gS, q * 2, none⟩) hgw).trans d0, (hb.cell (p := ⟨gS, q * 2 + 1, none⟩) hgw).trans d1⟩
            have Keep := Lib.hid keep
            have RC2 := Lib.hid (fun (W : World) (hb : Below wr.heap.size wr W) => (RC.out W).mono fun e w' (h : _ ∧ _) => (⟨h.1, below_st hb h.2⟩ : _ ∧ Below wr.heap.size wr w'))
            have h00 := Below.refl wr.heap.size wr
            have h0d : Below wr.heap.size wr wr.drew := h00.drew
            have kd : decide ((0 : Int) < ((q + 1 : Nat) : Int)) = true := decide_eq_true (by omega)
            have q0 : (0 : Int) ≤ (q : Int) := by omega
            have q1 : (q : Int) < (m.length : Int) := by omega
            have q2 : (q : Int) ≤ 1000 := by omega
            have qw0 : IntKind.i64.wrap (q : Int) = (q : Int) := by rw [IntKind.wrap_i64]; omega
            have qw1 : IntKind.i64.wrap (((q + 1 : Nat) : Int) - 1) = (q : Int) := by rw [IntKind.wrap_i64]; omega
            have qw : IntKind.i64.wrap ((q : Int) + 1 - 1) = (q : Int) := by rw [IntKind.wrap_i64]; omega
            have HRY := Lib.hid hy
            have HRR := Lib.hid hr
            clear hy hr keep hk0 RC
            by_cases hr0 : r < 0
            · have HUP2 := Lib.hid (show ∀ j z, q ≤ j → m[j]? = some z → cmpR x.1 x.2 z.1 z.2 < 0 by
                intro j z h1 h2
                by_cases e : j = q
                · subst e; rw [HRY.out] at h2; cases h2; rw [HRR.out]; exact hr0
                · exact HUP.out j z (by omega) h2)
              go_wp2_with fail
              go_region_held3 (fun W => W.cell? ⟨g, off + i * 2, none⟩ = some (.int .i64 x.1) ∧ W.cell? ⟨g, off + i * 2 + 1, none⟩ = some (.int .i64 x.2) ∧ W.cell? ⟨gS, q * 2, none⟩ = some (.int .i64 y.1) ∧ W.cell? ⟨gS, q * 2 + 1, none⟩ = some (.int .i64 y.2)) (exact Keep.out _ (by with_reducible assumption)) (first | (go_at_call 31; (with_reducible refine (RC2.out _ (by with_reducible assumption)).mono ?_); rintro e w' ⟨rfl, hb⟩; obtain ⟨c0, c1, d0, d1⟩ := Keep.out _ hb))
              all_goals
                go_wp2
                go_roundw
                case rel => exact ⟨q, by omega, by go_num, HUP2.out, below_st HBo.out (by with_reducible assumption)⟩
                case measure => simp [intOf] <;> omega
            · have HPS := Lib.hid (putAt_srt (k := q + 1) HMS.out HVM.out HVX.out (by omega) (fun z h h2 => by rw [Nat.add_sub_cancel, HRY.out] at h2; cases h2; rw [HRR.out]; exact hr0) HUP.out)
              go_wp2_with fail
              go_region_held3 (fun W => W.cell? ⟨g, off + i * 2, none⟩ = some (.int .i64 x.1) ∧ W.cell? ⟨g, off + i * 2 + 1, none⟩ = some (.int .i64 x.2) ∧ W.cell? ⟨gS, q * 2, none⟩ = some (.int .i64 y.1) ∧ W.cell? ⟨gS, q * 2 + 1, none⟩ = some (.int .i64 y.2)) (exact Keep.out _ (by with_reducible assumption)) (first | (go_at_call 31; (with_reducible refine (RC2.out _ (by with_reducible assumption)).mono ?_); rintro e w' ⟨rfl, hb⟩; obtain ⟨c0, c1, d0, d1⟩ := Keep.out _ hb))
              obtain ⟨wl, hwl⟩ : ∃ wl : World, w' = wl := ⟨_, rfl⟩
              have hBl : Below wr.heap.size wr wl := by rw [← hwl]; with_reducible assumption
              rw [hwl]
              have hFCl := Lib.hid (hFC.out.below hgw hBl)
              have hgl : gS < wl.heap.size := Nat.lt_of_lt_of_le hgw hBl.size
              have HBl := Lib.hid (below_st HBL.out hBl)
              have CLl := Lib.hid (fun W (hb : Below wl.heap.size wl W) => CL.out W (below_st hBl hb))
              obtain ⟨c0, c1⟩ := CLl.out wl (Below.refl _ _)
              clear hBl
              by_cases hck : (q + 1) < cS
              · have hck1 : (((q + 1) : Nat) : Int) < (cS : Int) := by omega
                go_wp2_with (first
                  | (at_builtin; refine wpList_append_own _ rfl (.tmp 32) (.tmp 35) 40 rfl wl.heap.size 23 il (.agg #[.int .i64 0, .int .i64 0]) 2 16 Try.underlying40 hi hz0 hz1 hz2 rfl (by decide) (.slice none 0 0) 0 [] rfl (World.ownsRow_nil wl _ _ _) ⟨gS, 0, none⟩ (q + 1) cS (flatL (m.take (q + 1))) rfl (by rw [flatL_len, List.length_take]; omega) (hFCl.out.take (q + 1)) (flatL_one _) (by unfold maxLen; omega) (by omega) (Nat.le_refl _) ?_; intro v2 w2 hown2 hgrow2 _; have hB2 : Below wl.heap.size wl w2 := (Below.refl _ wl).grown hgrow2 (Nat.le_refl _) (fun j hj => by cases hj); obtain ⟨c0, c1⟩ := CLl.out _ hB2)
                  | (at_builtin; refine wpList_append_own _ rfl (.tmp 37) (.tmp 42) 40 rfl wl.heap.size 23 il (.agg #[.int .i64 0, .int .i64 0]) 2 16 Try.underlying40 hi hz0 hz1 hz2 rfl (by decide) v2 _ _ rfl (hown2.alloc _) ⟨w2.heap.size, 0, none⟩ 1 1 [.int .i64 x.1, .int .i64 x.2] rfl rfl (World.news_of_block (cs := #[.int .i64 x.1, .int .i64 x.2]) (t := 23) (fr := (0, 0)) (heap_alloc_new w2 _)) (by simp [Value.oneCell']) (by unfold maxLen; omega) (by omega) (by have := hB2.size; simp; omega) ?_; intro v3 w3 hown3 hgrow3 _; have hB3 : Below wl.heap.size wl w3 := (hB2.alloc hB2.size _).grown hgrow3 (by have := hB2.size; simp; omega) (fun j hj => (hown2.lt j hj).1))
                  | (at_builtin; refine wpList_append_own _ rfl (.tmp 44) (.tmp 47) 40 rfl wl.heap.size 23 il (.agg #[.int .i64 0, .int .i64 0]) 2 16 Try.underlying40 hi hz0 hz1 hz2 rfl (by decide) v3 _ _ rfl hown3 ⟨gS, (q + 1) * 2, none⟩ (m.length - (q + 1)) (cS - (q + 1)) (flatL (m.drop (q + 1))) rfl (by rw [flatL_len, List.length_drop]; omega) ((hFCl.out.below hgl hB3).drop (q + 1)) (flatL_one _) (by unfold maxLen; omega) (by omega) hB3.size ?_; intro v4 w4 hown4 hgrow4 _; have hB4 : Below wl.heap.size wl w4 := hB3.grown hgrow4 hB3.size (fun j hj => (hown3.lt j hj).1)))
                go_roundw
                case rel => exact ⟨i + 1, putAt m (q + 1) x, v4, rfl, by omega, by go_num, (putAt_perm m (q + 1) x).trans (by rw [HTK.out]; exact List.Perm.append_right _ HMP.out), HPS.out, owns_weakF (own_put (k := (q + 1)) (by omega) hown4) HBl.out.size, HBl.out.trans (hB4.mono HBl.out.size)⟩
                case measure => simp [intOf]; omega
              · have hck1 : cS = (q + 1) := by omega
                subst hck1
                go_wp2_with (first
                  | (at_builtin; refine wpList_append_own _ rfl (.tmp 32) (.tmp 35) 40 rfl wl.heap.size 23 il (.agg #[.int .i64 0, .int .i64 0]) 2 16 Try.underlying40 hi hz0 hz1 hz2 rfl (by decide) (.slice none 0 0) 0 [] rfl (World.ownsRow_nil wl _ _ _) ⟨gS, 0, none⟩ (q + 1) (q + 1) (flatL (m.take (q + 1))) rfl (by rw [flatL_len, List.length_take]; omega) (hFCl.out.take (q + 1)) (flatL_one _) (by unfold maxLen; omega) (by omega) (Nat.le_refl _) ?_; intro v2 w2 hown2 hgrow2 _; have hB2 : Below wl.heap.size wl w2 := (Below.refl _ wl).grown hgrow2 (Nat.le_refl _) (fun j hj => by cases hj); obtain ⟨c0, c1⟩ := CLl.out _ hB2)
                  | (at_builtin; refine wpList_append_own _ rfl (.tmp 37) (.tmp 42) 40 rfl wl.heap.size 23 il (.agg #[.int .i64 0, .int .i64 0]) 2 16 Try.underlying40 hi hz0 hz1 hz2 rfl (by decide) v2 _ _ rfl (hown2.alloc _) ⟨w2.heap.size, 0, none⟩ 1 1 [.int .i64 x.1, .int .i64 x.2] rfl rfl (World.news_of_block (cs := #[.int .i64 x.1, .int .i64 x.2]) (t := 23) (fr := (0, 0)) (heap_alloc_new w2 _)) (by simp [Value.oneCell']) (by unfold maxLen; omega) (by omega) (by have := hB2.size; simp; omega) ?_; intro v3 w3 hown3 hgrow3 _; have hB3 : Below wl.heap.size wl w3 := (hB2.alloc hB2.size _).grown hgrow3 (by have := hB2.size; simp; omega) (fun j hj => (hown2.lt j hj).1))
                  | (at_builtin; refine wpList_append_own _ rfl (.tmp 44) (.tmp 47) 40 rfl wl.heap.size 23 il (.agg #[.int .i64 0, .int .i64 0]) 2 16 Try.underlying40 hi hz0 hz1 hz2 rfl (by decide) v3 _ _ rfl hown3 ⟨gS, 0, none⟩ 0 0 (flatL (m.drop (q + 1))) rfl (by rw [flatL_len, List.length_drop]; omega) (fun i u hu => by rw [List.drop_eq_nil_of_le (by omega)] at hu; simp [flatL] at hu) (flatL_one _) (by unfold maxLen; omega) (by omega) hB3.size ?_; intro v4 w4 hown4 hgrow4 _; have hB4 : Below wl.heap.size wl w4 := hB3.grown hgrow4 hB3.size (fun j hj => (hown3.lt j hj).1)))
                go_roundw
                case rel => exact ⟨i + 1, putAt m (q + 1) x, v4, rfl, by omega, by go_num, (putAt_perm m (q + 1) x).trans (by rw [HTK.out]; exact List.Perm.append_right _ HMP.out), HPS.out, owns_weakF (own_put0 (k := (q + 1)) (by omega) hown4) HBl.out.size, HBl.out.trans (hB4.mono HBl.out.size)⟩
                case measure => simp [intOf]; omega
    · obtain rfl : i = l.length := by omega
      have HO := Lib.hid hown
      have hp := HMP.out
      rw [List.take_length] at hp
      have HP := Lib.hid hp
      clear hown hp
      go_wp2
      go_ret
      exact ⟨sb, m, rfl, HP.out, HMS.out, HO.out, hB⟩
end Go.Proofs.Yteppamchbgnlfaa
