/- Package interval: Kth. Conditions: at most 12 intervals. -/
import Derived.Test.YteppamchbgnlfaaKth2
import Derived.Test.YteppamchbgnlfaaIs
namespace Go.Proofs.Yteppamchbgnlfaa
open Go.RowKit

/-- The first fractions of a row of n; zeros behind. -/
def padF (m : List F2) (n : Nat) : Array Value := (flatL m ++ List.replicate (2 * (n - m.length)) (Value.int .i64 0)).toArray
theorem padF_full {m : List F2} {n : Nat} (h : m.length = n) : padF m n = flat m := by
  unfold padF flat
  rw [h, Nat.sub_self]
  simp
theorem padF_put {m : List F2} {n : Nat} (h : m.length < n) (x : F2) : ((padF m n).setIfInBounds (m.length * 2) (.int .i64 x.1)).setIfInBounds (m.length * 2 + 1) (.int .i64 x.2) = padF (m ++ [x]) n := by
  have e1 : 2 * (n - m.length) = 2 * (n - (m ++ [x]).length) + 1 + 1 := by simp; omega
  have e2 : flatL (m ++ [x]) = flatL m ++ [Value.int .i64 x.1, Value.int .i64 x.2] := by unfold flatL; rw [List.flatMap_append]; rfl
  have hl := flatL_len m
  unfold padF
  rw [e1, e2, List.replicate_succ, List.replicate_succ]
  simp only [List.setIfInBounds_toArray]
  congr 1
  rw [List.set_append_right _ _ (by omega), List.set_append_right _ _ (by omega), hl, show m.length * 2 - 2 * m.length = 0 by omega, show m.length * 2 + 1 - 2 * m.length = 1 by omega]
  simp
theorem padF_get {m : List F2} {n : Nat} (h : m.length < n) : (padF m n)[m.length * 2]? = some (.int .i64 0) ∧ (padF m n)[m.length * 2 + 1]? = some (.int .i64 0) := by
  have hl := flatL_len m
  unfold padF
  constructor
  · rw [List.getElem?_toArray, List.getElem?_append_right (by omega), List.getElem?_replicate, if_pos (by omega)]
  · rw [List.getElem?_toArray, List.getElem?_append_right (by omega), List.getElem?_replicate, if_pos (by omega)]
theorem padF_size {m : List F2} {n : Nat} (h : m.length ≤ n) : (padF m n).size = 2 * n := by
  have hl := flatL_len m
  unfold padF
  rw [List.size_toArray, List.length_append, List.length_replicate]
  omega

theorem mkF0 (w : World) : (Instr.makeSlice 40 (.int .i64 0) (.int .i64 0)).run Try.prog w = .ok (.slice (some ⟨w.heap.size, 0, none⟩) 0 0) (w.alloc (.cells (padF [] 0) 23)) := by kernel_rfl
theorem mkF1 (w : World) : (Instr.makeSlice 40 (.int .i64 0) (.int .i64 1)).run Try.prog w = .ok (.slice (some ⟨w.heap.size, 0, none⟩) 0 1) (w.alloc (.cells (padF [] 1) 23)) := by kernel_rfl
theorem mkF2 (w : World) : (Instr.makeSlice 40 (.int .i64 0) (.int .i64 2)).run Try.prog w = .ok (.slice (some ⟨w.heap.size, 0, none⟩) 0 2) (w.alloc (.cells (padF [] 2) 23)) := by kernel_rfl
theorem mkF3 (w : World) : (Instr.makeSlice 40 (.int .i64 0) (.int .i64 3)).run Try.prog w = .ok (.slice (some ⟨w.heap.size, 0, none⟩) 0 3) (w.alloc (.cells (padF [] 3) 23)) := by kernel_rfl
theorem mkF4 (w : World) : (Instr.makeSlice 40 (.int .i64 0) (.int .i64 4)).run Try.prog w = .ok (.slice (some ⟨w.heap.size, 0, none⟩) 0 4) (w.alloc (.cells (padF [] 4) 23)) := by kernel_rfl
theorem mkF5 (w : World) : (Instr.makeSlice 40 (.int .i64 0) (.int .i64 5)).run Try.prog w = .ok (.slice (some ⟨w.heap.size, 0, none⟩) 0 5) (w.alloc (.cells (padF [] 5) 23)) := by kernel_rfl
theorem mkF6 (w : World) : (Instr.makeSlice 40 (.int .i64 0) (.int .i64 6)).run Try.prog w = .ok (.slice (some ⟨w.heap.size, 0, none⟩) 0 6) (w.alloc (.cells (padF [] 6) 23)) := by kernel_rfl
theorem mkF7 (w : World) : (Instr.makeSlice 40 (.int .i64 0) (.int .i64 7)).run Try.prog w = .ok (.slice (some ⟨w.heap.size, 0, none⟩) 0 7) (w.alloc (.cells (padF [] 7) 23)) := by kernel_rfl
theorem mkF8 (w : World) : (Instr.makeSlice 40 (.int .i64 0) (.int .i64 8)).run Try.prog w = .ok (.slice (some ⟨w.heap.size, 0, none⟩) 0 8) (w.alloc (.cells (padF [] 8) 23)) := by kernel_rfl
theorem mkF9 (w : World) : (Instr.makeSlice 40 (.int .i64 0) (.int .i64 9)).run Try.prog w = .ok (.slice (some ⟨w.heap.size, 0, none⟩) 0 9) (w.alloc (.cells (padF [] 9) 23)) := by kernel_rfl
theorem mkF10 (w : World) : (Instr.makeSlice 40 (.int .i64 0) (.int .i64 10)).run Try.prog w = .ok (.slice (some ⟨w.heap.size, 0, none⟩) 0 10) (w.alloc (.cells (padF [] 10) 23)) := by kernel_rfl
theorem mkF11 (w : World) : (Instr.makeSlice 40 (.int .i64 0) (.int .i64 11)).run Try.prog w = .ok (.slice (some ⟨w.heap.size, 0, none⟩) 0 11) (w.alloc (.cells (padF [] 11) 23)) := by kernel_rfl
theorem mkF12 (w : World) : (Instr.makeSlice 40 (.int .i64 0) (.int .i64 12)).run Try.prog w = .ok (.slice (some ⟨w.heap.size, 0, none⟩) 0 12) (w.alloc (.cells (padF [] 12) 23)) := by kernel_rfl
theorem mkF (n : Nat) (hn : n ≤ 12) (w : World) : (Instr.makeSlice 40 (.int .i64 0) (.int .i64 (n : Int))).run Try.prog w = .ok (.slice (some ⟨w.heap.size, 0, none⟩) 0 n) (w.alloc (.cells (padF [] n) 23)) := by
  have h : n = 0 ∨ n = 1 ∨ n = 2 ∨ n = 3 ∨ n = 4 ∨ n = 5 ∨ n = 6 ∨ n = 7 ∨ n = 8 ∨ n = 9 ∨ n = 10 ∨ n = 11 ∨ n = 12 := by omega
  rcases h with rfl | rfl | rfl | rfl | rfl | rfl | rfl | rfl | rfl | rfl | rfl | rfl | rfl
  · exact mkF0 w
  · exact mkF1 w
  · exact mkF2 w
  · exact mkF3 w
  · exact mkF4 w
  · exact mkF5 w
  · exact mkF6 w
  · exact mkF7 w
  · exact mkF8 w
  · exact mkF9 w
  · exact mkF10 w
  · exact mkF11 w
  · exact mkF12 w
theorem K3.app2 {w W : World} {g1 g2 n : Nat} {l m : List F2} (hl : l.length < n) (hm : m.length = l.length) (h : K3 w W g1 g2 (padF l n) (padF m n)) (x y : F2) (o1 o2 : Obj) :
    K3 w (((((((W.setCell ⟨g1, l.length * 2, none⟩ (.int .i64 x.1)).setCell ⟨g1, l.length * 2 + 1, none⟩ (.int .i64 x.2)).setCell ⟨g2, l.length * 2, none⟩ (.int .i64 y.1)).setCell ⟨g2, l.length * 2 + 1, none⟩ (.int .i64 y.2)).alloc o1).alloc o2).drew) g1 g2 (padF (l ++ [x]) n) (padF (m ++ [y]) n) := by
  have k := h.app (l.length * 2) (l.length * 2 + 1) (.int .i64 x.1) (.int .i64 x.2) (.int .i64 y.1) (.int .i64 y.2) o1 o2
  rw [padF_put hl] at k
  rw [← hm, padF_put (by omega), hm] at k
  exact k
theorem kthR_out {l : List I4} {k : Int} (h : k < 1 ∨ (l.length : Int) < k) : kthR l k = (0, 0, 0, 0, 1) := by
  unfold kthR
  rw [if_pos]
  rcases h with h | h
  · exact .inl h
  · exact .inr (.inl h)
theorem kthR_bad {l : List I4} {k : Int} {x : I4} (hx : x ∈ l) (h : ¬ vX x) : kthR l k = (0, 0, 0, 0, 1) := by
  unfold kthR
  rw [if_pos]
  exact .inr (.inr fun q => h (q x hx))

set_option maxRecDepth 100000 in
set_option maxHeartbeats 8000000 in
theorem ikth_out (a : Option Addr) (n cap : Nat) (k : Int) (w : World) (h : k < 1 ∨ (n : Int) < k) :
    Calls Try.prog 20 #[.slice a n cap, .int .i64 k] w fun e w' => e = .returned (RI (0, 0, 0, 0, 1)) ∧ Below w.heap.size w w' := by
  obtain ⟨hR, hW⟩ := start1 w 25 #[.int .i64 0, .int .i64 0, .int .i64 0, .int .i64 0]
  have fR := hR.frozen
  have r0 := hR.cell 0
  have r1 := hR.cell 1
  have r2 := hR.cell 2
  have r3 := hR.cell 3
  have HR := Lib.hid hR
  have HW := Lib.hid hW
  clear hR hW
  by_cases h1 : k < 1
  · clear h
    go_enter Try.func20, Try.ntmps20
    go_wp2
    exact ret_iv (p := 4) (q := 5) (by kernel_rfl) rfl rfl HR.out ⟨rfl, HW.out⟩
  · have h2 : (n : Int) < k := by omega
    have d1 : decide (k < 1) = false := decide_eq_false h1
    have d2 : decide ((n : Int) < k) = true := decide_eq_true h2
    clear h
    go_enter Try.func20, Try.ntmps20
    go_wp2
    exact ret_iv (p := 4) (q := 5) (by kernel_rfl) rfl rfl HR.out ⟨rfl, HW.out⟩

def WL (L : List I4) : Prop := ∀ x ∈ L, W2 x.1 x.2.1 ∧ W2 x.2.2.1 x.2.2.2
set_option maxRecDepth 100000 in
set_option maxHeartbeats 8000000 in
theorem ikth_in (L : List I4) (n : Nat) (hn : L.length = n) (h12 : n ≤ 12) (hwl : WL L) (a : Option Addr) (cap K : Nat) (hK : K < n) (w : World) (hI : IsAt w (.slice a n cap) L) :
    Calls Try.prog 20 #[.slice a n cap, .int .i64 ((K : Int) + 1)] w fun e w' => e = .returned (RI (kthR L ((K : Int) + 1))) ∧ Below w.heap.size w w' := by
  have HN := Lib.hid hn
  have HI := Lib.hid hI
  have HWL := Lib.hid hwl
  have n1 : (1 : Int) ≤ (n : Int) := by omega
  have n2 : (n : Int) ≤ 12 := by omega
  have k1 : ¬ ((K : Int) + 1 < 1) := by omega
  have k2 : decide ((K : Int) + 1 < 1) = false := decide_eq_false k1
  have k3 : decide ((n : Int) < (K : Int) + 1) = false := decide_eq_false (by omega)
  have k4 : (K : Int) < (n : Int) := by omega
  have k0 : (0 : Int) ≤ (K : Int) := by omega
  have MK := mkF n h12
  clear hn hI hwl
  go_enter Try.func20, Try.ntmps20
  go_upto_region 3 with fail
  go_cut [6, 7] (fun s6 s7 wx => ∃ g1 g2 : Nat, s6 = .slice (some ⟨g1, 0, none⟩) 0 n ∧ s7 = .slice (some ⟨g2, 0, none⟩) 0 n ∧ K3 w wx g1 g2 (padF [] n) (padF [] n))
  case first =>
    go_region
    all_goals
      go_wp2_with fail
      go_meet
    case rel => exact ⟨_, _, rfl, rfl, k3_start w _⟩
    case rel => exact ⟨_, _, rfl, rfl, (k3_start w _).swap⟩
  case rest =>
    obtain ⟨g1, g2, rfl, rfl, hk⟩ := hcut
    clear MK
    have HK0 := Lib.hid hk
    clear hk
    go_wp2_with fail
    go_loopw [6, 7, 27] (fun s6 s7 iv wr => ∃ i : Nat, i ≤ n ∧ iv = .int .i64 i ∧ s6 = .slice (some ⟨g1, 0, none⟩) i n ∧ s7 = .slice (some ⟨g2, 0, none⟩) i n ∧ (∀ x ∈ L.take i, vX x) ∧ K3 w wr g1 g2 (padF (losL (L.take i)) n) (padF (hisL (L.take i)) n)) (fun _ _ iv _ => n - (intOf iv).toNat)
    case atStart => exact ⟨0, Nat.zero_le _, rfl, rfl, rfl, fun x hx => by simp at hx, HK0.out⟩
    case round =>
      obtain ⟨i, hi, rfl, rfl, rfl, hv, hk⟩ := hrel
      clear HK0
      by_cases hlt : i < n
      · obtain ⟨x, hx⟩ : ∃ x, L[i]? = some x := ⟨_, List.getElem?_eq_getElem (by have := HN.out; omega)⟩
        have hwx := HWL.out x (List.mem_of_getElem? hx)
        obtain ⟨g, off, rfl, hgl, c0, c1, c2, c3⟩ := (HI.out.below hk.2.2.2.2.2).get hx
        have V := ivalid_w hwx.1 hwx.2
        have n12 := hk.2.2.2.1
        have n21 : ¬ g2 = g1 := fun e => n12 e.symm
        have i1 : (i : Int) < (n : Int) := by omega
        have i0 : (0 : Int) ≤ (i : Int) := by omega
        have hxm : x ∈ L := List.mem_of_getElem? hx
        obtain ⟨x1, x2, x3, x4⟩ := x
        have hX := Blk.new wr 25 #[.int .i64 x1, .int .i64 x2, .int .i64 x3, .int .i64 x4]
        have hxg : wr.heap.size > g1 ∧ wr.heap.size > g2 ∧ wr.heap.size > w.heap.size := ⟨hk.2.1.lt, hk.2.2.1.lt, hk.1.lt⟩
        replace hk := hk.alloc (.cells #[.int .i64 x1, .int .i64 x2, .int .i64 x3, .int .i64 x4] 25)
        by_cases hvx : vX (x1, x2, x3, x4)
        · rw [show vIB x1 x2 x3 x4 = true from decide_eq_true hvx] at V
          have HTK := Lib.hid (show L.take (i + 1) = L.take i ++ [(x1, x2, x3, x4)] by rw [List.take_add_one, hx]; rfl)
          have hlen : (losL (L.take i)).length = i ∧ (hisL (L.take i)).length = i := by
            unfold losL hisL
            rw [List.length_map, List.length_map, List.length_take]
            have := HN.out
            omega
          have HL := Lib.hid hlen
          have HV := Lib.hid hv
          have HVX := Lib.hid hvx
          replace V := Lib.hid V
          clear hv hvx hwx hx hlen
          go_wp2_with fail
          (with_reducible refine (V.out _).mono ?_)
          rintro e w1 ⟨rfl, hB⟩
          replace hX := hX.below hB hX.lt
          replace hk := hk.below hB
          clear hB c0 c1 c2 c3
          have y0 := hX.cell 0
          have y1 := hX.cell 1
          have y2 := hX.cell 2
          have y3 := hX.cell 3
          have zx := hX.lt
          have hp1 := padF_get (m := losL (L.take i)) (n := n) (by rw [HL.out.1]; exact hlt)
          have hp2 := padF_get (m := hisL (L.take i)) (n := n) (by rw [HL.out.2]; exact hlt)
          rw [HL.out.1] at hp1
          rw [HL.out.2] at hp2
          have a0 := (hk.2.1.cell (i * 2)).trans hp1.1
          have a1 := (hk.2.1.cell (i * 2 + 1)).trans hp1.2
          have fa := hk.2.1.frozen
          have za := hk.2.1.lt
          have b0 := (hk.2.2.1.cell (i * 2)).trans hp2.1
          have b1 := (hk.2.2.1.cell (i * 2 + 1)).trans hp2.2
          have fb := hk.2.2.1.frozen
          have zb := hk.2.2.1.lt
          have n1x : ¬ g1 = wr.heap.size := by omega
          have nx1 : ¬ wr.heap.size = g1 := by omega
          have n2x : ¬ g2 = wr.heap.size := by omega
          have nx2 : ¬ wr.heap.size = g2 := by omega
          have HK := Lib.hid hk
          clear hk hX hp1 hp2
          go_wp2_with fail
          go_region
          all_goals
            go_wp2
            go_roundw
            case rel =>
              refine ⟨i + 1, by omega, by go_num, rfl, rfl, ?_, ?_⟩
              · rw [HTK.out]
                intro x hx
                rcases List.mem_append.1 hx with hx | hx
                · exact HV.out x hx
                · rw [List.mem_singleton.1 hx]; exact HVX.out
              · have j := fun o1 o2 => HK.out.app2 (o1 := o1) (o2 := o2) (by rw [HL.out.1]; exact hlt) (by rw [HL.out.1, HL.out.2]) (x1, x2) (x3, x4)
                simp only [HL.out.1] at j
                rw [HTK.out]
                unfold losL hisL at j ⊢
                rw [List.map_append, List.map_append]
                exact j _ _
            case measure => simp [intOf]; omega
        · rw [show vIB x1 x2 x3 x4 = false from decide_eq_false hvx] at V
          have HBAD := Lib.hid (kthR_bad (k := (K : Int) + 1) hxm hvx)
          replace V := Lib.hid V
          clear hv hvx hwx hx
          go_wp2_with fail
          (with_reducible refine (V.out _).mono ?_)
          rintro e w1 ⟨rfl, hB⟩
          replace hk := hk.below hB
          clear hB c0 c1 c2 c3
          have r0 := hk.1.cell 0
          have r1 := hk.1.cell 1
          have r2 := hk.1.cell 2
          have r3 := hk.1.cell 3
          have fr := hk.1.frozen
          have HK := Lib.hid hk
          clear hk hX
          go_wp2
          have j := put4 HK.out.1 HK.out.2.2.2.2.2 (by omega) 0 0 0 0
          rw [HBAD.out]
          exact ret_iv (p := 4) (q := 5) (by kernel_rfl) rfl rfl j.1 ⟨rfl, j.2⟩
      · obtain rfl : i = n := by omega
        have htk : L.take i = L := List.take_of_length_le (by have := HN.out; omega)
        rw [htk] at hv hk
        have el1 : (losL L).length = i := by unfold losL; rw [List.length_map]; exact HN.out
        have el2 : (hisL L).length = i := by unfold hisL; rw [List.length_map]; exact HN.out
        rw [padF_full el1, padF_full el2] at hk
        have v1 := vl_los hv
        have v2 := vl_his hv
        have S1 := Lib.hid (sort_any (losL L) v1 (by rw [el1]; exact h12) g1 23 i i el1 wr hk.2.1)
        have hk6 := Lib.hid hk
        have HV := Lib.hid hv
        have V1 := Lib.hid v1
        have V2 := Lib.hid v2
        have EL := Lib.hid (And.intro el1 el2)
        clear hk hv v1 v2 el1 el2 htk hlt
        go_wp2_with fail
        (with_reducible refine S1.out.mono ?_)
        rintro e w7 ⟨rfl, m1, hp1, hs1, hA1, hX1⟩
        have e1 : m1 = sortF (losL L) := sortF_eq V1.out hp1 (by rw [hp1.length_eq, EL.out.1]; exact hs1)
        have hk := hk6.out
        have hA2 := hX1.blk hk.2.2.1.lt (fun e => hk.2.2.2.1 e.symm) hk.2.2.1
        have hR := hX1.blk hk.1.lt (by have := hk.2.2.2.2.1; omega) hk.1
        have hW := hk.2.2.2.2.2.trans (hX1.to (C := w.heap.size) hk.2.2.2.2.2.size (by have := hk.2.2.2.2.1; omega))
        have l1 := hk.2.2.2.2.1
        have n12 := hk.2.2.2.1
        have z1 := hA1.lt
        have S2 := Lib.hid (sort_any (hisL L) V2.out (by rw [EL.out.2]; exact h12) g2 23 i i EL.out.2 w7 hA2)
        have HQ := Lib.hid (And.intro hA1 (And.intro hR hW))
        have E1 := Lib.hid (And.intro e1 hp1.length_eq)
        clear hk hk6 hX1 hA1 hA2 hR hW hp1 hs1 e1
        go_wp2_with fail
        (with_reducible refine S2.out.mono ?_)
        rintro e w8 ⟨rfl, m2, hp2, hs2, hA2, hX2⟩
        have e2 : m2 = sortF (hisL L) := sortF_eq V2.out hp2 (by rw [hp2.length_eq, EL.out.2]; exact hs2)
        have hA1 := hX2.blk HQ.out.1.lt n12 HQ.out.1
        have hR := hX2.blk HQ.out.2.1.lt (by omega) HQ.out.2.1
        have hW := HQ.out.2.2.trans (hX2.to (C := w.heap.size) HQ.out.2.2.size (by omega))
        obtain ⟨⟨p1, p2⟩, hp⟩ : ∃ x, m1[K]? = some x := ⟨_, List.getElem?_eq_getElem (by rw [E1.out.2, EL.out.1]; exact hK)⟩
        obtain ⟨⟨q1, q2⟩, hq⟩ : ∃ x, m2[K]? = some x := ⟨_, List.getElem?_eq_getElem (by rw [hp2.length_eq, EL.out.2]; exact hK)⟩
        have hres : kthR L ((K : Int) + 1) = (p1, p2, q1, q2, 0) := by
          unfold kthR
          rw [if_neg, ← e2, ← E1.out.1, show ((K : Int) + 1 - 1).toNat = K by omega, hp, hq]
          · rfl
          · rintro (h | h | h)
            · omega
            · have := HN.out; omega
            · exact h HV.out
        have HRES := Lib.hid hres
        obtain ⟨a2, a3⟩ := hA1.el hp
        obtain ⟨b2, b3⟩ := hA2.el hq
        have r0 := hR.cell 0
        have r1 := hR.cell 1
        have r2 := hR.cell 2
        have r3 := hR.cell 3
        have fr := hR.frozen
        have g1w : ¬ g1 = w.heap.size := by omega
        have g2w : ¬ g2 = w.heap.size := by omega
        have kw : IntKind.i64.wrap ((K : Int) + 1 - 1) = (K : Int) := by rw [IntKind.wrap_i64]; omega
        have HR := Lib.hid (And.intro hR hW)
        clear hA1 hA2 hX2 hR hW hp2 hs2 S1 S2 HQ hp hq hres e2 E1
        go_wp2_with fail
        go_region
        all_goals
          go_wp2
          rw [HRES.out]
          exact ret_iv (p := 4) (q := 5) (by kernel_rfl) rfl rfl (put4 HR.out.1 HR.out.2 (by omega) p1 p2 q1 q2).1.drew ⟨rfl, (put4 HR.out.1 HR.out.2 (by omega) p1 p2 q1 q2).2.drew⟩
end Go.Proofs.Yteppamchbgnlfaa
