/- The walk of LexerLabels. Conditions: the table of symbols as the program lays it. -/
import Derived.Test.YtpmndopcemdniaaDoorTLabM
import Derived.Test.YtpmndopcemdniaaDoorLSet
import Derived.Test.YtpmndopcemdniaaDoorTSame
namespace Go.Proofs.YtpmndopcemdniaaDoor
open Go.RowKit

def lsL (it : List L2) : List (List UInt8 × List UInt8) := it.map fun t => (t.1.data.toList, t.2.data.toList)
theorem labB_join : ∀ it : List L2, Lib.join ((els it).map (·.data.toList)) [44] = labB (lsL it)
  | [] => rfl
  | [t] => by simp [els, lsL, labB, elS, Lib.join_one]
  | t :: u :: r => by
    have ih := labB_join (u :: r)
    have e : Lib.join ((els (t :: u :: r)).map (·.data.toList)) [44] = (elS t.1 t.2).data.toList ++ ([44] ++ Lib.join ((els (u :: r)).map (·.data.toList)) [44]) := by
      simp only [els, List.map_cons]
      rw [Lib.join_cons, Lib.join_cons]
      simp [Lib.joinTail]
    rw [e, ih]
    simp [lsL, labB, elS]
theorem textB_list (it : List L2) : (textB it).data.toList = 123 :: (labB (lsL it) ++ [125]) := by
  unfold textB
  rw [labB_join]
  simp
theorem inL_of {it : List L2} (h : SetOf 6 it) : InL (lsL it) := by
  have e1 : namesL.map (·.data.toList) = nmL := rfl
  have e2 : valuesL.map (·.data.toList) = vlL := rfl
  intro t ht
  obtain ⟨x, hx, rfl⟩ := List.mem_map.1 ht
  obtain ⟨h1, h2⟩ := h.2.2 x hx
  exact ⟨e1 ▸ List.mem_map_of_mem (f := (·.data.toList)) (List.mem_of_mem_take h1), e2 ▸ List.mem_map_of_mem (f := (·.data.toList)) h2⟩
theorem sz_of {it : List L2} (h : SetOf 6 it) : Sz it := by
  have e1 : ∀ x ∈ namesL, x.size ≤ 1000 := by decide +kernel
  have e2 : ∀ x ∈ valuesL, x.size ≤ 1000 := by decide +kernel
  exact fun t ht => ⟨e1 _ (List.mem_of_mem_take (h.2.2 t ht).1), e2 _ (h.2.2 t ht).2⟩

/-- The cells of the first token and of the last one. -/
theorem lab_ends {it : List (List UInt8 × List UInt8)} {ts : List Tk} {W : World} {p : Option Addr} {M c : Nat} (hL : LabTs it ts) (hN : ts.length = M + 1) (h : TsAt W (.slice p (M + 1) c) ts) :
    ∃ g, p = some ⟨g, 0, none⟩ ∧ g < W.heap.size ∧ Hid (∀ k t, ts[k]? = some t → W.cell? ⟨g, k * 4, none⟩ = some (.int .i64 (t.kind : Int)) ∧ W.cell? ⟨g, k * 4 + 1, none⟩ = some (.string (ba t.text))) ∧
      W.cell? ⟨g, 1, none⟩ = some (.string ⟨#[123]⟩) ∧ W.cell? ⟨g, M * 4 + 1, none⟩ = some (.string ⟨#[125]⟩) := by
  rcases h with ⟨_, h0⟩ | ⟨g, q, hv, hg, hc⟩
  · rw [h0] at hN; cases hN
  · obtain rfl : p = some ⟨g, 0, none⟩ := by simp at hv; exact hv.1
    obtain ⟨t0, f1, f2⟩ := hL.first
    obtain ⟨t1, f3, f4⟩ := hL.last
    rw [hN, Nat.add_sub_cancel] at f3
    have h0 := (hc 0 t0 f1).2.1
    have h1 := (hc M t1 f3).2.1
    rw [f2] at h0
    rw [f4] at h1
    exact ⟨g, rfl, hg, Lib.hid fun k t ht => ⟨(hc k t ht).1, (hc k t ht).2.1⟩, h0, h1⟩

set_option maxRecDepth 100000 in
set_option maxHeartbeats 16000000 in
theorem labs_walk (sv : Value) (zs : List Int) (w : World) (hI : IntsIn w sv zs) (hE : LEnv w) :
    Calls Tryd.prog 9 #[sv] w fun e w' => e = .returned (.bool true) ∧ Below w.heap.size w w' := by
  obtain ⟨⟨a0, c0, hsv, -⟩, -⟩ := id hI
  subst hsv
  go_enter Tryd.func9, Tryd.ntmps9
  go_wp2_with fail
  refine (set_any _ zs w hI).mono ?_
  rintro e w1 ⟨av, it, rfl, hO, hS, hB1⟩
  have hA := LsAt.of_owns hO
  have n6 : it.length ≤ 6 := hS.2.1
  have hsz := textB_size (sz_of hS)
  have HX := Lib.hid (text_any av it w1 hA (by omega) (sz_of hS))
  obtain ⟨ts, hts, hL⟩ := lab_toks (lsL it) (inL_of hS) (by simpa [lsL] using n6)
  have HT := Lib.hid (fun W (h : LEnv W) => tokens_any (textB it) W (by omega) h)
  rw [textB_list, hts] at HT
  have hn := hL.len
  have HL := Lib.hid hL
  have HA := Lib.hid hA
  rw [show (lsL it).length = it.length from List.length_map _] at hn
  obtain ⟨aa, ac, hav, -⟩ := hA.slice
  subst hav
  obtain ⟨n, hnn⟩ : ∃ n, it.length = n := ⟨_, rfl⟩
  obtain ⟨N, hNN⟩ : ∃ N, ts.length = N := ⟨_, rfl⟩
  rw [hnn] at hn n6
  rw [hNN] at hn
  rw [hnn] at HX
  rw [hnn]
  have HN := Lib.hid hNN
  have Hn := Lib.hid hnn
  clear hA hL hts hsz hO hS hI hnn hNN
  have hM := Lib.hid hn
  obtain ⟨M, rfl⟩ : ∃ M, N = M + 1 := ⟨N - 1, by omega⟩
  have bne : ((M : Int) + 1 != 2 + 4 * (n : Int) - min (n : Int) 1) = false := by simp; omega
  have hML : M ≤ 30 := by omega
  have hB1' := hB1
  clear hn
  go_wp2_with (first
    | (go_at_call 24; refine HX.out.mono ?_; rintro e w2 ⟨rfl, hB2⟩)
    | (go_at_call 20; refine (HT.out _ (hE.below (step_low hB1 hB2))).mono ?_; rintro e w3 ⟨v3, rfl, ho3, hB3⟩; have hT3 := tsAt_of ho3; clear ho3; obtain ⟨p3, cp3, hv3⟩ := hT3.slice; rw [HN.out] at hv3; subst hv3; obtain ⟨g, rfl, hg, HC, cf, cl⟩ := lab_ends HL.out HN.out hT3; clear hT3))
  have hW3 := Lib.hid (step_low (step_low hB1 hB2) hB3)
  have HB1 := Lib.hid hB1
  have HB23 := Lib.hid (step_low hB2 hB3)
  clear hB1 hB1' hB2 hB3 HX HT bne cf cl
  go_loopw [7] (fun v wr => ∃ i : Nat, i ≤ n ∧ v = .int .i64 (i : Int) ∧ Below w3.heap.size w3 wr) (fun v _ => n - (intOf v).toNat)
  case atStart => exact ⟨0, Nat.zero_le _, rfl, Below.refl _ _⟩
  case round =>
    obtain ⟨i, hi, rfl, hw⟩ := hrel
    by_cases hlt : i < n
    · have b1 : (i : Int) < (n : Int) := by omega
      obtain ⟨⟨nm, vl⟩, hx⟩ : ∃ x, it[i]? = some x := ⟨_, List.getElem?_eq_getElem (by rw [Hn.out]; exact hlt)⟩
      have hx2 : (lsL it)[i]? = some (nm.data.toList, vl.data.toList) := by unfold lsL; rw [List.getElem?_map, hx]; rfl
      obtain ⟨⟨t1, p1, q1, r1⟩, ⟨t2, p2, r2⟩, ⟨t3, p3, q3, r3⟩, h4⟩ := HL.out.at_ i _ hx2
      rw [show (lsL it).length = n from (List.length_map _).trans Hn.out] at h4
      have hMo := hM.out
      obtain ⟨K, hK⟩ : ∃ K, 1 + 4 * i = K := ⟨_, rfl⟩
      rw [hK] at p1 p2 p3 h4
      have bK : 1 + 4 * (i : Int) = (K : Int) := by omega
      have bK0 : K + 2 ≤ M := by omega
      have bK4 : i + 1 < n → K + 3 ≤ M := fun _ => by omega
      have k1 := (hw.cell (p := ⟨g, K * 4, none⟩) hg).trans (HC.out K t1 p1).1
      have x1 := (hw.cell (p := ⟨g, K * 4 + 1, none⟩) hg).trans (HC.out K t1 p1).2
      have x2 := (hw.cell (p := ⟨g, (K + 1) * 4 + 1, none⟩) hg).trans (HC.out (K + 1) t2 p2).2
      have k3 := (hw.cell (p := ⟨g, (K + 2) * 4, none⟩) hg).trans (HC.out (K + 2) t3 p3).1
      have x3 := (hw.cell (p := ⟨g, (K + 2) * 4 + 1, none⟩) hg).trans (HC.out (K + 2) t3 p3).2
      obtain ⟨K1, hK1⟩ : ∃ k, K + 1 = k := ⟨_, rfl⟩
      obtain ⟨K2, hK2⟩ : ∃ k, K + 2 = k := ⟨_, rfl⟩
      obtain ⟨K3, hK3⟩ : ∃ k, K + 3 = k := ⟨_, rfl⟩
      rw [hK1] at x2
      rw [hK2] at k3 x3 bK0
      rw [hK3] at h4 bK4
      have bK1 : (K : Int) + 1 = (K1 : Int) := by omega
      have bK2 : (K : Int) + 2 = (K2 : Int) := by omega
      have bK3i : (K : Int) + 3 = (K3 : Int) := by omega
      have c0 : (K : Int) < (M : Int) + 1 := by omega
      have c1 : (K1 : Int) < (M : Int) + 1 := by omega
      have c2 : (K2 : Int) < (M : Int) + 1 := by omega
      have d0 : K < M + 1 := by omega
      have d1 : K1 < M + 1 := by omega
      have d2 : K2 < M + 1 := by omega
      rw [q1] at k1
      rw [r1, show ba nm.data.toList = nm from ba_of nm] at x1
      rw [r2, show ba [61] = ⟨#[61]⟩ from rfl] at x2
      rw [q3] at k3
      rw [r3, show ba vl.data.toList = vl from ba_of vl] at x3
      rcases HA.out with ⟨_, h0⟩ | ⟨gl, off, cl, hav, hcl, hgl, hcs⟩
      · rw [h0] at hx; simp at hx
      obtain rfl : aa = some ⟨gl, off, none⟩ := by simp at hav; exact hav.1
      have hgl3 : gl < w3.heap.size := Nat.lt_of_lt_of_le hgl HB23.out.size
      have y1 := (hw.cell (p := ⟨gl, off + i * 2, none⟩) hgl3).trans ((HB23.out.cell (p := ⟨gl, off + i * 2, none⟩) hgl).trans (hcs i nm vl hx).1)
      have y2 := (hw.cell (p := ⟨gl, off + i * 2 + 1, none⟩) hgl3).trans ((HB23.out.cell (p := ⟨gl, off + i * 2 + 1, none⟩) hgl).trans (hcs i nm vl hx).2)
      replace k1 : wr.cell? ⟨g, K * 4, none⟩ = some (.int .i64 0) := k1
      replace k3 : wr.cell? ⟨g, K2 * 4, none⟩ = some (.int .i64 2) := k3
      clear hx hx2 p1 p2 p3 q1 q3 r1 r2 r3 hav hcl hcs hMo hK hK1 hK2
      by_cases hl : i + 1 < n
      · obtain ⟨t4, p4, r4⟩ := h4 hl
        have x4 := (hw.cell (p := ⟨g, K3 * 4 + 1, none⟩) hg).trans (HC.out K3 t4 p4).2
        rw [r4, show ba [44] = ⟨#[44]⟩ from rfl] at x4
        have bl : (i : Int) + 1 < (n : Int) := by omega
        have c3 : (K3 : Int) < (M : Int) + 1 := by have := bK4 hl; omega
        have d3 : K3 < M + 1 := by have := bK4 hl; omega
        clear p4 r4 h4 bK4 hK3
        go_wp2
        go_quiet (fail)
        go_wp2
        go_roundw
        case measure => simp [intOf]; omega
        case rel => exact ⟨i + 1, by omega, by go_num, below_draw hw _⟩
      · have bl : ¬ (i : Int) + 1 < (n : Int) := by omega
        clear h4 bK4 hK3 bK3i
        go_wp2
        go_quiet (fail)
        go_wp2
        go_roundw
        case measure => simp [intOf]; omega
        case rel => exact ⟨i + 1, by omega, by go_num, below_draw hw _⟩
    · have b1 : ¬ (i : Int) < (n : Int) := by omega
      go_wp2_with (go_at_call 14; refine (lives_any _ (hE.below (step_low hW3.out hw))).mono ?_; rintro e w5 ⟨rfl, hB5⟩)
      go_ret
      exact ⟨rfl, step_low (step_low hW3.out hw) hB5⟩
end Go.Proofs.YtpmndopcemdniaaDoor
