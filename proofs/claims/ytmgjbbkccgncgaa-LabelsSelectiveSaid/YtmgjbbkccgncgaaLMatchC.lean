/- Contracts of Match and of its reference. Conditions: lists of bounded length. -/
import Derived.Test.YtmgjbbkccgncgaaLHolds
namespace Go.Proofs.Ytmgjbbkccgncgaa
open Go.RowKit

theorem match_no {it : List L2} {ms : List M3} {k : Nat} {n v : ByteArray} {q : Int} (hk : ms[k]? = some (n, q, v)) (hf : holdsB q v (getL it n) = false) : matchB it ms = false := by
  unfold matchB
  apply Bool.eq_false_iff.2
  intro h
  have := List.all_eq_true.1 h _ (List.mem_of_getElem? hk)
  rw [hf] at this
  cases this
theorem match_snoc {it : List L2} {ms : List M3} {k : Nat} {n v : ByteArray} {q : Int} (h : matchB it (ms.take k) = true) (hk : ms[k]? = some (n, q, v)) (hf : holdsB q v (getL it n) = true) : matchB it (ms.take (k + 1)) = true := by
  unfold matchB at h ⊢
  rw [List.take_add_one, hk, List.all_append, h]
  simp [hf]
theorem kinds4 (k : Int) : k = 0 ∨ k = 1 ∨ k = 2 ∨ (k ≠ 0 ∧ k ≠ 1 ∧ k ≠ 2) := by omega
theorem later3 {P : Program} {f : Nat} {args : Array Value} {x : Value} {w0 W : World} (hW : Below w0.heap.size w0 W) (h : Calls P f args W fun e w' => e = .returned x ∧ Below W.heap.size W w') : Calls P f args W fun e w' => e = .returned x ∧ Below w0.heap.size w0 w' :=
  h.mono fun _ _ ⟨he, hb⟩ => ⟨he, below_st hW hb⟩

set_option maxRecDepth 100000 in
set_option maxHeartbeats 8000000 in
theorem match_any (sv mv : Value) (it : List L2) (ms : List M3) (w : World) (hI : LsAt w sv it) (hM : MsAt w mv ms) (hlen : it.length ≤ 1000) (hm : ms.length ≤ 1000) :
    Calls Try.prog 36 #[sv, mv] w fun e w' => e = .returned (.bool (matchB it ms)) ∧ Below w.heap.size w w' := by
  obtain ⟨a, c, rfl, -⟩ := hI.slice
  obtain ⟨b, d, rfl⟩ := hM.slice
  have HI := Lib.hid hI
  have HM := Lib.hid hM
  clear hI hM
  go_enter Try.func36, Try.ntmps36
  go_wp2
  go_loopw [9] (fun i wr => ∃ k : Nat, k ≤ ms.length ∧ i = .int .i64 k ∧ matchB it (ms.take k) = true ∧ Below w.heap.size w wr) (fun i _ => ms.length - (intOf i).toNat)
  case atStart => exact ⟨0, Nat.zero_le _, rfl, rfl, Below.refl _ _⟩
  case round =>
    obtain ⟨k, hk, rfl, hT, hB⟩ := hrel
    have HT := Lib.hid hT
    have HB := Lib.hid hB
    clear hT
    by_cases hlt : k < ms.length
    · obtain ⟨n, q, v, hj⟩ := matcher_at hlt
      obtain ⟨g, rfl, hgs, c0, c1, c2⟩ := (HM.out.below hB).get hj
      obtain ⟨u, hu⟩ : ∃ u, getL it n = u := ⟨_, rfl⟩
      have HR := Lib.hid (show (holdsB q v u = true → matchB it (ms.take (k + 1)) = true) ∧ (holdsB q v u = false → matchB it ms = false) from by
        rw [← hu]
        exact ⟨match_snoc HT.out hj, match_no hj⟩)
      have i0 : (0 : Int) ≤ (k : Int) := by omega
      have i1 : (k : Int) < (ms.length : Int) := by omega
      clear hj hB
      obtain ⟨x, hx⟩ : ∃ x, holdsB q v u = x := ⟨_, rfl⟩
      rw [hx] at HR
      go_wp2_with fail
      obtain ⟨wq, hwq⟩ : ∃ wq : World, wr.alloc (.cells #[.string n, .int .i64 q, .string v] 24) = wq := ⟨_, rfl⟩
      have hA := Blk.new wr 24 #[.string n, .int .i64 q, .string v]
      have hBq := HB.out.alloc HB.out.size (.cells #[.string n, .int .i64 q, .string v] 24)
      have hsz : wr.heap.size < wq.heap.size := by rw [← hwq]; simp
      rw [hwq] at hA hBq ⊢
      clear hwq c0 c1 c2 hgs
      have d0 : wq.cell? ⟨wr.heap.size, 0, none⟩ = some (.string n) := hA.cell 0
      have d1 : wq.cell? ⟨wr.heap.size, 1, none⟩ = some (.int .i64 q) := hA.cell 1
      have d2 : wq.cell? ⟨wr.heap.size, 2, none⟩ = some (.string v) := hA.cell 2
      have HBq := Lib.hid hBq
      have keep : ∀ W : World, Below wq.heap.size wq W → W.cell? ⟨wr.heap.size, 0, none⟩ = some (.string n) ∧ W.cell? ⟨wr.heap.size, 1, none⟩ = some (.int .i64 q) ∧ W.cell? ⟨wr.heap.size, 2, none⟩ = some (.string v) := fun W hb => ⟨(hb.cell (p := ⟨wr.heap.size, 0, none⟩) hsz).trans d0, (hb.cell (p := ⟨wr.heap.size, 1, none⟩) hsz).trans d1, (hb.cell (p := ⟨wr.heap.size, 2, none⟩) hsz).trans d2⟩
      have Keep := Lib.hid keep
      have hG : ∀ W : World, Below wq.heap.size wq W → Calls Try.prog 25 #[.slice a it.length c, .string n] W fun e w' => e = .returned (.string u) ∧ Below wq.heap.size wq w' := fun W hb => by
        rw [← hu]
        exact later3 hb (get_any _ c it n W ((HI.out.below HBq.out).below hb) (by omega))
      have hH : ∀ W : World, Below wq.heap.size wq W → Calls Try.prog 57 #[.agg #[.string n, .int .i64 q, .string v], .string u] W fun e w' => e = .returned (.bool x) ∧ Below wq.heap.size wq w' := fun W hb => by
        rw [← hx]
        exact later3 hb (holds_any n v u q W (kinds4 q))
      have G1 := Lib.hid hG
      have H1 := Lib.hid hH
      have h00 := Below.refl wq.heap.size wq
      have h0d : Below wq.heap.size wq wq.drew := h00.drew
      clear hG hH keep hA hBq hu hx
      cases x
      all_goals
        go_region_held3 (fun W => W.cell? ⟨wr.heap.size, 0, none⟩ = some (.string n) ∧ W.cell? ⟨wr.heap.size, 1, none⟩ = some (.int .i64 q) ∧ W.cell? ⟨wr.heap.size, 2, none⟩ = some (.string v)) (exact Keep.out _ (by with_reducible assumption))
          (first | (go_at_call 25; (with_reducible refine (G1.out _ (by with_reducible assumption)).mono ?_); rintro e w' ⟨rfl, hb⟩; obtain ⟨d0, d1, d2⟩ := Keep.out _ hb) |
            (go_at_call 57; (with_reducible refine (H1.out _ (by with_reducible assumption)).mono ?_); rintro e w' ⟨rfl, hb⟩; obtain ⟨d0, d1, d2⟩ := Keep.out _ hb))
      · go_wp2
        go_ret
        exact ⟨ret_bool (HR.out.2 (by trivial)).symm, below_st HBq.out (by with_reducible assumption)⟩
      · go_wp2
        go_roundw
        case rel => exact ⟨k + 1, by omega, by go_num, HR.out.1 (by trivial), below_st HBq.out (by with_reducible assumption)⟩
        case measure => simp [intOf]; omega
    · obtain rfl : k = ms.length := by omega
      have HR := Lib.hid (show matchB it ms = true by have := HT.out; rwa [List.take_length] at this)
      go_wp2
      go_ret
      exact ⟨ret_bool HR.out.symm, hB⟩
set_option maxRecDepth 100000 in
set_option maxHeartbeats 8000000 in
theorem refmatch_any (sv mv : Value) (it : List L2) (ms : List M3) (w : World) (hI : LsAt w sv it) (hM : MsAt w mv ms) (hlen : it.length ≤ 1000) (hm : ms.length ≤ 1000) :
    Calls Try.prog 37 #[sv, mv] w fun e w' => e = .returned (.bool (matchB it ms)) ∧ Below w.heap.size w w' := by
  obtain ⟨a, c, rfl, -⟩ := hI.slice
  obtain ⟨b, d, rfl⟩ := hM.slice
  have HI := Lib.hid hI
  have HM := Lib.hid hM
  clear hI hM
  go_enter Try.func37, Try.ntmps37
  go_wp2
  go_loopw [5] (fun i wr => ∃ k : Nat, k ≤ ms.length ∧ i = .int .i64 k ∧ matchB it (ms.take k) = true ∧ Below w.heap.size w wr) (fun i _ => ms.length - (intOf i).toNat)
  case atStart => exact ⟨0, Nat.zero_le _, rfl, rfl, Below.refl _ _⟩
  case round =>
    obtain ⟨k, hk, rfl, hT, hB⟩ := hrel
    have HT := Lib.hid hT
    have HB := Lib.hid hB
    clear hT
    by_cases hlt : k < ms.length
    · obtain ⟨n, q, v, hj⟩ := matcher_at hlt
      obtain ⟨g, rfl, hgs, c0, c1, c2⟩ := (HM.out.below hB).get hj
      obtain ⟨u, hu⟩ : ∃ u, getL it n = u := ⟨_, rfl⟩
      have HR := Lib.hid (show (holdsB q v u = true → matchB it (ms.take (k + 1)) = true) ∧ (holdsB q v u = false → matchB it ms = false) from by
        rw [← hu]
        exact ⟨match_snoc HT.out hj, match_no hj⟩)
      have i0 : (0 : Int) ≤ (k : Int) := by omega
      have i1 : (k : Int) < (ms.length : Int) := by omega
      clear hj hB
      obtain ⟨x, hx⟩ : ∃ x, holdsB q v u = x := ⟨_, rfl⟩
      rw [hx] at HR
      obtain ⟨wq, rfl⟩ : ∃ wq : World, wq = wr := ⟨_, rfl⟩
      have HBq := HB
      have keep : ∀ W : World, Below wq.heap.size wq W → W.cell? ⟨g, k * 3, none⟩ = some (.string n) ∧ W.cell? ⟨g, k * 3 + 1, none⟩ = some (.int .i64 q) ∧ W.cell? ⟨g, k * 3 + 2, none⟩ = some (.string v) := fun W hb => ⟨(hb.cell (p := ⟨g, k * 3, none⟩) hgs).trans c0, (hb.cell (p := ⟨g, k * 3 + 1, none⟩) hgs).trans c1, (hb.cell (p := ⟨g, k * 3 + 2, none⟩) hgs).trans c2⟩
      have Keep := Lib.hid keep
      have hG : ∀ W : World, Below wq.heap.size wq W → Calls Try.prog 26 #[.slice a it.length c, .string n] W fun e w' => e = .returned (.string u) ∧ Below wq.heap.size wq w' := fun W hb => by
        rw [← hu]
        exact later3 hb (refget_any _ c it n W ((HI.out.below HBq.out).below hb) (by omega))
      have hH : ∀ W : World, Below wq.heap.size wq W → Calls Try.prog 58 #[.agg #[.string n, .int .i64 q, .string v], .string u] W fun e w' => e = .returned (.bool x) ∧ Below wq.heap.size wq w' := fun W hb => by
        rw [← hx]
        exact later3 hb (refholds_any n v u q W (kinds4 q))
      have G1 := Lib.hid hG
      have H1 := Lib.hid hH
      have h00 := Below.refl wq.heap.size wq
      have h0d : Below wq.heap.size wq wq.drew := h00.drew
      clear hG hH keep hu hx
      go_wp2_with fail
      cases x
      all_goals
        go_region_held3 (fun W => W.cell? ⟨g, k * 3, none⟩ = some (.string n) ∧ W.cell? ⟨g, k * 3 + 1, none⟩ = some (.int .i64 q) ∧ W.cell? ⟨g, k * 3 + 2, none⟩ = some (.string v)) (exact Keep.out _ (by with_reducible assumption))
          (first | (go_at_call 26; (with_reducible refine (G1.out _ (by with_reducible assumption)).mono ?_); rintro e w' ⟨rfl, hb⟩; obtain ⟨c0, c1, c2⟩ := Keep.out _ hb) |
            (go_at_call 58; (with_reducible refine (H1.out _ (by with_reducible assumption)).mono ?_); rintro e w' ⟨rfl, hb⟩; obtain ⟨c0, c1, c2⟩ := Keep.out _ hb))
      · go_wp2
        go_ret
        exact ⟨ret_bool (HR.out.2 (by trivial)).symm, below_st HBq.out (by with_reducible assumption)⟩
      · go_wp2
        go_roundw
        case rel => exact ⟨k + 1, by omega, by go_num, HR.out.1 (by trivial), below_st HBq.out (by with_reducible assumption)⟩
        case measure => simp [intOf]; omega
    · obtain rfl : k = ms.length := by omega
      have HR := Lib.hid (show matchB it ms = true by have := HT.out; rwa [List.take_length] at this)
      go_wp2
      go_ret
      exact ⟨ret_bool HR.out.symm, hB⟩
end Go.Proofs.Ytmgjbbkccgncgaa
