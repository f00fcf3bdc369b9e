/- Contracts of Compare and of its reference. Conditions: few labels. -/
import Derived.WalkLawsBesides
import Derived.LoopN
import Derived.Deep.RegionLaw
import Derived.Deep.RegionHeld3
import Derived.Test.YtmgjbbkccgncgaaLGet
import Derived.Test.YtmgjbbkccgncgaaLOrd
namespace Go.Proofs.Ytmgjbbkccgncgaa
open Go.RowKit

/-- The order of two labels; of two lists of labels. -/
def cmpT (s t : L2) : Int := if cmpS s.1 t.1 ≠ 0 then cmpS s.1 t.1 else cmpS s.2 t.2
def cmpL : List L2 → List L2 → Int
  | [], [] => 0
  | [], _ :: _ => -1
  | _ :: _, [] => 1
  | s :: a, t :: b => if cmpT s t ≠ 0 then cmpT s t else cmpL a b
theorem cmpT_self (s : L2) : cmpT s s = 0 := by unfold cmpT; rw [cmpS_self, if_neg (by simp), cmpS_self]
theorem cmpT_zero {s t : L2} (h : cmpT s t = 0) : s = t := by
  unfold cmpT at h
  split at h
  · rename_i h1; exact absurd h h1
  · rename_i h1
    exact Prod.ext (cmpS_zero (by omega)) (cmpS_zero h)
theorem cmpT_anti (s t : L2) : cmpT t s = - cmpT s t := by
  unfold cmpT
  have h1 := cmpS_anti s.1 t.1
  have h2 := cmpS_anti s.2 t.2
  by_cases h : cmpS s.1 t.1 = 0
  · rw [if_neg (by omega), if_neg (by omega), h2]
  · rw [if_pos (by omega), if_pos (by omega), h1]
theorem cmpT_trans {s t u : L2} (h : cmpT s t < 0) (k : cmpT t u < 0) : cmpT s u < 0 := by
  unfold cmpT at *
  by_cases h1 : cmpS s.1 t.1 = 0
  · have e := cmpS_zero h1
    rw [if_neg (by omega)] at h
    rw [e]
    by_cases k1 : cmpS t.1 u.1 = 0
    · rw [if_neg (by omega)] at k
      rw [if_neg (by omega)]
      exact cmpS_trans h k
    · rw [if_pos (by omega)] at k
      rw [if_pos (by omega)]
      exact k
  · rw [if_pos (by omega)] at h
    by_cases k1 : cmpS t.1 u.1 = 0
    · have e := cmpS_zero k1
      rw [← e, if_pos (by omega)]
      exact h
    · rw [if_pos (by omega)] at k
      have := cmpS_trans h k
      rw [if_pos (by omega)]
      exact this
theorem cmpL_self : ∀ a : List L2, cmpL a a = 0
  | [] => rfl
  | s :: a => by rw [cmpL, cmpT_self, if_neg (by simp)]; exact cmpL_self a
theorem cmpL_zero : ∀ {a b : List L2}, cmpL a b = 0 → a = b
  | [], [], _ => rfl
  | [], _ :: _, h => by simp [cmpL] at h
  | _ :: _, [], h => by simp [cmpL] at h
  | s :: a, t :: b, h => by
    rw [cmpL] at h
    by_cases h1 : cmpT s t = 0
    · rw [if_neg (by omega)] at h
      rw [cmpT_zero h1, cmpL_zero h]
    · rw [if_pos h1] at h; exact absurd h h1
theorem cmpL_anti : ∀ a b : List L2, cmpL b a = - cmpL a b
  | [], [] => rfl
  | [], _ :: _ => rfl
  | _ :: _, [] => rfl
  | s :: a, t :: b => by
    rw [cmpL, cmpL, cmpT_anti s t]
    by_cases h1 : cmpT s t = 0
    · rw [if_neg (by omega), if_neg (by omega)]; exact cmpL_anti a b
    · rw [if_pos (by omega), if_pos h1]
theorem cmpL_trans : ∀ {a b c : List L2}, cmpL a b < 0 → cmpL b c < 0 → cmpL a c < 0
  | [], [], _, h, _ => by simp [cmpL] at h
  | [], _ :: _, [], _, k => by simp [cmpL] at k
  | [], _ :: _, _ :: _, _, _ => by simp [cmpL]
  | _ :: _, [], _, h, _ => by simp [cmpL] at h
  | _ :: _, _ :: _, [], _, k => by simp [cmpL] at k
  | s :: a, t :: b, u :: c, h, k => by
    rw [cmpL] at h k ⊢
    by_cases h1 : cmpT s t = 0
    · have e := cmpT_zero h1
      rw [if_neg (by omega)] at h
      rw [e]
      by_cases k1 : cmpT t u = 0
      · rw [if_neg (by omega)] at k
        rw [if_neg (by omega)]
        exact cmpL_trans h k
      · rw [if_pos k1] at k
        rw [if_pos k1]
        exact k
    · rw [if_pos h1] at h
      by_cases k1 : cmpT t u = 0
      · have e := cmpT_zero k1
        rw [← e, if_pos h1]
        exact h
      · rw [if_pos k1] at k
        have := cmpT_trans h k
        rw [if_pos (by omega)]
        exact this
theorem cmpT_range (s t : L2) : cmpT s t = -1 ∨ cmpT s t = 0 ∨ cmpT s t = 1 := by
  unfold cmpT
  split
  · exact cmpS_range _ _
  · exact cmpS_range _ _
theorem cmpL_range : ∀ a b : List L2, cmpL a b = -1 ∨ cmpL a b = 0 ∨ cmpL a b = 1
  | [], [] => .inr (.inl rfl)
  | [], _ :: _ => .inl rfl
  | _ :: _, [] => .inr (.inr rfl)
  | s :: a, t :: b => by
    rw [cmpL]
    split
    · exact cmpT_range s t
    · exact cmpL_range a b
theorem cmpL_hit {a b : List L2} {k : Nat} {s t : L2} (ha : a[k]? = some s) (hb : b[k]? = some t) (h : cmpT s t ≠ 0) : cmpL (a.drop k) (b.drop k) = cmpT s t := by
  obtain ⟨h1, ha⟩ := List.getElem?_eq_some_iff.1 ha
  obtain ⟨h2, hb⟩ := List.getElem?_eq_some_iff.1 hb
  rw [List.drop_eq_getElem_cons h1, List.drop_eq_getElem_cons h2, ha, hb, cmpL, if_pos h]
theorem cmpL_miss {a b : List L2} {k : Nat} {s t : L2} (ha : a[k]? = some s) (hb : b[k]? = some t) (h : cmpT s t = 0) : cmpL (a.drop k) (b.drop k) = cmpL (a.drop (k + 1)) (b.drop (k + 1)) := by
  obtain ⟨h1, ha⟩ := List.getElem?_eq_some_iff.1 ha
  obtain ⟨h2, hb⟩ := List.getElem?_eq_some_iff.1 hb
  rw [List.drop_eq_getElem_cons h1, List.drop_eq_getElem_cons h2, ha, hb, cmpL, if_neg (by omega)]
theorem cmpL_end {a b : List L2} {k : Nat} (h : k = min a.length b.length) : cmpL (a.drop k) (b.drop k) = if a.length < b.length then -1 else if b.length < a.length then 1 else 0 := by
  rcases Nat.lt_trichotomy a.length b.length with h1 | h1 | h1
  · rw [if_pos h1, List.drop_eq_nil_of_le (by omega), List.drop_eq_getElem_cons (show k < b.length by omega)]; rfl
  · rw [if_neg (by omega), if_neg (by omega), List.drop_eq_nil_of_le (by omega), List.drop_eq_nil_of_le (by omega)]; rfl
  · rw [if_neg (by omega), if_pos h1, show b.drop k = [] from List.drop_eq_nil_of_le (by omega), List.drop_eq_getElem_cons (show k < a.length by omega)]; rfl
def orI (x y : Int) : Int := if x ≠ 0 then x else y
theorem cmpT_or (n v n' v' : ByteArray) : cmpT (n, v) (n', v') = orI (cmpS n n') (cmpS v v') := rfl

set_option maxHeartbeats 1000000 in
theorem or_any (x y : Int) (B : Nat) (w : World) (c0 : w.cell? ⟨B, 0, none⟩ = some (.int .i64 x)) (c1 : w.cell? ⟨B, 1, none⟩ = some (.int .i64 y)) :
    Calls Try.prog 52 #[.slice (some ⟨B, 0, none⟩) 2 2] w fun e w' => e = .returned (.int .i64 (orI x y)) ∧ w = w' := by
  by_cases hx : x = 0
  · have HR := Lib.hid (show orI x y = y by unfold orI; rw [if_neg (by omega)])
    have hx1 : (x != 0) = false := by simp [hx]
    clear hx
    by_cases hy : y = 0
    · have HY := Lib.hid hy
      have hy1 : (y != 0) = false := by simp [hy]
      clear hy
      go_enter Try.func52, Try.ntmps52
      go_wp2
      refine wp_loop_rounds 3 ?_
      rw [rounds_succ]
      go_wp2
      rw [rounds_succ]
      go_wp2
      rw [rounds_succ]
      go_wp2
      go_ret
      exact ⟨ret_int (by rw [HR.out, HY.out]), rfl⟩
    · have hy1 : (y != 0) = true := by simp [hy]
      clear hy
      go_enter Try.func52, Try.ntmps52
      go_wp2
      refine wp_loop_rounds 2 ?_
      rw [rounds_succ]
      go_wp2
      rw [rounds_succ]
      go_wp2
      go_ret
      exact ⟨ret_int (by rw [HR.out]), rfl⟩
  · have HR := Lib.hid (show orI x y = x by unfold orI; rw [if_pos hx])
    have hx1 : (x != 0) = true := by simp [hx]
    clear hx
    go_enter Try.func52, Try.ntmps52
    go_wp2
    refine wp_loop_rounds 1 ?_
    rw [rounds_succ]
    go_wp2
    go_ret
    exact ⟨ret_int (by rw [HR.out]), rfl⟩

set_option maxHeartbeats 1000000 in
theorem order_any (a b : ByteArray) (w : World) : Calls Try.prog 54 #[.string a, .string b] w fun e w' => e = .returned (.int .i64 (cmpS a b)) ∧ w = w' := by
  have h1 := less_cmp a b
  have h2 := eq_cmp a b
  rcases cmpS_range a b with h | h | h
  · rw [h] at h1 h2
    have HR := Lib.hid h
    have g1 : Op.bytesLess a.toList b.toList = true := by rw [h1]; rfl
    clear h1 h2 h
    go_enter Try.func54, Try.ntmps54
    go_wp2
    go_ret
    exact ⟨ret_int HR.out.symm, rfl⟩
  · rw [h] at h1 h2
    have HR := Lib.hid h
    have g1 : Op.bytesLess a.toList b.toList = false := by rw [h1]; rfl
    have g2 : (a.toList == b.toList) = true := by rw [h2]; rfl
    clear h1 h2 h
    go_enter Try.func54, Try.ntmps54
    go_wp2
    go_ret
    exact ⟨ret_int HR.out.symm, rfl⟩
  · rw [h] at h1 h2
    have HR := Lib.hid h
    have g1 : Op.bytesLess a.toList b.toList = false := by rw [h1]; rfl
    have g2 : (a.toList == b.toList) = false := by rw [h2]; rfl
    clear h1 h2 h
    go_enter Try.func54, Try.ntmps54
    go_wp2
    go_ret
    exact ⟨ret_int HR.out.symm, rfl⟩

theorem scmp_any (a b : ByteArray) (w : World) : Calls Try.prog 49 #[.string a, .string b] w fun e w' => e = .returned (.int .i64 (cmpS a b)) ∧ w = w' :=
  (Try.strings_Compare a b w).mono fun _ _ ⟨he, hw⟩ => ⟨he, hw.symm⟩
set_option maxRecDepth 100000 in
set_option maxHeartbeats 8000000 in
theorem compare_any (a b : Option Addr) (c d : Nat) (it jt : List L2) (w : World) (hI : LsAt w (.slice a it.length c) it) (hJ : LsAt w (.slice b jt.length d) jt) (hlen : it.length ≤ 1000) (hlen2 : jt.length ≤ 1000) :
    Calls Try.prog 30 #[.slice a it.length c, .slice b jt.length d] w fun e w' => e = .returned (.int .i64 (cmpL it jt)) ∧ Below w.heap.size w w' := by
  have HI := Lib.hid hI
  have HJ := Lib.hid hJ
  clear hI hJ
  obtain ⟨M, hM⟩ : ∃ M : Nat, M = min it.length jt.length := ⟨_, rfl⟩
  have m1 : (min (it.length : Int) (jt.length : Int)) = (M : Int) := by rw [hM]; omega
  have M1 : M ≤ 1000 := by omega
  have HM := Lib.hid hM
  clear hM
  go_enter Try.func30, Try.ntmps30
  go_wp2
  go_loopw [11] (fun i wr => ∃ k : Nat, k ≤ M ∧ i = .int .i64 k ∧ cmpL (it.drop k) (jt.drop k) = cmpL it jt ∧ Below w.heap.size w wr) (fun i _ => M - (intOf i).toNat)
  case atStart => exact ⟨0, Nat.zero_le _, rfl, rfl, Below.refl _ _⟩
  case round =>
    obtain ⟨k, hk, rfl, hc, hB⟩ := hrel
    have HC := Lib.hid hc
    clear hc
    by_cases hlt : k < M
    · obtain ⟨n, v, hi⟩ := label_at (it := it) (k := k) (by have := HM.out; omega)
      obtain ⟨n', v', hj⟩ := label_at (it := jt) (k := k) (by have := HM.out; omega)
      obtain ⟨g, off, rfl, hgs, c0, c1⟩ := (HI.out.below hB).get hi
      obtain ⟨g', off', rfl, hgs', d0, d1⟩ := (HJ.out.below hB).get hj
      have HIk := Lib.hid hi
      have HJk := Lib.hid hj
      have i0 : (0 : Int) ≤ (k : Int) := by omega
      have i1 : (k : Int) < (it.length : Int) := by have := HM.out; omega
      have i2 : (k : Int) < (jt.length : Int) := by have := HM.out; omega
      clear hi hj
      by_cases he : n = n' ∧ v = v'
      · obtain ⟨rfl, rfl⟩ := he
        have HS := Lib.hid (cmpL_miss HIk.out HJk.out (cmpT_self _))
        go_wp2
        go_quiet (fail)
        go_wp2
        go_roundw
        case rel => exact ⟨k + 1, by omega, by go_num, by rw [← HS.out]; exact HC.out, below_draw hB _⟩
        case measure => simp [intOf]; omega
      · have hne : cmpT (n, v) (n', v') ≠ 0 := fun h => he (Prod.mk.inj (cmpT_zero h))
        have HR := Lib.hid (show cmpL it jt = orI (cmpS n n') (cmpS v v') by rw [← HC.out, cmpL_hit HIk.out HJk.out hne]; rfl)
        have eb : (n.toList == n'.toList) = false ∨ ((n.toList == n'.toList) = true ∧ (v.toList == v'.toList) = false) := by
          by_cases h1 : n = n'
          · exact .inr ⟨str_yes h1, str_no (fun h2 => he ⟨h1, h2⟩)⟩
          · exact .inl (str_no h1)
        have C1 := Lib.hid (fun W => scmp_any n n' W)
        have C2 := Lib.hid (fun W => scmp_any v v' W)
        obtain ⟨x, hx⟩ : ∃ x, cmpS n n' = x := ⟨_, rfl⟩
        obtain ⟨y, hy⟩ : ∃ y, cmpS v v' = y := ⟨_, rfl⟩
        rw [hx] at C1
        rw [hy] at C2
        rw [hx, hy] at HR
        clear he hne hx hy
        rcases eb with e1 | ⟨e1, e2⟩
        all_goals
          go_wp2_with fail
          go_quiet (fail)
          obtain ⟨wq, hwq⟩ : ∃ wq : World, wr.drewN nq = wq := ⟨_, rfl⟩
          have hBq : Below w.heap.size w wq := by rw [← hwq]; exact below_draw hB _
          have c0q : wq.cell? ⟨g, off + k * 2, none⟩ = some (.string n) := by rw [← hwq]; exact c0
          have c1q : wq.cell? ⟨g, off + k * 2 + 1, none⟩ = some (.string v) := by rw [← hwq]; exact c1
          have d0q : wq.cell? ⟨g', off' + k * 2, none⟩ = some (.string n') := by rw [← hwq]; exact d0
          have d1q : wq.cell? ⟨g', off' + k * 2 + 1, none⟩ = some (.string v') := by rw [← hwq]; exact d1
          have HG := Lib.hid (show g < wq.heap.size ∧ g' < wq.heap.size by rw [← hwq]; exact ⟨hgs, hgs'⟩)
          rw [hwq]
          clear hwq c0 c1 d0 d1
          go_wp2_with fail
          have keep : ∀ W : World, Below wq.heap.size wq W → W.cell? ⟨g, off + k * 2, none⟩ = some (.string n) ∧ W.cell? ⟨g, off + k * 2 + 1, none⟩ = some (.string v) ∧ W.cell? ⟨g', off' + k * 2, none⟩ = some (.string n') ∧ W.cell? ⟨g', off' + k * 2 + 1, none⟩ = some (.string v') := fun W hb =>
            ⟨(hb.cell (p := ⟨g, off + k * 2, none⟩) (by show g < wq.heap.size; have := hBq.size; have := HG.out; omega)).trans c0q, (hb.cell (p := ⟨g, off + k * 2 + 1, none⟩) (by show g < wq.heap.size; have := HG.out; omega)).trans c1q, (hb.cell (p := ⟨g', off' + k * 2, none⟩) (by show g' < wq.heap.size; have := HG.out; omega)).trans d0q, (hb.cell (p := ⟨g', off' + k * 2 + 1, none⟩) (by show g' < wq.heap.size; have := HG.out; omega)).trans d1q⟩
          have Keep := Lib.hid keep
          have h00 := Below.refl wq.heap.size wq
          have h0d : Below wq.heap.size wq wq.drew := h00.drew
          have h0a : ∀ o, Below wq.heap.size wq (wq.alloc o) := fun o => h00.alloc (Nat.le_refl _) o
          have HBq := Lib.hid hBq
          clear keep hBq
          go_region_held3 (fun W => W.cell? ⟨g, off + k * 2, none⟩ = some (.string n) ∧ W.cell? ⟨g, off + k * 2 + 1, none⟩ = some (.string v) ∧ W.cell? ⟨g', off' + k * 2, none⟩ = some (.string n') ∧ W.cell? ⟨g', off' + k * 2 + 1, none⟩ = some (.string v')) (first | (exact Keep.out _ (by with_reducible assumption)) | (exact Keep.out _ (h0a _)) | (exact Keep.out _ (h0a _).drew))
            (first | (go_at_call 49; first | ((with_reducible refine (C1.out _).mono ?_); rintro e w' ⟨rfl, rfl⟩) | ((with_reducible refine (C2.out _).mono ?_); rintro e w' ⟨rfl, rfl⟩)) | (go_at_call 52; refine (or_any x y wq.heap.size _ (by simp) (by simp)).mono ?_; rintro e w' ⟨rfl, rfl⟩))
          all_goals
            go_wp2
            go_ret
            exact ⟨ret_int HR.out.symm, by first | exact (HBq.out.alloc HBq.out.size _).drew | exact HBq.out.alloc HBq.out.size _⟩
    · have HR := Lib.hid (show cmpL it jt = if it.length < jt.length then -1 else if jt.length < it.length then 1 else 0 by rw [← HC.out]; exact cmpL_end (by have := HM.out; omega))
      have hge : ¬ (k : Int) < (M : Int) := by omega
      clear hlt
      rcases Nat.lt_trichotomy it.length jt.length with h1 | h1 | h1
      · have HR2 := Lib.hid (show cmpL it jt = -1 by rw [HR.out, if_pos h1])
        have h2 : (it.length : Int) < (jt.length : Int) := by omega
        clear h1
        go_wp2
        go_ret
        exact ⟨ret_int HR2.out.symm, hB⟩
      · have HR2 := Lib.hid (show cmpL it jt = 0 by rw [HR.out, if_neg (by omega), if_neg (by omega)])
        have h2 : ¬ (it.length : Int) < (jt.length : Int) := by omega
        have h3 : ¬ (jt.length : Int) < (it.length : Int) := by omega
        clear h1
        go_wp2
        go_ret
        exact ⟨ret_int HR2.out.symm, hB⟩
      · have HR2 := Lib.hid (show cmpL it jt = 1 by rw [HR.out, if_neg (by omega), if_pos h1])
        have h2 : ¬ (it.length : Int) < (jt.length : Int) := by omega
        have h3 : (jt.length : Int) < (it.length : Int) := by omega
        clear h1
        go_wp2
        go_ret
        exact ⟨ret_int HR2.out.symm, hB⟩

theorem order2 (a b : ByteArray) (w : World) : Calls Try.prog 54 #[.string a, .string b] w fun e w' => e = .returned (.int .i64 (cmpS a b)) ∧ w' = w :=
  (order_any a b w).mono fun _ _ ⟨he, hw⟩ => ⟨he, hw.symm⟩
set_option maxRecDepth 100000 in
set_option maxHeartbeats 8000000 in
theorem refcompare_any (a b : Option Addr) (c d : Nat) (it jt : List L2) (w : World) (hI : LsAt w (.slice a it.length c) it) (hJ : LsAt w (.slice b jt.length d) jt) (hlen : it.length ≤ 1000) (_hlen2 : jt.length ≤ 1000) :
    Calls Try.prog 31 #[.slice a it.length c, .slice b jt.length d] w fun e w' => e = .returned (.int .i64 (cmpL it jt)) ∧ Below w.heap.size w w' := by
  have HI := Lib.hid hI
  have HJ := Lib.hid hJ
  clear hI hJ
  go_enter Try.func31, Try.ntmps31
  go_wp2
  go_loopw [5] (fun i wr => ∃ k : Nat, k ≤ it.length ∧ k ≤ jt.length ∧ i = .int .i64 k ∧ cmpL (it.drop k) (jt.drop k) = cmpL it jt ∧ Below w.heap.size w wr) (fun i _ => it.length - (intOf i).toNat)
  case atStart => exact ⟨0, Nat.zero_le _, Nat.zero_le _, rfl, rfl, Below.refl _ _⟩
  case round =>
    obtain ⟨k, hk, hk2, rfl, hc, hB⟩ := hrel
    have HC := Lib.hid hc
    clear hc
    by_cases hlt : k < it.length ∧ k < jt.length
    · obtain ⟨hl1, hl2⟩ := hlt
      obtain ⟨n, v, hi⟩ := label_at (it := it) (k := k) hl1
      obtain ⟨n', v', hj⟩ := label_at (it := jt) (k := k) hl2
      obtain ⟨g, off, rfl, hgs, c0, c1⟩ := (HI.out.below hB).get hi
      obtain ⟨g', off', rfl, hgs', d0, d1⟩ := (HJ.out.below hB).get hj
      have HIk := Lib.hid hi
      have HJk := Lib.hid hj
      have i0 : (0 : Int) ≤ (k : Int) := by omega
      have i1 : (k : Int) < (it.length : Int) := by omega
      have i2 : (k : Int) < (jt.length : Int) := by omega
      have C1 := Lib.hid (fun W => order2 n n' W)
      have C2 := Lib.hid (fun W => order2 v v' W)
      clear hi hj
      by_cases h1 : cmpS n n' = 0
      · rw [h1] at C1
        by_cases h2 : cmpS v v' = 0
        · rw [h2] at C2
          have HS := Lib.hid (cmpL_miss HIk.out HJk.out (show cmpT (n, v) (n', v') = 0 by unfold cmpT; rw [if_neg (show ¬ cmpS n n' ≠ 0 by omega)]; exact h2))
          clear h1 h2
          go_wp2_with fail
          go_quiet ((go_at_call 54; exact Calls.quiet_of_same (C1.out _)))
          obtain ⟨wq, hwq⟩ : ∃ wq : World, wr.drewN nq = wq := ⟨_, rfl⟩
          have hBq : Below w.heap.size w wq := by rw [← hwq]; exact below_draw hB _
          have c1q : wq.cell? ⟨g, off + k * 2 + 1, none⟩ = some (.string v) := by rw [← hwq]; exact c1
          have d1q : wq.cell? ⟨g', off' + k * 2 + 1, none⟩ = some (.string v') := by rw [← hwq]; exact d1
          rw [hwq]
          clear hwq c0 c1 d0 d1
          go_wp2_with fail
          go_quiet ((go_at_call 54; exact Calls.quiet_of_same (C2.out _)))
          go_wp2
          go_roundw
          case rel => exact ⟨k + 1, by omega, by omega, by go_num, by rw [← HS.out]; exact HC.out, below_draw hBq _⟩
          case measure => simp [intOf]; omega
        · have HR := Lib.hid (show cmpL it jt = cmpS v v' by rw [← HC.out, cmpL_hit HIk.out HJk.out (by unfold cmpT; rw [if_neg (show ¬ cmpS n n' ≠ 0 by omega)]; exact h2)]; unfold cmpT; rw [if_neg (show ¬ cmpS n n' ≠ 0 by omega)])
          obtain ⟨y, hy⟩ : ∃ y, cmpS v v' = y := ⟨_, rfl⟩
          rw [hy] at C2 HR h2
          have y0 : (y != 0) = true := by simp [h2]
          clear h1 h2 hy
          go_wp2_with fail
          go_quiet ((go_at_call 54; exact Calls.quiet_of_same (C1.out _)))
          obtain ⟨wq, hwq⟩ : ∃ wq : World, wr.drewN nq = wq := ⟨_, rfl⟩
          have hBq : Below w.heap.size w wq := by rw [← hwq]; exact below_draw hB _
          have c1q : wq.cell? ⟨g, off + k * 2 + 1, none⟩ = some (.string v) := by rw [← hwq]; exact c1
          have d1q : wq.cell? ⟨g', off' + k * 2 + 1, none⟩ = some (.string v') := by rw [← hwq]; exact d1
          rw [hwq]
          clear hwq c0 c1 d0 d1
          go_wp2_with fail
          go_quiet ((go_at_call 54; exact Calls.quiet_of_same (C2.out _)))
          go_wp2
          go_ret
          exact ⟨ret_int HR.out.symm, below_draw hBq _⟩
      · have HR := Lib.hid (show cmpL it jt = cmpS n n' by rw [← HC.out, cmpL_hit HIk.out HJk.out (by unfold cmpT; rw [if_pos h1]; exact h1)]; unfold cmpT; rw [if_pos h1])
        obtain ⟨x, hx⟩ : ∃ x, cmpS n n' = x := ⟨_, rfl⟩
        rw [hx] at C1 HR h1
        have x0 : (x != 0) = true := by simp [h1]
        have x1 : (x == 0) = false := by simp [h1]
        clear h1 hx
        go_wp2_with fail
        go_quiet ((go_at_call 54; exact Calls.quiet_of_same (C1.out _)))
        go_wp2
        go_ret
        exact ⟨ret_int HR.out.symm, below_draw hB _⟩
    · have HR := Lib.hid (show cmpL it jt = if it.length < jt.length then -1 else if jt.length < it.length then 1 else 0 by rw [← HC.out]; exact cmpL_end (by omega))
      have hge : ¬ ((k : Int) < (it.length : Int) ∧ (k : Int) < (jt.length : Int)) := by omega
      rcases Nat.lt_trichotomy it.length jt.length with h1 | h1 | h1
      · have HR2 := Lib.hid (show cmpL it jt = -1 by rw [HR.out, if_pos h1])
        have h2 : (it.length : Int) < (jt.length : Int) := by omega
        have h4 : ¬ (k : Int) < (it.length : Int) := by omega
        clear h1 hlt hge
        go_wp2
        go_ret
        exact ⟨ret_int HR2.out.symm, hB⟩
      · have HR2 := Lib.hid (show cmpL it jt = 0 by rw [HR.out, if_neg (by omega), if_neg (by omega)])
        have h2 : ¬ (it.length : Int) < (jt.length : Int) := by omega
        have h3 : ¬ (jt.length : Int) < (it.length : Int) := by omega
        have h4 : ¬ (k : Int) < (it.length : Int) := by omega
        clear h1 hlt hge
        go_wp2
        go_ret
        exact ⟨ret_int HR2.out.symm, hB⟩
      · have HR2 := Lib.hid (show cmpL it jt = 1 by rw [HR.out, if_neg (by omega), if_pos h1])
        have h2 : ¬ (it.length : Int) < (jt.length : Int) := by omega
        have h3 : (jt.length : Int) < (it.length : Int) := by omega
        have h5 : ¬ (k : Int) < (jt.length : Int) := by omega
        have h4 : (k : Int) < (it.length : Int) := by omega
        clear h1 hlt hge
        go_wp2
        go_ret
        exact ⟨ret_int HR2.out.symm, hB⟩
end Go.Proofs.Ytmgjbbkccgncgaa
