/- Lists of fractions in memory; the least and the greatest of a list. Conditions: valid fractions. -/
import Derived.Test.YteppamchbgnlfaaIv
import Derived.Deep.RegionHeld3
namespace Go.Proofs.Yteppamchbgnlfaa
open Go.RowKit

abbrev F2 := Int × Int
def flatL (l : List F2) : List Value := l.flatMap fun x => [Value.int .i64 x.1, .int .i64 x.2]
def flat (l : List F2) : Array Value := (flatL l).toArray
theorem flatL_len (l : List F2) : (flatL l).length = 2 * l.length := by
  induction l with
  | nil => rfl
  | cons x l ih => unfold flatL at *; rw [List.flatMap_cons, List.length_append, ih]; simp; omega
theorem flatL_at : ∀ (l : List F2) (j : Nat) (x : F2), l[j]? = some x → (flatL l)[j * 2]? = some (.int .i64 x.1) ∧ (flatL l)[j * 2 + 1]? = some (.int .i64 x.2)
  | [], j, x, h => by simp at h
  | y :: l, 0, x, h => by
    simp at h; subst h
    exact ⟨rfl, rfl⟩
  | y :: l, j + 1, x, h => by
    have := flatL_at l j x (by simpa using h)
    rw [show (j + 1) * 2 = j * 2 + 2 by omega, show j * 2 + 2 + 1 = (j * 2 + 1) + 2 by omega]
    exact this
theorem flat_at {l : List F2} {j : Nat} {x : F2} (h : l[j]? = some x) : (flat l)[j * 2]? = some (.int .i64 x.1) ∧ (flat l)[j * 2 + 1]? = some (.int .i64 x.2) := by
  have := flatL_at l j x h
  unfold flat
  simpa using this
/-- Element j of a list that fills a block. -/
theorem Blk.el {W : World} {g : Nat} {t : TypeId} {l : List F2} (h : Blk W g t (flat l)) {j : Nat} {x : F2} (hx : l[j]? = some x) : W.cell? ⟨g, j * 2, none⟩ = some (.int .i64 x.1) ∧ W.cell? ⟨g, j * 2 + 1, none⟩ = some (.int .i64 x.2) := by
  obtain ⟨h1, h2⟩ := flat_at hx
  exact ⟨(h.cell _).trans h1, (h.cell _).trans h2⟩

def stepMin (m x : F2) : F2 := if cmpR x.1 x.2 m.1 m.2 < 0 then x else m
def stepMax (m x : F2) : F2 := if 0 < cmpR x.1 x.2 m.1 m.2 then x else m
def minL (l : List F2) : F2 := (l.drop 1).foldl stepMin (l.headD (0, 1))
def maxL (l : List F2) : F2 := (l.drop 1).foldl stepMax (l.headD (0, 1))
def VL (l : List F2) : Prop := ∀ x ∈ l, vP x.1 x.2
theorem VL.get {l : List F2} (h : VL l) {j : Nat} {x : F2} (hx : l[j]? = some x) : vP x.1 x.2 := h x (List.mem_of_getElem? hx)
theorem stepMin_or (m x : F2) : stepMin m x = m ∨ stepMin m x = x := by unfold stepMin; split <;> simp
theorem stepMax_or (m x : F2) : stepMax m x = m ∨ stepMax m x = x := by unfold stepMax; split <;> simp
theorem foldl_take_succ {s : F2 → F2 → F2} {l : List F2} {k : Nat} {x : F2} (hx : l[k]? = some x) (hk : 1 ≤ k) (m : F2) : ((l.take (k + 1)).drop 1).foldl s m = s (((l.take k).drop 1).foldl s m) x := by
  have hlt : k < l.length := by
    rcases Nat.lt_or_ge k l.length with h | h
    · exact h
    · rw [List.getElem?_eq_none h] at hx; cases hx
  have e : l.take (k + 1) = l.take k ++ [x] := by rw [List.take_add_one, hx]; rfl
  rw [e, List.drop_append_of_le_length (by rw [List.length_take]; omega), List.foldl_append]
  rfl

set_option maxRecDepth 100000 in
set_option maxHeartbeats 4000000 in
theorem minf_any (l : List F2) (hl : 0 < l.length) (hv : VL l) (b : Nat) (t : TypeId) (cap : Nat) (w : World) (hA : Blk w b t (flat l)) (hbig : l.length ≤ 140737488355328) :
    Calls Try.prog 50 #[.slice (some ⟨b, 0, none⟩) l.length cap, .func (.func 33) #[] #[]] w fun e w' => e = .returned (.agg #[.int .i64 (minL l).1, .int .i64 (minL l).2]) ∧ Below w.heap.size w w' := by
  obtain ⟨n, hn⟩ : ∃ n, l.length = n := ⟨_, rfl⟩
  rw [hn] at hl hbig ⊢
  obtain ⟨a1, a2, hx0⟩ : ∃ x1 x2, l[0]? = some (x1, x2) := ⟨_, _, List.getElem?_eq_getElem (by omega)⟩
  obtain ⟨e0, e1⟩ := hA.el hx0
  have zb := hA.lt
  have hop : minL l = (l.drop 1).foldl stepMin (a1, a2) := by
    unfold minL
    rw [show l.headD (0, 1) = (a1, a2) by cases l with | nil => simp at hx0 | cons y l => simpa using hx0]
  have hR := Blk.new w 23 #[.int .i64 0, .int .i64 0]
  have hW : Below w.heap.size w (w.alloc (.cells #[.int .i64 0, .int .i64 0] 23)) := (Below.refl _ w).alloc (Nat.le_refl _) _
  have hM := Blk.new (w.alloc (.cells #[.int .i64 0, .int .i64 0] 23)) 23 #[.int .i64 a1, .int .i64 a2]
  rw [World.size_alloc] at hM
  replace hR := hR.alloc (.cells #[.int .i64 a1, .int .i64 a2] 23)
  replace hW := hW.alloc hW.size (.cells #[.int .i64 a1, .int .i64 a2] 23)
  have hA' := (hA.alloc (.cells #[.int .i64 0, .int .i64 0] 23)).alloc (.cells #[.int .i64 a1, .int .i64 a2] 23)
  have HN := Lib.hid hn
  have HV := Lib.hid hv
  have HO := Lib.hid hop
  have V0 := hv.get hx0
  have n0 : (1 : Int) ≤ (n : Int) := by omega
  have HS := Lib.hid (And.intro hA' (And.intro hR (And.intro hM hW)))
  simp only [Nat.zero_mul, Nat.zero_add] at e0 e1
  clear hA hn hv hx0 hop hA' hR hM hW
  go_enter Try.func50, Try.ntmps50
  go_wp2
  go_loopw [6] (fun i wr => ∃ (k : Nat) (m1 m2 : Int), 1 ≤ k ∧ k ≤ n ∧ i = .int .i64 k ∧ ((l.take k).drop 1).foldl stepMin (a1, a2) = (m1, m2) ∧ vP m1 m2 ∧ Blk wr b t (flat l) ∧ Blk wr w.heap.size 23 #[.int .i64 0, .int .i64 0] ∧ Blk wr (w.heap.size + 1) 23 #[.int .i64 m1, .int .i64 m2] ∧ Below w.heap.size w wr) (fun i _ => n - (intOf i).toNat)
  case atStart => exact ⟨1, a1, a2, Nat.le_refl _, hl, rfl, by rw [List.drop_eq_nil_of_le (by rw [List.length_take]; omega)]; rfl, V0, HS.out.1, HS.out.2.1, HS.out.2.2.1, HS.out.2.2.2⟩
  case round =>
    obtain ⟨k, m1, m2, hk1, hkn, rfl, hm, vm, hA, hR, hM, hW⟩ := hrel
    clear HS e0 e1
    by_cases hlt : k < n
    · obtain ⟨x1, x2, hx⟩ : ∃ x1 x2, l[k]? = some (x1, x2) := ⟨_, _, List.getElem?_eq_getElem (by have := HN.out; omega)⟩
      have vx := HV.out.get hx
      obtain ⟨c, hc⟩ : ∃ c, cmpR x1 x2 m1 m2 = c := ⟨_, rfl⟩
      have C := cmp_w vx.w2 vm.w2
      rw [hc] at C
      have hst : ((l.take (k + 1)).drop 1).foldl stepMin (a1, a2) = if c < 0 then (x1, x2) else (m1, m2) := by
        rw [foldl_take_succ hx hk1, hm]
        unfold stepMin
        simp only [hc]
      obtain ⟨w0, rfl⟩ : ∃ w0 : World, w0 = wr := ⟨_, rfl⟩
      have keep : ∀ W : World, Below w0.heap.size w0 W → W.cell? ⟨b, k * 2, none⟩ = some (.int .i64 x1) ∧ W.cell? ⟨b, k * 2 + 1, none⟩ = some (.int .i64 x2) ∧ W.cell? ⟨w.heap.size + 1, 0, none⟩ = some (.int .i64 m1) ∧ W.cell? ⟨w.heap.size + 1, 1, none⟩ = some (.int .i64 m2) := fun W hB =>
        have k1 := (hA.below hB hA.lt).el hx
        have k2 := hM.below hB hM.lt
        ⟨k1.1, k1.2, k2.cell 0, k2.cell 1⟩
      have h00 := Below.refl w0.heap.size w0
      have h0d : Below w0.heap.size w0 w0.drew := h00.drew
      have C1 := Lib.hid (fun (W : World) (hW : Below w0.heap.size w0 W) => (C W).mono fun e w' (h : _ ∧ _) => (⟨h.1, below_step hW h.2⟩ : _ ∧ Below w0.heap.size w0 w'))
      obtain ⟨d0, d1, d2, d3⟩ := keep w0 h00
      have Keep := Lib.hid keep
      have HA := Lib.hid hA
      have HR := Lib.hid hR
      have HM := Lib.hid hM
      have HW := Lib.hid hW
      have HT := Lib.hid hst
      have k0 : (0 : Int) ≤ (k : Int) := by omega
      have k2 : (k : Int) < (n : Int) := by omega
      have VM := Lib.hid vm
      have VX := Lib.hid vx
      have ew : w.heap.size + 1 < w0.heap.size := hM.lt
      have ww : IntKind.i64.wrap ((k : Int) + 1) = (k : Int) + 1 := by rw [IntKind.wrap_i64]; omega
      clear keep hA hR hM hW hm hst hc hx C vm vx
      by_cases hcz : c < 0
      · have hcd : decide (c < 0) = true := decide_eq_true hcz
        go_wp2_with fail
        go_region_held3 (fun W => W.cell? ⟨b, k * 2, none⟩ = some (.int .i64 x1) ∧ W.cell? ⟨b, k * 2 + 1, none⟩ = some (.int .i64 x2) ∧ W.cell? ⟨w.heap.size + 1, 0, none⟩ = some (.int .i64 m1) ∧ W.cell? ⟨w.heap.size + 1, 1, none⟩ = some (.int .i64 m2)) (exact Keep.out _ (by with_reducible assumption))
          (first | (go_at_call 33; (with_reducible refine (C1.out _ (by with_reducible assumption)).mono ?_); rintro e w' ⟨rfl, hb⟩; obtain ⟨d0, d1, d2, d3⟩ := Keep.out _ hb))
        all_goals
          have h6 := HM.out.below hb HM.out.lt
          have f6 := h6.frozen
          go_wp2
          go_roundw
          case rel =>
            exact ⟨k + 1, x1, x2, by omega, by omega, by go_num, by rw [HT.out, if_pos hcz], VX.out, ((HA.out.below hb HA.out.lt).far (p := ⟨w.heap.size + 1, 0, none⟩) (by show ¬ b = w.heap.size + 1; omega) _).far (p := ⟨w.heap.size + 1, 1, none⟩) (by show ¬ b = w.heap.size + 1; omega) _, ((HR.out.below hb HR.out.lt).far (p := ⟨w.heap.size + 1, 0, none⟩) (by show ¬ w.heap.size = w.heap.size + 1; omega) _).far (p := ⟨w.heap.size + 1, 1, none⟩) (by show ¬ w.heap.size = w.heap.size + 1; omega) _, (h6.put 0 _).put 1 _, ((below_st HW.out hb).setCell (by show w.heap.size ≤ w.heap.size + 1; omega) _).setCell (by show w.heap.size ≤ w.heap.size + 1; omega) _⟩
          case measure => simp [intOf]; omega
      · have hcd : decide (c < 0) = false := decide_eq_false hcz
        go_wp2_with fail
        go_region_held3 (fun W => W.cell? ⟨b, k * 2, none⟩ = some (.int .i64 x1) ∧ W.cell? ⟨b, k * 2 + 1, none⟩ = some (.int .i64 x2) ∧ W.cell? ⟨w.heap.size + 1, 0, none⟩ = some (.int .i64 m1) ∧ W.cell? ⟨w.heap.size + 1, 1, none⟩ = some (.int .i64 m2)) (exact Keep.out _ (by with_reducible assumption))
          (first | (go_at_call 33; (with_reducible refine (C1.out _ (by with_reducible assumption)).mono ?_); rintro e w' ⟨rfl, hb⟩; obtain ⟨d0, d1, d2, d3⟩ := Keep.out _ hb))
        all_goals
          go_wp2
          go_roundw
          case rel =>
            exact ⟨k + 1, m1, m2, by omega, by omega, by go_num, by rw [HT.out, if_neg (by omega)], VM.out, HA.out.below hb HA.out.lt, HR.out.below hb HR.out.lt, HM.out.below hb HM.out.lt, below_st HW.out hb⟩
          case measure => simp [intOf]; omega
    · obtain rfl : k = n := by omega
      have HO2 := Lib.hid (show minL l = (m1, m2) by rw [HO.out, ← hm, List.take_of_length_le (by have := HN.out; omega)])
      have d0 := hM.cell 0
      have d1 := hM.cell 1
      have d2 := hR.cell 0
      have d3 := hR.cell 1
      have d4 := hR.frozen
      have HR := Lib.hid hR
      have HW := Lib.hid hW
      clear hA hR hM hW hm vm
      go_wp2
      exact ret_one (p := 4) (by kernel_rfl) rfl (put2 HR.out HW.out (Nat.le_refl _) m1 m2).1 ⟨by rw [HO2.out], (put2 HR.out HW.out (Nat.le_refl _) m1 m2).2⟩

set_option maxRecDepth 100000 in
set_option maxHeartbeats 4000000 in
theorem maxf_any (l : List F2) (hl : 0 < l.length) (hv : VL l) (b : Nat) (t : TypeId) (cap : Nat) (w : World) (hA : Blk w b t (flat l)) (hbig : l.length ≤ 140737488355328) :
    Calls Try.prog 49 #[.slice (some ⟨b, 0, none⟩) l.length cap, .func (.func 33) #[] #[]] w fun e w' => e = .returned (.agg #[.int .i64 (maxL l).1, .int .i64 (maxL l).2]) ∧ Below w.heap.size w w' := by
  obtain ⟨n, hn⟩ : ∃ n, l.length = n := ⟨_, rfl⟩
  rw [hn] at hl hbig ⊢
  obtain ⟨a1, a2, hx0⟩ : ∃ x1 x2, l[0]? = some (x1, x2) := ⟨_, _, List.getElem?_eq_getElem (by omega)⟩
  obtain ⟨e0, e1⟩ := hA.el hx0
  have zb := hA.lt
  have hop : maxL l = (l.drop 1).foldl stepMax (a1, a2) := by
    unfold maxL
    rw [show l.headD (0, 1) = (a1, a2) by cases l with | nil => simp at hx0 | cons y l => simpa using hx0]
  have hR := Blk.new w 23 #[.int .i64 0, .int .i64 0]
  have hW : Below w.heap.size w (w.alloc (.cells #[.int .i64 0, .int .i64 0] 23)) := (Below.refl _ w).alloc (Nat.le_refl _) _
  have hM := Blk.new (w.alloc (.cells #[.int .i64 0, .int .i64 0] 23)) 23 #[.int .i64 a1, .int .i64 a2]
  rw [World.size_alloc] at hM
  replace hR := hR.alloc (.cells #[.int .i64 a1, .int .i64 a2] 23)
  replace hW := hW.alloc hW.size (.cells #[.int .i64 a1, .int .i64 a2] 23)
  have hA' := (hA.alloc (.cells #[.int .i64 0, .int .i64 0] 23)).alloc (.cells #[.int .i64 a1, .int .i64 a2] 23)
  have HN := Lib.hid hn
  have HV := Lib.hid hv
  have HO := Lib.hid hop
  have V0 := hv.get hx0
  have n0 : (1 : Int) ≤ (n : Int) := by omega
  have HS := Lib.hid (And.intro hA' (And.intro hR (And.intro hM hW)))
  simp only [Nat.zero_mul, Nat.zero_add] at e0 e1
  clear hA hn hv hx0 hop hA' hR hM hW
  go_enter Try.func49, Try.ntmps49
  go_wp2
  go_loopw [6] (fun i wr => ∃ (k : Nat) (m1 m2 : Int), 1 ≤ k ∧ k ≤ n ∧ i = .int .i64 k ∧ ((l.take k).drop 1).foldl stepMax (a1, a2) = (m1, m2) ∧ vP m1 m2 ∧ Blk wr b t (flat l) ∧ Blk wr w.heap.size 23 #[.int .i64 0, .int .i64 0] ∧ Blk wr (w.heap.size + 1) 23 #[.int .i64 m1, .int .i64 m2] ∧ Below w.heap.size w wr) (fun i _ => n - (intOf i).toNat)
  case atStart => exact ⟨1, a1, a2, Nat.le_refl _, hl, rfl, by rw [List.drop_eq_nil_of_le (by rw [List.length_take]; omega)]; rfl, V0, HS.out.1, HS.out.2.1, HS.out.2.2.1, HS.out.2.2.2⟩
  case round =>
    obtain ⟨k, m1, m2, hk1, hkn, rfl, hm, vm, hA, hR, hM, hW⟩ := hrel
    clear HS e0 e1
    by_cases hlt : k < n
    · obtain ⟨x1, x2, hx⟩ : ∃ x1 x2, l[k]? = some (x1, x2) := ⟨_, _, List.getElem?_eq_getElem (by have := HN.out; omega)⟩
      have vx := HV.out.get hx
      obtain ⟨c, hc⟩ : ∃ c, cmpR x1 x2 m1 m2 = c := ⟨_, rfl⟩
      have C := cmp_w vx.w2 vm.w2
      rw [hc] at C
      have hst : ((l.take (k + 1)).drop 1).foldl stepMax (a1, a2) = if 0 < c then (x1, x2) else (m1, m2) := by
        rw [foldl_take_succ hx hk1, hm]
        unfold stepMax
        simp only [hc]
      obtain ⟨w0, rfl⟩ : ∃ w0 : World, w0 = wr := ⟨_, rfl⟩
      have keep : ∀ W : World, Below w0.heap.size w0 W → W.cell? ⟨b, k * 2, none⟩ = some (.int .i64 x1) ∧ W.cell? ⟨b, k * 2 + 1, none⟩ = some (.int .i64 x2) ∧ W.cell? ⟨w.heap.size + 1, 0, none⟩ = some (.int .i64 m1) ∧ W.cell? ⟨w.heap.size + 1, 1, none⟩ = some (.int .i64 m2) := fun W hB =>
        have k1 := (hA.below hB hA.lt).el hx
        have k2 := hM.below hB hM.lt
        ⟨k1.1, k1.2, k2.cell 0, k2.cell 1⟩
      have h00 := Below.refl w0.heap.size w0
      have h0d : Below w0.heap.size w0 w0.drew := h00.drew
      have C1 := Lib.hid (fun (W : World) (hW : Below w0.heap.size w0 W) => (C W).mono fun e w' (h : _ ∧ _) => (⟨h.1, below_step hW h.2⟩ : _ ∧ Below w0.heap.size w0 w'))
      obtain ⟨d0, d1, d2, d3⟩ := keep w0 h00
      have Keep := Lib.hid keep
      have HA := Lib.hid hA
      have HR := Lib.hid hR
      have HM := Lib.hid hM
      have HW := Lib.hid hW
      have HT := Lib.hid hst
      have k0 : (0 : Int) ≤ (k : Int) := by omega
      have k2 : (k : Int) < (n : Int) := by omega
      have VM := Lib.hid vm
      have VX := Lib.hid vx
      have ew : w.heap.size + 1 < w0.heap.size := hM.lt
      have ww : IntKind.i64.wrap ((k : Int) + 1) = (k : Int) + 1 := by rw [IntKind.wrap_i64]; omega
      clear keep hA hR hM hW hm hst hc hx C vm vx
      by_cases hcz : 0 < c
      · have hcd : decide (0 < c) = true := decide_eq_true hcz
        go_wp2_with fail
        go_region_held3 (fun W => W.cell? ⟨b, k * 2, none⟩ = some (.int .i64 x1) ∧ W.cell? ⟨b, k * 2 + 1, none⟩ = some (.int .i64 x2) ∧ W.cell? ⟨w.heap.size + 1, 0, none⟩ = some (.int .i64 m1) ∧ W.cell? ⟨w.heap.size + 1, 1, none⟩ = some (.int .i64 m2)) (exact Keep.out _ (by with_reducible assumption))
          (first | (go_at_call 33; (with_reducible refine (C1.out _ (by with_reducible assumption)).mono ?_); rintro e w' ⟨rfl, hb⟩; obtain ⟨d0, d1, d2, d3⟩ := Keep.out _ hb))
        all_goals
          have h6 := HM.out.below hb HM.out.lt
          have f6 := h6.frozen
          go_wp2
          go_roundw
          case rel =>
            exact ⟨k + 1, x1, x2, by omega, by omega, by go_num, by rw [HT.out, if_pos hcz], VX.out, ((HA.out.below hb HA.out.lt).far (p := ⟨w.heap.size + 1, 0, none⟩) (by show ¬ b = w.heap.size + 1; omega) _).far (p := ⟨w.heap.size + 1, 1, none⟩) (by show ¬ b = w.heap.size + 1; omega) _, ((HR.out.below hb HR.out.lt).far (p := ⟨w.heap.size + 1, 0, none⟩) (by show ¬ w.heap.size = w.heap.size + 1; omega) _).far (p := ⟨w.heap.size + 1, 1, none⟩) (by show ¬ w.heap.size = w.heap.size + 1; omega) _, (h6.put 0 _).put 1 _, ((below_st HW.out hb).setCell (by show w.heap.size ≤ w.heap.size + 1; omega) _).setCell (by show w.heap.size ≤ w.heap.size + 1; omega) _⟩
          case measure => simp [intOf]; omega
      · have hcd : decide (0 < c) = false := decide_eq_false hcz
        go_wp2_with fail
        go_region_held3 (fun W => W.cell? ⟨b, k * 2, none⟩ = some (.int .i64 x1) ∧ W.cell? ⟨b, k * 2 + 1, none⟩ = some (.int .i64 x2) ∧ W.cell? ⟨w.heap.size + 1, 0, none⟩ = some (.int .i64 m1) ∧ W.cell? ⟨w.heap.size + 1, 1, none⟩ = some (.int .i64 m2)) (exact Keep.out _ (by with_reducible assumption))
          (first | (go_at_call 33; (with_reducible refine (C1.out _ (by with_reducible assumption)).mono ?_); rintro e w' ⟨rfl, hb⟩; obtain ⟨d0, d1, d2, d3⟩ := Keep.out _ hb))
        all_goals
          go_wp2
          go_roundw
          case rel =>
            exact ⟨k + 1, m1, m2, by omega, by omega, by go_num, by rw [HT.out, if_neg (by omega)], VM.out, HA.out.below hb HA.out.lt, HR.out.below hb HR.out.lt, HM.out.below hb HM.out.lt, below_st HW.out hb⟩
          case measure => simp [intOf]; omega
    · obtain rfl : k = n := by omega
      have HO2 := Lib.hid (show maxL l = (m1, m2) by rw [HO.out, ← hm, List.take_of_length_le (by have := HN.out; omega)])
      have d0 := hM.cell 0
      have d1 := hM.cell 1
      have d2 := hR.cell 0
      have d3 := hR.cell 1
      have d4 := hR.frozen
      have HR := Lib.hid hR
      have HW := Lib.hid hW
      clear hA hR hM hW hm vm
      go_wp2
      exact ret_one (p := 4) (by kernel_rfl) rfl (put2 HR.out HW.out (Nat.le_refl _) m1 m2).1 ⟨by rw [HO2.out], (put2 HR.out HW.out (Nat.le_refl _) m1 m2).2⟩

set_option maxRecDepth 100000 in
set_option maxHeartbeats 4000000 in
theorem least_any (l : List F2) (hl : 0 < l.length) (hv : VL l) (b : Nat) (t : TypeId) (cap n : Nat) (hn : l.length = n) (w : World) (hA : Blk w b t (flat l)) (hbig : n ≤ 140737488355328) :
    Calls Try.prog 29 #[.slice (some ⟨b, 0, none⟩) n cap] w fun e w' => e = .returned (.agg #[.int .i64 (minL l).1, .int .i64 (minL l).2]) ∧ Below w.heap.size w w' := by
  have M := fun (W : World) (h : Blk W b t (flat l)) => minf_any l hl hv b t cap W h (by omega)
  rw [hn] at M
  have hB := hA.alloc (.cells #[.int .i64 0, .int .i64 0] 23)
  have M1 := Lib.hid (M _ hB)
  obtain ⟨⟨m1, m2⟩, hm⟩ : ∃ m, minL l = m := ⟨_, rfl⟩
  rw [hm] at M1
  simp only at M1
  rw [hm]
  obtain ⟨hR, hW⟩ := start1 w 23 #[.int .i64 0, .int .i64 0]
  clear hn hl hv hA hbig M hB hm
  go_enter Try.func29, Try.ntmps29
  go_wp2_with fail
  (with_reducible refine M1.out.mono ?_)
  rintro e w1 ⟨rfl, hB⟩
  replace hR := hR.below hB hR.lt
  replace hW := below_st hW hB
  clear hB M1
  have c0 := hR.cell 0
  have c1 := hR.cell 1
  have c2 := hR.frozen
  have HR := Lib.hid hR
  have HW := Lib.hid hW
  clear hR hW
  go_wp2
  exact ret_one (p := 2) (by kernel_rfl) rfl (put2 HR.out HW.out (Nat.le_refl _) m1 m2).1 ⟨rfl, (put2 HR.out HW.out (Nat.le_refl _) m1 m2).2⟩

set_option maxRecDepth 100000 in
set_option maxHeartbeats 4000000 in
theorem great_any (l : List F2) (hl : 0 < l.length) (hv : VL l) (b : Nat) (t : TypeId) (cap n : Nat) (hn : l.length = n) (w : World) (hA : Blk w b t (flat l)) (hbig : n ≤ 140737488355328) :
    Calls Try.prog 28 #[.slice (some ⟨b, 0, none⟩) n cap] w fun e w' => e = .returned (.agg #[.int .i64 (maxL l).1, .int .i64 (maxL l).2]) ∧ Below w.heap.size w w' := by
  have M := fun (W : World) (h : Blk W b t (flat l)) => maxf_any l hl hv b t cap W h (by omega)
  rw [hn] at M
  have hB := hA.alloc (.cells #[.int .i64 0, .int .i64 0] 23)
  have M1 := Lib.hid (M _ hB)
  obtain ⟨⟨m1, m2⟩, hm⟩ : ∃ m, maxL l = m := ⟨_, rfl⟩
  rw [hm] at M1
  simp only at M1
  rw [hm]
  obtain ⟨hR, hW⟩ := start1 w 23 #[.int .i64 0, .int .i64 0]
  clear hn hl hv hA hbig M hB hm
  go_enter Try.func28, Try.ntmps28
  go_wp2_with fail
  (with_reducible refine M1.out.mono ?_)
  rintro e w1 ⟨rfl, hB⟩
  replace hR := hR.below hB hR.lt
  replace hW := below_st hW hB
  clear hB M1
  have c0 := hR.cell 0
  have c1 := hR.cell 1
  have c2 := hR.frozen
  have HR := Lib.hid hR
  have HW := Lib.hid hW
  clear hR hW
  go_wp2
  exact ret_one (p := 2) (by kernel_rfl) rfl (put2 HR.out HW.out (Nat.le_refl _) m1 m2).1 ⟨rfl, (put2 HR.out HW.out (Nat.le_refl _) m1 m2).2⟩

end Go.Proofs.Yteppamchbgnlfaa
