/- slices.SortFunc at most 12 valid fractions with frac.Compare. Conditions: the list fills its block. -/
import Derived.Test.YteppamchbgnlfaaSMath
import Derived.Test.YteppamchbgnlfaaShelf
import Derived.Deep.DeepCutAuto
import Derived.LoopN
namespace Go.Proofs.Yteppamchbgnlfaa
open Go.RowKit

/-- Nothing but block g may have changed below B. -/
def BelowX (B g : Nat) (w w' : World) : Prop := w'.os = w.os ∧ w'.tape = w.tape ∧ w'.output = w.output ∧ w.heap.size ≤ w'.heap.size ∧ ∀ k, k < B → k ≠ g → w'.heap[k]? = w.heap[k]?
theorem BelowX.refl (B g : Nat) (w : World) : BelowX B g w w := ⟨rfl, rfl, rfl, Nat.le_refl _, fun _ _ _ => rfl⟩
theorem BelowX.below {B g : Nat} {w W W' : World} (h : BelowX B g w W) (hB : B ≤ W.heap.size) (k : Below W.heap.size W W') : BelowX B g w W' :=
  ⟨k.os.trans h.1, k.tape.trans h.2.1, k.output.trans h.2.2.1, Nat.le_trans h.2.2.2.1 k.size, fun i hi hg => (k.block i (Nat.lt_of_lt_of_le hi hB)).trans (h.2.2.2.2 i hi hg)⟩
theorem BelowX.set {B g : Nat} {w W : World} (h : BelowX B g w W) (i : Nat) (v : Value) : BelowX B g w (W.setCell ⟨g, i, none⟩ v) :=
  ⟨h.1, h.2.1, h.2.2.1, by rw [World.size_setCell]; exact h.2.2.2.1, fun k hk hg => (Below.heap_setCell W ⟨g, i, none⟩ v k hg).trans (h.2.2.2.2 k hk hg)⟩
theorem BelowX.drew {B g : Nat} {w W : World} (h : BelowX B g w W) : BelowX B g w W.drew := h
theorem BelowX.drewN {B g : Nat} {w W : World} (h : BelowX B g w W) (n : Nat) : BelowX B g w (W.drewN n) := h
theorem BelowX.blk {B g k : Nat} {w W : World} {t : TypeId} {cs : Array Value} (h : BelowX B g w W) (hk : k < B) (hg : k ≠ g) (hA : Blk w k t cs) : Blk W k t cs := (h.2.2.2.2 k hk hg).trans hA
theorem BelowX.to {B g : Nat} {w W : World} (h : BelowX B g w W) {C : Nat} (hC : C ≤ B) (hg : C ≤ g) : Below C w W := ⟨h.1, h.2.1, h.2.2.1, h.2.2.2.1, fun k hk => h.2.2.2.2 k (by omega) (by omega)⟩

theorem flat_set {l : List F2} {k : Nat} {z : F2} (hk : k < l.length) : ((flat l).setIfInBounds (k * 2) (.int .i64 z.1)).setIfInBounds (k * 2 + 1) (.int .i64 z.2) = flat (l.set k z) := by
  apply Array.toList_inj.1
  unfold flat
  simp only [Array.toList_setIfInBounds]
  induction l generalizing k with
  | nil => simp at hk
  | cons a l ih =>
    cases k with
    | zero => rfl
    | succ k =>
      have := ih (k := k) (by simpa using hk)
      unfold flatL at *
      simp only [List.flatMap_cons, List.set_cons_succ]
      rw [show (k + 1) * 2 = k * 2 + 2 by omega, show k * 2 + 2 + 1 = (k * 2 + 1) + 2 by omega]
      simpa using this
theorem Blk.setEl {W : World} {g : Nat} {t : TypeId} {l : List F2} (h : Blk W g t (flat l)) {k : Nat} (hk : k < l.length) (z : F2) : Blk ((W.setCell ⟨g, k * 2, none⟩ (.int .i64 z.1)).setCell ⟨g, k * 2 + 1, none⟩ (.int .i64 z.2)) g t (flat (l.set k z)) := by
  have := (h.put (k * 2) (.int .i64 z.1)).put (k * 2 + 1) (.int .i64 z.2)
  rwa [flat_set hk] at this

set_option maxRecDepth 100000 in
set_option maxHeartbeats 16000000 in
theorem isort_any (l : List F2) (hv : VL l) (h12 : l.length ≤ 12) (g : Nat) (t : TypeId) (cap n : Nat) (hn : l.length = n) (w : World) (hA : Blk w g t (flat l)) :
    Calls Try.prog 77 #[.slice (some ⟨g, 0, none⟩) n cap, .int .i64 0, .int .i64 n, .func (.func 33) #[] #[]] w fun e w' => e = .returned (.tuple #[]) ∧ ∃ m : List F2, m.Perm l ∧ Srt m n ∧ Blk w' g t (flat m) ∧ BelowX w.heap.size g w w' := by
  have HV := Lib.hid hv
  have HN := Lib.hid hn
  have hg := hA.lt
  have HS := Lib.hid hA
  have nn : n ≤ 12 := by omega
  clear hv hn hA h12
  go_enter Try.func77, Try.ntmps77
  go_wp2
  go_loopw [8] (fun i wr => ∃ (k : Nat) (m : List F2), 1 ≤ k ∧ (k ≤ n ∨ k = 1) ∧ i = .int .i64 k ∧ m.Perm l ∧ Srt m k ∧ Blk wr g t (flat m) ∧ BelowX w.heap.size g w wr) (fun i _ => 13 - (intOf i).toNat)
  case atStart => exact ⟨1, l, Nat.le_refl _, .inr rfl, rfl, List.Perm.refl _, fun p q x y h1 h2 => by omega, HS.out, BelowX.refl _ _ _⟩
  case round =>
    obtain ⟨k, m, hk1, hkn, rfl, hp, hs, hA, hX⟩ := hrel
    by_cases hlt : k < n
    · have hl : m.length = n := hp.length_eq.trans HN.out
      have vm := HV.out.perm hp
      have HP := Lib.hid hp
      have HSr := Lib.hid hs
      have HA := Lib.hid hA
      have HX := Lib.hid hX
      have HL := Lib.hid hl
      clear hp hs hA hX hl vm
      go_wp2
      go_loopw [9] (fun j wr => ∃ (q : Nat) (m : List F2), q ≤ k ∧ j = .int .i64 q ∧ m.Perm l ∧ SrtX m k q ∧ Blk wr g t (flat m) ∧ BelowX w.heap.size g w wr) (fun j _ => (intOf j).toNat)
      case atStart => exact ⟨k, m, Nat.le_refl _, rfl, HP.out, SrtX.start HSr.out, HA.out, HX.out⟩
      case round =>
        obtain ⟨q, m, hqk, rfl, hp, hs, hA, hX⟩ := hrel
        clear HP HSr HA HX HL
        have HL := Lib.hid (hp.length_eq.trans HN.out)
        have VM := Lib.hid (HV.out.perm hp)
        have HP := Lib.hid hp
        have HSr := Lib.hid hs
        clear hp hs
        have kk : IntKind.i64.wrap ((k : Int) + 1) = (k : Int) + 1 := by rw [IntKind.wrap_i64]; omega
        match q, hqk with
        | 0, hqk =>
          have HA := Lib.hid hA
          have HX := Lib.hid hX
          have HS0 := Lib.hid HSr.out.zero
          clear hA hX
          go_wp2_with fail
          go_quiet (fail)
          go_wp2
          go_roundw
          case rel => exact ⟨k + 1, m, by omega, .inl (by omega), by go_num, HP.out, HS0.out, HA.out.drewN nq, HX.out.drewN nq⟩
          case measure => simp [intOf]; omega
        | r + 1, hqk =>
          obtain ⟨x1, x2, hx⟩ : ∃ x1 x2, m[r]? = some (x1, x2) := ⟨_, _, List.getElem?_eq_getElem (by have := HL.out; omega)⟩
          obtain ⟨y1, y2, hy⟩ : ∃ y1 y2, m[r + 1]? = some (y1, y2) := ⟨_, _, List.getElem?_eq_getElem (by have := HL.out; omega)⟩
          obtain ⟨c, hc⟩ : ∃ c, cmpR y1 y2 x1 x2 = c := ⟨_, rfl⟩
          have C := cmp_w (VM.out.get hy).w2 (VM.out.get hx).w2
          rw [hc] at C
          obtain ⟨w0, rfl⟩ : ∃ w0 : World, w0 = wr := ⟨_, rfl⟩
          have keep : ∀ W : World, Below w0.heap.size w0 W → W.cell? ⟨g, (r + 1) * 2, none⟩ = some (.int .i64 y1) ∧ W.cell? ⟨g, (r + 1) * 2 + 1, none⟩ = some (.int .i64 y2) ∧ W.cell? ⟨g, r * 2, none⟩ = some (.int .i64 x1) ∧ W.cell? ⟨g, r * 2 + 1, none⟩ = some (.int .i64 x2) := fun W hB =>
            have k0 := hA.below hB hA.lt
            have k1 := k0.el hy
            have k2 := k0.el hx
            ⟨k1.1, k1.2, k2.1, k2.2⟩
          have h00 := Below.refl w0.heap.size w0
          have h0d : Below w0.heap.size w0 w0.drew := h00.drew
          have C1 := Lib.hid (fun (W : World) (hW : Below w0.heap.size w0 W) => (C W).mono fun e w' (h : _ ∧ _) => (⟨h.1, below_step hW h.2⟩ : _ ∧ Below w0.heap.size w0 w'))
          obtain ⟨d0, d1, d2, d3⟩ := keep w0 h00
          have Keep := Lib.hid keep
          have HA := Lib.hid hA
          have HX := Lib.hid hX
          have Hx := Lib.hid hx
          have Hy := Lib.hid hy
          have Hc := Lib.hid hc
          have i0 : (0 : Int) ≤ (r : Int) := by omega
          have i1 : (r : Int) < (n : Int) := by omega
          have i2 : (0 : Int) ≤ (r : Int) + 1 := by omega
          have i3 : (r : Int) + 1 < (n : Int) := by omega
          have i4 : (0 : Int) < (r : Int) + 1 := by omega
          have i6 : ((r : Int) + 1).toNat = r + 1 := by omega
          have rr : IntKind.i64.wrap ((r : Int) + 1 - 1) = (r : Int) := by rw [IntKind.wrap_i64]; omega
          have rr2 : IntKind.i64.wrap (r : Int) = (r : Int) := by rw [IntKind.wrap_i64]; omega
          have rr3 : ((r : Int)).toNat = r := by omega
          clear keep hA hX hx hy hc C
          by_cases hc0 : c < 0
          · have hcd : decide (c < 0) = true := decide_eq_true hc0
            go_wp2_with fail
            go_region_held3 (fun W => W.cell? ⟨g, (r + 1) * 2, none⟩ = some (.int .i64 y1) ∧ W.cell? ⟨g, (r + 1) * 2 + 1, none⟩ = some (.int .i64 y2) ∧ W.cell? ⟨g, r * 2, none⟩ = some (.int .i64 x1) ∧ W.cell? ⟨g, r * 2 + 1, none⟩ = some (.int .i64 x2)) (exact Keep.out _ (by with_reducible assumption))
              (first | (go_at_call 33; (with_reducible refine (C1.out _ (by with_reducible assumption)).mono ?_); rintro e w' ⟨rfl, hb⟩; obtain ⟨d0, d1, d2, d3⟩ := Keep.out _ hb))
            all_goals
              have hA := HA.out.below hb HA.out.lt
              have hX := HX.out.below HX.out.2.2.2.1 hb
              have fA := hA.frozen
              obtain ⟨wq, hwq⟩ : ∃ wq : World, w' = wq := ⟨_, rfl⟩
              rw [hwq] at d0 d1 d2 d3 hA hX fA ⊢
              have HA2 := Lib.hid hA
              have HX2 := Lib.hid hX
              clear hA hX hwq hb HA HX Keep C1 h00 h0d
              go_wp2
              go_region
              all_goals
                go_wp2
                go_roundw
                case rel =>
                  have h1 := HA2.out.setEl (k := r + 1) (by have := HL.out; omega) (x1, x2)
                  have h2 := h1.setEl (k := r) (by rw [List.length_set]; have := HL.out; omega) (y1, y2)
                  exact ⟨r, _, by omega, by go_num, (swapL_perm Hx.out Hy.out).trans HP.out, SrtX.swap hqk (by have := HL.out; omega) HSr.out Hx.out Hy.out (by rw [Hc.out]; exact hc0), h2.drew, ((((HX2.out.set _ _).set _ _).set _ _).set _ _).drew⟩
                case measure => simp [intOf]
          · have hcd : decide (c < 0) = false := decide_eq_false hc0
            go_wp2_with fail
            go_region_held3 (fun W => W.cell? ⟨g, (r + 1) * 2, none⟩ = some (.int .i64 y1) ∧ W.cell? ⟨g, (r + 1) * 2 + 1, none⟩ = some (.int .i64 y2) ∧ W.cell? ⟨g, r * 2, none⟩ = some (.int .i64 x1) ∧ W.cell? ⟨g, r * 2 + 1, none⟩ = some (.int .i64 x2)) (exact Keep.out _ (by with_reducible assumption))
              (first | (go_at_call 33; (with_reducible refine (C1.out _ (by with_reducible assumption)).mono ?_); rintro e w' ⟨rfl, hb⟩; obtain ⟨d0, d1, d2, d3⟩ := Keep.out _ hb))
            all_goals
              go_wp2
              go_roundw
              case rel => exact ⟨k + 1, m, by omega, .inl (by omega), by go_num, HP.out, SrtX.stop VM.out HSr.out Hx.out Hy.out (by rw [Hc.out]; omega), HA.out.below hb HA.out.lt, HX.out.below HX.out.2.2.2.1 hb⟩
              case measure => simp [intOf]; omega
    · have hl : m.length = n := hp.length_eq.trans HN.out
      have HQ := Lib.hid (And.intro hp (And.intro hs (And.intro hA hX)))
      have hnk : n = k ∨ (k = 1 ∧ n = 0) := by omega
      clear hp hs hA hX hl
      go_wp2
      go_end0
      refine ⟨rfl, m, HQ.out.1, ?_, HQ.out.2.2⟩
      rcases hnk with rfl | ⟨_, rfl⟩
      · exact HQ.out.2.1
      · exact fun p q x y _ h2 => by omega

set_option maxRecDepth 100000 in
set_option maxHeartbeats 4000000 in
theorem pdq_any (l : List F2) (hv : VL l) (h12 : l.length ≤ 12) (g : Nat) (t : TypeId) (cap n : Nat) (hn : l.length = n) (lim : Int) (w : World) (hA : Blk w g t (flat l)) :
    Calls Try.prog 60 #[.slice (some ⟨g, 0, none⟩) n cap, .int .i64 0, .int .i64 n, .int .i64 lim, .func (.func 33) #[] #[]] w fun e w' => e = .returned (.tuple #[]) ∧ ∃ m : List F2, m.Perm l ∧ Srt m n ∧ Blk w' g t (flat m) ∧ BelowX w.heap.size g w w' := by
  have IS := Lib.hid (isort_any l hv h12 g t cap n hn w hA)
  have n12 : (n : Int) ≤ 12 := by omega
  have n13 : IntKind.i64.wrap (n : Int) = (n : Int) := by rw [IntKind.wrap_i64]; omega
  clear hn hA hv h12
  go_enter Try.func60, Try.ntmps60
  go_wp2
  refine wp_loop_rounds 1 ?_
  rw [rounds_succ]
  go_wp2_with fail
  (with_reducible refine IS.out.mono ?_)
  rintro e w1 ⟨rfl, hQ⟩
  have HQ := Lib.hid hQ
  clear hQ
  go_wp2
  refine bodyPost_ret (v := .tuple #[]) ?_ rfl ⟨rfl, HQ.out⟩
  simp [results, Try.results60]
set_option maxRecDepth 100000 in
set_option maxHeartbeats 4000000 in
theorem sort_any (l : List F2) (hv : VL l) (h12 : l.length ≤ 12) (g : Nat) (t : TypeId) (cap n : Nat) (hn : l.length = n) (w : World) (hA : Blk w g t (flat l)) :
    Calls Try.prog 41 #[.slice (some ⟨g, 0, none⟩) n cap, .func (.func 33) #[] #[]] w fun e w' => e = .returned (.tuple #[]) ∧ ∃ m : List F2, m.Perm l ∧ Srt m n ∧ Blk w' g t (flat m) ∧ BelowX w.heap.size g w w' := by
  have PQ := Lib.hid (fun lim => pdq_any l hv h12 g t cap n hn lim w hA)
  have BL := Lib.hid (Try.bits_Len (n : Int) w (by omega) (by omega))
  have n13 : IntKind.u64.wrap (n : Int) = (n : Int) := by rw [IntKind.wrap_u64]; omega
  clear hn hA hv h12
  go_enter Try.func41, Try.ntmps41
  go_wp2_with fail
  (with_reducible refine BL.out.mono ?_)
  rintro e w1 ⟨rfl, rfl⟩
  go_wp2_with fail
  (with_reducible refine (PQ.out _).mono ?_)
  rintro e w1 ⟨rfl, hQ⟩
  have HQ := Lib.hid hQ
  clear hQ
  go_wp2
  go_end0
  exact ⟨rfl, HQ.out⟩
end Go.Proofs.Yteppamchbgnlfaa
