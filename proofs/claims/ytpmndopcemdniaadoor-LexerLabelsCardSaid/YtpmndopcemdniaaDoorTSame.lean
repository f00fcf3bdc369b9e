/- Contracts of the law's same, agrees and lives. Conditions: the table of symbols as the program lays it. -/
import Derived.BigQuiet
import Derived.Deep.QuietTactic
import Derived.Test.YtpmndopcemdniaaDoorTRTok
namespace Go.Proofs.YtpmndopcemdniaaDoor
open Go.RowKit

theorem tokens_any (s : ByteArray) (w : World) (hs : s.size ≤ 140737488351232) (hE : LEnv w) : Calls Tryd.prog 20 #[.string s] w (TokPost w (tokL s.data.toList)) :=
  callsIn_wide.1 (tokens_in 6 (Nat.le_refl _) s w hs hE)

/-- Tokens lie at a slice value. -/
def TsAt (W : World) (v : Value) (ts : List Tk) : Prop :=
  (v = .slice none 0 0 ∧ ts = []) ∨ ∃ g cap, v = .slice (some ⟨g, 0, none⟩) ts.length cap ∧ g < W.heap.size ∧ ∀ k t, ts[k]? = some t →
    W.cell? ⟨g, k * 4, none⟩ = some (.int .i64 (t.kind : Int)) ∧ W.cell? ⟨g, k * 4 + 1, none⟩ = some (.string (ba t.text)) ∧ W.cell? ⟨g, k * 4 + 2, none⟩ = some (.int .i64 (t.n : Int)) ∧ W.cell? ⟨g, k * 4 + 3, none⟩ = some (.int .i64 (t.pos : Int))
theorem rowT_at : ∀ (ts : List Tk) (k : Nat) (t : Tk), ts[k]? = some t → ∀ f, f < 4 → (rowT ts)[k * 4 + f]? = (tkL t)[f]?
  | [], k, t, h, _, _ => by simp at h
  | x :: ts, 0, t, h, f, hf => by
    simp at h; subst h
    unfold rowT
    rw [List.flatMap_cons, List.getElem?_append_left (by simp [tkL]; omega), Nat.zero_mul, Nat.zero_add]
  | x :: ts, k + 1, t, h, f, hf => by
    have ih := rowT_at ts k t (by simpa using h) f hf
    unfold rowT at ih ⊢
    rw [List.flatMap_cons, List.getElem?_append_right (by simp [tkL]; omega)]
    rw [show (k + 1) * 4 + f - (tkL x).length = k * 4 + f by simp [tkL]; omega]
    exact ih
theorem tsAt_of {W : World} {base : Nat} {e : TypeId} {v : Value} {ts : List Tk} (h : W.ownsRow base e 4 v ts.length (rowT ts)) : TsAt W v ts := by
  have h0 := h
  rcases h.2 with ⟨rfl, h2⟩ | ⟨g, cap, cur, rfl, _, hg, _⟩
  · exact .inl ⟨rfl, List.eq_nil_of_length_eq_zero h2⟩
  · have hlt := (Array.getElem?_eq_some_iff.1 hg).1
    refine .inr ⟨g, cap, rfl, hlt, fun k t ht => ?_⟩
    have hk := (List.getElem?_eq_some_iff.1 ht).1
    have at_ : ∀ f, f < 4 → W.cell? ⟨g, k * 4 + f, none⟩ = (tkL t)[f]? := fun f hf => by
      rw [h0.cellAt (k * 4 + f) (by omega)]
      exact rowT_at ts k t ht f hf
    exact ⟨at_ 0 (by omega), at_ 1 (by omega), at_ 2 (by omega), at_ 3 (by omega)⟩
theorem TsAt.below {W W' : World} {v : Value} {ts : List Tk} (h : TsAt W v ts) (hb : Below W.heap.size W W') : TsAt W' v ts := by
  rcases h with h | ⟨g, cap, e, hg, hc⟩
  · exact .inl h
  · exact .inr ⟨g, cap, e, Nat.lt_of_lt_of_le hg hb.size, fun k t ht => by
      obtain ⟨a, b, c, d⟩ := hc k t ht
      exact ⟨(hb.cell (p := ⟨g, k * 4, none⟩) hg).trans a, (hb.cell (p := ⟨g, k * 4 + 1, none⟩) hg).trans b, (hb.cell (p := ⟨g, k * 4 + 2, none⟩) hg).trans c, (hb.cell (p := ⟨g, k * 4 + 3, none⟩) hg).trans d⟩⟩
theorem TsAt.slice {W : World} {v : Value} {ts : List Tk} (h : TsAt W v ts) : ∃ a cap, v = .slice a ts.length cap := by
  rcases h with ⟨rfl, rfl⟩ | ⟨g, cap, e, _⟩
  · exact ⟨_, _, rfl⟩
  · exact ⟨_, _, e⟩

set_option maxRecDepth 100000 in
set_option maxHeartbeats 8000000 in
/-- Equal tokens are the same. -/
theorem same_any (ts : List Tk) (va vb : Value) (w : World) (hA : TsAt w va ts) (hB : TsAt w vb ts) (hl : ts.length ≤ 2000) :
    Calls Tryd.prog 28 #[va, vb] w fun e w' => e = .returned (.bool true) ∧ Below w.heap.size w w' := by
  by_cases hn : ts = []
  · subst hn
    obtain ⟨a, c, rfl⟩ := hA.slice
    obtain ⟨a2, c2, rfl⟩ := hB.slice
    clear hA hB
    go_enter Tryd.func28, Tryd.ntmps28
    go_wp2
    go_loop [5] (fun i => i = .int .i64 0) (fun _ => 0)
    case atStart => rfl
    case round =>
      subst hrel
      go_wp2
      go_ret
      exact ⟨rfl, Below.refl _ _⟩
  · rcases hA with ⟨_, h0⟩ | ⟨g, cap, rfl, hg, hc⟩
    · exact absurd h0 hn
    rcases hB with ⟨_, h0⟩ | ⟨g2, cap2, rfl, hg2, hc2⟩
    · exact absurd h0 hn
    clear hn
    have HC := Lib.hid hc
    have HC2 := Lib.hid hc2
    obtain ⟨N, hN⟩ : ∃ N, ts.length = N := ⟨_, rfl⟩
    rw [hN] at hl ⊢
    have HN := Lib.hid hN
    clear hc hc2 hN
    go_enter Tryd.func28, Tryd.ntmps28
    go_wp2
    go_loopw [5] (fun i wr => ∃ k : Nat, k ≤ N ∧ i = .int .i64 (k : Int) ∧ Below w.heap.size w wr) (fun i _ => N - (intOf i).toNat)
    case atStart => exact ⟨0, Nat.zero_le _, rfl, Below.refl _ _⟩
    case round =>
      obtain ⟨k, hk, rfl, hw⟩ := hrel
      by_cases hlt : k < N
      · have b1 : (k : Int) < (N : Int) := by omega
        obtain ⟨t, ht⟩ : ∃ t, ts[k]? = some t := ⟨_, List.getElem?_eq_getElem (by rw [HN.out]; exact hlt)⟩
        obtain ⟨a0, a1, a2, a3⟩ := HC.out k t ht
        obtain ⟨d0, d1, d2, d3⟩ := HC2.out k t ht
        replace a0 := (hw.cell (p := ⟨g, k * 4, none⟩) hg).trans a0
        replace a1 := (hw.cell (p := ⟨g, k * 4 + 1, none⟩) hg).trans a1
        replace a2 := (hw.cell (p := ⟨g, k * 4 + 2, none⟩) hg).trans a2
        replace a3 := (hw.cell (p := ⟨g, k * 4 + 3, none⟩) hg).trans a3
        replace d0 := (hw.cell (p := ⟨g2, k * 4, none⟩) hg2).trans d0
        replace d1 := (hw.cell (p := ⟨g2, k * 4 + 1, none⟩) hg2).trans d1
        replace d2 := (hw.cell (p := ⟨g2, k * 4 + 2, none⟩) hg2).trans d2
        replace d3 := (hw.cell (p := ⟨g2, k * 4 + 3, none⟩) hg2).trans d3
        obtain ⟨x0, x1, x2, x3⟩ := t
        clear ht
        go_wp2
        go_quiet (fail)
        go_wp2
        go_roundw
        case measure => simp [intOf]; omega
        case rel => exact ⟨k + 1, by omega, by go_num, below_draw hw _⟩
      · obtain rfl : k = N := by omega
        go_wp2
        go_ret
        exact ⟨rfl, hw⟩

theorem comb_len (s : List UInt8) : (tokL s).1.length ≤ 2000 := by
  have key : ∀ (f p : Nat) (l : List UInt8), (lexF f p l).1.length ≤ l.length := fun f => by
    induction f with
    | zero => intro p l; exact Nat.zero_le _
    | succ f ih =>
      intro p l
      cases l with
      | nil => exact Nat.zero_le _
      | cons c r =>
        unfold lexF
        split
        · have := ih (p + 1) r; rw [List.length_cons]; omega
        · split
          · rename_i h0
            have hs := first_size h0
            have := ih (p + sizeT (firstL (c :: r)).1) ((c :: r).drop (sizeT (firstL (c :: r)).1))
            rw [List.length_drop, List.length_cons] at this
            simp only [List.length_cons]
            omega
          · exact Nat.zero_le _
  unfold tokL
  split
  · exact Nat.zero_le _
  · unfold comb
    split
    · have := key s.length 0 s
      show ([] ++ (lexP 0 s).1).length ≤ 2000
      rw [List.nil_append]
      unfold lexP
      omega
    · exact Nat.zero_le _

set_option maxHeartbeats 4000000 in
/-- The program and the reference agree on every source. -/
theorem agrees_any (s : ByteArray) (w : World) (hs : s.size ≤ 140737488351232) (hE : LEnv w) : Calls Tryd.prog 11 #[.string s] w fun e w' => e = .returned (.bool true) ∧ Below w.heap.size w w' := by
  have hlen := comb_len s.data.toList
  obtain ⟨⟨ts, a, er⟩, hq⟩ : ∃ q, tokL s.data.toList = q := ⟨_, rfl⟩
  have T := tokens_any s w hs hE
  have U := Lib.hid (fun W => rtokens_any s W hs)
  rw [hq] at T U hlen
  replace T := Lib.hid T
  dsimp only at hlen
  clear hq
  go_enter Tryd.func11, Tryd.ntmps11
  go_wp2_with (first
    | (go_at_call 20; refine (T.out).mono ?_; rintro e w1 ⟨v1, rfl, ho1, hB1⟩; have hT1 := Lib.hid (tsAt_of ho1); clear ho1)
    | (go_at_call 27; refine (U.out _).mono ?_; rintro e w2 ⟨v2, rfl, ho2, hB2⟩; have hT2 := Lib.hid (tsAt_of ho2); have hT3 := Lib.hid (hT1.out.below hB2); have hB3 := step_low hB1 hB2; clear ho2)
    | (go_at_call 28; refine (same_any ts v1 v2 _ hT3.out hT2.out hlen).mono ?_; rintro e w3 ⟨rfl, hB4⟩; have hB5 := step_low hB3 hB4))
  go_ret
  exact ⟨rfl, hB5⟩

theorem live1 : tokL [97, 46, 107, 116, 104, 40, 51, 44, 32, 50, 41, 64, 48, 53] = ([⟨0, [97], 0, 0⟩, ⟨3, [46], 0, 1⟩, ⟨0, [107, 116, 104], 0, 2⟩, ⟨3, [40], 0, 5⟩, ⟨1, [51], 3, 6⟩, ⟨3, [44], 0, 7⟩, ⟨1, [50], 2, 9⟩, ⟨3, [41], 0, 10⟩, ⟨3, [64], 0, 11⟩, ⟨1, [48, 53], 5, 12⟩], 0, 0) := by decide +kernel
theorem live2 : tokL [97, 33, 98] = ([], 1, 2) := by decide +kernel

set_option maxRecDepth 100000 in
set_option maxHeartbeats 4000000 in
theorem lives_any (w : World) (hE : LEnv w) : Calls Tryd.prog 14 #[] w fun e w' => e = .returned (.bool true) ∧ Below w.heap.size w w' := by
  have T := Lib.hid (fun W (h : LEnv W) => tokens_any ⟨#[97, 46, 107, 116, 104, 40, 51, 44, 32, 50, 41, 64, 48, 53]⟩ W (by decide) h)
  have U := Lib.hid (fun W (h : LEnv W) => tokens_any ⟨#[97, 33, 98]⟩ W (by decide) h)
  rw [show (⟨#[97, 46, 107, 116, 104, 40, 51, 44, 32, 50, 41, 64, 48, 53]⟩ : ByteArray).data.toList = [97, 46, 107, 116, 104, 40, 51, 44, 32, 50, 41, 64, 48, 53] from rfl, live1] at T
  rw [show (⟨#[97, 33, 98]⟩ : ByteArray).data.toList = [97, 33, 98] from rfl, live2] at U
  go_enter Tryd.func14, Tryd.ntmps14
  go_wp2_with (first
    | (go_at_call 20; first
       | (refine (U.out _ (hE.below hB1)).mono ?_; rintro e w2 ⟨v2, rfl, ho2, hB2⟩; have hB3 := step_low hB1 hB2; have hT3 := hT1.out.below hB2; obtain ⟨a2, c2, rfl⟩ := (tsAt_of ho2).slice; clear ho2
          rcases hT3 with ⟨_, h0⟩ | ⟨g, cap, rfl, hg, hc⟩
          · exact absurd h0 (by simp)
          have hc9 := hc 9 ⟨1, [48, 53], 5, 12⟩ rfl
          obtain ⟨y0, y1, y2, y3⟩ := hc9
          have z1 : w2.cell? ⟨g, 37, none⟩ = some (.string (ba [48, 53])) := y1
          have z2 : w2.cell? ⟨g, 38, none⟩ = some (.int .i64 5) := y2
          have z3 : w2.cell? ⟨g, 39, none⟩ = some (.int .i64 12) := y3
          have z4 : ((ba [48, 53]).toList == [48, 53]) = true := by rw [ba_toList]; rfl
          clear y0 y1 y2 y3 hc)
       | (refine (T.out _ hE).mono ?_; rintro e w1 ⟨v1, rfl, ho1, hB1⟩; have hT1 := Lib.hid (tsAt_of ho1); clear ho1)))
  go_ret
  exact ⟨rfl, hB3⟩
end Go.Proofs.YtpmndopcemdniaaDoor
