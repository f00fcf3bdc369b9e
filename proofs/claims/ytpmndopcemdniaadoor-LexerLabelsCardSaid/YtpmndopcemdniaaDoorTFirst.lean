/- Contracts of package lexer's word, number, text, symbol, first and size. Conditions: as each states. -/
import Derived.Test.YtpmndopcemdniaaDoorTCut
namespace Go.Proofs.YtpmndopcemdniaaDoor
open Go.RowKit

/-- A token as a value; with its error. -/
def tkCells (t : Tk) : Array Value := #[.int .i64 (t.kind : Int), .string (ba t.text), .int .i64 (t.n : Int), .int .i64 (t.pos : Int)]
def tkV (t : Tk) : Value := .agg (tkCells t)
def TV (x : Tk × Nat) : Value := .tuple #[tkV x.1, .int .i64 (x.2 : Int)]
theorem ret_tok {fn : Func} {p q : Tmp} (hr : fn.results = #[.cell p 37, .tmp q]) {tmps : Array Value} {w : World} {g : Nat} {x : Tk × Nat} {R : Ending → World → Prop}
    (hp : tmps.getD p undef = .pointer (some ⟨g, 0, none⟩)) (hq : tmps.getD q undef = .int .i64 (x.2 : Int)) (h : Blk w g 37 (tkCells x.1)) (hR : R (.returned (TV x)) w) :
    bodyPost Tryd.prog fn R .ret { tmps := tmps, defers := [] } w := by
  refine bodyPost_ret (v := TV x) ?_ rfl hR
  have hp' : tmps[p]?.getD undef = .pointer (some ⟨g, 0, none⟩) := by simpa using hp
  have hq' : tmps[q]?.getD undef = .int .i64 (x.2 : Int) := by simpa using hq
  have hl := run_loadVar_row (P := Tryd.prog) w g 37 37 _ (0, 0) _ h Tryd.underlying37 rfl (by kernel_rfl)
  simp [results, hr, hp', hq', asAddr, hl, TV, tkV, tkCells]
theorem putT {W w : World} {g : Nat} {a b c d : Value} (h : Blk W g 37 #[a, b, c, d]) (hW : Below w.heap.size w W) (hg : w.heap.size ≤ g) (x0 x1 x2 x3 : Value) :
    Blk ((((W.setCell ⟨g, 0, none⟩ x0).setCell ⟨g, 1, none⟩ x1).setCell ⟨g, 2, none⟩ x2).setCell ⟨g, 3, none⟩ x3) g 37 #[x0, x1, x2, x3] ∧
    Below w.heap.size w ((((W.setCell ⟨g, 0, none⟩ x0).setCell ⟨g, 1, none⟩ x1).setCell ⟨g, 2, none⟩ x2).setCell ⟨g, 3, none⟩ x3) := by
  have k := (((h.put 0 x0).put 1 x1).put 2 x2).put 3 x3
  exact ⟨k, (((hW.setCell (p := ⟨g, 0, none⟩) hg _).setCell (p := ⟨g, 1, none⟩) hg _).setCell (p := ⟨g, 2, none⟩) hg _).setCell (p := ⟨g, 3, none⟩) hg _⟩
theorem step_below {w0 W W' : World} (h : Below w0.heap.size w0 W) (k : Below W.heap.size W W') : Below w0.heap.size w0 W' := h.trans (k.mono h.size)
def zeroT : Array Value := #[.int .i64 0, .string ⟨#[]⟩, .int .i64 0, .int .i64 0]

set_option maxHeartbeats 2000000 in
theorem xword_any (s : ByteArray) (w : World) (hs : s.size ≤ 140737488351232) {c : UInt8} {r : List UInt8} (hl : s.data.toList = c :: r) (hc : leB c = true) :
    Calls Tryd.prog 67 #[.string s] w fun e w' => e = .returned (TV (firstL s.data.toList)) ∧ Below w.heap.size w w' := by
  have Pf := Lib.hid (fun W => prefix_any cls_word s W hs)
  have hA : Blk (w.alloc (.cells #[.int .i64 0, .string ⟨#[]⟩, .int .i64 0, .int .i64 0] 37)) w.heap.size 37 #[.int .i64 0, .string ⟨#[]⟩, .int .i64 0, .int .i64 0] := Blk.new w _ _
  have hW : Below w.heap.size w (w.alloc (.cells #[.int .i64 0, .string ⟨#[]⟩, .int .i64 0, .int .i64 0] 37)) := (Below.refl _ w).alloc (Nat.le_refl _) _
  rw [hl] at Pf
  have hz := ba_len ((c :: r).takeWhile woB)
  by_cases h16 : ((c :: r).takeWhile woB).length ≤ 16
  · have HF := Lib.hid (show firstL s.data.toList = (⟨0, (c :: r).takeWhile woB, 0, 0⟩, 0) by rw [hl, first_cons, if_pos hc, if_pos h16])
    obtain ⟨l, hl2⟩ : ∃ l, (c :: r).takeWhile woB = l := ⟨_, rfl⟩
    rw [hl2] at HF Pf hz h16
    have h16 : (ba l).size ≤ 16 := by omega
    clear hz hl2 hl
    go_enter Tryd.func67, Tryd.ntmps67
    go_wp2_with (go_at_call 82; refine (Pf.out _).mono ?_; rintro e w1 ⟨rfl, hB⟩; replace hA := hA.below hB hA.lt; replace hW := step_below hW hB; clear hB; have fz := hA.frozen; have c0 := hA.cell 0; have c1 := hA.cell 1; have c2 := hA.cell 2; have c3 := hA.cell 3)
    exact ret_tok (x := (⟨0, l, 0, 0⟩, 0)) (p := 2) (q := 3) (by kernel_rfl) rfl rfl (putT hA hW (Nat.le_refl _) _ _ _ _).1 ⟨by rw [HF.out], (putT hA hW (Nat.le_refl _) _ _ _ _).2⟩
  · have HF := Lib.hid (show firstL s.data.toList = (tk0, 4) by rw [hl, first_cons, if_pos hc, if_neg h16])
    obtain ⟨l, hl2⟩ : ∃ l, (c :: r).takeWhile woB = l := ⟨_, rfl⟩
    rw [hl2] at Pf hz h16
    have h16 : ¬ (ba l).size ≤ 16 := by omega
    clear hz hl2 hl
    go_enter Tryd.func67, Tryd.ntmps67
    go_wp2_with (go_at_call 82; refine (Pf.out _).mono ?_; rintro e w1 ⟨rfl, hB⟩; replace hA := hA.below hB hA.lt; replace hW := step_below hW hB; clear hB; have fz := hA.frozen; have c0 := hA.cell 0; have c1 := hA.cell 1; have c2 := hA.cell 2; have c3 := hA.cell 3)
    exact ret_tok (x := (tk0, 4)) (p := 2) (q := 3) (by kernel_rfl) rfl rfl (putT hA hW (Nat.le_refl _) _ _ _ _).1 ⟨by rw [HF.out], (putT hA hW (Nat.le_refl _) _ _ _ _).2⟩

theorem all_takeWhile {p : UInt8 → Bool} : ∀ l : List UInt8, ∀ c ∈ l.takeWhile p, p c = true
  | [], c, h => by simp at h
  | d :: r, c, h => by
    rw [List.takeWhile_cons] at h
    split at h
    · rcases List.mem_cons.1 h with rfl | h
      · assumption
      · exact all_takeWhile r c h
    · simp at h
set_option maxHeartbeats 2000000 in
theorem xnumber_any (s : ByteArray) (w : World) (hs : s.size ≤ 140737488351232) (hE : Env w) {c : UInt8} {r : List UInt8} (hl : s.data.toList = c :: r) (hc0 : leB c = false) (hc : diB c = true) :
    Calls Tryd.prog 69 #[.string s] w fun e w' => e = .returned (TV (firstL s.data.toList)) ∧ Below w.heap.size w w' := by
  have Pf := Lib.hid (fun W => prefix_any cls_digit s W hs)
  have hA : Blk (w.alloc (.cells #[.int .i64 0, .string ⟨#[]⟩, .int .i64 0, .int .i64 0] 37)) w.heap.size 37 #[.int .i64 0, .string ⟨#[]⟩, .int .i64 0, .int .i64 0] := Blk.new w _ _
  have hW : Below w.heap.size w (w.alloc (.cells #[.int .i64 0, .string ⟨#[]⟩, .int .i64 0, .int .i64 0] 37)) := (Below.refl _ w).alloc (Nat.le_refl _) _
  rw [hl] at Pf
  have hne : (c :: r).takeWhile diB ≠ [] := by rw [List.takeWhile_cons, if_pos hc]; simp
  have hat := atoi_digits _ hne (all_takeWhile (c :: r))
  have hz : (ba ((c :: r).takeWhile diB)).size ≤ 281474976710656 := by
    have h1 : ((c :: r).takeWhile diB).length ≤ (c :: r).length := (List.takeWhile_prefix _).length_le
    have h2 : (c :: r).length = s.size := by rw [← hl, list_len]
    rw [ba_len]
    omega
  have HE := Lib.hid (fun (W : World) (h : Below w.heap.size w W) => hE.below h)
  by_cases hv : valF 0 ((c :: r).takeWhile diB) ≤ 1073741824
  · have HF := Lib.hid (show firstL s.data.toList = (⟨1, (c :: r).takeWhile diB, valF 0 ((c :: r).takeWhile diB), 0⟩, 0) by rw [hl, first_cons, if_neg (by simp [hc0]), if_pos hc, if_pos hv])
    rw [if_pos (by omega)] at hat
    obtain ⟨l, hl2⟩ : ∃ l, (c :: r).takeWhile diB = l := ⟨_, rfl⟩
    rw [hl2] at HF Pf hz hat hv
    obtain ⟨v, hv2⟩ : ∃ v, valF 0 l = v := ⟨_, rfl⟩
    rw [hv2] at HF hat hv
    have HA := Lib.hid hat
    have hv3 : (v : Int) ≤ 1073741824 := by omega
    clear hat hl2 hv2 hne hl
    go_enter Tryd.func69, Tryd.ntmps69
    go_wp2_with (go_at_call 82; refine (Pf.out _).mono ?_; rintro e w1 ⟨rfl, hB⟩; replace hA := hA.below hB hA.lt; replace hW := step_below hW hB; clear hB; have fz := hA.frozen; have c0 := hA.cell 0; have c1 := hA.cell 1; have c2 := hA.cell 2; have c3 := hA.cell 3)
    refine (atoi_any (ba l) hz w1 (HE.out _ hW)).mono ?_
    rintro e w2 ⟨⟨v', ev, rfl, ⟨h1, rfl⟩ | ⟨h1, -⟩⟩, hB⟩
    · obtain rfl : (v : Int) = v' := by have h2 := HA.out; rw [show (ba l).data.toList = l from rfl, h2] at h1; exact Option.some.inj h1
      replace hA := hA.below hB hA.lt
      replace hW := step_below hW hB
      clear hB fz c0 c1 c2 c3
      have fz := hA.frozen
      have c0 := hA.cell 0
      have c1 := hA.cell 1
      have c2 := hA.cell 2
      have c3 := hA.cell 3
      clear h1
      go_wp2
      exact ret_tok (x := (⟨1, l, v, 0⟩, 0)) (p := 2) (q := 3) (by kernel_rfl) rfl rfl (putT hA hW (Nat.le_refl _) _ _ _ _).1 ⟨by rw [HF.out], (putT hA hW (Nat.le_refl _) _ _ _ _).2⟩
    · rw [show (ba l).data.toList = l from rfl, HA.out] at h1
      cases h1
  · have HF := Lib.hid (show firstL s.data.toList = (tk0, 5) by rw [hl, first_cons, if_neg (by simp [hc0]), if_pos hc, if_neg hv])
    obtain ⟨l, hl2⟩ : ∃ l, (c :: r).takeWhile diB = l := ⟨_, rfl⟩
    rw [hl2] at Pf hz hat hv
    obtain ⟨v, hv2⟩ : ∃ v, valF 0 l = v := ⟨_, rfl⟩
    rw [hv2] at hat hv
    have HA := Lib.hid hat
    have hv3 : ¬ (v : Int) ≤ 1073741824 := by omega
    clear hat hl2 hv2 hne hl
    go_enter Tryd.func69, Tryd.ntmps69
    go_wp2_with (go_at_call 82; refine (Pf.out _).mono ?_; rintro e w1 ⟨rfl, hB⟩; replace hA := hA.below hB hA.lt; replace hW := step_below hW hB; clear hB; have fz := hA.frozen; have c0 := hA.cell 0; have c1 := hA.cell 1; have c2 := hA.cell 2; have c3 := hA.cell 3)
    refine (atoi_any (ba l) hz w1 (HE.out _ hW)).mono ?_
    rintro e w2 ⟨⟨v', ev, rfl, ⟨h1, rfl⟩ | ⟨h1, N, rfl⟩⟩, hB⟩
    · obtain rfl : (v : Int) = v' := by
        have h2 := HA.out
        rw [show (ba l).data.toList = l from rfl, h2] at h1
        split at h1
        · exact Option.some.inj h1
        · cases h1
      replace hA := hA.below hB hA.lt
      replace hW := step_below hW hB
      clear hB fz c0 c1 c2 c3
      have fz := hA.frozen
      have c0 := hA.cell 0
      have c1 := hA.cell 1
      have c2 := hA.cell 2
      have c3 := hA.cell 3
      clear h1
      go_wp2
      exact ret_tok (x := (tk0, 5)) (p := 2) (q := 3) (by kernel_rfl) rfl rfl (putT hA hW (Nat.le_refl _) _ _ _ _).1 ⟨by rw [HF.out], (putT hA hW (Nat.le_refl _) _ _ _ _).2⟩
    · replace hA := hA.below hB hA.lt
      replace hW := step_below hW hB
      clear hB fz c0 c1 c2 c3
      have fz := hA.frozen
      have c0 := hA.cell 0
      have c1 := hA.cell 1
      have c2 := hA.cell 2
      have c3 := hA.cell 3
      clear h1
      go_wp2
      exact ret_tok (x := (tk0, 5)) (p := 2) (q := 3) (by kernel_rfl) rfl rfl (putT hA hW (Nat.le_refl _) _ _ _ _).1 ⟨by rw [HF.out], (putT hA hW (Nat.le_refl _) _ _ _ _).2⟩
end Go.Proofs.YtpmndopcemdniaaDoor
