/- Contracts of package lexer's first and size. Conditions: as each states. -/
import Derived.Test.YtpmndopcemdniaaDoorTText
import Derived.Test.YtpmndopcemdniaaDoorTSym
namespace Go.Proofs.YtpmndopcemdniaaDoor
open Go.RowKit

theorem pre_quote (c : UInt8) (r : List UInt8) : Lib.hasPrefix (c :: r) [34] = decide (c = 34) := by
  unfold Lib.hasPrefix
  by_cases h : c = 34
  · subst h; rfl
  · rw [decide_eq_false h]
    simp [List.isPrefixOf]
    exact fun e => h e.symm
theorem leB_I (c : UInt8) : ltrI (c.toNat : Int) = leB c := by unfold leB ltrI; simp only [decide_eq_decide]; omega
theorem diB_I (c : UInt8) : digI (c.toNat : Int) = diB c := by unfold diB digI; simp only [decide_eq_decide]; omega

set_option maxHeartbeats 4000000 in
theorem xfirst_any (s : ByteArray) (w : World) (hs : s.size ≤ 140737488351232) (hE : LEnv w) {c : UInt8} {r : List UInt8} (hl : s.data.toList = c :: r) :
    Calls Tryd.prog 51 #[.string s] w fun e w' => e = .returned (TV (firstL s.data.toList)) ∧ Below w.heap.size w w' := by
  have hA : Blk (w.alloc (.cells #[.int .i64 0, .string ⟨#[]⟩, .int .i64 0, .int .i64 0] 37)) w.heap.size 37 #[.int .i64 0, .string ⟨#[]⟩, .int .i64 0, .int .i64 0] := Blk.new w _ _
  have hW : Below w.heap.size w (w.alloc (.cells #[.int .i64 0, .string ⟨#[]⟩, .int .i64 0, .int .i64 0] 37)) := (Below.refl _ w).alloc (Nat.le_refl _) _
  have hsz : 0 < s.size := by rw [← list_len s, hl]; simp
  have hch : s[0]'hsz = c := by
    have h1 := drop_cons s 0 hsz
    rw [List.drop_zero, hl] at h1
    exact (List.cons.inj h1).1.symm
  obtain ⟨⟨⟨x0, x1, x2, x3⟩, x4⟩, hx⟩ : ∃ x, firstL s.data.toList = x := ⟨_, rfl⟩
  have b1 : (0 : Int) < (s.size : Int) := by omega
  have b2 : (s[0]'hsz).toNat = c.toNat := by rw [hch]
  have b3 := c.toNat_lt
  rw [hx]
  have fin := fun (W : World) (e : Ending) (w' : World) (h : e = .returned (TV (firstL s.data.toList)) ∧ Below W.heap.size W w') => (show e = .returned (.tuple #[.agg #[.int .i64 (x0 : Int), .string (ba x1), .int .i64 (x2 : Int), .int .i64 (x3 : Int)], .int .i64 (x4 : Int)]) ∧ Below W.heap.size W w' from by rw [hx] at h; exact h)
  have hP := fun W => Tryd.strings_HasPrefix s ⟨#[34]⟩ W
  rw [show (⟨#[34]⟩ : ByteArray).data.toList = [34] from rfl, hl, pre_quote c r] at hP
  have HPF := Lib.hid hP
  have l1 := leB_I c
  have l2 := diB_I c
  cases e1 : leB c with
  | true =>
    rw [e1] at l1
    have L1 := Lib.hid (fun (W : World) (h : Below w.heap.size w W) => (xword_any s W hs hl e1).mono (fin W))
    clear hx hl hch fin hP
    go_enter Tryd.func51, Tryd.ntmps51
    go_wp2_with (first | (go_at_call 66; refine (xletter_any _ _).mono ?_; rintro e w' ⟨rfl, rfl⟩) | (go_at_call 68; refine (xdigit_any _ _).mono ?_; rintro e w' ⟨rfl, rfl⟩) | (go_at_call 70; refine (HPF.out _).mono ?_; rintro e w' ⟨rfl, rfl⟩) | (go_at_call 67; refine (L1.out _ hW).mono ?_; rintro e w2 ⟨rfl, hB⟩; replace hA := hA.below hB hA.lt; replace hW := step_below hW hB; clear hB; have fz := hA.frozen; have c0 := hA.cell 0; have c1 := hA.cell 1; have c2 := hA.cell 2; have c3 := hA.cell 3))
    exact ret_tok (x := (⟨x0, x1, x2, x3⟩, x4)) (p := 2) (q := 3) (by kernel_rfl) rfl rfl (putT hA hW (Nat.le_refl _) _ _ _ _).1 ⟨rfl, (putT hA hW (Nat.le_refl _) _ _ _ _).2⟩
  | false =>
    rw [e1] at l1
    cases e2 : diB c with
    | true =>
      rw [e2] at l2
      have L1 := Lib.hid (fun (W : World) (h : Below w.heap.size w W) => (xnumber_any s W hs (hE.below h).env hl e1 e2).mono (fin W))
      clear hx hl hch fin hP
      go_enter Tryd.func51, Tryd.ntmps51
      go_wp2_with (first | (go_at_call 66; refine (xletter_any _ _).mono ?_; rintro e w' ⟨rfl, rfl⟩) | (go_at_call 68; refine (xdigit_any _ _).mono ?_; rintro e w' ⟨rfl, rfl⟩) | (go_at_call 70; refine (HPF.out _).mono ?_; rintro e w' ⟨rfl, rfl⟩) | (go_at_call 69; refine (L1.out _ hW).mono ?_; rintro e w2 ⟨rfl, hB⟩; replace hA := hA.below hB hA.lt; replace hW := step_below hW hB; clear hB; have fz := hA.frozen; have c0 := hA.cell 0; have c1 := hA.cell 1; have c2 := hA.cell 2; have c3 := hA.cell 3))
      exact ret_tok (x := (⟨x0, x1, x2, x3⟩, x4)) (p := 2) (q := 3) (by kernel_rfl) rfl rfl (putT hA hW (Nat.le_refl _) _ _ _ _).1 ⟨rfl, (putT hA hW (Nat.le_refl _) _ _ _ _).2⟩
    | false =>
      rw [e2] at l2
      by_cases e3 : c = 34
      · rw [decide_eq_true e3] at HPF
        have L1 := Lib.hid (fun (W : World) (h : Below w.heap.size w W) => (xtext_any s W hs (e3 ▸ hl)).mono (fin W))
        clear hx hl hch fin hP
        go_enter Tryd.func51, Tryd.ntmps51
        go_wp2_with (first | (go_at_call 66; refine (xletter_any _ _).mono ?_; rintro e w' ⟨rfl, rfl⟩) | (go_at_call 68; refine (xdigit_any _ _).mono ?_; rintro e w' ⟨rfl, rfl⟩) | (go_at_call 70; refine (HPF.out _).mono ?_; rintro e w' ⟨rfl, rfl⟩) | (go_at_call 71; refine (L1.out _ hW).mono ?_; rintro e w2 ⟨rfl, hB⟩; replace hA := hA.below hB hA.lt; replace hW := step_below hW hB; clear hB; have fz := hA.frozen; have c0 := hA.cell 0; have c1 := hA.cell 1; have c2 := hA.cell 2; have c3 := hA.cell 3))
        exact ret_tok (x := (⟨x0, x1, x2, x3⟩, x4)) (p := 2) (q := 3) (by kernel_rfl) rfl rfl (putT hA hW (Nat.le_refl _) _ _ _ _).1 ⟨rfl, (putT hA hW (Nat.le_refl _) _ _ _ _).2⟩
      · rw [decide_eq_false e3] at HPF
        have L1 := Lib.hid (fun (W : World) (h : Below w.heap.size w W) => (xsymbol_any s W (hE.below h) hl e1 e2 e3).mono (fin W))
        clear hx hl hch fin hP
        go_enter Tryd.func51, Tryd.ntmps51
        go_wp2_with (first | (go_at_call 66; refine (xletter_any _ _).mono ?_; rintro e w' ⟨rfl, rfl⟩) | (go_at_call 68; refine (xdigit_any _ _).mono ?_; rintro e w' ⟨rfl, rfl⟩) | (go_at_call 70; refine (HPF.out _).mono ?_; rintro e w' ⟨rfl, rfl⟩) | (go_at_call 72; refine (L1.out _ hW).mono ?_; rintro e w2 ⟨rfl, hB⟩; replace hA := hA.below hB hA.lt; replace hW := step_below hW hB; clear hB; have fz := hA.frozen; have c0 := hA.cell 0; have c1 := hA.cell 1; have c2 := hA.cell 2; have c3 := hA.cell 3))
        exact ret_tok (x := (⟨x0, x1, x2, x3⟩, x4)) (p := 2) (q := 3) (by kernel_rfl) rfl rfl (putT hA hW (Nat.le_refl _) _ _ _ _).1 ⟨rfl, (putT hA hW (Nat.le_refl _) _ _ _ _).2⟩

set_option maxHeartbeats 1000000 in
theorem xsize_any (t : Tk) (w : World) (ht : t.text.length ≤ 140737488351232) (hk : t.kind ≤ 3) :
    Calls Tryd.prog 52 #[tkV t] w fun e w' => e = .returned (.int .i64 (sizeT t : Int)) ∧ Below w.heap.size w w' := by
  obtain ⟨k, l, n, p⟩ := t
  show Calls Tryd.prog 52 #[.agg #[.int .i64 (k : Int), .string (ba l), .int .i64 (n : Int), .int .i64 (p : Int)]] w _
  have hz : (ba l).size = l.length := ba_len l
  dsimp only at ht hk
  have hA := Blk.new w 37 #[.int .i64 (k : Int), .string (ba l), .int .i64 (n : Int), .int .i64 (p : Int)]
  have hW : Below w.heap.size w (w.alloc (.cells #[.int .i64 (k : Int), .string (ba l), .int .i64 (n : Int), .int .i64 (p : Int)] 37)) := (Below.refl _ w).alloc (Nat.le_refl _) _
  by_cases h2 : k = 2
  · have HS := Lib.hid (show (sizeT ⟨k, l, n, p⟩ : Int) = ((ba l).size : Int) + 2 by unfold sizeT; rw [if_pos h2, hz]; rfl)
    have e1 : ((k : Int) == 2) = true := by simp; omega
    have b1 : ((ba l).size : Int) ≤ 140737488351232 := by omega
    clear hz ht h2
    go_enter Tryd.func52, Tryd.ntmps52
    go_wp2
    go_ret
    exact ⟨ret_int (by rw [HS.out]; first | omega | (simp only [IntKind.wrap_i64]; omega)), hW⟩
  · have HS := Lib.hid (show (sizeT ⟨k, l, n, p⟩ : Int) = ((ba l).size : Int) by unfold sizeT; rw [if_neg h2, hz])
    have e1 : ((k : Int) == 2) = false := by simp; omega
    have b1 : ((ba l).size : Int) ≤ 140737488351232 := by omega
    clear hz ht h2
    go_enter Tryd.func52, Tryd.ntmps52
    go_wp2
    go_ret
    exact ⟨ret_int HS.out.symm, hW⟩
end Go.Proofs.YtpmndopcemdniaaDoor
