/- Contract of package lexer's symbol. Conditions: the table of symbols as the program lays it. -/
import Derived.Test.YtpmndopcemdniaaDoorTFirst
namespace Go.Proofs.YtpmndopcemdniaaDoor
open Go.RowKit

/-- The table of symbols. -/
def symsL : List (List UInt8) := [[43], [45], [42], [47], [40], [41], [123], [125], [44], [46], [64], [61], [33, 61], [94, 61]]
def symV : Array Value := #[.string ⟨#[43]⟩, .string ⟨#[45]⟩, .string ⟨#[42]⟩, .string ⟨#[47]⟩, .string ⟨#[40]⟩, .string ⟨#[41]⟩, .string ⟨#[123]⟩, .string ⟨#[125]⟩, .string ⟨#[44]⟩, .string ⟨#[46]⟩, .string ⟨#[64]⟩, .string ⟨#[61]⟩, .string ⟨#[33, 61]⟩, .string ⟨#[94, 61]⟩]
theorem gSym : Tryd.prog.globalNamed "intervalmon/lexer.symbols" = some 0 := by kernel_rfl
/-- What package lexer's functions read of the world. -/
structure LEnv (w : World) : Prop where
  env : Env w
  sym : w.var? Tryd.prog "intervalmon/lexer.symbols" = some symV
theorem LEnv.below {w w' : World} (h : LEnv w) (hb : Below w.heap.size w w') : LEnv w' := ⟨h.env.below hb, var_below gSym h.sym hb⟩
theorem LEnv.cell {w : World} (h : LEnv w) (i : Nat) : w.cell? ⟨0, i, none⟩ = symV[i]? := World.var?_cell gSym h.sym i
theorem LEnv.lt {w : World} (h : LEnv w) : 0 < w.heap.size := var_lt gSym h.sym

theorem sym_at (k : Nat) (hk : k < 14) (l : List UInt8) (h : (symsL.getD k []).isPrefixOf l = true) : symL l = symsL.getD k [] := by
  obtain ⟨t, rfl⟩ := List.isPrefixOf_iff_prefix.1 h
  match k, hk with
  | 0, _ => rfl
  | 1, _ => rfl
  | 2, _ => rfl
  | 3, _ => rfl
  | 4, _ => rfl
  | 5, _ => rfl
  | 6, _ => rfl
  | 7, _ => rfl
  | 8, _ => rfl
  | 9, _ => rfl
  | 10, _ => rfl
  | 11, _ => rfl
  | 12, _ => rfl
  | 13, _ => rfl
theorem sym_ne (k : Nat) (hk : k < 14) : symsL.getD k [] ≠ [] := (show ∀ k, k < 14 → symsL.getD k [] ≠ [] by decide) k hk
theorem sym_none (l : List UInt8) (h : ∀ k, k < 14 → (symsL.getD k []).isPrefixOf l = false) : symL l = [] := by
  cases l with
  | nil => rfl
  | cons c r =>
    rw [sym_cons]
    have one : ∀ k b, k < 14 → symsL.getD k [] = [b] → ¬ c = b := fun k b hk e hc => by
      have h1 := h k hk
      rw [e, hc] at h1
      simp [List.isPrefixOf] at h1
    have n0 : oneB c = false := by
      unfold oneB
      simp only [List.contains_cons, List.contains_nil, Bool.or_false, Bool.or_eq_false_iff, beq_eq_false_iff_ne, ne_eq]
      exact ⟨one 0 _ (by omega) rfl, one 1 _ (by omega) rfl, one 2 _ (by omega) rfl, one 3 _ (by omega) rfl, one 4 _ (by omega) rfl, one 5 _ (by omega) rfl, one 6 _ (by omega) rfl, one 7 _ (by omega) rfl, one 8 _ (by omega) rfl, one 9 _ (by omega) rfl, one 10 _ (by omega) rfl, one 11 _ (by omega) rfl⟩
    rw [if_neg (by simp [n0])]
    split
    · rename_i h1
      exfalso
      cases r with
      | nil => simp at h1
      | cons d r =>
        obtain ⟨h1, h2⟩ := h1
        simp at h2
        subst h2
        rcases h1 with rfl | rfl
        · have := h 12 (by omega)
          simp [symsL, List.isPrefixOf] at this
        · have := h 13 (by omega)
          simp [symsL, List.isPrefixOf] at this
    · rfl

set_option maxRecDepth 100000 in
set_option maxHeartbeats 4000000 in
theorem xsymbol_any (s : ByteArray) (w : World) (hE : LEnv w) {c : UInt8} {r : List UInt8} (hl : s.data.toList = c :: r) (hc0 : leB c = false) (hc : diB c = false) (hq : ¬ c = 34) :
    Calls Tryd.prog 72 #[.string s] w fun e w' => e = .returned (TV (firstL s.data.toList)) ∧ Below w.heap.size w w' := by
  have hA : Blk (w.alloc (.cells #[.int .i64 0, .string ⟨#[]⟩, .int .i64 0, .int .i64 0] 37)) w.heap.size 37 #[.int .i64 0, .string ⟨#[]⟩, .int .i64 0, .int .i64 0] := Blk.new w _ _
  have hW : Below w.heap.size w (w.alloc (.cells #[.int .i64 0, .string ⟨#[]⟩, .int .i64 0, .int .i64 0] 37)) := (Below.refl _ w).alloc (Nat.le_refl _) _
  have hfst : firstL s.data.toList = if symL s.data.toList = [] then (tk0, 2) else (⟨3, symL s.data.toList, 0, 0⟩, 0) := by
    rw [hl, first_cons, if_neg (by simp [hc0]), if_neg (by simp [hc]), if_neg hq]
  have hP := fun W (p : ByteArray) => Tryd.strings_HasPrefix s p W
  have HP := Lib.hid (fun W (p : ByteArray) => hP W p)
  have HF := Lib.hid hfst
  clear hP hfst hl
  have hE1 := hE.below hW
  obtain ⟨w1, hw1⟩ : ∃ w1, w.alloc (.cells #[.int .i64 0, .string ⟨#[]⟩, .int .i64 0, .int .i64 0] 37) = w1 := ⟨_, rfl⟩
  go_enter Tryd.func72, Tryd.ntmps72
  rw [hw1] at hA hW hE1
  have g0 : w1.cell? ⟨0, 0, none⟩ = some (.string ⟨#[43]⟩) := hE1.cell 0
  have g1 : w1.cell? ⟨0, 1, none⟩ = some (.string ⟨#[45]⟩) := hE1.cell 1
  have g2 : w1.cell? ⟨0, 2, none⟩ = some (.string ⟨#[42]⟩) := hE1.cell 2
  have g3 : w1.cell? ⟨0, 3, none⟩ = some (.string ⟨#[47]⟩) := hE1.cell 3
  have g4 : w1.cell? ⟨0, 4, none⟩ = some (.string ⟨#[40]⟩) := hE1.cell 4
  have g5 : w1.cell? ⟨0, 5, none⟩ = some (.string ⟨#[41]⟩) := hE1.cell 5
  have g6 : w1.cell? ⟨0, 6, none⟩ = some (.string ⟨#[123]⟩) := hE1.cell 6
  have g7 : w1.cell? ⟨0, 7, none⟩ = some (.string ⟨#[125]⟩) := hE1.cell 7
  have g8 : w1.cell? ⟨0, 8, none⟩ = some (.string ⟨#[44]⟩) := hE1.cell 8
  have g9 : w1.cell? ⟨0, 9, none⟩ = some (.string ⟨#[46]⟩) := hE1.cell 9
  have g10 : w1.cell? ⟨0, 10, none⟩ = some (.string ⟨#[64]⟩) := hE1.cell 10
  have g11 : w1.cell? ⟨0, 11, none⟩ = some (.string ⟨#[61]⟩) := hE1.cell 11
  have g12 : w1.cell? ⟨0, 12, none⟩ = some (.string ⟨#[33, 61]⟩) := hE1.cell 12
  have g13 : w1.cell? ⟨0, 13, none⟩ = some (.string ⟨#[94, 61]⟩) := hE1.cell 13
  have fz := hA.frozen
  have c0 := hA.cell 0
  have c1 := hA.cell 1
  have c2 := hA.cell 2
  have c3 := hA.cell 3
  go_wp2
  go_loopg [5, 7] 14 (fun g _ i wx => ∃ k : Nat, k + g = 14 ∧ i = .int .i64 (k : Int) ∧ wx = w1 ∧ ∀ j, j < k → (symsL.getD j []).isPrefixOf s.data.toList = false)
  case atStart => exact ⟨0, by omega, rfl, rfl, fun j hj => by omega⟩
  case round =>
    obtain ⟨k, hkg, rfl, rfl, hno⟩ := hrel
    have HN := Lib.hid hno
    clear hno
    cases gk with
    | zero =>
      obtain rfl : k = 14 := by omega
      have HR := Lib.hid (show firstL s.data.toList = (tk0, 2) by rw [HF.out, if_pos (sym_none _ HN.out)])
      go_wp2
      exact ret_tok (x := (tk0, 2)) (p := 2) (q := 3) (by kernel_rfl) rfl rfl (putT hA hW (Nat.le_refl _) _ _ _ _).1 ⟨by rw [HR.out], (putT hA hW (Nat.le_refl _) _ _ _ _).2⟩
    | succ g =>
      have hk : k < 14 := by omega
      have hk1 : (k : Int) < 14 := by omega
      have HK := Lib.hid hk
      obtain ⟨p, hp⟩ : ∃ p, ba (symsL.getD k []) = p := ⟨_, rfl⟩
      have hI : ∀ (W : World), (Instr.index 114 (.agg #[.string ⟨#[43]⟩, .string ⟨#[45]⟩, .string ⟨#[42]⟩, .string ⟨#[47]⟩, .string ⟨#[40]⟩, .string ⟨#[41]⟩, .string ⟨#[123]⟩, .string ⟨#[125]⟩, .string ⟨#[44]⟩, .string ⟨#[46]⟩, .string ⟨#[64]⟩, .string ⟨#[61]⟩, .string ⟨#[33, 61]⟩, .string ⟨#[94, 61]⟩]) (.int .i64 (k : Int))).run Tryd.prog W = .ok (.string p) W := by
        intro W
        rw [← hp]
        clear hp HN hk1 hkg HP HF HK
        match k, hk with
        | 0, _ => rfl
        | 1, _ => rfl
        | 2, _ => rfl
        | 3, _ => rfl
        | 4, _ => rfl
        | 5, _ => rfl
        | 6, _ => rfl
        | 7, _ => rfl
        | 8, _ => rfl
        | 9, _ => rfl
        | 10, _ => rfl
        | 11, _ => rfl
        | 12, _ => rfl
        | 13, _ => rfl
      have HPk := HP.out wr p
      rw [← hp, ba_list] at HPk
      cases hb : (symsL.getD k []).isPrefixOf s.data.toList with
      | true =>
        have hs := sym_at k hk _ hb
        rw [show Lib.hasPrefix s.data.toList (symsL.getD k []) = true from hb, hp] at HPk
        have HR := Lib.hid (show firstL s.data.toList = (⟨3, symsL.getD k [], 0, 0⟩, 0) by rw [HF.out, hs, if_neg (sym_ne k hk)])
        replace HPk := Lib.hid HPk
        have HQ := Lib.hid hp
        clear hs hb hp hkg
        go_wp2_with (go_at_call 70; refine (HPk.out).mono ?_; rintro e w' ⟨rfl, rfl⟩)
        obtain rfl := HQ.out
        exact ret_tok (x := (⟨3, symsL.getD k [], 0, 0⟩, 0)) (p := 2) (q := 3) (by kernel_rfl) rfl rfl (putT hA hW (Nat.le_refl _) _ _ _ _).1 ⟨by rw [HR.out], (putT hA hW (Nat.le_refl _) _ _ _ _).2⟩
      | false =>
        rw [show Lib.hasPrefix s.data.toList (symsL.getD k []) = false from hb, hp] at HPk
        have HN2 := Lib.hid (show ∀ j, j < k + 1 → (symsL.getD j []).isPrefixOf s.data.toList = false from fun j hj => by
          by_cases e : j = k
          · rw [e]; exact hb
          · exact HN.out j (by omega))
        replace HPk := Lib.hid HPk
        clear hb hp
        go_wp2_with (go_at_call 70; refine (HPk.out).mono ?_; rintro e w' ⟨rfl, rfl⟩)
        go_roundg g
        case measure => omega
        case rel => exact ⟨k + 1, by omega, by go_num, rfl, HN2.out⟩
end Go.Proofs.YtpmndopcemdniaaDoor
