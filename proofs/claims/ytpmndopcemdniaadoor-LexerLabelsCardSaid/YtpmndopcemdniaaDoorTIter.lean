/- The contract of package lexer's iterator over the tokens. Conditions: a source of at most 2000 bytes; a body that ends at the first error. -/
import Derived.LoopIn
import Derived.LoopNIn
import Derived.TacticsInMore
import Derived.OwnWalkIn
import Derived.Outline
import Derived.Shelf.Abstract
import Derived.Test.YtpmndopcemdniaaDoorTOne
import Derived.Test.YtpmndopcemdniaaDoorTRange
namespace Go.Proofs.YtpmndopcemdniaaDoor
open Go.RowKit Go.Shelf

attribute [local go_sem] Oper.semAt_some

def encT (x : Tk × Nat) : Array Value := #[tkV x.1, .int .i64 (x.2 : Int)]
def badT (x : Tk × Nat) : Prop := x.2 ≠ 0
/-- All tokens of a source without an error; a sequence that ends with an error. -/
def allT (l : List UInt8) (xs : List (Tk × Nat)) : Prop := comb [] (lexP 0 l) = (xs.map (·.1), 0, 0)
def stopT (l : List UInt8) (s : List (Tk × Nat)) : Prop := ∀ pre x, s = pre ++ [x] → x.2 ≠ 0 → comb [] (lexP 0 l) = ([], x.1.pos, x.2)
def strLen : Value → Nat
  | .string b => b.size
  | _ => 0

theorem white_set : (fun c : UInt8 => ([9, 10, 13, 32] : List UInt8).contains c) = whB := by
  funext c
  unfold whB
  simp only [List.contains_cons, List.contains_nil, Bool.or_false]
  have e : ∀ k : UInt8, (c == k) = decide (c.toNat = k.toNat) := fun k => by
    by_cases h : c = k
    · subst h; simp
    · have : ¬ c.toNat = k.toNat := fun e => h (UInt8.toNat_inj.1 e)
      simp [h, this]
  rw [e, e, e, e]
  simp [Bool.decide_or]
theorem trimw_any (s : ByteArray) (w : World) : Calls Tryd.prog 50 #[.string s, .string ⟨#[9, 10, 13, 32]⟩] w fun e w' => e = .returned (.string (ba (s.data.toList.dropWhile whB))) ∧ Below w.heap.size w w' := by
  have h := Any.strings_TrimLeft_laid Tryd.trimLeftL (by kernel_rfl) s ⟨#[9, 10, 13, 32]⟩ w (by decide) (ascii_of_all (by decide))
  unfold Lib.trimLeftS at h
  rw [show (⟨#[9, 10, 13, 32]⟩ : ByteArray).data.toList = [9, 10, 13, 32] from rfl, white_set] at h
  exact h
theorem dropWhile_head {p : UInt8 → Bool} : ∀ {l : List UInt8} {c : UInt8} {r : List UInt8}, l.dropWhile p = c :: r → p c = false
  | [], _, _, h => by simp at h
  | d :: l, c, r, h => by
    rw [List.dropWhile_cons] at h
    split at h
    · exact dropWhile_head h
    · rename_i hd
      obtain ⟨rfl, rfl⟩ := List.cons.inj h
      simpa using hd

theorem first_kind (l : List UInt8) : (firstL l).1.kind ≤ 3 := by
  cases l with
  | nil => exact Nat.zero_le _
  | cons c r =>
    rw [first_cons]
    repeat' split
    all_goals simp [tk0]
theorem empty_ba_nil : (ba []).toList.isEmpty = true := by rw [ByteArray.toList_eq]; rfl
theorem empty_ba_cons (c : UInt8) (t : List UInt8) : (ba (c :: t)).toList.isEmpty = false := by rw [ByteArray.toList_eq]; rfl

set_option maxRecDepth 100000 in
set_option maxHeartbeats 4000000 in
theorem tokens_halts (n : Nat) (hn : 2 ≤ n) (s : ByteArray) (hs : s.size ≤ 2000) (w : World) :
    SeqHalts Fence.wide n Tryd.prog 29 #[.string s] #[] encT LEnv badT (allT s.data.toList) (stopT s.data.toList) (s.size + 1) w := fun l J Jx W hW hJ hJx hJe hJb hY h0 => by
  show CallsIn Fence.wide n Tryd.prog 29 #[.string s, .func (.yield l) #[] #[]] W _
  refine callsIn_of_wp Tryd.func29 rfl trivial ?_ rfl
  simp only [Tryd.ntmps29, List.size_toArray, List.length_cons, List.length_nil, Nat.reduceAdd, Nat.reduceSub, Array.replicate_succ, Array.replicate_zero, List.push_toArray, List.append_toArray, List.nil_append, List.cons_append]
  have hn1 : 1 ≤ n := by omega
  have HJ := Lib.hid hJ
  have HJx := Lib.hid hJx
  have HJe := Lib.hid hJe
  have HJb := Lib.hid hJb
  have HY := Lib.hid hY
  have HW := Lib.hid hW
  have hst := Lib.hid (congrArg Value.string (ba_of s))
  clear hJ hJx hJe hJb hY hW
  gi_wp2
  gi_loopw [4] (fun v wr => ∃ (pre : List (Tk × Nat)) (r : Option Nat) (p : Nat) (l' : List UInt8), v = .string (ba l') ∧ p + l'.length = s.size ∧ J pre r wr ∧ comb (pre.map (·.1)) (lexP p l') = comb [] (lexP 0 s.data.toList) ∧ pre.length ≤ p ∧ W.heap.size ≤ wr.heap.size) (fun v _ => strLen v)
  case atStart => exact ⟨[], none, 0, s.data.toList, hst.out.symm, by rw [list_len]; omega, h0, rfl, Nat.le_refl _, Nat.le_refl _⟩
  case round =>
    obtain ⟨pre, r, p, l', rfl, hp, hj, hc, hl, hz⟩ := hrel
    have T := Lib.hid (fun X => trimw_any (ba l') X)
    rw [ba_list] at T
    have hlex := lex_skip l' p
    have hle : (l'.dropWhile whB).length ≤ l'.length := (List.dropWhile_suffix _).length_le
    obtain ⟨q, hq⟩ : ∃ q, p + (l'.length - (l'.dropWhile whB).length) = q := ⟨_, rfl⟩
    rw [hq] at hlex
    rw [hlex] at hc
    have hq1 : q + (l'.dropWhile whB).length = s.size := by omega
    have hq2 : pre.length ≤ q := by omega
    cases hl2 : l'.dropWhile whB with
    | nil =>
      rw [hl2] at T hc hq1
      have HC := Lib.hid (show allT s.data.toList pre by unfold allT; rw [← hc, comb_nil])
      have HJ1 := Lib.hid hj
      have hem := empty_ba_nil
      clear hc hlex hq1 hq2 hq hle hp hl hl2 hj hst
      gi_wp2_with (refine ⟨trivial, ?_⟩; gi_at_call 50; refine (callsIn_wide.2 (T.out _)).mono ?_; rintro e W1 ⟨rfl, hB1⟩)
      refine bodyPost_ret (results_none rfl _ _ _) rfl ?_
      exact ⟨⟨_, rfl⟩, .inl ⟨pre, r, HC.out, HJ.out _ _ _ _ HJ1.out hB1⟩⟩
    | cons c t =>
      rw [hl2] at T hc hq1
      have hwh := dropWhile_head hl2
      have hem := empty_ba_cons c t
      rw [List.length_cons] at hq1
      have b1 : (ba (c :: t)).size ≤ 140737488351232 := by rw [ba_len, List.length_cons]; omega
      have X := Lib.hid (fun (A : World) (h : LEnv A) => xfirst_any (ba (c :: t)) A b1 h (ba_list (c :: t)))
      rw [ba_list] at X
      obtain ⟨⟨⟨x0, x1, x2, x3⟩, x4⟩, hx⟩ : ∃ x, firstL (c :: t) = x := ⟨_, rfl⟩
      replace X : Hid (∀ A : World, LEnv A → Calls Tryd.prog 51 #[.string (ba (c :: t))] A fun e w' => e = .returned (.tuple #[.agg #[.int .i64 (x0 : Int), .string (ba x1), .int .i64 (x2 : Int), .int .i64 (x3 : Int)], .int .i64 (x4 : Int)]) ∧ Below A.heap.size A w') := Lib.hid (by rw [hx] at X; exact X.out)
      have hbz : (ba (c :: t)).size = t.length + 1 := by rw [ba_len, List.length_cons]
      have bq : IntKind.i64.wrap ((s.size : Int) - ((ba (c :: t)).size : Int)) = (q : Int) := by rw [IntKind.wrap_i64]; omega
      have HJ1 := Lib.hid hj
      have hqq := Lib.hid (show t.length + 1 ≤ l'.length by rw [hl2, List.length_cons] at hle; exact hle)
      clear hlex hq hle hp hl hl2 hj hst hbz
      gi_wp2_with (first | (refine ⟨trivial, ?_⟩; gi_at_call 50; refine (callsIn_wide.2 (T.out _)).mono ?_; rintro e W1 ⟨rfl, hB1⟩; have HJ2 := Lib.hid (HJ.out _ _ _ _ HJ1.out hB1)) | (refine ⟨trivial, ?_⟩; gi_at_call 51; refine (callsIn_wide.2 (X.out _ (HJe.out _ _ _ HJ2.out).1)).mono ?_; rintro e W2 ⟨rfl, hB2⟩; have HJ3 := Lib.hid (HJ.out _ _ _ _ HJ2.out hB2)))
      have hs0 := (T.out wr)
      clear hs0
      obtain ⟨A, hA⟩ : ∃ A, W2.alloc (.cells #[.int .i64 (x0 : Int), .string (ba x1), .int .i64 (x2 : Int), .int .i64 (q : Int)] 37) = A := ⟨_, rfl⟩
      have hAz : A.heap.size = W2.heap.size + 1 := by rw [← hA]; simp
      have hAB : Below W2.heap.size W2 A := by rw [← hA]; exact (Below.refl _ W2).alloc (Nat.le_refl _) _
      have hAk : A.heap[W2.heap.size]? = some (.cells #[.int .i64 (x0 : Int), .string (ba x1), .int .i64 (x2 : Int), .int .i64 (q : Int)] 37 (0, 0)) := by rw [← hA]; exact World.alloc_heap_new W2 _
      have hJ4 := HJ.out _ _ _ _ HJ3.out hAB
      obtain ⟨fn, tm, asg, bod, hy, hR⟩ := HY.out pre (⟨x0, x1, x2, q⟩, x4) r A hJ4 (by omega)
      replace hy : (Instr.yield l #[.agg #[.int .i64 (x0 : Int), .string (ba x1), .int .i64 (x2 : Int), .int .i64 (q : Int)], .int .i64 (x4 : Int)]).run Tryd.prog A = .ok (.round l fn tm asg bod) A := hy
      have hr := (HJe.out _ _ _ HJ3.out).2
      have hzz : W.heap.size ≤ W2.heap.size := Nat.le_trans hz (Nat.le_trans hB1.size hB2.size)
      rw [hA]
      clear hA
      rw [hy, Oper.uponIn_round]
      refine ⟨fun _ => hn1, ?_⟩
      refine hR.mono ?_
      rintro e W3 (⟨rfl, r', hJ5, hk⟩ | ⟨rfl, hx5⟩)
      · have hx4 : x4 = 0 := by
          rcases Nat.eq_zero_or_pos x4 with h | h
          · exact h
          · exact absurd hJ5 (HJb.out _ _ _ _ (show x4 ≠ 0 by omega))
        subst hx4
        have h0e : (firstL (c :: t)).2 = 0 := by rw [hx]
        have hsz := first_size h0e
        have hkd := first_kind (c :: t)
        have hct := comb_tok (pre.map (·.1)) q hwh h0e
        rw [hx] at hsz hkd hct
        rw [List.length_cons] at hsz
        replace hsz : 1 ≤ sizeT ⟨x0, x1, x2, x3⟩ ∧ sizeT ⟨x0, x1, x2, x3⟩ ≤ t.length + 1 := hsz
        replace hct : comb (pre.map (·.1)) (lexP q (c :: t)) = comb (pre.map (·.1) ++ [⟨x0, x1, x2, q⟩]) (lexP (q + sizeT ⟨x0, x1, x2, x3⟩) ((c :: t).drop (sizeT ⟨x0, x1, x2, x3⟩))) := hct
        dsimp only at hkd
        have hB3 : Blk W3 W2.heap.size 37 #[.int .i64 (x0 : Int), .string (ba x1), .int .i64 (x2 : Int), .int .i64 (q : Int)] := (hk _ hzz (by omega) (fun e => by have := hr _ e.symm; omega)).trans hAk
        have c0 := hB3.cell 0
        have c1 := hB3.cell 1
        have c2 := hB3.cell 2
        have c3 := hB3.cell 3
        have htl : x1.length ≤ 140737488351232 := by
          have : x1.length ≤ sizeT ⟨x0, x1, x2, x3⟩ := by unfold sizeT; dsimp only; split <;> omega
          omega
        obtain ⟨k, hk2⟩ : ∃ k, sizeT ⟨x0, x1, x2, q⟩ = k := ⟨_, rfl⟩
        have Z := Lib.hid (fun X => show Calls Tryd.prog 52 #[.agg #[.int .i64 (x0 : Int), .string (ba x1), .int .i64 (x2 : Int), .int .i64 (q : Int)]] X fun e w' => e = .returned (.int .i64 (k : Int)) ∧ Below X.heap.size X w' from by
          have h := xsize_any ⟨x0, x1, x2, q⟩ X htl hkd
          rw [hk2] at h
          exact h)
        rw [show sizeT ⟨x0, x1, x2, x3⟩ = k from hk2] at hsz hct
        have b5 : (0 : Int) ≤ (k : Int) := by omega
        have hbz : (ba (c :: t)).size = t.length + 1 := by rw [ba_len, List.length_cons]
        have b6 : (k : Int) ≤ ((ba (c :: t)).size : Int) := by omega
        have HD := Lib.hid (show (ba (c :: t)).extract k (ba (c :: t)).size = ba ((c :: t).drop k) from by rw [ba_drop, ba_list])
        have HC := Lib.hid (hct.symm.trans hc)
        have HH := Lib.hid (show pre.length ≤ q ∧ 1 ≤ k ∧ k ≤ t.length + 1 ∧ q + (t.length + 1) = s.size from ⟨hq2, hsz.1, hsz.2, hq1⟩)
        have HJ5 := Lib.hid hJ5
        have hz3 : W.heap.size ≤ W3.heap.size := by have := hB3.lt; omega
        have HZ := Lib.hid (show t.length + 1 ≤ l'.length from hqq.out)
        clear hk2 hsz hct hc hkd htl hbz hJ5 hk hq1 hq2 h0e hx
        gi_wp2_with (refine ⟨trivial, ?_⟩; gi_at_call 52; refine (callsIn_wide.2 (Z.out _)).mono ?_; rintro e W4 ⟨rfl, hB4⟩)
        go_roundw
        case rel =>
          refine ⟨pre ++ [(⟨x0, x1, x2, q⟩, 0)], r', q + k, (c :: t).drop k, ?_, ?_, HJ.out _ _ _ _ HJ5.out hB4, ?_, ?_, Nat.le_trans hz3 hB4.size⟩
          · rw [← HD.out]
          · rw [List.length_drop, List.length_cons]; have := HH.out; omega
          · rw [List.map_append]; exact HC.out
          · rw [List.length_append]; have := HH.out; simp; omega
        case measure =>
          show (_ : Nat) < (ba l').size
          have h1 := HH.out
          have h2 := HZ.out
          have h3 := ba_len (c :: t)
          rw [List.length_cons] at h3
          simp only [strLen, ByteArray.size_extract, ba_len, List.length_cons]
          omega
      · have HS := Lib.hid (show stopT s.data.toList (pre ++ [(⟨x0, x1, x2, q⟩, x4)]) from fun p' x' e hne => by
          obtain ⟨-, e2⟩ := List.append_inj' e rfl
          obtain rfl := (List.cons.inj e2).1
          have hne' : x4 ≠ 0 := hne
          rw [← hc, comb_err _ q hwh (by rw [hx]; exact hne'), hx])
        clear hx hc
        gi_wp2
        refine bodyPost_ret (results_none rfl _ _ _) rfl ?_
        exact ⟨⟨_, rfl⟩, .inr ⟨_, HS.out, hx5⟩⟩
end Go.Proofs.YtpmndopcemdniaaDoor
