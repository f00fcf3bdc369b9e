/- The contract of package hash's iterator over the words of a byte slice. Conditions: the slice within the reach. -/
import Derived.RangeFuncBox
import Derived.RangeFuncLeaves
import Derived.RangeFuncNested
import Derived.RangeFuncCalls
import Derived.Shelf.Abstract
import Derived.WalkKit
import Derived.OwnWalkIn
import Derived.TacticsInMore
import Derived.LoopNIn
import Derived.LoopIn
import Derived.Outline
import Derived.Test.YtkdbffhmnkkbcaaDoorLeaf
namespace Go.Proofs.YtkdbffhmnkkbcaaDoor.W
open Go.RowKit Go.Shelf

attribute [local go_sem] Oper.semAt_some

theorem wordAt_drop (bs : List UInt8) (k : Nat) : wordAt bs k = (leN ((bs.drop (8 * k)).take 8) : Int) := rfl

/-- The words that have come when k rounds are over. -/
def upto (bs : List UInt8) (k : Nat) : List Int := (List.range k).map (wordAt bs)
theorem upto_succ (bs : List UInt8) (k : Nat) : upto bs (k + 1) = upto bs k ++ [wordAt bs k] := by simp [upto, List.range_succ]
theorem upto_length (bs : List UInt8) (k : Nat) : (upto bs k).length = k := by simp [upto]

/-- The bytes bs lie at a slice value, in a block below n₀; or it is nil and there are none. -/
def BytesAt (n₀ : Nat) (W : World) (sv : Value) (bs : List UInt8) : Prop :=
  (sv = .slice none 0 0 ∧ bs = []) ∨ ∃ b off cap, sv = .slice (some ⟨b, off, none⟩) bs.length cap ∧ bs.length ≤ cap ∧ b < n₀ ∧ ∀ j, j < bs.length → W.cell? ⟨b, off + j, none⟩ = some (.int .u8 ((bs[j]?.getD 0).toNat : Int))
theorem BytesAt.below {n₀ : Nat} {A B : World} (h : Below n₀ A B) {sv : Value} {bs : List UInt8} : BytesAt n₀ A sv bs → BytesAt n₀ B sv bs
  | .inl e => .inl e
  | .inr ⟨b, off, cap, e, hl, hb, hc⟩ => .inr ⟨b, off, cap, e, hl, hb, fun j hj => (h.cell (p := ⟨b, off + j, none⟩) hb).trans (hc j hj)⟩
theorem BytesAt.mono {n₀ n₁ : Nat} (h : n₀ ≤ n₁) {W : World} {sv : Value} {bs : List UInt8} : BytesAt n₀ W sv bs → BytesAt n₁ W sv bs
  | .inl e => .inl e
  | .inr ⟨b, off, cap, e, hl, hb, hc⟩ => .inr ⟨b, off, cap, e, hl, by omega, hc⟩

/-- Some blocks lie as they lay. -/
def KeepsAt (Q : Nat → Prop) (W W' : World) : Prop := ∀ b, Q b → W'.heap[b]? = W.heap[b]?
theorem KeepsAt.refl (Q : Nat → Prop) (W : World) : KeepsAt Q W W := fun _ _ => rfl
theorem KeepsAt.trans {Q : Nat → Prop} {A B C : World} (h : KeepsAt Q A B) (k : KeepsAt Q B C) : KeepsAt Q A C := fun b hb => (k b hb).trans (h b hb)
theorem KeepsAt.cell {Q : Nat → Prop} {A B : World} (h : KeepsAt Q A B) {b : Nat} (hb : Q b) (o : Nat) : B.cell? ⟨b, o, none⟩ = A.cell? ⟨b, o, none⟩ := by
  have := h b hb
  simp [World.cell?, this]
theorem KeepsAt.setCell {Q : Nat → Prop} (W : World) (b : Nat) (v : Value) (hb : ¬ Q b) : KeepsAt Q W (W.setCell ⟨b, 0, none⟩ v) :=
  fun k hk => Below.heap_setCell W ⟨b, 0, none⟩ v k (fun e => hb (by have e' : k = b := e; rw [← e']; exact hk))
theorem KeepsAt.of_grownBy {Q : Nat → Prop} {W W' : World} {row : Option Nat} (hg : W.grownBy W' row) (hlt : ∀ b, Q b → b < W.heap.size) (hrow : ∀ j, row = some j → ¬ Q j) : KeepsAt Q W W' :=
  fun k hk => hg.block k (hlt k hk) (fun e => hrow k e.symm hk)
theorem keepsAt_b {Q : Nat → Prop} {w : World} (hQ : ∀ b, Q b → b < w.heap.size) (W : World) (l : Nat) (o o' : Obj) (hl : w.heap.size ≤ l) (_ : W.heap[l]? = some o) (_ : o.isCells = false) (_ : o.isWalk = false) : KeepsAt Q W (W.putObj l o') :=
  fun k hk => World.putObj_heap_other (by have := hQ k hk; omega)

theorem le_part (b off cap k len : Nat) (bs : List UInt8) (w : World) (hk : len = min 8 (bs.length - 8 * k)) (hc : ∀ j, j < bs.length → w.cell? ⟨b, off + j, none⟩ = some (.int .u8 ((bs[j]?.getD 0).toNat : Int))) :
    Calls Tryd.prog 46 #[.slice (some ⟨b, off + 8 * k, none⟩) len cap] w fun e w' => e = .returned (.int .u64 (wordAt bs k)) ∧ w = w' := by
  have hl : ((bs.drop (8 * k)).take 8).length = len := by rw [List.length_take, List.length_drop, hk]
  have h := le_any b (off + 8 * k) cap ((bs.drop (8 * k)).take 8) w (by omega) (fun j hj => by
    have h1 := hc (8 * k + j) (by omega)
    rw [← Nat.add_assoc] at h1
    rw [h1, List.getElem?_take, if_pos (by omega), List.getElem?_drop])
  rw [hl] at h
  exact h

set_option maxRecDepth 100000 in
set_option maxHeartbeats 2000000 in
/-- The closure of wordsOf: for every loop body that keeps what lay below n₀. -/
theorem words1_in (n : Nat) (hn : 1 ≤ n) (l Bs b off cap : Nat) (bs : List UInt8) (hreach : bs.length ≤ 140737488351232) (hcap : bs.length ≤ cap) (Q : Nat → Prop) (hb : Q b) (hBs0 : Q Bs) (J Jx : List Int → World → Prop)
    (hY : ∀ pre x W, J pre W → pre.length < nWords bs.length → YieldAt Fence.wide (n - 1) Tryd.prog l #[.int .u64 x] W fun e W' =>
      (e = .returned (.bool true) ∧ J (pre ++ [x]) W' ∧ KeepsAt Q W W') ∨ (e = .returned (.bool false) ∧ Jx (pre ++ [x]) W'))
    (W : World) (hBs : W.cell? ⟨Bs, 0, none⟩ = some (.slice (some ⟨b, off, none⟩) bs.length cap)) (hc : ∀ j, j < bs.length → W.cell? ⟨b, off + j, none⟩ = some (.int .u8 ((bs[j]?.getD 0).toNat : Int))) (h0 : J [] W) :
    CallsIn Fence.wide n Tryd.prog 45 #[.func (.yield l) #[] #[], .pointer (some ⟨Bs, 0, none⟩)] W fun e W' => (∃ v, e = .returned v) ∧
      ((∃ ys, ys = wordsL bs ∧ J ys W') ∨ (∃ pre, (∃ k, k ≤ nWords bs.length ∧ pre = upto bs k) ∧ Jx pre W')) := by
  refine callsIn_of_wp Tryd.func45 rfl trivial ?_ rfl
  simp only [Tryd.ntmps45, List.size_toArray, List.length_cons, List.length_nil, Nat.reduceAdd, Nat.reduceSub, Array.replicate_succ, Array.replicate_zero, List.push_toArray, List.append_toArray, List.nil_append, List.cons_append]
  gi_wp2
  gi_loopw [3] (fun i wr => ∃ k : Nat, k ≤ nWords bs.length ∧ i = .int .i64 (8 * k : Nat) ∧ J (upto bs k) wr ∧ KeepsAt Q W wr)
    (fun i _ => bs.length + 8 - (intOf i).toNat)
  case atStart => exact ⟨0, Nat.zero_le _, rfl, h0, KeepsAt.refl _ _⟩
  case round =>
    obtain ⟨k, hk, rfl, hJs, hnx⟩ := hrel
    have hBs1 : wr.cell? ⟨Bs, 0, none⟩ = some (.slice (some ⟨b, off, none⟩) bs.length cap) := (hnx.cell hBs0 0).trans hBs
    by_cases hlt : 8 * k < bs.length
    · obtain ⟨fn, tmps, assign, body, hy, hR⟩ := hY _ (wordAt bs k) wr hJs (by rw [upto_length]; unfold nWords; omega)
      by_cases h8 : 8 * k + 8 ≤ bs.length
      all_goals
        gi_wp2_with (refine ⟨trivial, ?_⟩; gi_at_call 46; refine (callsIn_wide.2 (le_part b off _ k _ bs _ (by omega) (fun j hj => (hnx.cell hb (off + j)).trans (hc j hj)))).mono ?_; rintro e w' ⟨rfl, rfl⟩)
        refine hR.mono ?_
        rintro e W3 (⟨rfl, hJ3, hk3⟩ | ⟨rfl, hJx3⟩)
        · gi_wp2
          go_roundw
          case rel => exact ⟨k + 1, by unfold nWords; omega, by go_num, by rw [upto_succ]; exact hJ3, hnx.trans hk3⟩
          case measure => simp [intOf]; omega
        · gi_wp2
          refine bodyPost_ret (results_none rfl _ _ _) rfl ?_
          exact ⟨⟨_, rfl⟩, .inr ⟨_, ⟨k + 1, by unfold nWords; omega, (upto_succ _ _).symm⟩, hJx3⟩⟩
    · obtain rfl : k = nWords bs.length := by unfold nWords at hk ⊢; omega
      gi_wp2
      go_end0
      exact ⟨⟨_, rfl⟩, .inl ⟨_, rfl, hJs⟩⟩

set_option maxRecDepth 100000 in
set_option maxHeartbeats 1000000 in
/-- .. at the nil slice: no round. -/
theorem words1_nil_in (n : Nat) (l Bs : Nat) (J : List Int → World → Prop) (W : World) (hBs : W.cell? ⟨Bs, 0, none⟩ = some (.slice none 0 0)) (h0 : J [] W) :
    CallsIn Fence.wide n Tryd.prog 45 #[.func (.yield l) #[] #[], .pointer (some ⟨Bs, 0, none⟩)] W fun e W' => (∃ v, e = .returned v) ∧ J [] W' := by
  refine callsIn_of_wp Tryd.func45 rfl trivial ?_ rfl
  simp only [Tryd.ntmps45, List.size_toArray, List.length_cons, List.length_nil, Nat.reduceAdd, Nat.reduceSub, Array.replicate_succ, Array.replicate_zero, List.push_toArray, List.append_toArray, List.nil_append, List.cons_append]
  gi_wp2
  gi_loopw [3] (fun i wr => i = .int .i64 0 ∧ wr.cell? ⟨Bs, 0, none⟩ = some (.slice none 0 0) ∧ J [] wr) (fun _ _ => 0)
  case atStart => exact ⟨rfl, hBs, h0⟩
  case round =>
    obtain ⟨rfl, hBs1, hJs⟩ := hrel
    gi_wp2
    go_end0
    exact ⟨⟨_, rfl⟩, hJs⟩

set_option maxHeartbeats 1000000 in
/-- wordsOf boxes the slice; the function value captures the box. -/
theorem wordsOf_in (n : Nat) (a : Option Addr) (len cap : Nat) (w : World) :
    CallsIn Fence.wide n Tryd.prog 30 #[.slice a len cap] w fun e w' => e = .returned (.func (.func 45) #[] #[.pointer (some ⟨w.heap.size, 0, none⟩)]) ∧ w' = w.alloc (.cells #[.slice a len cap] 26) := by
  refine callsIn_of_wp Tryd.func30 rfl trivial ?_ rfl
  simp only [Tryd.ntmps30, List.size_toArray, List.length_cons, List.length_nil, Nat.reduceAdd, Nat.reduceSub, Array.replicate_succ, Array.replicate_zero, List.push_toArray, List.append_toArray, List.nil_append, List.cons_append]
  gi_wp2
  go_ret
  exact ⟨rfl, rfl⟩

/-- The block of the bytes, and the box of the slice, are among the kept blocks. -/
def Kept (Q : Nat → Prop) (W : World) (Bs : Nat) (sv : Value) (bs : List UInt8) : Prop :=
  Q Bs ∧ W.cell? ⟨Bs, 0, none⟩ = some sv ∧ ((sv = .slice none 0 0 ∧ bs = []) ∨ ∃ b off cap, sv = .slice (some ⟨b, off, none⟩) bs.length cap ∧ bs.length ≤ cap ∧ Q b ∧ ∀ j, j < bs.length → W.cell? ⟨b, off + j, none⟩ = some (.int .u8 ((bs[j]?.getD 0).toNat : Int)))

/-- wordsOf's function value yields all the words, or the first few of them, in order, over any body that keeps the blocks of Q. -/
theorem words_stops (n : Nat) (hn : 1 ≤ n) (Bs : Nat) (Q : Nat → Prop) (sv : Value) (bs : List UInt8) (hreach : bs.length ≤ 140737488351232) (w : World) (hQ : ∀ b, Q b → b < w.heap.size) (hk : Kept Q w Bs sv bs) :
    SeqStopsK Fence.wide n Tryd.prog 45 #[.pointer (some ⟨Bs, 0, none⟩)] (fun x : Int => #[Value.int .u64 x]) (KeepsAt Q) (fun ys => ys = wordsL bs) (fun pre => ∃ k, k ≤ nWords bs.length ∧ pre = upto bs k) (nWords bs.length) w := fun l J Jx W hW _ _ hY h0 => by
  obtain ⟨hQB, hc, hI⟩ := hk
  have hc' := (hW.cell (p := ⟨Bs, 0, none⟩) (hQ Bs hQB)).trans hc
  rcases hI with ⟨rfl, rfl⟩ | ⟨b, off, cap, rfl, hl, hb, hcs⟩
  · exact (words1_nil_in n l Bs J W hc' h0).mono fun e W' ⟨he, hj⟩ => ⟨he, .inl ⟨_, rfl, hj⟩⟩
  · exact words1_in n hn l Bs b off cap bs hreach hl Q hb hQB J Jx hY W hc' (fun j hj => (hW.cell (p := ⟨b, off + j, none⟩) (hQ b hb)).trans (hcs j hj)) h0

end Go.Proofs.YtkdbffhmnkkbcaaDoor.W
