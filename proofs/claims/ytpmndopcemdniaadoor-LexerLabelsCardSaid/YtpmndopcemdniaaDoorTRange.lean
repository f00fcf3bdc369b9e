/- A range over an iterator function that would not end behind a bad element: the loop's body must end there. Conditions: as the theorem states. -/
import Derived.RangeFuncBox
import Derived.RangeFuncCalls
import Derived.RangeFuncNested
import Derived.Test.YtpmndopcemdniaaDoorProg
namespace Go.Proofs.YtpmndopcemdniaaDoor
open Go.RowKit

theorem grown_of_below {A B : World} (h : Below A.heap.size A B) : A.grownBy B none := ⟨h.os, h.tape, h.output, h.size, fun k hk _ => h.block k hk⟩

/-- The promise of an iterator to bodies that do not go on behind a bad element; r: the one block of its own from W on that a body writes. -/
def SeqHalts {α : Type} (F : Fence) (n : Nat) (P : Program) (g : Nat) (bd lb : Array Value) (encs : α → Array Value) (Ev : World → Prop) (bad : α → Prop) (S Sp : List α → Prop) (N : Nat) (w : World) : Prop :=
  ∀ (l : Nat) (J : List α → Option Nat → World → Prop) (Jx : List α → World → Prop) (W : World), Below w.heap.size w W →
    (∀ s r A B, J s r A → Below A.heap.size A B → J s r B) → (∀ s A B, Jx s A → Below A.heap.size A B → Jx s B) →
    (∀ s r A, J s r A → Ev A ∧ ∀ b, r = some b → b < A.heap.size) →
    (∀ s x r A, bad x → ¬ J (s ++ [x]) r A) →
    (∀ s x r A, J s r A → s.length < N → YieldAt F (n - 1) P l (encs x) A fun e B =>
      (e = .returned (.bool true) ∧ ∃ r', J (s ++ [x]) r' B ∧ ∀ b, W.heap.size ≤ b → b < A.heap.size → some b ≠ r → B.heap[b]? = A.heap[b]?) ∨ (e = .returned (.bool false) ∧ Jx (s ++ [x]) B)) →
    J [] none W → CallsIn F n P g (bd ++ #[.func (.yield l) #[] #[]] ++ lb) W fun e B => (∃ v, e = .returned v) ∧ ((∃ xs r, S xs ∧ J xs r B) ∨ (∃ s, Sp s ∧ Jx s B))

/-- How a round of such a loop is left. -/
def haltPost {α : Type} (B : Nat) (I : List α → Option Nat → World → Prop) (Ix : List α → World → Prop) (s : List α) (r : Option Nat) (W : World) : Exit → Act → World → Prop
  | .normal, _, W' => KeepsFrom B W W' ∧ ∃ r', I s r' W' ∧ ∀ b, B ≤ b → b < W.heap.size → some b ≠ r → W'.heap[b]? = W.heap[b]?
  | .ret, _, W' => KeepsFrom B W W' ∧ Ix s W'
  | _, _, _ => False

section
variable {F : Fence} {n : Nat} {P : Program}

theorem range_halt {α : Type} {g : Operand} {ps : Array Tmp} {assign body : Code} {Q : Exit → Act → World → Prop} {a : Act} {w : World}
    (hro : F.round = none) (h1 : 1 ≤ n) {gf : Nat} {bd lb : Array Value} (hg : a.eval g = .func (.func gf) bd lb) (hFg : F.fn gf) (eg : ∀ args w, (callFunc gf args).run P w = .ok (.enter gf args) w)
    {encs : α → Array Value} {Ev : World → Prop} {bad : α → Prop} {S Sp : List α → Prop} {N : Nat} (hseq : SeqHalts F (n - 1) P gf bd lb encs Ev bad S Sp N w) (hps : ∀ x, (encs x).size = ps.size)
    (I : List α → Option Nat → World → Prop) (Ix : List α → World → Prop) (hI : OwnFrom w.heap.size (fun (q : List α × Option Nat) W => I q.1 q.2 W)) (hIx : OwnFrom w.heap.size Ix) (hev : ∀ s r A, I s r A → Ev A ∧ ∀ b, r = some b → b < A.heap.size) (hbad : ∀ s x r A, bad x → ¬ I (s ++ [x]) r A) (h0 : I [] none w) (Ax : α → Act → World → Prop) (hAx : ∀ x a', OwnFrom w.heap.size (fun (_ : Unit) W => Ax x a' W))
    (hassign : ∀ (l : Nat) (s : List α) (r : Option Nat) (x : α) (W : World) (K : Act → World → Prop), I s r W → w.heap.size ≤ W.heap.size → (∀ a' W', Below W.heap.size W W' → I s r W' → Ax x a' W' → K a' W') →
      assign.wpIn (F.inRound l) (n - 1 - 1) P (Exit.then K (fun _ _ _ => False)) { tmps := (ps.zip (encs x)).foldl (fun t (p, v) => t.setIfInBounds p v) a.tmps, defers := [] } W)
    (hbody : ∀ (l : Nat) (s : List α) (r : Option Nat) (x : α) (a' : Act) (W : World), I s r W → Ax x a' W → s.length < N → body.wpIn (F.inRound l) (n - 1 - 1) P (haltPost w.heap.size I Ix (s ++ [x]) r W) a' W)
    (hdone : ∀ (D : Nat) (xs : List α) (r : Option Nat) (W : World), w.heap.size ≤ D → S xs → I xs r W → W.heap[D]? = some (.deferred (some [])) → Q .normal { a with defers := { target := .collected D, args := #[] } :: a.defers } W)
    (hstop : ∀ (D : Nat) (s : List α) (W : World), w.heap.size ≤ D → Sp s → Ix s W → W.heap[D]? = some (.deferred (some [])) → Code.ret.wpIn F n P Q { a with defers := { target := .collected D, args := #[] } :: a.defers } W) :
    (Code.rangeFunc g ps assign body).wpIn F n P Q a w := by
  refine wpIn_rangeFunc fun fn hfn => ?_
  rw [hro]
  obtain ⟨R, hR⟩ : ∃ R : LoopState → Option Code → Loop, R = fun st pe => { state := st, pending := pe, fn := fn, tmps := a.tmps, params := ps, assign := assign, body := body, defers := w.heap.size } := ⟨_, rfl⟩
  have hsd : (w.alloc (.deferred (some []))).heap.size = w.heap.size + 1 := World.size_alloc ..
  obtain ⟨V, hV⟩ : ∃ V, (w.alloc (.deferred (some []))).alloc (.loop (R .ready none)) = V := ⟨_, rfl⟩
  have hVb : Below w.heap.size w V := by rw [← hV]; exact ((Below.refl _ w).alloc (Nat.le_refl _) _).alloc (by omega) _
  have hVL : V.heap[w.heap.size + 1]? = some (.loop (R .ready none)) := by
    have h := World.alloc_heap_new (w.alloc (.deferred (some []))) (.loop (R .ready none))
    rwa [hsd, hV] at h
  have hVD : V.heap[w.heap.size]? = some (.deferred (some [])) := by
    rw [← hV]; exact (Below.heap_alloc _ _ _ (by omega)).trans (World.alloc_heap_new w _)
  have hV0 : I [] none V := by rw [← hV]; exact hI.alloc (s := ([], none)) _ (hI.alloc (s := ([], none)) _ h0)
  have hVs : V.heap.size = w.heap.size + 2 := by rw [← hV]; simp
  have low : ∀ {A : World} {k : Nat} {o : Obj}, A.heap[k]? = some o → k < A.heap.size := fun h => (Array.getElem?_eq_some_iff.1 h).1
  have run0 := run_enterLoop_outer (P := P) (w := w) fn a.tmps ps assign body
  have eR0 : ({ state := .ready, pending := none, fn := fn, tmps := a.tmps, params := ps, assign := assign, body := body, defers := w.heap.size } : Loop) = R .ready none := by rw [hR]
  rw [eR0, hV] at run0
  refine ⟨_, _, V, ⟨.fn (.func gf) lb, bd ++ #[.func (.yield (w.heap.size + 1)) #[] #[]]⟩, V, gf, bd ++ #[.func (.yield (w.heap.size + 1)) #[] #[]] ++ lb, V, run0, ?_, fun f' hf' => ?_, ?_, fun _ => h1, ?_⟩
  · simp only [resolve, hg]
    simp [go_sem]
  · simp only [Target.leads] at hf'
    simp at hf'
    subst hf'
    exact hFg
  · simp [invoke, go_sem, eg]
  · refine (hseq (w.heap.size + 1) (fun s r A => I s r A ∧ A.heap[w.heap.size + 1]? = some (.loop (R .ready none)) ∧ A.heap[w.heap.size]? = some (.deferred (some [])))
      (fun s A => Ix s A ∧ A.heap[w.heap.size + 1]? = some (.loop (R .done (some .ret))) ∧ A.heap[w.heap.size]? = some (.deferred (some []))) V hVb
      (fun s r A B ⟨h, hl, hd⟩ hb => ⟨hI (s, r) A B none h (grown_of_below hb) (fun r e => by cases e), (hb.block _ (low hl)).trans hl, (hb.block _ (low hd)).trans hd⟩)
      (fun s A B ⟨h, hl, hd⟩ hb => ⟨hIx s A B none h (grown_of_below hb) (fun r e => by cases e), (hb.block _ (low hl)).trans hl, (hb.block _ (low hd)).trans hd⟩)
      (fun s r A h => hev s r A h.1) (fun s x r A hx h => hbad s x r A hx h.1) (fun s x r A ⟨h, hl, hd⟩ hN => ?_) ⟨hV0, hVL, hVD⟩).mono fun e B ⟨he, hB⟩ => ?_
    · have ry := run_yield (P := P) (args := encs x) hl (by rw [hR]; exact hps x)
      rw [hR] at ry
      refine ⟨_, _, _, _, ry, roundIn_of_wpIn hfn (hassign _ s r x A _ h (by have := low hd; omega) fun a' A2 hk hi hax => ?_)⟩
      have hl2 := (hk.block _ (low hl)).trans hl
      have hd2 := (hk.block _ (low hd)).trans hd
      refine ⟨_, run_beginRound hl2 (by rw [hR]), ?_⟩
      obtain ⟨A3, hA3⟩ : ∃ A3, A2.putObj (w.heap.size + 1) (.loop { R .ready none with state := .busy }) = A3 := ⟨_, rfl⟩
      have eb : ({ R .ready none with state := .busy } : Loop) = R .busy none := by rw [hR]
      rw [eb] at hA3 ⊢
      have hl3 : A3.heap[w.heap.size + 1]? = some (.loop (R .busy none)) := by rw [← hA3]; exact World.putObj_heap_same (low hl2)
      have hd3 : A3.heap[w.heap.size]? = some (.deferred (some [])) := by rw [← hA3]; exact (World.putObj_heap_other (by omega)).trans hd2
      have hi3 : I s r A3 := by rw [← hA3]; exact hI.putObj (s := (s, r)) _ hi (Nat.le_succ _) hl2 rfl
      have hx3 : Ax x a' A3 := by rw [← hA3]; exact (hAx x a').putObj (s := ()) _ hax (Nat.le_succ _) hl2 rfl
      rw [hA3]
      have ends : ∀ (jump : Option Code) (A4 : World), KeepsFrom w.heap.size A3 A4 →
          (Instr.endRound (w.heap.size + 1) jump).run P A4 = .ok (.bool jump.isNone) (A4.putObj (w.heap.size + 1) (.loop (R (if jump.isNone then .ready else .done) jump))) ∧ A4.heap[w.heap.size + 1]? = some (.loop (R .busy none)) ∧
          (A4.putObj (w.heap.size + 1) (.loop (R (if jump.isNone then .ready else .done) jump))).heap[w.heap.size + 1]? = some (.loop (R (if jump.isNone then .ready else .done) jump)) ∧
          (A4.putObj (w.heap.size + 1) (.loop (R (if jump.isNone then .ready else .done) jump))).heap[w.heap.size]? = some (.deferred (some [])) := fun jump A4 k4 => by
        have hl4 := k4.same _ _ (Nat.le_succ _) hl3 rfl
        have hd4 := k4.same _ _ (Nat.le_refl _) hd3 rfl
        have r4 := run_endRound (P := P) jump hl4
        have ee : ({ R .busy none with state := if jump.isNone then .ready else .done, pending := jump } : Loop) = R (if jump.isNone then .ready else .done) jump := by rw [hR]
        rw [ee] at r4
        exact ⟨r4, hl4, World.putObj_heap_same (low hl4), (World.putObj_heap_other (by omega)).trans hd4⟩
      refine wpIn_mono (hbody _ s r x a' A3 hi3 hx3 hN) fun e a4 A4 hp => ?_
      cases e with
      | normal =>
        obtain ⟨k4, r', hi4, hk4⟩ := hp
        obtain ⟨e5, hl4, hl5, hd5⟩ := ends none A4 k4
        refine ⟨_, _, e5, .inl ⟨rfl, r', ⟨hI.putObj (s := (s ++ [x], r')) _ hi4 (Nat.le_succ _) hl4 rfl, hl5, hd5⟩, fun b hb1 hb2 hb3 => ?_⟩⟩
        have hs3 : A3.heap.size = A2.heap.size := by rw [← hA3]; exact World.putObj_size ..
        have hs2 := hk.size
        rw [World.putObj_heap_other (by omega), hk4 b (by omega) (by omega) hb3, ← hA3, World.putObj_heap_other (by omega)]
        exact hk.block b hb2
      | ret =>
        obtain ⟨k4, hi4⟩ := hp
        obtain ⟨e5, hl4, hl5, hd5⟩ := ends (some .ret) A4 k4
        exact ⟨_, _, e5, .inr ⟨rfl, hIx.putObj _ hi4 (Nat.le_succ _) hl4 rfl, hl5, hd5⟩⟩
      | exit id => exact hp.elim
      | goto t => exact hp.elim
      | panic ch => exact hp.elim
      | outgrown => exact hp.elim
    · obtain ⟨v, rfl⟩ := he
      rcases hB with ⟨xs, r, hS, hi, hl, hd⟩ | ⟨s, hS, hi, hl, hd⟩
      · have e5 := run_endLoop (P := P) hl (by rw [hR]; simp)
        exact ⟨none, _, by rw [e5, hR], hdone _ xs r _ (Nat.le_refl _) hS (hI.putObj (s := (xs, r)) _ hi (Nat.le_succ _) hl rfl) ((World.putObj_heap_other (by omega)).trans hd)⟩
      · have r := run_endLoop (P := P) hl (by rw [hR]; simp)
        exact ⟨some .ret, _, by rw [r, hR], hstop _ s _ (Nat.le_refl _) hS (hIx.putObj _ hi (Nat.le_succ _) hl rfl) ((World.putObj_heap_other (by omega)).trans hd)⟩
end
end Go.Proofs.YtpmndopcemdniaaDoor
