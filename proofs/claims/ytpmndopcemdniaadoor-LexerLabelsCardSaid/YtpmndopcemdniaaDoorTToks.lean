/- The contract of package lexer's Tokens. Conditions: the table of symbols as the program lays it. -/
import Derived.Shelf.RegionOpen
import Derived.Laws.OwnMore
import Derived.Maps.OwnIn
import Derived.Deep.AppendLies
import Derived.Test.YtpmndopcemdniaaDoorTIter
namespace Go.Proofs.YtpmndopcemdniaaDoor
open Go.RowKit Go.Shelf

attribute [local go_sem] Oper.semAt_some

/-- The cells of a token; of tokens in a row. -/
def tkL (t : Tk) : List Value := [.int .i64 (t.kind : Int), .string (ba t.text), .int .i64 (t.n : Int), .int .i64 (t.pos : Int)]
def rowT (ts : List Tk) : List Value := ts.flatMap tkL
theorem rowT_snoc (ts : List Tk) (t : Tk) : rowT (ts ++ [t]) = rowT ts ++ tkL t := by unfold rowT; simp
theorem rowT_len (ts : List Tk) : (rowT ts).length = 4 * ts.length := by
  induction ts with
  | nil => rfl
  | cons t ts ih => unfold rowT at ih ⊢; rw [List.flatMap_cons, List.length_append, ih, List.length_cons]; simp [tkL]; omega
theorem Tryd.infoTok : (Tryd.prog.info? 37).map (fun i => (i.zero, i.size, i.bytes)) = some (some (.agg #[.int .i64 0, .string ⟨#[]⟩, .int .i64 0, .int .i64 0]), 4, 40) := by kernel_rfl

/-- What Tokens hands back: a row of tokens of its own, an offset, an error. -/
def TokPost (w : World) (q : List Tk × Nat × Nat) (e : Ending) (w' : World) : Prop :=
  ∃ v, e = .returned (.tuple #[v, .int .i64 (q.2.1 : Int), .int .i64 (q.2.2 : Int)]) ∧ w'.ownsRow w.heap.size 37 4 v q.1.length (rowT q.1) ∧ Below w.heap.size w w'

theorem box_load (W : World) (B : Nat) (t : TypeId) (v : Value) (h : Boxed W B t v) (d : TypeDesc) (hd : Tryd.prog.underlying t = some d) (h1 : (match d with | .struct _ | .array _ _ => true | _ => false) = false) : (loadVar t ⟨B, 0, none⟩).run Tryd.prog W = .ok v W := by
  have hagg : (isAgg t).run Tryd.prog W = .ok false W := by
    unfold isAgg
    rw [Sem.run_bind, run_underlying hd W]
    cases d <;> simp_all
  have hc := h.cell
  simp [loadVar, Sem.run_bind, hagg, load, Sem.run, hc]

theorem blk_own {K : Nat} {t : TypeId} {cs : Array Value} {g : Nat} : OwnFrom K (fun (_ : Unit) W => Blk W g t cs) := fun _ X Y row hs hg hr =>
  (hg.block g hs.lt (fun e => by
    obtain ⟨_, o, ho, hc⟩ := hr g e.symm
    rw [show X.heap[g]? = _ from hs] at ho
    cases ho
    cases hc)).trans hs

theorem res3 {tmps : Array Value} {W : World} {b0 b1 b2 : Nat} {v : Value} {x y : Int} (h2 : tmps[2]?.getD undef = .pointer (some ⟨b0, 0, none⟩)) (h3 : tmps[3]?.getD undef = .pointer (some ⟨b1, 0, none⟩)) (h4 : tmps[4]?.getD undef = .pointer (some ⟨b2, 0, none⟩))
    (k0 : Boxed W b0 32 v) (k1 : Boxed W b1 3 (.int .i64 x)) (k2 : Boxed W b2 33 (.int .i64 y)) :
    (results Tryd.f20 tmps).run Tryd.prog W = .ok (.tuple #[v, .int .i64 x, .int .i64 y]) W := by
  have hr : Tryd.f20.results = #[.cell 2 32, .cell 3 3, .cell 4 33] := by kernel_rfl
  have l0 := box_load W b0 32 v k0 _ Tryd.underlying32 rfl
  have l1 := box_load W b1 3 _ k1 _ Tryd.underlying3 rfl
  have l2 := box_load W b2 33 _ k2 _ Tryd.underlying33 rfl
  unfold results
  rw [show Tryd.f20.results = #[.cell 2 32, .cell 3 3, .cell 4 33] from hr]
  simp [h2, h3, h4, asAddr, l0, l1, l2]

/-- What stands while tokens are gathered; where an error ended it. -/
def GatT (w : World) (s : List (Tk × Nat)) (r : Option Nat) (W : World) : Prop :=
  (∃ v, Boxed W (w.heap.size + 3) 32 v ∧ W.ownsRow w.heap.size 37 4 v s.length (rowT (s.map (·.1))) ∧ r = v.ownBlock) ∧
  Boxed W w.heap.size 32 (.slice none 0 0) ∧ Boxed W (w.heap.size + 1) 3 (.int .i64 0) ∧ Boxed W (w.heap.size + 2) 33 (.int .i64 0) ∧ Below w.heap.size w W ∧ ∀ x ∈ s, x.2 = 0
def HaltT (w : World) (s : List (Tk × Nat)) (W : World) : Prop :=
  ∃ pre x, s = pre ++ [x] ∧ x.2 ≠ 0 ∧ Boxed W w.heap.size 32 (.slice none 0 0) ∧ Boxed W (w.heap.size + 1) 3 (.int .i64 (x.1.pos : Int)) ∧ Boxed W (w.heap.size + 2) 33 (.int .i64 (x.2 : Int)) ∧ Below w.heap.size w W

theorem gat_own (w : World) (K : Nat) (hK : w.heap.size ≤ K) : OwnFrom K (fun (q : List (Tk × Nat) × Option Nat) W => GatT w q.1 q.2 W) := by
  have a := (holdsRow_own (β := List (Tk × Nat) × Option Nat) w.heap.size (w.heap.size + 3) 32 37 4 (fun q => q.1.length) (fun q => rowT (q.1.map (·.1))) (fun q v => q.2 = v.ownBlock)).from K
  have b := (boxed_own (β := List (Tk × Nat) × Option Nat) w.heap.size 32 (fun _ => .slice none 0 0)).from K
  have c := (boxed_own (β := List (Tk × Nat) × Option Nat) (w.heap.size + 1) 3 (fun _ => .int .i64 0)).from K
  have d := (boxed_own (β := List (Tk × Nat) × Option Nat) (w.heap.size + 2) 33 (fun _ => .int .i64 0)).from K
  have e := ownFrom_below (β := List (Tk × Nat) × Option Nat) (n₀ := w.heap.size) (w₀ := w) (Nat.le_refl _) hK
  have f := ownFrom_pure (β := List (Tk × Nat) × Option Nat) K (fun q => ∀ x ∈ q.1, x.2 = 0)
  exact a.and (b.and (c.and (d.and (e.and f))))
theorem halt_own (w : World) (K : Nat) (hK : w.heap.size ≤ K) : OwnFrom K (HaltT w) := by
  intro s X Y row ⟨pre, x, e, hne, h0, h1, h2, h3⟩ hg hr
  have b := (boxed_own (β := Unit) w.heap.size 32 (fun _ => .slice none 0 0)).from K
  have c := (boxed_own (β := Unit) (w.heap.size + 1) 3 (fun _ => .int .i64 (x.1.pos : Int))).from K
  have d := (boxed_own (β := Unit) (w.heap.size + 2) 33 (fun _ => .int .i64 (x.2 : Int))).from K
  have f := ownFrom_below (β := Unit) (n₀ := w.heap.size) (w₀ := w) (Nat.le_refl _) hK
  exact ⟨pre, x, e, hne, b () X Y row h0 hg hr, c () X Y row h1 hg hr, d () X Y row h2 hg hr, f () X Y row h3 hg hr⟩

set_option maxRecDepth 100000 in
set_option maxHeartbeats 8000000 in
theorem tokens_in (n : Nat) (hn : 6 ≤ n) (s : ByteArray) (w : World) (hs : s.size ≤ 140737488351232) (hE : LEnv w) :
    CallsIn Fence.wide n Tryd.prog 20 #[.string s] w (TokPost w (tokL s.data.toList)) := by
  have h1 : 1 ≤ n := by omega
  obtain ⟨i0, hi, hz0, hz1, hz2⟩ := info_parts Tryd.infoTok
  have hsl := list_len s
  refine callsIn_of_wp_marks Tryd.func20 rfl trivial ?_ rfl
  simp only [Tryd.ntmps20, List.size_toArray, List.length_cons, List.length_nil, Nat.reduceAdd, Nat.reduceSub, Array.replicate_succ, Array.replicate_zero, List.push_toArray, List.append_toArray, List.nil_append, List.cons_append]
  by_cases h2 : s.size ≤ 2000
  · have b1 : ¬ (2000 : Int) < (s.size : Int) := by omega
    have HT := Lib.hid (show tokL s.data.toList = comb [] (lexP 0 s.data.toList) by unfold tokL; rw [if_neg (by omega)])
    clear hsl
    gi_wp2
    obtain ⟨X, hX⟩ : ∃ X, (((w.alloc (.cells #[.slice none 0 0] 32)).alloc (.cells #[.int .i64 0] 3)).alloc (.cells #[.int .i64 0] 33)).alloc (.cells #[.slice none 0 0] 32) = X := ⟨_, rfl⟩
    have hXz : X.heap.size = w.heap.size + 4 := by rw [← hX]; simp
    have hXB : Below w.heap.size w X := by rw [← hX]; exact ((((Below.refl _ w).alloc (Nat.le_refl _) _).alloc (by simp) _).alloc (by simp; omega) _).alloc (by simp; omega) _
    have x0 : Boxed X w.heap.size 32 (.slice none 0 0) := by rw [← hX]; exact (((Boxed.new w _ _).alloc _).alloc _).alloc _
    have x1 : Boxed X (w.heap.size + 1) 3 (.int .i64 0) := by
      rw [← hX]
      have k := Boxed.new (w.alloc (.cells #[.slice none 0 0] 32)) 3 (.int .i64 0)
      rw [World.size_alloc] at k
      exact (k.alloc _).alloc _
    have x2 : Boxed X (w.heap.size + 2) 33 (.int .i64 0) := by
      rw [← hX]
      have k := Boxed.new ((w.alloc (.cells #[.slice none 0 0] 32)).alloc (.cells #[.int .i64 0] 3)) 33 (.int .i64 0)
      rw [World.size_alloc, World.size_alloc] at k
      exact k.alloc _
    have x3 : Boxed X (w.heap.size + 3) 32 (.slice none 0 0) := by
      rw [← hX]
      have k := Boxed.new (((w.alloc (.cells #[.slice none 0 0] 32)).alloc (.cells #[.int .i64 0] 3)).alloc (.cells #[.int .i64 0] 33)) 32 (.slice none 0 0)
      rw [World.size_alloc, World.size_alloc, World.size_alloc] at k
      exact k
    rw [hX]
    clear hX
    have g0 : GatT w [] none X := ⟨⟨_, x3, World.ownsRow_nil _ _ _ _, rfl⟩, x0, x1, x2, hXB, fun x hx => by cases hx⟩
    clear x0 x1 x2 x3 hXB
    refine range_halt (α := Tk × Nat) rfl h1 (gf := 29) (bd := #[.string s]) (lb := #[]) rfl trivial (enters_of Tryd.func29 (by kernel_rfl) rfl)
      (tokens_halts (n - 1) (by omega) s h2 X) (fun _ => rfl) (GatT w) (HaltT w) (gat_own w _ (by omega)) (halt_own w _ (by omega)) ?ev ?bad g0
      (fun x a' W => ∃ B, X.heap.size ≤ B ∧ a' = { tmps := #[.string s, undef, .pointer (some ⟨w.heap.size, 0, none⟩), .pointer (some ⟨w.heap.size + 1, 0, none⟩), .pointer (some ⟨w.heap.size + 1 + 1, 0, none⟩), .pointer (some ⟨w.heap.size + 1 + 1 + 1, 0, none⟩), .pointer (some ⟨B, 0, none⟩), .int .i64 (x.2 : Int), .string s, .int .i64 (s.size : Int), .bool false, .string s, .func (.func 29) #[.string s] #[], tkV x.1, .int .i64 (x.2 : Int), undef, undef, undef, undef, undef, undef, undef, undef, undef, undef], defers := [] } ∧ Blk W B 37 (tkCells x.1)) ?ax ?assign ?body ?done ?stop
    case ev =>
      intro s' r A ⟨⟨v, hv, ho, e⟩, _, _, _, hB, _⟩
      refine ⟨hE.below hB, fun b hb => ?_⟩
      rw [e] at hb
      rcases ho.2 with ⟨rfl, _⟩ | ⟨g, cap, cur, rfl, _, hg, _⟩
      · cases hb
      · obtain rfl : g = b := by simpa [Value.ownBlock] using hb
        exact (Array.getElem?_eq_some_iff.1 hg).1
    case bad =>
      intro s' x r A hx h
      exact hx (h.2.2.2.2.2 x (by simp))
    case ax =>
      intro x a' u A B row ⟨b, hb, ea, hk⟩ hg hr
      exact ⟨b, hb, ea, (blk_own (K := X.heap.size)) () A B row hk hg hr⟩
    case assign =>
      intro l s' r x W K hg0 hz hK
      obtain ⟨⟨x0, x1, x2, x3⟩, x4⟩ := x
      simp only [encT, tkV, tkCells] at hK ⊢
      have HK := Lib.hid hK
      have HG := Lib.hid hg0
      clear hK hg0
      gi_wp2
      exact HK.out _ _ ((Below.refl _ W).alloc (Nat.le_refl _) _) ((gat_own w X.heap.size (by omega)).alloc (s := (s', r)) _ HG.out) ⟨W.heap.size, hz, rfl, Blk.new W _ _⟩
    case body =>
      rintro l s' r x a' W hg0 ⟨B, hB, rfl, hk⟩ hN
      obtain ⟨⟨x0, x1, x2, x3⟩, x4⟩ := x
      obtain ⟨⟨v, hv, ho, hr⟩, y0, y1, y2, hWB, hal⟩ := hg0
      simp only [tkV, tkCells] at hk ⊢
      have c0 := hk.cell 0
      have c1 := hk.cell 1
      have c2 := hk.cell 2
      have c3 := hk.cell 3
      have hd : 1 ≤ n - 1 - 1 := by omega
      have hlen : s'.length ≤ 2000 := by omega
      have hwz := hWB.size
      by_cases h4 : x4 = 0
      · subst h4
        have cv : W.cell? ⟨w.heap.size + 1 + 1 + 1, 0, none⟩ = some v := hv.cell
        gi_wp2_with (first
          | (gi_at_builtin; go_loud (refine wpListIn_append_own _ rfl _ _ 32 rfl w.heap.size 37 i0 (.agg #[.int .i64 0, .string ⟨#[]⟩, .int .i64 0, .int .i64 0]) 4 40 Tryd.underlying32 hi hz0 hz1 hz2 rfl (by decide) v s'.length (rowT (s'.map (·.1))) rfl (ho.alloc _) ⟨W.heap.size, 0, none⟩ 1 1 (tkL ⟨x0, x1, x2, x3⟩) rfl rfl (World.news_of_block (cs := #[.int .i64 (x0 : Int), .string (ba x1), .int .i64 (x2 : Int), .int .i64 (x3 : Int)]) (heap_alloc_new W _)) (by simp [tkL, Value.oneCell']) (by unfold maxLen; omega) (by omega) (by simp; omega) ?_); intro v' w1 hown hg hnil
             obtain ⟨g', cap', rfl⟩ := ownsRow_succ hown
             obtain ⟨q1, q2, q3, q4, q5⟩ := Boxed.appended hv (by decide) ho hwz (by omega) hown hg
             have cq : w1.cell? ⟨w.heap.size + 1 + 1 + 1, 0, none⟩ = some v := q1.cell
             have fq : w1.frozen? ⟨w.heap.size + 1 + 1 + 1, 0, none⟩ = false := q1.frozen))
        refine ⟨q4.from _, _, ⟨⟨_, q2, ?_, rfl⟩, ?_, ?_, ?_, hWB.trans q5, ?_⟩, ?_⟩
        · rw [List.map_append, List.map_cons, List.map_nil, rowT_snoc, List.length_append]
          exact q3
        · exact ((y0.alloc _).kept hg (y0.not_row (by decide) ho)).other (by omega) _
        · exact ((y1.alloc _).kept hg (y1.not_row (by decide) ho)).other (by omega) _
        · exact ((y2.alloc _).kept hg (y2.not_row (by decide) ho)).other (by omega) _
        · intro y hy
          rcases List.mem_append.1 hy with h | h
          · exact hal y h
          · simp at h; rw [h]
        · intro b hb1 hb2 hb3
          rw [hr] at hb3
          have e1 := Below.heap_setCell w1 ⟨w.heap.size + 1 + 1 + 1, 0, none⟩ (.slice (some ⟨g', 0, none⟩) (s'.length + 1) cap') b (by show ¬ b = w.heap.size + 1 + 1 + 1; omega)
          exact e1.trans ((hg.block b (by simp; omega) hb3).trans (Below.heap_alloc W _ b hb2))
      · have e4 : (x4 : Int) ≠ 0 := by omega
        have e5 : ((x4 : Int) != 0) = true := by simp; omega
        have mixed : Tryd.prog.follows .mixedOrders = true := by kernel_rfl
        have cv0 := y0.cell
        have fv0 := y0.frozen
        have cv1 : W.cell? ⟨w.heap.size + 1, 0, none⟩ = some (.int .i64 0) := y1.cell
        have fv1 : W.frozen? ⟨w.heap.size + 1, 0, none⟩ = false := y1.frozen
        have cv2 : W.cell? ⟨w.heap.size + 1 + 1, 0, none⟩ = some (.int .i64 0) := y2.cell
        have fv2 : W.frozen? ⟨w.heap.size + 1 + 1, 0, none⟩ = false := y2.frozen
        have hfin : ∀ Z : World, Z = ((W.setCell ⟨w.heap.size, 0, none⟩ (.slice none 0 0)).setCell ⟨w.heap.size + 1, 0, none⟩ (.int .i64 (x3 : Int))).setCell ⟨w.heap.size + 1 + 1, 0, none⟩ (.int .i64 (x4 : Int)) →
            KeepsFrom X.heap.size W Z ∧ HaltT w (s' ++ [(⟨x0, x1, x2, x3⟩, x4)]) Z := fun Z hZ => by
          subst hZ
          refine ⟨(((KeepsOthers.setCell W _ _).trans (KeepsOthers.setCell _ _ _)).trans (KeepsOthers.setCell _ _ _)).from _, s', (⟨x0, x1, x2, x3⟩, x4), rfl, h4, ?_, ?_, ?_, ?_⟩
          · exact ((y0.set _).other (by omega) _).other (by omega) _
          · exact ((y1.other (by omega) _).set _).other (by omega) _
          · exact ((y2.other (by omega) _).other (by omega) _).set _
          · exact ((hWB.setCell (p := ⟨w.heap.size, 0, none⟩) (Nat.le_refl _) _).setCell (p := ⟨w.heap.size + 1, 0, none⟩) (by show w.heap.size ≤ w.heap.size + 1; omega) _).setCell (p := ⟨w.heap.size + 1 + 1, 0, none⟩) (by show w.heap.size ≤ w.heap.size + 1 + 1; omega) _
        have Fin := Lib.hid (hfin _ rfl)
        have Find := Lib.hid (show KeepsFrom X.heap.size W (((W.setCell ⟨w.heap.size, 0, none⟩ (.slice none 0 0)).setCell ⟨w.heap.size + 1, 0, none⟩ (.int .i64 (x3 : Int))).setCell ⟨w.heap.size + 1 + 1, 0, none⟩ (.int .i64 (x4 : Int))).drew ∧ HaltT w (s' ++ [(⟨x0, x1, x2, x3⟩, x4)]) (((W.setCell ⟨w.heap.size, 0, none⟩ (.slice none 0 0)).setCell ⟨w.heap.size + 1, 0, none⟩ (.int .i64 (x3 : Int))).setCell ⟨w.heap.size + 1 + 1, 0, none⟩ (.int .i64 (x4 : Int))).drew from by
          obtain ⟨k, p', x', e, hne, a0, a1, a2, a3⟩ := hfin _ rfl
          exact ⟨⟨k.size, k.same⟩, p', x', e, hne, a0, a1, a2, a3.drew⟩)
        clear hfin hv ho hal hr
        gi_wp2
        gi_region_with_o (fail)
        all_goals
          gi_wp2
          first | exact Fin.out | exact Find.out
    case done =>
      rintro D xs r W hD hS ⟨⟨v, hv, ho, hr⟩, y0, y1, y2, hWB, hal⟩ hK
      have HS := Lib.hid hS
      have cv : W.cell? ⟨w.heap.size + 1 + 1 + 1, 0, none⟩ = some v := hv.cell
      have cv0 := y0.cell
      have fv0 := y0.frozen
      have cv1 : W.cell? ⟨w.heap.size + 1, 0, none⟩ = some (.int .i64 0) := y1.cell
      have fv1 : W.frozen? ⟨w.heap.size + 1, 0, none⟩ = false := y1.frozen
      have cv2 : W.cell? ⟨w.heap.size + 1 + 1, 0, none⟩ = some (.int .i64 0) := y2.cell
      have fv2 : W.frozen? ⟨w.heap.size + 1 + 1, 0, none⟩ = false := y2.frozen
      clear hS
      obtain ⟨a, k, c, rfl⟩ : ∃ a k c, v = .slice a k c := by
        rcases ho.2 with ⟨rfl, _⟩ | ⟨g, cap, cur, rfl, _⟩
        · exact ⟨_, _, _, rfl⟩
        · exact ⟨_, _, _, rfl⟩
      gi_wp2
      obtain ⟨Z, hZ⟩ : ∃ Z, ((W.setCell ⟨w.heap.size, 0, none⟩ (.slice a k c)).setCell ⟨w.heap.size + 1, 0, none⟩ (.int .i64 0)).setCell ⟨w.heap.size + 1 + 1, 0, none⟩ (.int .i64 0) = Z := ⟨_, rfl⟩
      have z0 : Boxed Z w.heap.size 32 (.slice a k c) := by rw [← hZ]; exact ((y0.set _).other (by omega) _).other (by omega) _
      have z1 : Boxed Z (w.heap.size + 1) 3 (.int .i64 0) := by rw [← hZ]; exact ((y1.other (by omega) _).set _).other (by omega) _
      have z2 : Boxed Z (w.heap.size + 2) 33 (.int .i64 0) := by rw [← hZ]; exact ((y2.other (by omega) _).other (by omega) _).set _
      have zB : Below w.heap.size w Z := by rw [← hZ]; exact ((hWB.setCell (p := ⟨w.heap.size, 0, none⟩) (Nat.le_refl _) _).setCell (p := ⟨w.heap.size + 1, 0, none⟩) (by show w.heap.size ≤ w.heap.size + 1; omega) _).setCell (p := ⟨w.heap.size + 1 + 1, 0, none⟩) (by show w.heap.size ≤ w.heap.size + 1 + 1; omega) _
      have zD : Z.heap[D]? = some (.deferred (some [])) := by rw [← hZ]; exact (((KeepsOthers.setCell W _ _).trans (KeepsOthers.setCell _ _ _)).trans (KeepsOthers.setCell _ _ _)).same D _ hK rfl
      have zo : Z.ownsRow w.heap.size 37 4 (.slice a k c) xs.length (rowT (xs.map (·.1))) := by
        rw [← hZ]
        have n0 := (y0.not_row (by decide) ho).symm
        have n1 := (y1.not_row (by decide) ho).symm
        have n2 := (y2.not_row (by decide) ho).symm
        exact ((ho.kept (grownBy_setCell' W _ _) (.inr n0)).kept (grownBy_setCell' _ _ _) (.inr n1)).kept (grownBy_setCell' _ _ _) (.inr n2)
      rw [hZ]
      refine ⟨by simp, .inl ⟨_, _, rfl, run_takeDeferred zD, ?_⟩⟩
      have far : ∀ {b : Nat} {t : TypeId} {v : Value}, Boxed Z b t v → b < D → Boxed (Z.putObj D (.deferred none)) b t v := fun h hb => (World.putObj_heap_other (by omega)).trans h
      refine ⟨_, res3 rfl rfl rfl (far z0 (by omega)) (far z1 (by omega)) (far z2 (by omega)), ?_⟩
      rw [HT.out, HS.out]
      refine ⟨_, rfl, ?_, zB.trans (belowK_b (w := w) (Nat.le_refl _) _ D _ _ (by omega) zD rfl rfl)⟩
      have hz := ownsRow_putObj zo (.deferred none) zD rfl
      rw [List.length_map]
      exact hz
    case stop =>
      rintro D s' W hD hS ⟨pre, x, rfl, hne, y0, y1, y2, hWB⟩ hK
      have HS := Lib.hid (hS pre x rfl hne)
      clear hS
      gi_wp2
      refine ⟨by simp, .inl ⟨_, _, rfl, run_takeDeferred hK, ?_⟩⟩
      have far : ∀ {b : Nat} {t : TypeId} {v : Value}, Boxed W b t v → b < D → Boxed (W.putObj D (.deferred none)) b t v := fun h hb => (World.putObj_heap_other (by omega)).trans h
      refine ⟨_, res3 rfl rfl rfl (far y0 (by omega)) (far y1 (by omega)) (far y2 (by omega)), ?_⟩
      rw [HT.out, HS.out]
      exact ⟨_, rfl, World.ownsRow_nil _ _ _ _, hWB.trans (belowK_b (w := w) (Nat.le_refl _) _ D _ _ (by omega) hK rfl rfl)⟩
  · have b1 : (2000 : Int) < (s.size : Int) := by omega
    have HT := Lib.hid (show tokL s.data.toList = ([], 2000, 4) by unfold tokL; rw [if_pos (by omega)])
    clear hsl
    gi_wp2
    refine ⟨_, res3 rfl rfl rfl (((Boxed.new w _ _).alloc _).alloc _) (by have k := Boxed.new (w.alloc (.cells #[.slice none 0 0] 32)) 3 (.int .i64 2000); rw [World.size_alloc] at k; exact k.alloc _) (by have k := Boxed.new ((w.alloc (.cells #[.slice none 0 0] 32)).alloc (.cells #[.int .i64 2000] 3)) 33 (.int .i64 4); rw [World.size_alloc, World.size_alloc] at k; exact k), ?_⟩
    rw [HT.out]
    exact ⟨_, rfl, World.ownsRow_nil _ _ _ _, ((((Below.refl _ w).alloc (Nat.le_refl _) _).alloc (by simp) _).alloc (by simp; omega) _)⟩
end Go.Proofs.YtpmndopcemdniaaDoor
