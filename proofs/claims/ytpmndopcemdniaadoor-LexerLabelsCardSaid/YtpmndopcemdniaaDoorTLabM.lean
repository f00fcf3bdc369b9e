/- The mathematics of LexerLabels: the tokens of the text of labels. Conditions: none. -/
import Derived.Test.YtpmndopcemdniaaDoorTNamesM
namespace Go.Proofs.YtpmndopcemdniaaDoor

/-- A token of a kind and a text stands first, and this follows. -/
def Hd (l : List UInt8) (k : Nat) (x r : List UInt8) : Prop := ∃ c t, l = c :: t ∧ whB c = false ∧ ∃ n, firstL (c :: t) = (⟨k, x, n, 0⟩, 0) ∧ (c :: t).drop (sizeT ⟨k, x, n, 0⟩) = r
/-- The tokens have these kinds and texts. -/
def Lx (l : List UInt8) (s : List (Nat × List UInt8)) : Prop := ∀ p, ∃ ts a, lexP p l = (ts, a, 0) ∧ ts.map (fun t => (t.kind, t.text)) = s
theorem Lx.nil : Lx [] [] := fun p => ⟨[], 0, lex_nil p, rfl⟩
theorem Lx.cons {l : List UInt8} {k : Nat} {x r : List UInt8} {s : List (Nat × List UInt8)} (h : Hd l k x r) (hr : Lx r s) : Lx l ((k, x) :: s) := fun p => by
  obtain ⟨c, t, rfl, hw, n, hf, hd⟩ := h
  have h0 : (firstL (c :: t)).2 = 0 := by rw [hf]
  obtain ⟨ts, a, e1, e2⟩ := hr (p + sizeT ⟨k, x, n, 0⟩)
  rw [lex_tok p hw h0, hf]
  show ∃ ts' a', (_ :: (lexP (p + sizeT ⟨k, x, n, 0⟩) ((c :: t).drop (sizeT ⟨k, x, n, 0⟩))).1, (lexP (p + sizeT ⟨k, x, n, 0⟩) ((c :: t).drop (sizeT ⟨k, x, n, 0⟩))).2) = (ts', a', 0) ∧ _
  rw [hd, e1]
  exact ⟨_, a, rfl, by rw [List.map_cons, e2]; rfl⟩

def nmL : List (List UInt8) := [[97], [97, 98], [98], [106, 111, 98], [120, 95, 49], [122, 111, 110, 101]]
def vlL : List (List UInt8) := [[97], [97, 98], [98], [120, 49], [126, 33], [48]]
theorem hd_name {x : List UInt8} (hx : x ∈ nmL) (r : List UInt8) : Hd (x ++ 61 :: r) 0 x (61 :: r) := by
  simp only [nmL, List.mem_cons, List.not_mem_nil, or_false] at hx
  rcases hx with rfl | rfl | rfl | rfl | rfl | rfl
  all_goals exact ⟨_, _, rfl, rfl, 0, rfl, rfl⟩
theorem hd_sym {c : UInt8} (h1 : whB c = false) (h2 : leB c = false) (h3 : diB c = false) (h4 : c ≠ 34) (h5 : oneB c = true) (r : List UInt8) : Hd (c :: r) 3 [c] r := by
  refine ⟨c, r, rfl, h1, 0, ?_, rfl⟩
  rw [first_cons, if_neg (by simp [h2]), if_neg (by simp [h3]), if_neg h4, sym_cons, if_pos h5, if_neg (by simp)]
theorem hd_val {x : List UInt8} (hx : x ∈ vlL) (r : List UInt8) : Hd (34 :: (x ++ 34 :: r)) 2 x r := by
  have hq : (x ++ 34 :: r).takeWhile nqB = x ∧ x.all vaB = true ∧ x.length ≤ 16 := by
    simp only [vlL, List.mem_cons, List.not_mem_nil, or_false] at hx
    rcases hx with rfl | rfl | rfl | rfl | rfl | rfl
    all_goals exact ⟨rfl, rfl, by decide⟩
  refine ⟨34, x ++ 34 :: r, rfl, rfl, 0, ?_, ?_⟩
  · rw [first_cons, if_neg (by decide), if_neg (by decide), if_pos rfl, hq.1, if_pos ⟨by simp, hq.2.1⟩, if_pos hq.2.2]
  · show (34 :: (x ++ 34 :: r)).drop (x.length + 2) = r
    rw [List.drop_succ_cons, show x ++ 34 :: r = (x ++ [34]) ++ r by simp, List.drop_left' (by simp)]

/-- The tokens of a label, of labels; their bytes. -/
def three (t : List UInt8 × List UInt8) : List (Nat × List UInt8) := [(0, t.1), (3, [61]), (2, t.2)]
def labB : List (List UInt8 × List UInt8) → List UInt8
  | [] => []
  | [t] => t.1 ++ 61 :: 34 :: (t.2 ++ [34])
  | t :: u :: r => t.1 ++ 61 :: 34 :: (t.2 ++ 34 :: 44 :: labB (u :: r))
def labT : List (List UInt8 × List UInt8) → List (Nat × List UInt8)
  | [] => []
  | [t] => three t
  | t :: u :: r => three t ++ (3, [44]) :: labT (u :: r)
def InL (it : List (List UInt8 × List UInt8)) : Prop := ∀ t ∈ it, t.1 ∈ nmL ∧ t.2 ∈ vlL
theorem lx_three {t : List UInt8 × List UInt8} (h : t.1 ∈ nmL ∧ t.2 ∈ vlL) {r : List UInt8} {s : List (Nat × List UInt8)} (hr : Lx r s) : Lx (t.1 ++ 61 :: 34 :: (t.2 ++ 34 :: r)) (three t ++ s) :=
  .cons (hd_name h.1 _) (.cons (hd_sym rfl rfl rfl (by decide) rfl _) (.cons (hd_val h.2 r) hr))
theorem lx_labs : ∀ it, InL it → Lx (labB it ++ [125]) (labT it ++ [(3, [125])])
  | [], _ => .cons (hd_sym rfl rfl rfl (by decide) rfl _) .nil
  | [t], h => by
    have := lx_three (h t (by simp)) (r := [125]) (.cons (hd_sym rfl rfl rfl (by decide) rfl _) .nil)
    simpa [labB, labT] using this
  | t :: u :: r, h => by
    have ih := lx_labs (u :: r) (fun x hx => h x (List.mem_cons_of_mem _ hx))
    have := lx_three (h t (by simp)) (r := 44 :: (labB (u :: r) ++ [125])) (.cons (hd_sym rfl rfl rfl (by decide) rfl _) ih)
    simpa [labB, labT] using this
theorem lx_text (it : List (List UInt8 × List UInt8)) (h : InL it) : Lx (123 :: (labB it ++ [125])) ((3, [123]) :: (labT it ++ [(3, [125])])) :=
  .cons (hd_sym rfl rfl rfl (by decide) rfl _) (lx_labs it h)
theorem in_len {t : List UInt8 × List UInt8} (h : t.1 ∈ nmL ∧ t.2 ∈ vlL) : t.1.length ≤ 4 ∧ t.2.length ≤ 4 := by
  have h1 : ∀ x ∈ nmL, x.length ≤ 4 := by decide
  have h2 : ∀ x ∈ vlL, x.length ≤ 4 := by decide
  exact ⟨h1 _ h.1, h2 _ h.2⟩
theorem labB_len : ∀ it, InL it → (labB it).length ≤ 12 * it.length
  | [], _ => Nat.le_refl _
  | [t], h => by
    have := in_len (h t (by simp))
    simp [labB]
    omega
  | t :: u :: r, h => by
    have ih := labB_len (u :: r) (fun x hx => h x (List.mem_cons_of_mem _ hx))
    have := in_len (h t (by simp))
    simp [labB] at ih ⊢
    omega
theorem labT_len : ∀ it, (labT it).length + min it.length 1 = 4 * it.length
  | [] => rfl
  | [_] => rfl
  | _ :: u :: r => by
    have ih := labT_len (u :: r)
    simp [labT, three] at ih ⊢
    omega
theorem labT_at : ∀ (it : List (List UInt8 × List UInt8)) (i : Nat) (t : List UInt8 × List UInt8), it[i]? = some t →
    (labT it)[4 * i]? = some (0, t.1) ∧ (labT it)[4 * i + 1]? = some (3, [61]) ∧ (labT it)[4 * i + 2]? = some (2, t.2) ∧ (i + 1 < it.length → (labT it)[4 * i + 3]? = some (3, [44]))
  | [], _, _, h => by simp at h
  | [t], 0, _, h => by
    simp at h; subst h
    exact ⟨rfl, rfl, rfl, fun h => by simp at h⟩
  | [t], i + 1, _, h => by simp at h
  | t :: u :: r, 0, _, h => by
    simp at h; subst h
    exact ⟨rfl, rfl, rfl, fun _ => rfl⟩
  | t :: u :: r, i + 1, x, h => by
    have h' : (u :: r)[i]? = some x := by simpa using h
    obtain ⟨a, b, c, d⟩ := labT_at (u :: r) i x h'
    have hs : ∀ j, (labT (t :: u :: r))[j + 4]? = (labT (u :: r))[j]? := fun j => rfl
    refine ⟨?_, ?_, ?_, fun hl => ?_⟩
    · rw [show 4 * (i + 1) = 4 * i + 4 by omega, hs]; exact a
    · rw [show 4 * (i + 1) + 1 = (4 * i + 1) + 4 by omega, hs]; exact b
    · rw [show 4 * (i + 1) + 2 = (4 * i + 2) + 4 by omega, hs]; exact c
    · rw [show 4 * (i + 1) + 3 = (4 * i + 3) + 4 by omega, hs]; exact d (by simpa using hl)

/-- What the tokens of a text of labels are: kinds and texts, place by place. -/
structure LabTs (it : List (List UInt8 × List UInt8)) (ts : List Tk) : Prop where
  len : ts.length + min it.length 1 = 2 + 4 * it.length
  first : ∃ t, ts[0]? = some t ∧ t.text = [123]
  last : ∃ t, ts[ts.length - 1]? = some t ∧ t.text = [125]
  at_ : ∀ i x, it[i]? = some x → (∃ t, ts[1 + 4 * i]? = some t ∧ t.kind = 0 ∧ t.text = x.1) ∧ (∃ t, ts[1 + 4 * i + 1]? = some t ∧ t.text = [61]) ∧ (∃ t, ts[1 + 4 * i + 2]? = some t ∧ t.kind = 2 ∧ t.text = x.2) ∧ (i + 1 < it.length → ∃ t, ts[1 + 4 * i + 3]? = some t ∧ t.text = [44])
theorem lab_toks (it : List (List UInt8 × List UInt8)) (h : InL it) (h6 : it.length ≤ 6) : ∃ ts, tokL (123 :: (labB it ++ [125])) = (ts, 0, 0) ∧ LabTs it ts := by
  obtain ⟨ts, a, e1, e2⟩ := lx_text it h 0
  have hl := labB_len it h
  have hT := labT_len it
  have hlen : ts.length = (labT it).length + 2 := by
    have := congrArg List.length e2
    simpa using this
  have hat : ∀ (j : Nat) (k : Nat) (x : List UInt8), ((3, [123]) :: (labT it ++ [(3, [125])]))[j]? = some (k, x) → ∃ t, ts[j]? = some t ∧ t.kind = k ∧ t.text = x := fun j k x hj => by
    rw [← e2, List.getElem?_map] at hj
    cases ht : ts[j]? with
    | none => rw [ht] at hj; cases hj
    | some t =>
      rw [ht] at hj
      have := Option.some.inj hj
      exact ⟨t, rfl, congrArg Prod.fst this, congrArg Prod.snd this⟩
  have hin : ∀ (j : Nat) (q : Nat × List UInt8), (labT it)[j]? = some q → ∃ t, ts[j + 1]? = some t ∧ t.kind = q.1 ∧ t.text = q.2 := fun j q hj => by
    refine hat (j + 1) q.1 q.2 ?_
    rw [List.getElem?_cons_succ, List.getElem?_append_left (List.getElem?_eq_some_iff.1 hj).1]
    exact hj
  refine ⟨ts, ?_, by omega, ?_, ?_, fun i x hx => ?_⟩
  · unfold tokL
    rw [if_neg (by simp; omega), e1]
    unfold comb
    simp
  · obtain ⟨t, h1, _, h2⟩ := hat 0 3 [123] rfl
    exact ⟨t, h1, h2⟩
  · obtain ⟨t, h1, _, h2⟩ := hat (ts.length - 1) 3 [125] (by rw [show ts.length - 1 = (labT it).length + 1 by omega, List.getElem?_cons_succ, List.getElem?_append_right (Nat.le_refl _), Nat.sub_self]; rfl)
    exact ⟨t, h1, h2⟩
  · obtain ⟨a1, a2, a3, a4⟩ := labT_at it i x hx
    obtain ⟨t1, b1, c1, d1⟩ := hin _ _ a1
    obtain ⟨t2, b2, c2, d2⟩ := hin _ _ a2
    obtain ⟨t3, b3, c3, d3⟩ := hin _ _ a3
    refine ⟨⟨t1, by rw [show 1 + 4 * i = 4 * i + 1 by omega]; exact b1, c1, d1⟩, ⟨t2, by rw [show 1 + 4 * i + 1 = 4 * i + 1 + 1 by omega]; exact b2, d2⟩, ⟨t3, by rw [show 1 + 4 * i + 2 = 4 * i + 2 + 1 by omega]; exact b3, c3, d3⟩, fun hl => ?_⟩
    obtain ⟨t4, b4, c4, d4⟩ := hin _ _ (a4 hl)
    exact ⟨t4, by rw [show 1 + 4 * i + 3 = 4 * i + 3 + 1 by omega]; exact b4, d4⟩
end Go.Proofs.YtpmndopcemdniaaDoor
