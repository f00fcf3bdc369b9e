/- The library's calls on lists of labels: ContainsFunc, Clone, SortFunc, with the closures of New. Conditions: few labels. -/
import Derived.LoopN
import Derived.Test.YtmgjbbkccgncgaaDoorLOrd
namespace Go.Proofs.YtmgjbbkccgncgaaDoor
open Go.RowKit Go.Sort

/-- The closure that compares a label's name with the name of the label in block b. -/
theorem pred_new (nm : ByteArray) (B : Nat) (w : World) (hB : B < w.heap.size) (hcell : w.cell? ⟨B, 0, none⟩ = some (.string nm)) :
    PredBelow Tryd.prog 18 #[.pointer (some ⟨B, 0, none⟩)] (fun x : L2 => .agg (cells2 x).toArray) (fun x => decide (x.1 = nm)) w := fun W x hb => by
  have hc : W.cell? ⟨B, 0, none⟩ = some (.string nm) := (hb.cell (p := ⟨B, 0, none⟩) hB).trans hcell
  have hBW : B < W.heap.size := Nat.lt_of_lt_of_le hB hb.size
  have hne : B ≠ W.heap.size := by omega
  obtain ⟨n, v⟩ := x
  show Calls Tryd.prog 18 #[.agg #[.string n, .string v], .pointer (some ⟨B, 0, none⟩)] W _
  by_cases h : n = nm
  · have e1 := str_yes h
    have HR := Lib.hid (show decide (n = nm) = true from decide_eq_true h)
    clear h
    go_enter Tryd.func18, Tryd.ntmps18
    go_wp2
    all_goals try (go_quiet (fail); go_wp2)
    go_ret
    exact ⟨ret_bool HR.out.symm, by first | exact hb.alloc hb.size _ | exact below_draw (hb.alloc hb.size _) _⟩
  · have e1 := str_no h
    have HR := Lib.hid (show decide (n = nm) = false from decide_eq_false h)
    clear h
    go_enter Tryd.func18, Tryd.ntmps18
    go_wp2
    all_goals try (go_quiet (fail); go_wp2)
    go_ret
    exact ⟨ret_bool HR.out.symm, by first | exact hb.alloc hb.size _ | exact below_draw (hb.alloc hb.size _) _⟩

theorem contains_any (g off c k : Nat) (it : List L2) (nm : ByteArray) (B : Nat) (w : World) (hk : k ≤ it.length) (hlen : it.length ≤ 1000) (hg : g < w.heap.size) (hc : LCells w g off it) (hB : B < w.heap.size) (hcell : w.cell? ⟨B, 0, none⟩ = some (.string nm)) :
    Calls Tryd.prog 17 #[.slice (some ⟨g, off, none⟩) k c, .func (.func 18) #[] #[.pointer (some ⟨B, 0, none⟩)]] w fun e w' => e = .returned (.bool ((it.take k).any fun s => decide (s.1 = nm))) ∧ Below w.heap.size w w' := by
  have eg : ∀ args w, (callFunc 18 args).run Tryd.prog w = .ok (.enter 18 args) w := enters_of Tryd.func18 (by kernel_rfl) rfl
  have h := AnyQ.slices_ContainsFunc Tryd.containsF 2 Tryd.isAgg41 Tryd.sizeOf41 cells2 (fun _ => rfl) (fun x => decide (x.1 = nm)) 18 #[.pointer (some ⟨B, 0, none⟩)] eg g off k c it w (pred_new nm B w hB hcell) hk (by omega) hg hc.enc
  exact h

theorem owned_cells {W : World} {g off : Nat} {it : List L2} (h : LCells W g off it) : ∀ j u, (it.flatMap cells2)[j]? = some u → W.cell? ⟨g, off + j, none⟩ = some u := by
  intro j u hu
  have hj : j < it.length * 2 := by have := (List.getElem?_eq_some_iff.1 hu).1; rwa [cells2_length] at this
  have hq : j / 2 < it.length := by omega
  have e := cells2_flat it (j / 2) (j % 2) (by omega)
  rw [show j / 2 * 2 + j % 2 = j by omega, hu, List.getElem?_eq_getElem hq] at e
  have h2 := h.enc (j / 2) hq (j % 2) u (by rw [getElem!_pos it (j / 2) hq]; exact e.symm)
  rw [show off + j / 2 * 2 + j % 2 = off + j by omega] at h2
  exact h2

theorem clone_any (sv : Value) (it : List L2) (w : World) (hI : LsAt w sv it) (hlen : it.length ≤ 1000) :
    Calls Tryd.prog 19 #[sv] w fun e w' => ∃ v, e = .returned v ∧ w'.ownsRow w.heap.size 41 2 v it.length (it.flatMap cells2) ∧ Below w.heap.size w w' := by
  obtain ⟨i0, hi, hz0, hz1, hz2⟩ := info_parts Tryd.infoLabel
  rcases hI with ⟨rfl, rfl⟩ | ⟨g, off, c, rfl, hl, hg, hc⟩
  · have h := AnyE.slices_Clone_nil Tryd.cloneL 0 0 w
    exact Calls.mono h fun e w' ⟨he, hw⟩ => ⟨_, he, World.ownsRow_nil _ _ _ _, by rw [hw]; exact Below.refl _ _⟩
  · have h := AnyE.slices_Clone Tryd.cloneL i0 _ 2 32 hi hz0 hz1 hz2 rfl (by decide) Tryd.sizeOf41 g off it.length c (it.flatMap cells2) w (cells2_length it) (by unfold maxLen; omega) (by omega) (owned_cells hc) (cells2_one it)
    exact Calls.mono h fun e w' ⟨v', he, ho, _, hB⟩ => ⟨v', he, ho, hB⟩

set_option maxHeartbeats 1000000 in
/-- The closure that compares two labels by their names. -/
theorem cmp_new (x y : L2) (W : World) : Calls Tryd.prog 21 #[.agg #[.string x.1, .string x.2], .agg #[.string y.1, .string y.2]] W fun e w' => e = .returned (.int .i64 (cmpS x.1 y.1)) ∧ ∃ q os', w' = grow (W.drewN q) os' := by
  obtain ⟨xn, xv⟩ := x
  obtain ⟨yn, yv⟩ := y
  have hcon := fun W' => Tryd.strings_Compare xn yn W'
  change ∀ W', Calls Tryd.prog 22 _ _ (fun e w' => e = .returned (.int .i64 (cmpS xn yn)) ∧ w' = W') at hcon
  show Calls Tryd.prog 21 _ W fun e w' => e = .returned (.int .i64 (cmpS xn yn)) ∧ _
  generalize cmpS xn yn = r at hcon ⊢
  go_enter Tryd.func21, Tryd.ntmps21
  go_wp2_with (go_at_call 22; refine (hcon _).mono ?_; rintro e w' ⟨rfl, rfl⟩)
  go_ret
  exact ⟨rfl, 0, _, by rw [alloc_eq_grow, alloc_eq_grow, grow_grow]; rfl⟩

theorem swo_new : SWO (ltOf fun x y : L2 => cmpS x.1 y.1) := by
  refine ⟨fun x => ?_, fun x y z h k => ?_, fun x y z h k => ?_⟩
  · simp [ltOf, cmpS_self]
  · simp only [ltOf, decide_eq_true_eq] at h k ⊢
    exact cmpS_trans h k
  · simp only [ltOf, decide_eq_false_iff_not] at h k ⊢
    intro hl
    have h1 := cmpS_anti y.1 z.1
    by_cases e : cmpS y.1 z.1 = 0
    · have := cmpS_zero e
      rw [this] at h
      exact h hl
    · exact h (cmpS_trans hl (by omega))

theorem flat_perm {it : List L2} {d' : Array L2} (h : PermIn 0 it.length it.toArray d') : d'.size = it.length ∧ d'.toList.Perm it := by
  obtain ⟨h1, -, h3⟩ := h
  have e1 : d'.size = it.length := by simpa using h1
  refine ⟨e1, ?_⟩
  rw [← e1] at h3
  simp only [Array.extract_size] at h3
  rw [e1] at h3
  simpa using h3
theorem srt_of {it : List L2} {d' : Array L2} (hs : SortedIn (ltOf fun x y : L2 => cmpS x.1 y.1) 0 it.length d') (he : d'.size = it.length) (hd : Dist d'.toList) : Srt d'.toList := by
  unfold Srt
  rw [List.pairwise_iff_getElem]
  intro i j hi hj hij
  have hj' : j < d'.size := by simpa using hj
  have h1 := hs i j (Nat.zero_le _) hij (by omega)
  rw [getElem!_pos d' j hj', getElem!_pos d' i (by omega)] at h1
  simp only [ltOf, decide_eq_false_iff_not] at h1
  have h2 := (List.pairwise_iff_getElem.1 hd) i j hi hj hij
  simp only [Array.getElem_toList] at h2 ⊢
  exact ltN_of_ne h1 (fun e => h2 e.symm)

set_option maxRecDepth 100000 in
set_option maxHeartbeats 1000000 in
theorem isort_none (p : Option Addr) (cap : Nat) (fv : Value) (w : World) :
    Calls Tryd.prog 56 #[.slice p 0 cap, .int .i64 0, .int .i64 0, fv] w fun e w' => e = .returned (.tuple #[]) ∧ w = w' := by
  go_enter Tryd.func56, Tryd.ntmps56
  go_wp2
  refine wp_loop_rounds 1 ?_
  rw [rounds_succ]
  go_wp2
  go_end0
  exact ⟨rfl, rfl⟩
set_option maxRecDepth 100000 in
set_option maxHeartbeats 1000000 in
theorem pdq_none (p : Option Addr) (cap : Nat) (lim : Int) (fv : Value) (w : World) :
    Calls Tryd.prog 35 #[.slice p 0 cap, .int .i64 0, .int .i64 0, .int .i64 lim, fv] w fun e w' => e = .returned (.tuple #[]) ∧ w = w' := by
  go_enter Tryd.func35, Tryd.ntmps35
  go_wp2
  refine wp_loop_rounds 1 ?_
  rw [rounds_succ]
  go_wp2_with fail
  (with_reducible refine (isort_none p cap fv _).mono ?_)
  rintro e w1 ⟨rfl, rfl⟩
  go_wp2
  refine bodyPost_ret (v := .tuple #[]) ?_ rfl ⟨rfl, rfl⟩
  simp [results, Tryd.results35]
set_option maxRecDepth 100000 in
set_option maxHeartbeats 1000000 in
theorem sort_none (p : Option Addr) (cap : Nat) (fv : Value) (w : World) :
    Calls Tryd.prog 20 #[.slice p 0 cap, fv] w fun e w' => e = .returned (.tuple #[]) ∧ w = w' := by
  go_enter Tryd.func20, Tryd.ntmps20
  go_wp2_with fail
  (with_reducible refine (Tryd.bits_Len 0 _ (by omega) (by omega)).mono ?_)
  rintro e w1 ⟨rfl, rfl⟩
  go_wp2_with fail
  (with_reducible refine (pdq_none p cap _ fv _).mono ?_)
  rintro e w2 ⟨rfl, rfl⟩
  go_wp2
  go_end0
  exact ⟨rfl, rfl⟩

theorem sort_any (v : Value) (it : List L2) (w : World) (base : Nat) (hbase : base ≤ w.heap.size) (hO : w.ownsRow base 41 2 v it.length (it.flatMap cells2)) (h12 : it.length ≤ 12) (hd : Dist it) :
    Calls Tryd.prog 20 #[v, .func (.func 21) #[] #[]] w fun e w' => e = .returned (.tuple #[]) ∧ LsAt w' v (sortL it) ∧ Below base w w' := by
  have hO0 := hO
  rcases hO.2 with ⟨rfl, hl⟩ | ⟨g, cap, cur, rfl, hb, hg, hn, hm, hsz, ht⟩
  · have hy : it = [] := List.eq_nil_of_length_eq_zero hl
    subst hy
    exact (sort_none none 0 (.func (.func 21) #[] #[]) w).mono fun e w' ⟨he, hw⟩ => ⟨he, .nil, by rw [← hw]; exact Below.refl _ _⟩
  · have hglt : g < w.heap.size := (Array.getElem?_eq_some_iff.1 hg).1
    have eg : ∀ args w, (callFunc 21 args).run Tryd.prog w = .ok (.enter 21 args) w := enters_of Tryd.func21 (by kernel_rfl) rfl
    have hH : HoldsK cells2 2 w g 0 it.toArray := by
      intro t ht'
      rw [size_flatK, List.size_toArray] at ht'
      have hq : t / 2 < it.length := by omega
      constructor
      · rw [get_flatK _ _ _ _ (by simpa using ht')]
        have e0 := hO0.cellAt t (by simpa using ht')
        have e := cells2_flat it (t / 2) (t % 2) (by omega)
        rw [show t / 2 * 2 + t % 2 = t by omega, List.getElem?_eq_getElem hq] at e
        rw [Nat.zero_add, e0, e, getElem!_pos it.toArray (t / 2) (by simpa using hq)]
        simp only [List.getElem_toArray, Option.bind_some]
        rcases Nat.mod_two_eq_zero_or_one t with h | h <;> rw [h] <;> rfl
      · simp [World.frozen?, hg]
    have hcmp : CmpLays Tryd.prog 21 #[] cells2 2 (fun x y : L2 => cmpS x.1 y.1) g 0 it.toArray.size w := fun _ _ _ _ x y => cmp_new x y _
    have h := AnyQ.slices_SortFunc_small_sorted Tryd.sortL 2 Tryd.isAgg41 Tryd.sizeOf41 cells2 (fun _ => rfl) (fun x v hv => by simp [cells2] at hv; rcases hv with rfl | rfl <;> rfl) (fun x y : L2 => cmpS x.1 y.1) 21 #[] swo_new g 0 cap it.toArray w eg hcmp hH hglt (by simpa using h12)
      (fun n W _ => (Tryd.bits_Len n W (by omega) (by omega)).mono fun _ _ ⟨he, hw⟩ => ⟨⟨_, he⟩, hw⟩)
    refine Calls.mono (R := fun e w' => e = .returned (.tuple #[]) ∧ ∃ d' n os, PermIn 0 it.toArray.size it.toArray d' ∧ SortedIn (ltOf fun x y : L2 => cmpS x.1 y.1) 0 it.toArray.size d' ∧ w' = sortWorldK cells2 2 w g 0 n d' os) ?_ ?_
    · exact h
    · rintro e w' ⟨he, d', n, os, hp, hs, hw⟩
      rw [List.size_toArray] at hp hs
      obtain ⟨e1, hperm⟩ := flat_perm hp
      have hdd : Dist d'.toList := (List.Perm.pairwise_iff (R := fun s t : L2 => s.1 ≠ t.1) (fun h => h.symm) hperm).2 hd
      have heq : d'.toList = sortL it := srt_unique (hperm.trans (sortL_perm it).symm) (srt_of hs e1 hdd) (sortL_srt hd)
      have hK : HoldsK cells2 2 (putRowK cells2 2 w g 0 d') g 0 d' := holdsK_putRowK cells2 2 w g 0 it.toArray d' hH (by simpa using e1)
      have hlen : (sortL it).length = it.length := (sortL_perm it).length_eq
      have hB : Below base w w' := by
        rw [hw]
        refine ⟨rfl, rfl, rfl, ?_, fun k hk => ?_⟩
        · simp [sortWorldK, grow, putRowK]
        · have h1 : k < w.heap.size := by omega
          have h2 : g ≠ k := by omega
          simp [sortWorldK, grow, putRowK, putRow, mapBlock, Sort.ahead, Array.getElem?_append, h1, Array.getElem_modify, h2]
      refine ⟨he, ?_, hB⟩
      rw [← hlen]
      refine .inr ⟨g, 0, cap, rfl, by omega, ?_, fun j n' v' hj => ?_⟩
      · rw [hw]; simp [sortWorldK, grow, putRowK]; omega
      · have hjl : j < (sortL it).length := (List.getElem?_eq_some_iff.1 hj).1
        have hjd : j < d'.size := by omega
        have hval : d'[j]! = (n', v') := by
          rw [getElem!_pos d' j hjd]
          have := hj
          rw [← heq] at this
          simpa [hjd] using this
        have hcell : ∀ f, f < 2 → w'.cell? ⟨g, 0 + j * 2 + f, none⟩ = some ((cells2 (n', v'))[f]!) := fun f hf => by
          have h1 := (hK (j * 2 + f) (by rw [size_flatK]; omega)).1
          rw [get_flatK _ _ _ _ (by omega), show (j * 2 + f) / 2 = j by omega, show (j * 2 + f) % 2 = f by omega, hval] at h1
          rw [hw]
          have h3 : (sortWorldK cells2 2 w g 0 n d' os).cell? ⟨g, 0 + j * 2 + f, none⟩ = (putRowK cells2 2 w g 0 d').cell? ⟨g, 0 + j * 2 + f, none⟩ := by
            simp [sortWorldK, grow, putRowK, putRow, mapBlock, Sort.ahead, World.cell?, Array.getElem?_append, hglt]
          rw [h3, Nat.add_assoc, h1]
          rfl
        exact ⟨hcell 0 (by omega), hcell 1 (by omega)⟩
end Go.Proofs.YtmgjbbkccgncgaaDoor
