/- Package interval: New, Point, Within, Contains, Width, AtLeast, AtMost. Conditions: numbers of 64 bits. -/
import Derived.Test.YteppamchbgnlfaaIv
import Derived.Deep.RegionHeld3
namespace Go.Proofs.Yteppamchbgnlfaa
open Go.RowKit

theorem start4 (w : World) (t1 : TypeId) (s1 : Array Value) (t2 : TypeId) (s2 : Array Value) (t3 : TypeId) (s3 : Array Value) (t4 : TypeId) (s4 : Array Value) : Blk ((((w.alloc (.cells s1 t1)).alloc (.cells s2 t2)).alloc (.cells s3 t3)).alloc (.cells s4 t4)) w.heap.size t1 s1 ∧ Blk ((((w.alloc (.cells s1 t1)).alloc (.cells s2 t2)).alloc (.cells s3 t3)).alloc (.cells s4 t4)) (w.heap.size + 1) t2 s2 ∧ Blk ((((w.alloc (.cells s1 t1)).alloc (.cells s2 t2)).alloc (.cells s3 t3)).alloc (.cells s4 t4)) (w.heap.size + 1 + 1) t3 s3 ∧ Blk ((((w.alloc (.cells s1 t1)).alloc (.cells s2 t2)).alloc (.cells s3 t3)).alloc (.cells s4 t4)) (w.heap.size + 1 + 1 + 1) t4 s4 ∧ Below w.heap.size w ((((w.alloc (.cells s1 t1)).alloc (.cells s2 t2)).alloc (.cells s3 t3)).alloc (.cells s4 t4)) := by
  obtain ⟨h1, h2, h3, hW⟩ := start3 w t1 s1 t2 s2 t3 s3
  have h4 := Blk.new (((w.alloc (.cells s1 t1)).alloc (.cells s2 t2)).alloc (.cells s3 t3)) t4 s4
  rw [World.size_alloc, World.size_alloc, World.size_alloc] at h4
  exact ⟨h1.alloc _, h2.alloc _, h3.alloc _, h4, hW.alloc hW.size _⟩
def newI (a b c d : Int) : R5 := if vI a b c d then (a, b, c, d, 0) else (0, 0, 0, 0, 1)
def ptI (a b : Int) : Int × Int × Int × Int := if vP a b then (a, b, a, b) else (0, 0, 0, 0)
theorem cmp_self (a b : Int) : cmpR a b a b = 0 := by unfold cmpR; split <;> (try rfl); rw [Int.sub_self]; rfl
theorem vI_self (a b : Int) : vI a b a b ↔ vP a b := by unfold vI; rw [cmp_self]; simp
theorem new_pt (a b : Int) : newI a b a b = ((ptI a b).1, (ptI a b).2.1, (ptI a b).2.2.1, (ptI a b).2.2.2, if vP a b then 0 else 1) := by
  unfold newI ptI
  by_cases h : vP a b
  · rw [if_pos ((vI_self a b).2 h), if_pos h, if_pos h]
  · rw [if_neg (fun k => h ((vI_self a b).1 k)), if_neg h, if_neg h]
def inB (a b c d a' b' c' d' : Int) : Bool := decide ((vI a b c d ∧ vI a' b' c' d') ∧ cmpR a' b' a b ≤ 0 ∧ cmpR c d c' d' ≤ 0)
def conB (a b c d n m : Int) : Bool := inB (ptI n m).1 (ptI n m).2.1 (ptI n m).2.2.1 (ptI n m).2.2.2 a b c d
def leastV (a b c d n m : Int) : Int := if vI a b c d ∧ vP n m then (if 0 ≤ cmpR a b n m then 2 else if cmpR c d n m < 0 then 0 else 1) else 1
set_option maxRecDepth 100000 in
set_option maxHeartbeats 4000000 in
theorem inew_w {a b c d : Int} (h : W2 a b) (k : W2 c d) (w : World) :
    Calls Try.prog 27 #[.agg #[.int .i64 a, .int .i64 b], .agg #[.int .i64 c, .int .i64 d]] w fun e w' => e = .returned (RI (newI a b c d)) ∧ Below w.heap.size w w' := by
  have V := ivalid_w h k
  obtain ⟨hA, hE, hR, hX, hW⟩ := start4 w 23 #[.int .i64 a, .int .i64 b] 23 #[.int .i64 c, .int .i64 d] 25 #[.int .i64 0, .int .i64 0, .int .i64 0, .int .i64 0] 25 #[.int .i64 a, .int .i64 b, .int .i64 c, .int .i64 d]
  clear h k
  by_cases p : vI a b c d
  · rw [show vIB a b c d = true from decide_eq_true p] at V
    have HR := Lib.hid (show newI a b c d = (a, b, c, d, 0) from if_pos p)
    replace V := Lib.hid V
    clear p
    have cA0 := hA.cell 0
    have cA1 := hA.cell 1
    have zA := hA.lt
    have cE0 := hE.cell 0
    have cE1 := hE.cell 1
    have zE := hE.lt
    have cR0 := hR.cell 0
    have cR1 := hR.cell 1
    have cR2 := hR.cell 2
    have cR3 := hR.cell 3
    have zR := hR.lt
    have cX0 := hX.cell 0
    have cX1 := hX.cell 1
    have cX2 := hX.cell 2
    have cX3 := hX.cell 3
    have zX := hX.lt
    go_enter Try.func27, Try.ntmps27
    go_wp2_with fail
    (with_reducible refine (V.out _).mono ?_)
    rintro e w1 ⟨rfl, hB⟩
    replace hA := hA.below hB hA.lt
    replace hE := hE.below hB hE.lt
    replace hR := hR.below hB hR.lt
    replace hX := hX.below hB hX.lt
    replace hW := below_st hW hB
    clear hB cA0 cA1 zA cE0 cE1 zE cR0 cR1 cR2 cR3 zR cX0 cX1 cX2 cX3 zX V
    have cA0 := hA.cell 0
    have cA1 := hA.cell 1
    have zA := hA.lt
    have cE0 := hE.cell 0
    have cE1 := hE.cell 1
    have zE := hE.lt
    have cR0 := hR.cell 0
    have cR1 := hR.cell 1
    have cR2 := hR.cell 2
    have cR3 := hR.cell 3
    have zR := hR.lt
    have cX0 := hX.cell 0
    have cX1 := hX.cell 1
    have cX2 := hX.cell 2
    have cX3 := hX.cell 3
    have zX := hX.lt
    have fR := hR.frozen
    have HQ := Lib.hid hR
    have HW := Lib.hid hW
    clear hA hE hX hR hW
    go_wp2
    exact ret_iv (p := 4) (q := 5) (by kernel_rfl) rfl rfl (put4 HQ.out HW.out (by omega) a b c d).1 ⟨by rw [HR.out], (put4 HQ.out HW.out (by omega) a b c d).2⟩

  · rw [show vIB a b c d = false from decide_eq_false p] at V
    have HR := Lib.hid (show newI a b c d = (0, 0, 0, 0, 1) from if_neg p)
    replace V := Lib.hid V
    clear p
    have cA0 := hA.cell 0
    have cA1 := hA.cell 1
    have zA := hA.lt
    have cE0 := hE.cell 0
    have cE1 := hE.cell 1
    have zE := hE.lt
    have cR0 := hR.cell 0
    have cR1 := hR.cell 1
    have cR2 := hR.cell 2
    have cR3 := hR.cell 3
    have zR := hR.lt
    have cX0 := hX.cell 0
    have cX1 := hX.cell 1
    have cX2 := hX.cell 2
    have cX3 := hX.cell 3
    have zX := hX.lt
    go_enter Try.func27, Try.ntmps27
    go_wp2_with fail
    (with_reducible refine (V.out _).mono ?_)
    rintro e w1 ⟨rfl, hB⟩
    replace hA := hA.below hB hA.lt
    replace hE := hE.below hB hE.lt
    replace hR := hR.below hB hR.lt
    replace hX := hX.below hB hX.lt
    replace hW := below_st hW hB
    clear hB cA0 cA1 zA cE0 cE1 zE cR0 cR1 cR2 cR3 zR cX0 cX1 cX2 cX3 zX V
    have cA0 := hA.cell 0
    have cA1 := hA.cell 1
    have zA := hA.lt
    have cE0 := hE.cell 0
    have cE1 := hE.cell 1
    have zE := hE.lt
    have cR0 := hR.cell 0
    have cR1 := hR.cell 1
    have cR2 := hR.cell 2
    have cR3 := hR.cell 3
    have zR := hR.lt
    have cX0 := hX.cell 0
    have cX1 := hX.cell 1
    have cX2 := hX.cell 2
    have cX3 := hX.cell 3
    have zX := hX.lt
    have fR := hR.frozen
    have HQ := Lib.hid hR
    have HW := Lib.hid hW
    clear hA hE hX hR hW
    go_wp2
    exact ret_iv (p := 4) (q := 5) (by kernel_rfl) rfl rfl (put4 HQ.out HW.out (by omega) 0 0 0 0).1 ⟨by rw [HR.out], (put4 HQ.out HW.out (by omega) 0 0 0 0).2⟩
set_option maxRecDepth 100000 in
set_option maxHeartbeats 4000000 in
theorem ipoint_w {a b : Int} (h : W2 a b) (w : World) :
    Calls Try.prog 35 #[.agg #[.int .i64 a, .int .i64 b]] w fun e w' => e = .returned (.agg #[.int .i64 (ptI a b).1, .int .i64 (ptI a b).2.1, .int .i64 (ptI a b).2.2.1, .int .i64 (ptI a b).2.2.2]) ∧ Below w.heap.size w w' := by
  have N := inew_w h h
  rw [new_pt] at N
  obtain ⟨⟨p, q, r, s⟩, hp⟩ : ∃ x, ptI a b = x := ⟨_, rfl⟩
  rw [hp] at N ⊢
  obtain ⟨e, he⟩ : ∃ e : Int, (if vP a b then 0 else 1) = e := ⟨_, rfl⟩
  rw [he] at N
  unfold RI at N
  simp only at N
  replace N := Lib.hid N
  obtain ⟨hA, hR, hW⟩ := start2 w 23 #[.int .i64 a, .int .i64 b] 25 #[.int .i64 0, .int .i64 0, .int .i64 0, .int .i64 0]
  clear h hp he
  have cA0 := hA.cell 0
  have cA1 := hA.cell 1
  have zA := hA.lt
  have cR0 := hR.cell 0
  have cR1 := hR.cell 1
  have cR2 := hR.cell 2
  have cR3 := hR.cell 3
  have zR := hR.lt
  go_enter Try.func35, Try.ntmps35
  go_wp2_with fail
  (with_reducible refine (N.out _).mono ?_)
  rintro e w1 ⟨rfl, hB⟩
  replace hA := hA.below hB hA.lt
  replace hR := hR.below hB hR.lt
  replace hW := below_st hW hB
  clear hB cA0 cA1 zA cR0 cR1 cR2 cR3 zR N
  have cA0 := hA.cell 0
  have cA1 := hA.cell 1
  have zA := hA.lt
  have cR0 := hR.cell 0
  have cR1 := hR.cell 1
  have cR2 := hR.cell 2
  have cR3 := hR.cell 3
  have zR := hR.lt
  have fR := hR.frozen
  have HQ := Lib.hid hR
  have HW := Lib.hid hW
  clear hA hR hW
  go_wp2
  exact ret_iv1 (p := 2) (by kernel_rfl) rfl ((put4 HQ.out HW.out (by omega) p q r s).1.alloc _) ⟨rfl, (put4 HQ.out HW.out (by omega) p q r s).2.alloc (put4 HQ.out HW.out (by omega) p q r s).2.size _⟩
set_option maxRecDepth 100000 in
set_option maxHeartbeats 4000000 in
theorem iwithin_w {a b c d a' b' c' d' : Int} (h : W2 a b) (k : W2 c d) (h' : W2 a' b') (k' : W2 c' d') (w : World) :
    Calls Try.prog 14 #[.agg #[.int .i64 a, .int .i64 b, .int .i64 c, .int .i64 d], .agg #[.int .i64 a', .int .i64 b', .int .i64 c', .int .i64 d']] w fun e w' => e = .returned (.bool (inB a b c d a' b' c' d')) ∧ Below w.heap.size w w' := by
  have V1 := ivalid_w h k
  have V2 := ivalid_w h' k'
  have C1 := cmp_w h' h
  have C2 := cmp_w k k'
  obtain ⟨hA, hE, hW⟩ := start2 w 25 #[.int .i64 a, .int .i64 b, .int .i64 c, .int .i64 d] 25 #[.int .i64 a', .int .i64 b', .int .i64 c', .int .i64 d']
  clear h k h' k'
  by_cases p1 : vI a b c d
  · rw [show vIB a b c d = true from decide_eq_true p1] at V1
    by_cases p2 : vI a' b' c' d'
    · rw [show vIB a' b' c' d' = true from decide_eq_true p2] at V2
      have hr : inB a b c d a' b' c' d' = (decide (cmpR a' b' a b ≤ 0) && decide (cmpR c d c' d' ≤ 0)) := by unfold inB; simp [p1, p2]
      obtain ⟨z1, hz1⟩ : ∃ z, cmpR a' b' a b = z := ⟨_, rfl⟩
      obtain ⟨z2, hz2⟩ : ∃ z, cmpR c d c' d' = z := ⟨_, rfl⟩
      rw [hz1, hz2] at hr
      rw [hz1] at C1
      rw [hz2] at C2
      by_cases q1 : z1 ≤ 0
      · have HR := Lib.hid (show inB a b c d a' b' c' d' = decide (z2 ≤ 0) by rw [hr, decide_eq_true q1, Bool.true_and])
        have b1 : decide (z1 ≤ 0) = true := decide_eq_true q1
        replace V1 := Lib.hid V1
        replace V2 := Lib.hid V2
        replace C1 := Lib.hid C1
        replace C2 := Lib.hid C2
        clear p1 p2 hz1 hz2 hr q1
        have cA0 := hA.cell 0
        have cA1 := hA.cell 1
        have cA2 := hA.cell 2
        have cA3 := hA.cell 3
        have zA := hA.lt
        have cE0 := hE.cell 0
        have cE1 := hE.cell 1
        have cE2 := hE.cell 2
        have cE3 := hE.cell 3
        have zE := hE.lt
        go_enter Try.func14, Try.ntmps14
        go_wp2_with fail
        (with_reducible refine (V1.out _).mono ?_)
        rintro e w1 ⟨rfl, hB⟩
        replace hA := hA.below hB hA.lt
        replace hE := hE.below hB hE.lt
        replace hW := below_st hW hB
        clear hB cA0 cA1 cA2 cA3 zA cE0 cE1 cE2 cE3 zE V1
        have cA0 := hA.cell 0
        have cA1 := hA.cell 1
        have cA2 := hA.cell 2
        have cA3 := hA.cell 3
        have zA := hA.lt
        have cE0 := hE.cell 0
        have cE1 := hE.cell 1
        have cE2 := hE.cell 2
        have cE3 := hE.cell 3
        have zE := hE.lt
        go_wp2_with fail
        (with_reducible refine (V2.out _).mono ?_)
        rintro e w2 ⟨rfl, hB⟩
        replace hA := hA.below hB hA.lt
        replace hE := hE.below hB hE.lt
        replace hW := below_st hW hB
        clear hB cA0 cA1 cA2 cA3 zA cE0 cE1 cE2 cE3 zE V2
        have cA0 := hA.cell 0
        have cA1 := hA.cell 1
        have cA2 := hA.cell 2
        have cA3 := hA.cell 3
        have zA := hA.lt
        have cE0 := hE.cell 0
        have cE1 := hE.cell 1
        have cE2 := hE.cell 2
        have cE3 := hE.cell 3
        have zE := hE.lt
        go_wp2_with fail
        (with_reducible refine (C1.out _).mono ?_)
        rintro e w3 ⟨rfl, hB⟩
        replace hA := hA.below hB hA.lt
        replace hE := hE.below hB hE.lt
        replace hW := below_st hW hB
        clear hB cA0 cA1 cA2 cA3 zA cE0 cE1 cE2 cE3 zE C1
        have cA0 := hA.cell 0
        have cA1 := hA.cell 1
        have cA2 := hA.cell 2
        have cA3 := hA.cell 3
        have zA := hA.lt
        have cE0 := hE.cell 0
        have cE1 := hE.cell 1
        have cE2 := hE.cell 2
        have cE3 := hE.cell 3
        have zE := hE.lt
        go_wp2_with fail
        (with_reducible refine (C2.out _).mono ?_)
        rintro e w4 ⟨rfl, hB⟩
        replace hA := hA.below hB hA.lt
        replace hE := hE.below hB hE.lt
        replace hW := below_st hW hB
        clear hB cA0 cA1 cA2 cA3 zA cE0 cE1 cE2 cE3 zE C2
        have cA0 := hA.cell 0
        have cA1 := hA.cell 1
        have cA2 := hA.cell 2
        have cA3 := hA.cell 3
        have zA := hA.lt
        have cE0 := hE.cell 0
        have cE1 := hE.cell 1
        have cE2 := hE.cell 2
        have cE3 := hE.cell 3
        have zE := hE.lt
        go_wp2
        go_ret
        exact ⟨ret_bool HR.out.symm, hW⟩
      · have HR := Lib.hid (show inB a b c d a' b' c' d' = false by rw [hr, decide_eq_false q1, Bool.false_and])
        have b1 : decide (z1 ≤ 0) = false := decide_eq_false q1
        replace V1 := Lib.hid V1
        replace V2 := Lib.hid V2
        replace C1 := Lib.hid C1
        clear p1 p2 hz1 hz2 hr q1 C2
        have cA0 := hA.cell 0
        have cA1 := hA.cell 1
        have cA2 := hA.cell 2
        have cA3 := hA.cell 3
        have zA := hA.lt
        have cE0 := hE.cell 0
        have cE1 := hE.cell 1
        have cE2 := hE.cell 2
        have cE3 := hE.cell 3
        have zE := hE.lt
        go_enter Try.func14, Try.ntmps14
        go_wp2_with fail
        (with_reducible refine (V1.out _).mono ?_)
        rintro e w1 ⟨rfl, hB⟩
        replace hA := hA.below hB hA.lt
        replace hE := hE.below hB hE.lt
        replace hW := below_st hW hB
        clear hB cA0 cA1 cA2 cA3 zA cE0 cE1 cE2 cE3 zE V1
        have cA0 := hA.cell 0
        have cA1 := hA.cell 1
        have cA2 := hA.cell 2
        have cA3 := hA.cell 3
        have zA := hA.lt
        have cE0 := hE.cell 0
        have cE1 := hE.cell 1
        have cE2 := hE.cell 2
        have cE3 := hE.cell 3
        have zE := hE.lt
        go_wp2_with fail
        (with_reducible refine (V2.out _).mono ?_)
        rintro e w2 ⟨rfl, hB⟩
        replace hA := hA.below hB hA.lt
        replace hE := hE.below hB hE.lt
        replace hW := below_st hW hB
        clear hB cA0 cA1 cA2 cA3 zA cE0 cE1 cE2 cE3 zE V2
        have cA0 := hA.cell 0
        have cA1 := hA.cell 1
        have cA2 := hA.cell 2
        have cA3 := hA.cell 3
        have zA := hA.lt
        have cE0 := hE.cell 0
        have cE1 := hE.cell 1
        have cE2 := hE.cell 2
        have cE3 := hE.cell 3
        have zE := hE.lt
        go_wp2_with fail
        (with_reducible refine (C1.out _).mono ?_)
        rintro e w3 ⟨rfl, hB⟩
        replace hA := hA.below hB hA.lt
        replace hE := hE.below hB hE.lt
        replace hW := below_st hW hB
        clear hB cA0 cA1 cA2 cA3 zA cE0 cE1 cE2 cE3 zE C1
        have cA0 := hA.cell 0
        have cA1 := hA.cell 1
        have cA2 := hA.cell 2
        have cA3 := hA.cell 3
        have zA := hA.lt
        have cE0 := hE.cell 0
        have cE1 := hE.cell 1
        have cE2 := hE.cell 2
        have cE3 := hE.cell 3
        have zE := hE.lt
        go_wp2
        go_ret
        exact ⟨ret_bool HR.out.symm, hW⟩
    · rw [show vIB a' b' c' d' = false from decide_eq_false p2] at V2
      have HR := Lib.hid (show inB a b c d a' b' c' d' = false from decide_eq_false (fun h => p2 h.1.2))
      replace V1 := Lib.hid V1
      replace V2 := Lib.hid V2
      clear p1 p2 C1 C2
      have cA0 := hA.cell 0
      have cA1 := hA.cell 1
      have cA2 := hA.cell 2
      have cA3 := hA.cell 3
      have zA := hA.lt
      have cE0 := hE.cell 0
      have cE1 := hE.cell 1
      have cE2 := hE.cell 2
      have cE3 := hE.cell 3
      have zE := hE.lt
      go_enter Try.func14, Try.ntmps14
      go_wp2_with fail
      (with_reducible refine (V1.out _).mono ?_)
      rintro e w1 ⟨rfl, hB⟩
      replace hA := hA.below hB hA.lt
      replace hE := hE.below hB hE.lt
      replace hW := below_st hW hB
      clear hB cA0 cA1 cA2 cA3 zA cE0 cE1 cE2 cE3 zE V1
      have cA0 := hA.cell 0
      have cA1 := hA.cell 1
      have cA2 := hA.cell 2
      have cA3 := hA.cell 3
      have zA := hA.lt
      have cE0 := hE.cell 0
      have cE1 := hE.cell 1
      have cE2 := hE.cell 2
      have cE3 := hE.cell 3
      have zE := hE.lt
      go_wp2_with fail
      (with_reducible refine (V2.out _).mono ?_)
      rintro e w2 ⟨rfl, hB⟩
      replace hA := hA.below hB hA.lt
      replace hE := hE.below hB hE.lt
      replace hW := below_st hW hB
      clear hB cA0 cA1 cA2 cA3 zA cE0 cE1 cE2 cE3 zE V2
      have cA0 := hA.cell 0
      have cA1 := hA.cell 1
      have cA2 := hA.cell 2
      have cA3 := hA.cell 3
      have zA := hA.lt
      have cE0 := hE.cell 0
      have cE1 := hE.cell 1
      have cE2 := hE.cell 2
      have cE3 := hE.cell 3
      have zE := hE.lt
      go_wp2
      go_ret
      exact ⟨ret_bool HR.out.symm, hW⟩
  · rw [show vIB a b c d = false from decide_eq_false p1] at V1
    have HR := Lib.hid (show inB a b c d a' b' c' d' = false from decide_eq_false (fun h => p1 h.1.1))
    replace V1 := Lib.hid V1
    clear p1 V2 C1 C2
    have cA0 := hA.cell 0
    have cA1 := hA.cell 1
    have cA2 := hA.cell 2
    have cA3 := hA.cell 3
    have zA := hA.lt
    have cE0 := hE.cell 0
    have cE1 := hE.cell 1
    have cE2 := hE.cell 2
    have cE3 := hE.cell 3
    have zE := hE.lt
    go_enter Try.func14, Try.ntmps14
    go_wp2_with fail
    (with_reducible refine (V1.out _).mono ?_)
    rintro e w1 ⟨rfl, hB⟩
    replace hA := hA.below hB hA.lt
    replace hE := hE.below hB hE.lt
    replace hW := below_st hW hB
    clear hB cA0 cA1 cA2 cA3 zA cE0 cE1 cE2 cE3 zE V1
    have cA0 := hA.cell 0
    have cA1 := hA.cell 1
    have cA2 := hA.cell 2
    have cA3 := hA.cell 3
    have zA := hA.lt
    have cE0 := hE.cell 0
    have cE1 := hE.cell 1
    have cE2 := hE.cell 2
    have cE3 := hE.cell 3
    have zE := hE.lt
    go_wp2
    go_ret
    exact ⟨ret_bool HR.out.symm, hW⟩
set_option maxRecDepth 100000 in
set_option maxHeartbeats 4000000 in
theorem icon_w {a b c d n m : Int} (h : W2 a b) (k : W2 c d) (j : W2 n m) (w : World) :
    Calls Try.prog 16 #[.agg #[.int .i64 a, .int .i64 b, .int .i64 c, .int .i64 d], .agg #[.int .i64 n, .int .i64 m]] w fun e w' => e = .returned (.bool (conB a b c d n m)) ∧ Below w.heap.size w w' := by
  have PT := ipoint_w j
  have hw : W2 (ptI n m).1 (ptI n m).2.1 ∧ W2 (ptI n m).2.2.1 (ptI n m).2.2.2 := by
    unfold ptI
    split
    · exact ⟨j, j⟩
    · exact ⟨by unfold W2; decide, by unfold W2; decide⟩
  have WI := iwithin_w hw.1 hw.2 h k
  rw [show inB (ptI n m).1 (ptI n m).2.1 (ptI n m).2.2.1 (ptI n m).2.2.2 a b c d = conB a b c d n m from rfl] at WI
  obtain ⟨⟨p, q, r, s⟩, hp⟩ : ∃ x, ptI n m = x := ⟨_, rfl⟩
  rw [hp] at PT WI
  generalize conB a b c d n m = z at WI
  obtain ⟨hA, hE, hW⟩ := start2 w 25 #[.int .i64 a, .int .i64 b, .int .i64 c, .int .i64 d] 23 #[.int .i64 n, .int .i64 m]
  obtain ⟨w0, hw0⟩ : ∃ w0 : World, ((w.alloc (.cells #[.int .i64 a, .int .i64 b, .int .i64 c, .int .i64 d] 25)).alloc (.cells #[.int .i64 n, .int .i64 m] 23)) = w0 := ⟨_, rfl⟩
  have keep : ∀ W : World, Below w0.heap.size w0 W → W.cell? ⟨w.heap.size, 0, none⟩ = some (.int .i64 a) ∧ W.cell? ⟨w.heap.size, 1, none⟩ = some (.int .i64 b) ∧ W.cell? ⟨w.heap.size, 2, none⟩ = some (.int .i64 c) ∧ W.cell? ⟨w.heap.size, 3, none⟩ = some (.int .i64 d) ∧ W.cell? ⟨w.heap.size + 1, 0, none⟩ = some (.int .i64 n) ∧ W.cell? ⟨w.heap.size + 1, 1, none⟩ = some (.int .i64 m) := fun W hB => by
    rw [hw0] at hA hE
    have k1 := hA.below hB hA.lt
    have k2 := hE.below hB hE.lt
    exact ⟨k1.cell 0, k1.cell 1, k1.cell 2, k1.cell 3, k2.cell 0, k2.cell 1⟩
  have L1 := Lib.hid (fun (W : World) (hB : Below w0.heap.size w0 W) => (PT W).mono fun e w' (h : _ ∧ _) => (⟨h.1, below_step hB h.2⟩ : _ ∧ Below w0.heap.size w0 w'))
  have L2 := Lib.hid (fun (W : World) (hB : Below w0.heap.size w0 W) => (WI W).mono fun e w' (h : _ ∧ _) => (⟨h.1, below_step hB h.2⟩ : _ ∧ Below w0.heap.size w0 w'))
  have h00 := Below.refl w0.heap.size w0
  have h0d : Below w0.heap.size w0 w0.drew := h00.drew
  have c := keep w0 h00
  obtain ⟨c0, c1, c2, c3, c4, c5⟩ := c
  have Keep := Lib.hid keep
  have HW := Lib.hid hW
  have HW0 := Lib.hid hw0
  clear keep hA hE hW hw0 PT WI hp hw h k j
  go_enter Try.func16, Try.ntmps16
  go_wp2_with fail
  rw [HW0.out]
  go_region_held3 (fun W => W.cell? ⟨w.heap.size, 0, none⟩ = some (.int .i64 a) ∧ W.cell? ⟨w.heap.size, 1, none⟩ = some (.int .i64 b) ∧ W.cell? ⟨w.heap.size, 2, none⟩ = some (.int .i64 c) ∧ W.cell? ⟨w.heap.size, 3, none⟩ = some (.int .i64 d) ∧ W.cell? ⟨w.heap.size + 1, 0, none⟩ = some (.int .i64 n) ∧ W.cell? ⟨w.heap.size + 1, 1, none⟩ = some (.int .i64 m)) (exact Keep.out _ (by with_reducible assumption))
    (first | (go_at_call 35; (with_reducible refine (L1.out _ (by with_reducible assumption)).mono ?_); rintro e w' ⟨rfl, hb⟩; obtain ⟨c0, c1, c2, c3, c4, c5⟩ := Keep.out _ hb) | (go_at_call 14; (with_reducible refine (L2.out _ (by with_reducible assumption)).mono ?_); rintro e w' ⟨rfl, hb⟩; obtain ⟨c0, c1, c2, c3, c4, c5⟩ := Keep.out _ hb))
  all_goals
    go_wp2
    go_ret
    have hW := HW.out
    rw [HW0.out] at hW
    exact ⟨rfl, below_st hW (by with_reducible assumption)⟩

end Go.Proofs.Yteppamchbgnlfaa
