/- Intervals of fractions: what the document asks; Valid of the package and of the reference. Conditions: numbers of 64 bits. -/
import Derived.Test.YteppamchbgnlfaaRefC
import Derived.Test.YteppamchbgnlfaaFS
import Derived.Test.YteppamchbgnlfaaFrac2
import Derived.Deep.DeepCutAuto
namespace Go.Proofs.Yteppamchbgnlfaa
open Go.RowKit

/-- Two numbers of 64 bits. -/
def W2 (n d : Int) : Prop := (-9223372036854775808 ≤ n ∧ n ≤ 9223372036854775807) ∧ (-9223372036854775808 ≤ d ∧ d ≤ 9223372036854775807)
theorem vP.w2 {n d : Int} (h : vP n d) : W2 n d := vP64 h
theorem valid_w {a b : Int} (h : W2 a b) (W : World) : Calls Try.prog 48 #[.agg #[.int .i64 a, .int .i64 b]] W fun e w' => e = .returned (.bool (vB a b)) ∧ Below W.heap.size W w' :=
  valid_any a b W h.1.1 h.1.2 h.2.1 h.2.2
theorem rvalid_w {a b : Int} (h : W2 a b) (W : World) : Calls Try.prog 36 #[.agg #[.int .i64 a, .int .i64 b]] W fun e w' => e = .returned (.bool (vB a b)) ∧ Below W.heap.size W w' :=
  rvalid_any a b W h.1.1 h.1.2 h.2.1 h.2.2
theorem cmp_w {a b c d : Int} (h : W2 a b) (k : W2 c d) (W : World) : Calls Try.prog 33 #[.agg #[.int .i64 a, .int .i64 b], .agg #[.int .i64 c, .int .i64 d]] W fun e w' => e = .returned (.int .i64 (cmpR a b c d)) ∧ Below W.heap.size W w' :=
  cmp_any a b c d W h.1.1 h.1.2 h.2.1 h.2.2 k.1.1 k.1.2 k.2.1 k.2.2
theorem rcmp_w {a b c d : Int} (h : W2 a b) (k : W2 c d) (W : World) : Calls Try.prog 31 #[.agg #[.int .i64 a, .int .i64 b], .agg #[.int .i64 c, .int .i64 d]] W fun e w' => e = .returned (.int .i64 (cmpR a b c d)) ∧ Below W.heap.size W w' :=
  rcmp_any a b c d W h.1.1 h.1.2 h.2.1 h.2.2 k.1.1 k.1.2 k.2.1 k.2.2
theorem mul_w {a b c d : Int} (h : W2 a b) (k : W2 c d) (W : World) : Calls Try.prog 58 #[.agg #[.int .i64 a, .int .i64 b], .agg #[.int .i64 c, .int .i64 d]] W fun e w' => e = .returned (RV (mulR a b c d)) ∧ Below W.heap.size W w' :=
  mul_any a b c d W h.1.1 h.1.2 h.2.1 h.2.2 k.1.1 k.1.2 k.2.1 k.2.2
theorem div_w {a b c d : Int} (h : W2 a b) (k : W2 c d) (W : World) : Calls Try.prog 59 #[.agg #[.int .i64 a, .int .i64 b], .agg #[.int .i64 c, .int .i64 d]] W fun e w' => e = .returned (RV (divR a b c d)) ∧ Below W.heap.size W w' :=
  div_any a b c d W h.1.1 h.1.2 h.2.1 h.2.2 k.1.1 k.1.2 k.2.1 k.2.2
def vI (a b c d : Int) : Prop := (vP a b ∧ vP c d) ∧ cmpR a b c d ≤ 0
instance (a b c d : Int) : Decidable (vI a b c d) := by unfold vI; infer_instance
def vIB (a b c d : Int) : Bool := decide (vI a b c d)

theorem start1 (w : World) (t1 : TypeId) (s1 : Array Value) : Blk (w.alloc (.cells s1 t1)) w.heap.size t1 s1 ∧ Below w.heap.size w (w.alloc (.cells s1 t1)) := ⟨Blk.new w t1 s1, (Below.refl _ w).alloc (Nat.le_refl _) _⟩
theorem start2 (w : World) (t1 : TypeId) (s1 : Array Value) (t2 : TypeId) (s2 : Array Value) : Blk ((w.alloc (.cells s1 t1)).alloc (.cells s2 t2)) w.heap.size t1 s1 ∧ Blk ((w.alloc (.cells s1 t1)).alloc (.cells s2 t2)) (w.heap.size + 1) t2 s2 ∧ Below w.heap.size w ((w.alloc (.cells s1 t1)).alloc (.cells s2 t2)) := by
  obtain ⟨h1, hW⟩ := start1 w t1 s1
  have h2 := Blk.new (w.alloc (.cells s1 t1)) t2 s2
  rw [World.size_alloc] at h2
  exact ⟨h1.alloc _, h2, hW.alloc hW.size _⟩
theorem start3 (w : World) (t1 : TypeId) (s1 : Array Value) (t2 : TypeId) (s2 : Array Value) (t3 : TypeId) (s3 : Array Value) : Blk (((w.alloc (.cells s1 t1)).alloc (.cells s2 t2)).alloc (.cells s3 t3)) w.heap.size t1 s1 ∧ Blk (((w.alloc (.cells s1 t1)).alloc (.cells s2 t2)).alloc (.cells s3 t3)) (w.heap.size + 1) t2 s2 ∧ Blk (((w.alloc (.cells s1 t1)).alloc (.cells s2 t2)).alloc (.cells s3 t3)) (w.heap.size + 1 + 1) t3 s3 ∧ Below w.heap.size w (((w.alloc (.cells s1 t1)).alloc (.cells s2 t2)).alloc (.cells s3 t3)) := by
  obtain ⟨h1, h2, hW⟩ := start2 w t1 s1 t2 s2
  have h3 := Blk.new ((w.alloc (.cells s1 t1)).alloc (.cells s2 t2)) t3 s3
  rw [World.size_alloc, World.size_alloc] at h3
  exact ⟨h1.alloc _, h2.alloc _, h3, hW.alloc hW.size _⟩

/-- An interval's result. -/
abbrev R5 := Int × Int × Int × Int × Int
def RI (r : R5) : Value := .tuple #[.agg #[.int .i64 r.1, .int .i64 r.2.1, .int .i64 r.2.2.1, .int .i64 r.2.2.2.1], .int .i64 r.2.2.2.2]
theorem ret_iv {fn : Func} {p q : Tmp} (hr : fn.results = #[.cell p 25, .tmp q]) {tmps : Array Value} {w : World} {g : Nat} {a b c d e : Int} {R : Ending → World → Prop}
    (hp : tmps.getD p undef = .pointer (some ⟨g, 0, none⟩)) (hq : tmps.getD q undef = .int .i64 e) (h : Blk w g 25 #[.int .i64 a, .int .i64 b, .int .i64 c, .int .i64 d]) (hR : R (.returned (RI (a, b, c, d, e))) w) :
    bodyPost Try.prog fn R .ret { tmps := tmps, defers := [] } w := by
  refine bodyPost_ret (v := RI (a, b, c, d, e)) ?_ rfl hR
  have hp' : tmps[p]?.getD undef = .pointer (some ⟨g, 0, none⟩) := by simpa using hp
  have hq' : tmps[q]?.getD undef = .int .i64 e := by simpa using hq
  have hl := run_loadVar_row (P := Try.prog) w g 25 25 _ (0, 0) _ h Try.underlying25 rfl (by kernel_rfl)
  simp [results, hr, hp', hq', asAddr, hl, RI]
theorem ret_iv1 {fn : Func} {p : Tmp} (hr : fn.results = #[.cell p 25]) {tmps : Array Value} {w : World} {g : Nat} {a b c d : Int} {R : Ending → World → Prop}
    (hp : tmps.getD p undef = .pointer (some ⟨g, 0, none⟩)) (h : Blk w g 25 #[.int .i64 a, .int .i64 b, .int .i64 c, .int .i64 d]) (hR : R (.returned (.agg #[.int .i64 a, .int .i64 b, .int .i64 c, .int .i64 d])) w) :
    bodyPost Try.prog fn R .ret { tmps := tmps, defers := [] } w := by
  refine bodyPost_ret (v := .agg #[.int .i64 a, .int .i64 b, .int .i64 c, .int .i64 d]) ?_ rfl hR
  have hp' : tmps[p]?.getD undef = .pointer (some ⟨g, 0, none⟩) := by simpa using hp
  have hl := run_loadVar_row (P := Try.prog) w g 25 25 _ (0, 0) _ h Try.underlying25 rfl (by kernel_rfl)
  simp [results, hr, hp', asAddr, hl]
section
variable {w W : World} {g : Nat} {t : TypeId}
theorem put2 {x y : Value} (h : Blk W g t #[x, y]) (hW : Below w.heap.size w W) (hg : w.heap.size ≤ g) (a b : Int) : Blk ((W.setCell ⟨g, 0, none⟩ (.int .i64 a)).setCell ⟨g, 1, none⟩ (.int .i64 b)) g t #[.int .i64 a, .int .i64 b] ∧ Below w.heap.size w ((W.setCell ⟨g, 0, none⟩ (.int .i64 a)).setCell ⟨g, 1, none⟩ (.int .i64 b)) :=
  ⟨(h.put 0 _).put 1 _, (hW.setCell hg _).setCell hg _⟩
theorem put4 {x y z u : Value} (h : Blk W g t #[x, y, z, u]) (hW : Below w.heap.size w W) (hg : w.heap.size ≤ g) (a b c d : Int) : Blk ((((W.setCell ⟨g, 0, none⟩ (.int .i64 a)).setCell ⟨g, 1, none⟩ (.int .i64 b)).setCell ⟨g, 2, none⟩ (.int .i64 c)).setCell ⟨g, 3, none⟩ (.int .i64 d)) g t #[.int .i64 a, .int .i64 b, .int .i64 c, .int .i64 d] ∧ Below w.heap.size w ((((W.setCell ⟨g, 0, none⟩ (.int .i64 a)).setCell ⟨g, 1, none⟩ (.int .i64 b)).setCell ⟨g, 2, none⟩ (.int .i64 c)).setCell ⟨g, 3, none⟩ (.int .i64 d)) :=
  ⟨(((h.put 0 _).put 1 _).put 2 _).put 3 _, (((hW.setCell hg _).setCell hg _).setCell hg _).setCell hg _⟩
end

set_option maxRecDepth 100000 in
set_option maxHeartbeats 4000000 in
theorem ivalid_w {a b c d : Int} (h : W2 a b) (k : W2 c d) (w : World) :
    Calls Try.prog 26 #[.agg #[.int .i64 a, .int .i64 b, .int .i64 c, .int .i64 d]] w fun e w' => e = .returned (.bool (vIB a b c d)) ∧ Below w.heap.size w w' := by
  have V1 := valid_w h
  have V2 := valid_w k
  have C1 := cmp_w h k
  obtain ⟨hA, hW⟩ := start1 w 25 #[.int .i64 a, .int .i64 b, .int .i64 c, .int .i64 d]
  by_cases p1 : vP a b
  · rw [show vB a b = true from decide_eq_true p1] at V1
    by_cases p2 : vP c d
    · rw [show vB c d = true from decide_eq_true p2] at V2
      have HR := Lib.hid (show vIB a b c d = decide (cmpR a b c d ≤ 0) by unfold vIB vI; simp [p1, p2])
      generalize cmpR a b c d = z at C1 HR
      replace V1 := Lib.hid V1
      replace V2 := Lib.hid V2
      replace C1 := Lib.hid C1
      clear p1 p2 h k
      have cA0 := hA.cell 0
      have cA1 := hA.cell 1
      have cA2 := hA.cell 2
      have cA3 := hA.cell 3
      have zA := hA.lt
      go_enter Try.func26, Try.ntmps26
      go_wp2_with fail
      (with_reducible refine (V1.out _).mono ?_)
      rintro e w1 ⟨rfl, hB⟩
      replace hA := hA.below hB hA.lt
      replace hW := below_st hW hB
      clear hB cA0 cA1 cA2 cA3 zA 
      have cA0 := hA.cell 0
      have cA1 := hA.cell 1
      have cA2 := hA.cell 2
      have cA3 := hA.cell 3
      have zA := hA.lt
      go_wp2_with fail
      (with_reducible refine (V2.out _).mono ?_)
      rintro e w2 ⟨rfl, hB⟩
      replace hA := hA.below hB hA.lt
      replace hW := below_st hW hB
      clear hB cA0 cA1 cA2 cA3 zA 
      have cA0 := hA.cell 0
      have cA1 := hA.cell 1
      have cA2 := hA.cell 2
      have cA3 := hA.cell 3
      have zA := hA.lt
      go_wp2_with fail
      (with_reducible refine (C1.out _).mono ?_)
      rintro e w3 ⟨rfl, hB⟩
      replace hA := hA.below hB hA.lt
      replace hW := below_st hW hB
      clear hB cA0 cA1 cA2 cA3 zA 
      have cA0 := hA.cell 0
      have cA1 := hA.cell 1
      have cA2 := hA.cell 2
      have cA3 := hA.cell 3
      have zA := hA.lt
      go_wp2
      go_ret
      exact ⟨ret_bool HR.out.symm, hW⟩
    · rw [show vB c d = false from decide_eq_false p2] at V2
      have HR := Lib.hid (show vIB a b c d = false from decide_eq_false (fun q => p2 q.1.2))
      replace V1 := Lib.hid V1
      replace V2 := Lib.hid V2
      clear p1 p2 h k C1
      have cA0 := hA.cell 0
      have cA1 := hA.cell 1
      have cA2 := hA.cell 2
      have cA3 := hA.cell 3
      have zA := hA.lt
      go_enter Try.func26, Try.ntmps26
      go_wp2_with fail
      (with_reducible refine (V1.out _).mono ?_)
      rintro e w1 ⟨rfl, hB⟩
      replace hA := hA.below hB hA.lt
      replace hW := below_st hW hB
      clear hB cA0 cA1 cA2 cA3 zA 
      have cA0 := hA.cell 0
      have cA1 := hA.cell 1
      have cA2 := hA.cell 2
      have cA3 := hA.cell 3
      have zA := hA.lt
      go_wp2_with fail
      (with_reducible refine (V2.out _).mono ?_)
      rintro e w2 ⟨rfl, hB⟩
      replace hA := hA.below hB hA.lt
      replace hW := below_st hW hB
      clear hB cA0 cA1 cA2 cA3 zA 
      have cA0 := hA.cell 0
      have cA1 := hA.cell 1
      have cA2 := hA.cell 2
      have cA3 := hA.cell 3
      have zA := hA.lt
      go_wp2
      go_ret
      exact ⟨ret_bool HR.out.symm, hW⟩
  · rw [show vB a b = false from decide_eq_false p1] at V1
    have HR := Lib.hid (show vIB a b c d = false from decide_eq_false (fun q => p1 q.1.1))
    replace V1 := Lib.hid V1
    replace V2 := Lib.hid V2
    clear p1 h k C1
    have cA0 := hA.cell 0
    have cA1 := hA.cell 1
    have cA2 := hA.cell 2
    have cA3 := hA.cell 3
    have zA := hA.lt
    go_enter Try.func26, Try.ntmps26
    go_wp2_with fail
    (with_reducible refine (V1.out _).mono ?_)
    rintro e w1 ⟨rfl, hB⟩
    replace hA := hA.below hB hA.lt
    replace hW := below_st hW hB
    clear hB cA0 cA1 cA2 cA3 zA 
    have cA0 := hA.cell 0
    have cA1 := hA.cell 1
    have cA2 := hA.cell 2
    have cA3 := hA.cell 3
    have zA := hA.lt
    go_wp2
    go_ret
    exact ⟨ret_bool HR.out.symm, hW⟩

set_option maxRecDepth 100000 in
set_option maxHeartbeats 4000000 in
theorem jvalid_w {a b c d : Int} (h : W2 a b) (k : W2 c d) (w : World) :
    Calls Try.prog 34 #[.agg #[.int .i64 a, .int .i64 b, .int .i64 c, .int .i64 d]] w fun e w' => e = .returned (.bool (vIB a b c d)) ∧ Below w.heap.size w w' := by
  have V1 := rvalid_w h
  have V2 := rvalid_w k
  have C1 := rcmp_w h k
  obtain ⟨hA, hW⟩ := start1 w 25 #[.int .i64 a, .int .i64 b, .int .i64 c, .int .i64 d]
  by_cases p1 : vP a b
  · rw [show vB a b = true from decide_eq_true p1] at V1
    by_cases p2 : vP c d
    · rw [show vB c d = true from decide_eq_true p2] at V2
      have HR := Lib.hid (show vIB a b c d = decide (cmpR a b c d ≤ 0) by unfold vIB vI; simp [p1, p2])
      generalize cmpR a b c d = z at C1 HR
      replace V1 := Lib.hid V1
      replace V2 := Lib.hid V2
      replace C1 := Lib.hid C1
      clear p1 p2 h k
      have cA0 := hA.cell 0
      have cA1 := hA.cell 1
      have cA2 := hA.cell 2
      have cA3 := hA.cell 3
      have zA := hA.lt
      go_enter Try.func34, Try.ntmps34
      go_wp2_with fail
      (with_reducible refine (V1.out _).mono ?_)
      rintro e w1 ⟨rfl, hB⟩
      replace hA := hA.below hB hA.lt
      replace hW := below_st hW hB
      clear hB cA0 cA1 cA2 cA3 zA 
      have cA0 := hA.cell 0
      have cA1 := hA.cell 1
      have cA2 := hA.cell 2
      have cA3 := hA.cell 3
      have zA := hA.lt
      go_wp2_with fail
      (with_reducible refine (V2.out _).mono ?_)
      rintro e w2 ⟨rfl, hB⟩
      replace hA := hA.below hB hA.lt
      replace hW := below_st hW hB
      clear hB cA0 cA1 cA2 cA3 zA 
      have cA0 := hA.cell 0
      have cA1 := hA.cell 1
      have cA2 := hA.cell 2
      have cA3 := hA.cell 3
      have zA := hA.lt
      go_wp2_with fail
      (with_reducible refine (C1.out _).mono ?_)
      rintro e w3 ⟨rfl, hB⟩
      replace hA := hA.below hB hA.lt
      replace hW := below_st hW hB
      clear hB cA0 cA1 cA2 cA3 zA 
      have cA0 := hA.cell 0
      have cA1 := hA.cell 1
      have cA2 := hA.cell 2
      have cA3 := hA.cell 3
      have zA := hA.lt
      go_wp2
      go_ret
      exact ⟨ret_bool HR.out.symm, hW⟩
    · rw [show vB c d = false from decide_eq_false p2] at V2
      have HR := Lib.hid (show vIB a b c d = false from decide_eq_false (fun q => p2 q.1.2))
      replace V1 := Lib.hid V1
      replace V2 := Lib.hid V2
      clear p1 p2 h k C1
      have cA0 := hA.cell 0
      have cA1 := hA.cell 1
      have cA2 := hA.cell 2
      have cA3 := hA.cell 3
      have zA := hA.lt
      go_enter Try.func34, Try.ntmps34
      go_wp2_with fail
      (with_reducible refine (V1.out _).mono ?_)
      rintro e w1 ⟨rfl, hB⟩
      replace hA := hA.below hB hA.lt
      replace hW := below_st hW hB
      clear hB cA0 cA1 cA2 cA3 zA 
      have cA0 := hA.cell 0
      have cA1 := hA.cell 1
      have cA2 := hA.cell 2
      have cA3 := hA.cell 3
      have zA := hA.lt
      go_wp2_with fail
      (with_reducible refine (V2.out _).mono ?_)
      rintro e w2 ⟨rfl, hB⟩
      replace hA := hA.below hB hA.lt
      replace hW := below_st hW hB
      clear hB cA0 cA1 cA2 cA3 zA 
      have cA0 := hA.cell 0
      have cA1 := hA.cell 1
      have cA2 := hA.cell 2
      have cA3 := hA.cell 3
      have zA := hA.lt
      go_wp2
      go_ret
      exact ⟨ret_bool HR.out.symm, hW⟩
  · rw [show vB a b = false from decide_eq_false p1] at V1
    have HR := Lib.hid (show vIB a b c d = false from decide_eq_false (fun q => p1 q.1.1))
    replace V1 := Lib.hid V1
    replace V2 := Lib.hid V2
    clear p1 h k C1
    have cA0 := hA.cell 0
    have cA1 := hA.cell 1
    have cA2 := hA.cell 2
    have cA3 := hA.cell 3
    have zA := hA.lt
    go_enter Try.func34, Try.ntmps34
    go_wp2_with fail
    (with_reducible refine (V1.out _).mono ?_)
    rintro e w1 ⟨rfl, hB⟩
    replace hA := hA.below hB hA.lt
    replace hW := below_st hW hB
    clear hB cA0 cA1 cA2 cA3 zA 
    have cA0 := hA.cell 0
    have cA1 := hA.cell 1
    have cA2 := hA.cell 2
    have cA3 := hA.cell 3
    have zA := hA.lt
    go_wp2_with fail
    (with_reducible refine (V2.out _).mono ?_)
    rintro e w2 ⟨rfl, hB⟩
    replace hA := hA.below hB hA.lt
    replace hW := below_st hW hB
    clear hB cA0 cA1 cA2 cA3 zA 
    have cA0 := hA.cell 0
    have cA1 := hA.cell 1
    have cA2 := hA.cell 2
    have cA3 := hA.cell 3
    have zA := hA.lt
    go_wp2
    go_ret
    exact ⟨ret_bool HR.out.symm, hW⟩

end Go.Proofs.Yteppamchbgnlfaa
