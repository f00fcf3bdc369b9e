/- The reference's Parse. Conditions: a string within the reach. -/
import Derived.Test.YtegodbbocbkomaaDoorDigW
import Derived.Test.YtegodbbocbkomaaDoorRefD
namespace Go.Proofs.YtegodbbocbkomaaDoor
open Go.RowKit

theorem digL_bounds (l : List UInt8) (p : Nat) : (digL l p = (0, -1)) ∨ ∃ n q : Nat, n ≤ 4611686018427387904 ∧ p < q ∧ q ≤ p + runL (l.drop p) ∧ digL l p = ((n : Int), (q : Int)) := by
  by_cases h : min (runL (l.drop p)) 20 = 0 ∨ 19 < min (runL (l.drop p)) 20 ∨ 4611686018427387904 < valL 0 ((l.drop p).take (min (runL (l.drop p)) 20))
  · left; unfold digL; rw [if_pos h]
  · right
    refine ⟨valL 0 ((l.drop p).take (min (runL (l.drop p)) 20)), p + min (runL (l.drop p)) 20, by omega, by omega, by omega, ?_⟩
    unfold digL; rw [if_neg h]
theorem C1.setA {w W : World} (h : C1 w W) {g : Nat} (hg : w.heap.size < g) (i : Nat) (u : Value) : C1 w (W.setCell ⟨g, i, none⟩ u) :=
  ⟨h.1.far (p := ⟨g, i, none⟩) (by show ¬ w.heap.size = g; omega) u, h.2.1.setCell (p := ⟨g, i, none⟩) (by show w.heap.size ≤ g; omega) u, by rw [World.size_setCell]; exact h.2.2⟩
theorem byte_eq {b c : UInt8} {k : Int} (hk : (c.toNat : Int) = k) (h : b = c) : (((b.toNat : Nat) : Int) == k) = true := by rw [beq_iff_eq, h]; exact hk
theorem byte_ne {b c : UInt8} {k : Int} (hk : (c.toNat : Int) = k) (h : ¬ b = c) : (((b.toNat : Nat) : Int) == k) = false := by
  rw [beq_eq_false_iff_ne]
  exact fun e => h (UInt8.toNat_inj.1 (by omega))

set_option maxRecDepth 100000 in
set_option maxHeartbeats 4000000 in
theorem rparse_c3 (s : ByteArray) (hs : s.size ≤ 140737488355328) (z0 : ¬ 0 < s.size) (w : World) :
    Calls Tryd.prog 32 #[.string s] w fun e w' => e = .returned (RV (rparseL s.data.toList)) ∧ Below w.heap.size w w' := by
  have DG := Lib.hid (fun (p : Nat) (hp : p ≤ s.size) (W : World) => digits_any s p hs hp W)
  obtain ⟨l, hl⟩ : ∃ l, s.data.toList = l := ⟨_, rfl⟩
  have hlen : l.length = s.size := by rw [← hl]; simp
  have hget : ∀ i (h : i < s.size), l[i]? = some s[i] := fun i h => by
    rw [← hl, List.getElem?_eq_getElem (by simpa using h)]
    rfl
  have hsg : signL l = 0 := by obtain rfl : l = [] := List.eq_nil_of_length_eq_zero (by omega); rfl
  rw [hl] at DG ⊢
  have hgl : ∀ (p : Nat), p ≤ s.size → runL (l.drop p) + p ≤ s.size := fun p hp => by have := run_le (l.drop p); rw [List.length_drop] at this; omega
  have D1 := DG.out 0 (by omega)
  have h1 : C1 w ((w.alloc (.cells #[.int .i64 0, .int .i64 0] 23)).alloc (.cells #[.int .i64 0, .int .i64 1] 23)) := (C1.start w).call ((Below.refl _ _).alloc (Nat.le_refl _) _)
  have hA := Blk.new (w.alloc (.cells #[.int .i64 0, .int .i64 0] 23)) 23 #[.int .i64 0, .int .i64 1]
  rw [World.size_alloc] at hA
  obtain ⟨⟨d1, d2⟩, hd⟩ : ∃ d, digL l 0 = d := ⟨_, rfl⟩
  rw [hd] at D1
  simp only [Int.natCast_zero] at D1
  replace D1 := Lib.hid D1
  have HL := Lib.hid hl
  have Hlen := Lib.hid hlen
  have Hsg := Lib.hid hsg
  have Hget := Lib.hid hget
  have Hgl := Lib.hid hgl
  have Hd := Lib.hid hd
  have hb := digL_bounds l 0
  clear hl hlen hsg hget hgl hd 
  go_enter Tryd.func32, Tryd.ntmps32
  go_wp2_with fail
  (with_reducible refine (D1.out _).mono ?_)
  rintro e w1 ⟨rfl, hB⟩
  replace h1 := h1.call hB
  replace hA := hA.below hB hA.lt
  clear hB D1
  obtain ⟨c0, c1, c2, c3⟩ := h1.cells
  have a0 := hA.cell 0
  have a1 := hA.cell 1
  have a2 := hA.frozen
  have zz := h1.2.2
  have n1 : ¬ w.heap.size + 1 = w.heap.size := by omega
  rcases hb with hb | ⟨n, q, hn, hq0, hq1, hb⟩
  · have hb' := Hd.out.symm.trans hb
    injection hb' with e1 e2
    subst e1
    subst e2
    have HQ := Lib.hid (show rparseL l = (0, 0, 2) by unfold rparseL; rw [Hsg.out, hb, if_pos (by decide)])
    have HH := Lib.hid h1
    clear hb h1 hA
    go_wp2
    exact ret_frac (p := 2) (q := 3) (by kernel_rfl) rfl rfl (HH.out.put 0 0).1 ⟨by rw [HQ.out], (HH.out.put 0 0).2⟩
  · exfalso
    have := Hgl.out 0 (by omega)
    omega
set_option maxRecDepth 100000 in
set_option maxHeartbeats 4000000 in
theorem rparse_c2 (s : ByteArray) (hs : s.size ≤ 140737488355328) (z0 : 0 < s.size) (zb : ¬ s[0]'z0 = 45) (w : World) :
    Calls Tryd.prog 32 #[.string s] w fun e w' => e = .returned (RV (rparseL s.data.toList)) ∧ Below w.heap.size w w' := by
  have DG := Lib.hid (fun (p : Nat) (hp : p ≤ s.size) (W : World) => digits_any s p hs hp W)
  obtain ⟨l, hl⟩ : ∃ l, s.data.toList = l := ⟨_, rfl⟩
  have hlen : l.length = s.size := by rw [← hl]; simp
  have hget : ∀ i (h : i < s.size), l[i]? = some s[i] := fun i h => by
    rw [← hl, List.getElem?_eq_getElem (by simpa using h)]
    rfl
  have hsg : signL l = 0 := by unfold signL; rw [List.head?_eq_getElem?, hget 0 z0, if_neg (fun e => zb (by injection e))]
  have z1 := byte_ne (k := 45) rfl zb
  have z2 : (0 : Int) < (s.size : Int) := by omega
  rw [hl] at DG ⊢
  have hgl : ∀ (p : Nat), p ≤ s.size → runL (l.drop p) + p ≤ s.size := fun p hp => by have := run_le (l.drop p); rw [List.length_drop] at this; omega
  have D1 := DG.out 0 (by omega)
  have h1 : C1 w ((w.alloc (.cells #[.int .i64 0, .int .i64 0] 23)).alloc (.cells #[.int .i64 0, .int .i64 1] 23)) := (C1.start w).call ((Below.refl _ _).alloc (Nat.le_refl _) _)
  have hA := Blk.new (w.alloc (.cells #[.int .i64 0, .int .i64 0] 23)) 23 #[.int .i64 0, .int .i64 1]
  rw [World.size_alloc] at hA
  obtain ⟨⟨d1, d2⟩, hd⟩ : ∃ d, digL l 0 = d := ⟨_, rfl⟩
  rw [hd] at D1
  simp only [Int.natCast_zero] at D1
  replace D1 := Lib.hid D1
  have HL := Lib.hid hl
  have Hlen := Lib.hid hlen
  have Hsg := Lib.hid hsg
  have Hget := Lib.hid hget
  have Hgl := Lib.hid hgl
  have Hd := Lib.hid hd
  have hb := digL_bounds l 0
  clear hl hlen hsg hget hgl hd zb
  go_enter Tryd.func32, Tryd.ntmps32
  go_wp2_with fail
  (with_reducible refine (D1.out _).mono ?_)
  rintro e w1 ⟨rfl, hB⟩
  replace h1 := h1.call hB
  replace hA := hA.below hB hA.lt
  clear hB D1
  obtain ⟨c0, c1, c2, c3⟩ := h1.cells
  have a0 := hA.cell 0
  have a1 := hA.cell 1
  have a2 := hA.frozen
  have zz := h1.2.2
  have n1 : ¬ w.heap.size + 1 = w.heap.size := by omega
  rcases hb with hb | ⟨n, q, hn, hq0, hq1, hb⟩
  · have hb' := Hd.out.symm.trans hb
    injection hb' with e1 e2
    subst e1
    subst e2
    have HQ := Lib.hid (show rparseL l = (0, 0, 2) by unfold rparseL; rw [Hsg.out, hb, if_pos (by decide)])
    have HH := Lib.hid h1
    clear hb h1 hA
    go_wp2
    exact ret_frac (p := 2) (q := 3) (by kernel_rfl) rfl rfl (HH.out.put 0 0).1 ⟨by rw [HQ.out], (HH.out.put 0 0).2⟩
  · have hb' := Hd.out.symm.trans hb
    injection hb' with e1 e2
    subst e1
    subst e2
    have hqs : q ≤ s.size := by have := Hgl.out 0 (by omega); omega
    have HR := Lib.hid (show rparseL l = lastL l ((n : Int)) (restL l ((n : Int), (q : Int))) by
      unfold rparseL; rw [Hsg.out, hb, if_neg (by show ¬ (q : Int) < 0; omega)]; rfl)
    have q0 : ¬ (q : Int) < 0 := by omega
    have TXT := fun (d : Nat) (hd : d ≤ 4611686018427387904) (W : World) => rtext_any ((n : Int)) (d : Int) W (by omega) (by omega) (by omega) (by omega)
    replace TXT := Lib.hid TXT
    clear hb hq1
    by_cases hql : q < s.size
    · have q1 : (q : Int) < (s.size : Int) := by omega
      by_cases qb : s[q]'hql = 47
      · have q2 := byte_eq (k := 47) rfl qb
        have D2 := DG.out (q + 1) (by omega)
        rw [Int.natCast_add, Int.natCast_one] at D2
        have HR2 := Lib.hid (show restL l ((n : Int), (q : Int)) = digL l (q + 1) by
          unfold restL; simp only [Int.toNat_natCast]; rw [Hget.out q hql, qb, if_pos rfl])
        obtain ⟨⟨d1, d2⟩, hd⟩ : ∃ d, digL l (q + 1) = d := ⟨_, rfl⟩
        have hb := digL_bounds l (q + 1)
        rw [hd] at D2
        replace D2 := Lib.hid D2
        have Hd := Lib.hid hd
        clear qb hd
        go_wp2_with fail
        replace h1 := h1.setA (g := w.heap.size + 1) (by omega) 0 (.int .i64 (n : Int))
        replace hA := hA.put 0 (.int .i64 (n : Int))
        (with_reducible refine (D2.out _).mono ?_)
        rintro e w2 ⟨rfl, hB⟩
        replace h1 := h1.call hB
        replace hA := hA.below hB hA.lt
        replace hA : Blk w2 (w.heap.size + 1) 23 #[.int .i64 ((n : Int)), .int .i64 1] := hA
        clear hB D2 c0 c1 c2 c3 a0 a1 a2 zz
        obtain ⟨c0, c1, c2, c3⟩ := h1.cells
        have a0 := hA.cell 0
        have a1 := hA.cell 1
        have a2 := hA.frozen
        have zz := h1.2.2
        rcases hb with hb | ⟨d, f, hn', hf0, hf1, hb⟩
        · have hb' := Hd.out.symm.trans hb
          injection hb' with e1 e2
          subst e1
          subst e2
          have HQ := Lib.hid (show rparseL l = (0, 0, 2) by rw [HR.out, HR2.out, hb]; unfold lastL; rw [if_pos (by decide)])
          have HH := Lib.hid h1
          clear hb h1 hA HR HR2
          go_wp2
          exact ret_frac (p := 2) (q := 3) (by kernel_rfl) rfl rfl (HH.out.put (0) (0)).1 ⟨by rw [HQ.out], (HH.out.put (0) (0)).2⟩
        · have hb' := Hd.out.symm.trans hb
          injection hb' with e1 e2
          subst e1
          subst e2
          have hfs : f ≤ s.size := by have := Hgl.out (q + 1) (by omega); omega
          have f0 : ¬ (f : Int) < 0 := by omega
          have Hb := Lib.hid hb
          clear hb hf1 hf0
          by_cases hfl : f < s.size
          · have f1 : (f : Int) < (s.size : Int) := by omega
            have HQ := Lib.hid (show rparseL l = (0, 0, 2) by
              rw [HR.out, HR2.out, Hb.out]; unfold lastL; simp only; rw [if_neg f0, if_pos (Or.inl (by rw [Hlen.out]; exact f1))])
            have HH := Lib.hid (h1.setA (g := w.heap.size + 1) (by omega) 1 (.int .i64 (d : Int)))
            clear h1 hA HR HR2
            go_wp2
            exact ret_frac (p := 2) (q := 3) (by kernel_rfl) rfl rfl (HH.out.put (0) (0)).1 ⟨by rw [HQ.out], (HH.out.put (0) (0)).2⟩
          · have f1 : ¬ (f : Int) < (s.size : Int) := by omega
            have TX := Lib.hid (TXT.out d hn')
            go_wp2_with fail
            replace h1 := h1.setA (g := w.heap.size + 1) (by omega) 1 (.int .i64 (d : Int))
            replace hA := hA.put 1 (.int .i64 (d : Int))
            (with_reducible refine (TX.out _).mono ?_)
            rintro e w3 ⟨rfl, hB⟩
            replace h1 := h1.call hB
            replace hA := hA.below hB hA.lt
            clear hB
            replace hA : Blk w3 (w.heap.size + 1) 23 #[.int .i64 ((n : Int)), .int .i64 ((d : Int))] := hA
            obtain ⟨c0, c1, c2, c3⟩ := h1.cells
            have a0 := hA.cell 0
            have a1 := hA.cell 1
            have a2 := hA.frozen
            have zz := h1.2.2
            by_cases hq : textL ((n : Int)) ((d : Int)) = l
            · have HQ := Lib.hid (show rparseL l = ((n : Int), (d : Int), 0) by rw [HR.out, HR2.out, Hb.out]; unfold lastL; simp only; rw [if_neg (by omega), Hlen.out]; rw [if_neg (fun h => h.elim (by omega) (fun h => h hq))])
              have hq2 : Value.string s = str (textL ((n : Int)) ((d : Int))) := by rw [hq, ← HL.out]; exact str_of s
              unfold str at hq2 ⊢
              obtain ⟨s2, hs2⟩ : ∃ s2 : ByteArray, s2 = ⟨(textL ((n : Int)) ((d : Int))).toArray⟩ := ⟨_, rfl⟩
              rw [← hs2] at hq2 ⊢
              injection hq2 with hq3
              have HH := Lib.hid h1
              have hq4 : (s2.toList == s.toList) = true := by rw [hq3, beq_iff_eq]
              have hq5 : s2 = s := hq3.symm
              clear hs2 hq hA h1 HR hq3 hq4
              subst hq5
              go_wp2
              exact ret_frac (p := 2) (q := 3) (by kernel_rfl) rfl rfl (HH.out.put ((n : Int)) ((d : Int))).1 ⟨by rw [HQ.out], (HH.out.put ((n : Int)) ((d : Int))).2⟩
            · have HQ := Lib.hid (show rparseL l = (0, 0, 2) by rw [HR.out, HR2.out, Hb.out]; unfold lastL; simp only; rw [if_neg (by omega), Hlen.out]; rw [if_pos (Or.inr hq)])
              have hq3 : (⟨(textL ((n : Int)) ((d : Int))).toArray⟩ : ByteArray) ≠ s := fun h => hq (by rw [← HL.out, ← h])
              unfold str
              obtain ⟨s2, hs2⟩ : ∃ s2 : ByteArray, s2 = ⟨(textL ((n : Int)) ((d : Int))).toArray⟩ := ⟨_, rfl⟩
              rw [← hs2] at hq3 ⊢
              have hq4 : (s2.toList == s.toList) = false := by
                rw [beq_eq_false_iff_ne, ByteArray.toList_eq, ByteArray.toList_eq]
                exact fun h => hq3 (str_congr h)
              have HH := Lib.hid h1
              clear hs2 hq hA h1 HR hq3
              go_wp2
              exact ret_frac (p := 2) (q := 3) (by kernel_rfl) rfl rfl (HH.out.put (0) (0)).1 ⟨by rw [HQ.out], (HH.out.put (0) (0)).2⟩
      · have q2 := byte_ne (k := 47) rfl qb
        have HQ := Lib.hid (show rparseL l = (0, 0, 2) by
          rw [HR.out]
          have e : restL l ((n : Int), (q : Int)) = (1, (q : Int)) := by
            unfold restL; simp only [Int.toNat_natCast]; rw [Hget.out q hql, if_neg (fun e => qb (by injection e))]
          rw [e]; unfold lastL; simp only; rw [if_neg q0, if_pos (Or.inl (by rw [Hlen.out]; exact q1))])
        replace h1 := h1.setA (g := w.heap.size + 1) (by omega) 0 (.int .i64 (n : Int))
        replace hA := hA.put 0 (.int .i64 (n : Int))
        have HH := Lib.hid h1
        clear qb h1 hA HR
        go_wp2
        exact ret_frac (p := 2) (q := 3) (by kernel_rfl) rfl rfl (HH.out.put (0) (0)).1 ⟨by rw [HQ.out], (HH.out.put (0) (0)).2⟩
    · have q1 : ¬ (q : Int) < (s.size : Int) := by omega
      have HR2 := Lib.hid (show restL l ((n : Int), (q : Int)) = (1, (q : Int)) by
        unfold restL; simp only [Int.toNat_natCast]
        rw [if_neg]
        rw [List.getElem?_eq_none (by rw [Hlen.out]; omega)]
        exact fun e => by cases e)
      have TX := TXT.out 1 (by omega)
      rw [Int.natCast_one] at TX
      replace TX := Lib.hid TX
      go_wp2_with fail
      replace h1 := h1.setA (g := w.heap.size + 1) (by omega) 0 (.int .i64 (n : Int))
      replace hA := hA.put 0 (.int .i64 (n : Int))
      clear c0 c1 c2 c3 a0 a1 a2 zz
      (with_reducible refine (TX.out _).mono ?_)
      rintro e w3 ⟨rfl, hB⟩
      replace h1 := h1.call hB
      replace hA := hA.below hB hA.lt
      clear hB
      replace hA : Blk w3 (w.heap.size + 1) 23 #[.int .i64 ((n : Int)), .int .i64 (1)] := hA
      obtain ⟨c0, c1, c2, c3⟩ := h1.cells
      have a0 := hA.cell 0
      have a1 := hA.cell 1
      have a2 := hA.frozen
      have zz := h1.2.2
      by_cases hq : textL ((n : Int)) (1) = l
      · have HQ := Lib.hid (show rparseL l = ((n : Int), 1, 0) by rw [HR.out, HR2.out]; unfold lastL; simp only; rw [if_neg (by omega), Hlen.out]; rw [if_neg (fun h => h.elim (by omega) (fun h => h hq))])
        have hq2 : Value.string s = str (textL ((n : Int)) (1)) := by rw [hq, ← HL.out]; exact str_of s
        unfold str at hq2 ⊢
        obtain ⟨s2, hs2⟩ : ∃ s2 : ByteArray, s2 = ⟨(textL ((n : Int)) (1)).toArray⟩ := ⟨_, rfl⟩
        rw [← hs2] at hq2 ⊢
        injection hq2 with hq3
        have HH := Lib.hid h1
        have hq4 : (s2.toList == s.toList) = true := by rw [hq3, beq_iff_eq]
        have hq5 : s2 = s := hq3.symm
        clear hs2 hq hA h1 HR hq3 hq4
        subst hq5
        go_wp2
        exact ret_frac (p := 2) (q := 3) (by kernel_rfl) rfl rfl (HH.out.put ((n : Int)) (1)).1 ⟨by rw [HQ.out], (HH.out.put ((n : Int)) (1)).2⟩
      · have HQ := Lib.hid (show rparseL l = (0, 0, 2) by rw [HR.out, HR2.out]; unfold lastL; simp only; rw [if_neg (by omega), Hlen.out]; rw [if_pos (Or.inr hq)])
        have hq3 : (⟨(textL ((n : Int)) (1)).toArray⟩ : ByteArray) ≠ s := fun h => hq (by rw [← HL.out, ← h])
        unfold str
        obtain ⟨s2, hs2⟩ : ∃ s2 : ByteArray, s2 = ⟨(textL ((n : Int)) (1)).toArray⟩ := ⟨_, rfl⟩
        rw [← hs2] at hq3 ⊢
        have hq4 : (s2.toList == s.toList) = false := by
          rw [beq_eq_false_iff_ne, ByteArray.toList_eq, ByteArray.toList_eq]
          exact fun h => hq3 (str_congr h)
        have HH := Lib.hid h1
        clear hs2 hq hA h1 HR hq3
        go_wp2
        exact ret_frac (p := 2) (q := 3) (by kernel_rfl) rfl rfl (HH.out.put (0) (0)).1 ⟨by rw [HQ.out], (HH.out.put (0) (0)).2⟩
set_option maxRecDepth 100000 in
set_option maxHeartbeats 4000000 in
theorem rparse_c1 (s : ByteArray) (hs : s.size ≤ 140737488355328) (z0 : 0 < s.size) (zb : s[0]'z0 = 45) (w : World) :
    Calls Tryd.prog 32 #[.string s] w fun e w' => e = .returned (RV (rparseL s.data.toList)) ∧ Below w.heap.size w w' := by
  have DG := Lib.hid (fun (p : Nat) (hp : p ≤ s.size) (W : World) => digits_any s p hs hp W)
  obtain ⟨l, hl⟩ : ∃ l, s.data.toList = l := ⟨_, rfl⟩
  have hlen : l.length = s.size := by rw [← hl]; simp
  have hget : ∀ i (h : i < s.size), l[i]? = some s[i] := fun i h => by
    rw [← hl, List.getElem?_eq_getElem (by simpa using h)]
    rfl
  have hsg : signL l = 1 := by unfold signL; rw [List.head?_eq_getElem?, hget 0 z0, zb, if_pos rfl]
  have z1 := byte_eq (k := 45) rfl zb
  have z2 : (0 : Int) < (s.size : Int) := by omega
  rw [hl] at DG ⊢
  have hgl : ∀ (p : Nat), p ≤ s.size → runL (l.drop p) + p ≤ s.size := fun p hp => by have := run_le (l.drop p); rw [List.length_drop] at this; omega
  have D1 := DG.out 1 (by omega)
  have h1 : C1 w ((w.alloc (.cells #[.int .i64 0, .int .i64 0] 23)).alloc (.cells #[.int .i64 0, .int .i64 1] 23)) := (C1.start w).call ((Below.refl _ _).alloc (Nat.le_refl _) _)
  have hA := Blk.new (w.alloc (.cells #[.int .i64 0, .int .i64 0] 23)) 23 #[.int .i64 0, .int .i64 1]
  rw [World.size_alloc] at hA
  obtain ⟨⟨d1, d2⟩, hd⟩ : ∃ d, digL l 1 = d := ⟨_, rfl⟩
  rw [hd] at D1
  simp only [Int.natCast_one] at D1
  replace D1 := Lib.hid D1
  have HL := Lib.hid hl
  have Hlen := Lib.hid hlen
  have Hsg := Lib.hid hsg
  have Hget := Lib.hid hget
  have Hgl := Lib.hid hgl
  have Hd := Lib.hid hd
  have hb := digL_bounds l 1
  clear hl hlen hsg hget hgl hd zb
  go_enter Tryd.func32, Tryd.ntmps32
  go_wp2_with fail
  (with_reducible refine (D1.out _).mono ?_)
  rintro e w1 ⟨rfl, hB⟩
  replace h1 := h1.call hB
  replace hA := hA.below hB hA.lt
  clear hB D1
  obtain ⟨c0, c1, c2, c3⟩ := h1.cells
  have a0 := hA.cell 0
  have a1 := hA.cell 1
  have a2 := hA.frozen
  have zz := h1.2.2
  have n1 : ¬ w.heap.size + 1 = w.heap.size := by omega
  rcases hb with hb | ⟨n, q, hn, hq0, hq1, hb⟩
  · have hb' := Hd.out.symm.trans hb
    injection hb' with e1 e2
    subst e1
    subst e2
    have HQ := Lib.hid (show rparseL l = (0, 0, 2) by unfold rparseL; rw [Hsg.out, hb, if_pos (by decide)])
    have HH := Lib.hid h1
    clear hb h1 hA
    go_wp2
    exact ret_frac (p := 2) (q := 3) (by kernel_rfl) rfl rfl (HH.out.put 0 0).1 ⟨by rw [HQ.out], (HH.out.put 0 0).2⟩
  · have hb' := Hd.out.symm.trans hb
    injection hb' with e1 e2
    subst e1
    subst e2
    have hqs : q ≤ s.size := by have := Hgl.out 1 (by omega); omega
    have HR := Lib.hid (show rparseL l = lastL l (-(n : Int)) (restL l ((n : Int), (q : Int))) by
      unfold rparseL; rw [Hsg.out, hb, if_neg (by show ¬ (q : Int) < 0; omega)]; rfl)
    have q0 : ¬ (q : Int) < 0 := by omega
    have TXT := fun (d : Nat) (hd : d ≤ 4611686018427387904) (W : World) => rtext_any (-(n : Int)) (d : Int) W (by omega) (by omega) (by omega) (by omega)
    replace TXT := Lib.hid TXT
    clear hb hq1
    by_cases hql : q < s.size
    · have q1 : (q : Int) < (s.size : Int) := by omega
      by_cases qb : s[q]'hql = 47
      · have q2 := byte_eq (k := 47) rfl qb
        have D2 := DG.out (q + 1) (by omega)
        rw [Int.natCast_add, Int.natCast_one] at D2
        have HR2 := Lib.hid (show restL l ((n : Int), (q : Int)) = digL l (q + 1) by
          unfold restL; simp only [Int.toNat_natCast]; rw [Hget.out q hql, qb, if_pos rfl])
        obtain ⟨⟨d1, d2⟩, hd⟩ : ∃ d, digL l (q + 1) = d := ⟨_, rfl⟩
        have hb := digL_bounds l (q + 1)
        rw [hd] at D2
        replace D2 := Lib.hid D2
        have Hd := Lib.hid hd
        clear qb hd
        go_wp2_with fail
        replace h1 := h1.setA (g := w.heap.size + 1) (by omega) 0 (.int .i64 (n : Int))
        replace hA := hA.put 0 (.int .i64 (n : Int))
        replace h1 := h1.setA (g := w.heap.size + 1) (by omega) 0 (.int .i64 (-(n : Int)))
        replace hA := hA.put 0 (.int .i64 (-(n : Int)))
        (with_reducible refine (D2.out _).mono ?_)
        rintro e w2 ⟨rfl, hB⟩
        replace h1 := h1.call hB
        replace hA := hA.below hB hA.lt
        replace hA : Blk w2 (w.heap.size + 1) 23 #[.int .i64 (-(n : Int)), .int .i64 1] := hA
        clear hB D2 c0 c1 c2 c3 a0 a1 a2 zz
        obtain ⟨c0, c1, c2, c3⟩ := h1.cells
        have a0 := hA.cell 0
        have a1 := hA.cell 1
        have a2 := hA.frozen
        have zz := h1.2.2
        rcases hb with hb | ⟨d, f, hn', hf0, hf1, hb⟩
        · have hb' := Hd.out.symm.trans hb
          injection hb' with e1 e2
          subst e1
          subst e2
          have HQ := Lib.hid (show rparseL l = (0, 0, 2) by rw [HR.out, HR2.out, hb]; unfold lastL; rw [if_pos (by decide)])
          have HH := Lib.hid h1
          clear hb h1 hA HR HR2
          go_wp2
          exact ret_frac (p := 2) (q := 3) (by kernel_rfl) rfl rfl (HH.out.put (0) (0)).1 ⟨by rw [HQ.out], (HH.out.put (0) (0)).2⟩
        · have hb' := Hd.out.symm.trans hb
          injection hb' with e1 e2
          subst e1
          subst e2
          have hfs : f ≤ s.size := by have := Hgl.out (q + 1) (by omega); omega
          have f0 : ¬ (f : Int) < 0 := by omega
          have Hb := Lib.hid hb
          clear hb hf1 hf0
          by_cases hfl : f < s.size
          · have f1 : (f : Int) < (s.size : Int) := by omega
            have HQ := Lib.hid (show rparseL l = (0, 0, 2) by
              rw [HR.out, HR2.out, Hb.out]; unfold lastL; simp only; rw [if_neg f0, if_pos (Or.inl (by rw [Hlen.out]; exact f1))])
            have HH := Lib.hid (h1.setA (g := w.heap.size + 1) (by omega) 1 (.int .i64 (d : Int)))
            clear h1 hA HR HR2
            go_wp2
            exact ret_frac (p := 2) (q := 3) (by kernel_rfl) rfl rfl (HH.out.put (0) (0)).1 ⟨by rw [HQ.out], (HH.out.put (0) (0)).2⟩
          · have f1 : ¬ (f : Int) < (s.size : Int) := by omega
            have TX := Lib.hid (TXT.out d hn')
            go_wp2_with fail
            replace h1 := h1.setA (g := w.heap.size + 1) (by omega) 1 (.int .i64 (d : Int))
            replace hA := hA.put 1 (.int .i64 (d : Int))
            (with_reducible refine (TX.out _).mono ?_)
            rintro e w3 ⟨rfl, hB⟩
            replace h1 := h1.call hB
            replace hA := hA.below hB hA.lt
            clear hB
            replace hA : Blk w3 (w.heap.size + 1) 23 #[.int .i64 (-(n : Int)), .int .i64 ((d : Int))] := hA
            obtain ⟨c0, c1, c2, c3⟩ := h1.cells
            have a0 := hA.cell 0
            have a1 := hA.cell 1
            have a2 := hA.frozen
            have zz := h1.2.2
            by_cases hq : textL (-(n : Int)) ((d : Int)) = l
            · have HQ := Lib.hid (show rparseL l = (-(n : Int), (d : Int), 0) by rw [HR.out, HR2.out, Hb.out]; unfold lastL; simp only; rw [if_neg (by omega), Hlen.out]; rw [if_neg (fun h => h.elim (by omega) (fun h => h hq))])
              have hq2 : Value.string s = str (textL (-(n : Int)) ((d : Int))) := by rw [hq, ← HL.out]; exact str_of s
              unfold str at hq2 ⊢
              obtain ⟨s2, hs2⟩ : ∃ s2 : ByteArray, s2 = ⟨(textL (-(n : Int)) ((d : Int))).toArray⟩ := ⟨_, rfl⟩
              rw [← hs2] at hq2 ⊢
              injection hq2 with hq3
              have HH := Lib.hid h1
              have hq4 : (s2.toList == s.toList) = true := by rw [hq3, beq_iff_eq]
              have hq5 : s2 = s := hq3.symm
              clear hs2 hq hA h1 HR hq3 hq4
              subst hq5
              go_wp2
              exact ret_frac (p := 2) (q := 3) (by kernel_rfl) rfl rfl (HH.out.put (-(n : Int)) ((d : Int))).1 ⟨by rw [HQ.out], (HH.out.put (-(n : Int)) ((d : Int))).2⟩
            · have HQ := Lib.hid (show rparseL l = (0, 0, 2) by rw [HR.out, HR2.out, Hb.out]; unfold lastL; simp only; rw [if_neg (by omega), Hlen.out]; rw [if_pos (Or.inr hq)])
              have hq3 : (⟨(textL (-(n : Int)) ((d : Int))).toArray⟩ : ByteArray) ≠ s := fun h => hq (by rw [← HL.out, ← h])
              unfold str
              obtain ⟨s2, hs2⟩ : ∃ s2 : ByteArray, s2 = ⟨(textL (-(n : Int)) ((d : Int))).toArray⟩ := ⟨_, rfl⟩
              rw [← hs2] at hq3 ⊢
              have hq4 : (s2.toList == s.toList) = false := by
                rw [beq_eq_false_iff_ne, ByteArray.toList_eq, ByteArray.toList_eq]
                exact fun h => hq3 (str_congr h)
              have HH := Lib.hid h1
              clear hs2 hq hA h1 HR hq3
              go_wp2
              exact ret_frac (p := 2) (q := 3) (by kernel_rfl) rfl rfl (HH.out.put (0) (0)).1 ⟨by rw [HQ.out], (HH.out.put (0) (0)).2⟩
      · have q2 := byte_ne (k := 47) rfl qb
        have HQ := Lib.hid (show rparseL l = (0, 0, 2) by
          rw [HR.out]
          have e : restL l ((n : Int), (q : Int)) = (1, (q : Int)) := by
            unfold restL; simp only [Int.toNat_natCast]; rw [Hget.out q hql, if_neg (fun e => qb (by injection e))]
          rw [e]; unfold lastL; simp only; rw [if_neg q0, if_pos (Or.inl (by rw [Hlen.out]; exact q1))])
        replace h1 := h1.setA (g := w.heap.size + 1) (by omega) 0 (.int .i64 (n : Int))
        replace hA := hA.put 0 (.int .i64 (n : Int))
        replace h1 := h1.setA (g := w.heap.size + 1) (by omega) 0 (.int .i64 (-(n : Int)))
        replace hA := hA.put 0 (.int .i64 (-(n : Int)))
        have HH := Lib.hid h1
        clear qb h1 hA HR
        go_wp2
        exact ret_frac (p := 2) (q := 3) (by kernel_rfl) rfl rfl (HH.out.put (0) (0)).1 ⟨by rw [HQ.out], (HH.out.put (0) (0)).2⟩
    · have q1 : ¬ (q : Int) < (s.size : Int) := by omega
      have HR2 := Lib.hid (show restL l ((n : Int), (q : Int)) = (1, (q : Int)) by
        unfold restL; simp only [Int.toNat_natCast]
        rw [if_neg]
        rw [List.getElem?_eq_none (by rw [Hlen.out]; omega)]
        exact fun e => by cases e)
      have TX := TXT.out 1 (by omega)
      rw [Int.natCast_one] at TX
      replace TX := Lib.hid TX
      go_wp2_with fail
      replace h1 := h1.setA (g := w.heap.size + 1) (by omega) 0 (.int .i64 (n : Int))
      replace hA := hA.put 0 (.int .i64 (n : Int))
      replace h1 := h1.setA (g := w.heap.size + 1) (by omega) 0 (.int .i64 (-(n : Int)))
      replace hA := hA.put 0 (.int .i64 (-(n : Int)))
      clear c0 c1 c2 c3 a0 a1 a2 zz
      (with_reducible refine (TX.out _).mono ?_)
      rintro e w3 ⟨rfl, hB⟩
      replace h1 := h1.call hB
      replace hA := hA.below hB hA.lt
      clear hB
      replace hA : Blk w3 (w.heap.size + 1) 23 #[.int .i64 (-(n : Int)), .int .i64 (1)] := hA
      obtain ⟨c0, c1, c2, c3⟩ := h1.cells
      have a0 := hA.cell 0
      have a1 := hA.cell 1
      have a2 := hA.frozen
      have zz := h1.2.2
      by_cases hq : textL (-(n : Int)) (1) = l
      · have HQ := Lib.hid (show rparseL l = (-(n : Int), 1, 0) by rw [HR.out, HR2.out]; unfold lastL; simp only; rw [if_neg (by omega), Hlen.out]; rw [if_neg (fun h => h.elim (by omega) (fun h => h hq))])
        have hq2 : Value.string s = str (textL (-(n : Int)) (1)) := by rw [hq, ← HL.out]; exact str_of s
        unfold str at hq2 ⊢
        obtain ⟨s2, hs2⟩ : ∃ s2 : ByteArray, s2 = ⟨(textL (-(n : Int)) (1)).toArray⟩ := ⟨_, rfl⟩
        rw [← hs2] at hq2 ⊢
        injection hq2 with hq3
        have HH := Lib.hid h1
        have hq4 : (s2.toList == s.toList) = true := by rw [hq3, beq_iff_eq]
        have hq5 : s2 = s := hq3.symm
        clear hs2 hq hA h1 HR hq3 hq4
        subst hq5
        go_wp2
        exact ret_frac (p := 2) (q := 3) (by kernel_rfl) rfl rfl (HH.out.put (-(n : Int)) (1)).1 ⟨by rw [HQ.out], (HH.out.put (-(n : Int)) (1)).2⟩
      · have HQ := Lib.hid (show rparseL l = (0, 0, 2) by rw [HR.out, HR2.out]; unfold lastL; simp only; rw [if_neg (by omega), Hlen.out]; rw [if_pos (Or.inr hq)])
        have hq3 : (⟨(textL (-(n : Int)) (1)).toArray⟩ : ByteArray) ≠ s := fun h => hq (by rw [← HL.out, ← h])
        unfold str
        obtain ⟨s2, hs2⟩ : ∃ s2 : ByteArray, s2 = ⟨(textL (-(n : Int)) (1)).toArray⟩ := ⟨_, rfl⟩
        rw [← hs2] at hq3 ⊢
        have hq4 : (s2.toList == s.toList) = false := by
          rw [beq_eq_false_iff_ne, ByteArray.toList_eq, ByteArray.toList_eq]
          exact fun h => hq3 (str_congr h)
        have HH := Lib.hid h1
        clear hs2 hq hA h1 HR hq3
        go_wp2
        exact ret_frac (p := 2) (q := 3) (by kernel_rfl) rfl rfl (HH.out.put (0) (0)).1 ⟨by rw [HQ.out], (HH.out.put (0) (0)).2⟩
theorem rparse_any (s : ByteArray) (hs : s.size ≤ 140737488355328) (w : World) :
    Calls Tryd.prog 32 #[.string s] w fun e w' => e = .returned (RV (parseR s.data.toList)) ∧ Below w.heap.size w w' := by
  rw [← rparse_eq]
  by_cases z0 : 0 < s.size
  · by_cases zb : s[0]'z0 = 45
    · exact rparse_c1 s hs z0 zb w
    · exact rparse_c2 s hs z0 zb w
  · exact rparse_c3 s hs z0 w
end Go.Proofs.YtegodbbocbkomaaDoor
