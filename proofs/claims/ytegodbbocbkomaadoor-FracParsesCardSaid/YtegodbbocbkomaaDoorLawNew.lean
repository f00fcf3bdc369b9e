/- The law FracNew holds. Conditions: the variables as laid; numbers of 64 bits. -/
import Derived.Test.YtegodbbocbkomaaDoorLives
namespace Go.Proofs.YtegodbbocbkomaaDoor
open Go.RowKit

theorem lowR_good {neg : Bool} {N D : Nat} (hD : 0 < D) {r1 r2 : Int} (h : lowR neg N D = (r1, r2, 0)) : vP r1 r2 := by
  unfold lowR at h
  split at h
  · rename_i hb
    have hg : 0 < Nat.gcd N D := Nat.gcd_pos_of_pos_right _ hD
    have hc : Nat.gcd (N / Nat.gcd N D) (D / Nat.gcd N D) = 1 := Nat.coprime_div_gcd_div_gcd hg
    have hp : 0 < D / Nat.gcd N D := Nat.div_pos (Nat.gcd_le_right _ hD) hg
    generalize N / Nat.gcd N D = x at *
    generalize D / Nat.gcd N D = y at *
    injection h with h1 h2
    injection h2 with h3 h4
    have hx : r1.natAbs = x := by
      rw [← h1]; split <;> omega
    refine ⟨by omega, by omega, by omega, by omega, ?_⟩
    rw [hx, show r2.natAbs = y by omega]
    exact hc
  · injection h with _ h2
    injection h2 with _ h4
    simp at h4

theorem newR_good {n d r1 r2 : Int} (h : newR n d = (r1, r2, 0)) : vP r1 r2 := by
  unfold newR at h
  split at h
  · injection h with _ h2
    injection h2 with _ h4
    simp at h4
  · rename_i hd
    split at h
    · injection h with _ h2
      injection h2 with _ h4
      simp at h4
    · exact lowR_good (by omega) h

theorem new_own (n d : Int) : vB n d = (((newR n d).2.2 == 0) && (((newR n d).1 == n) && ((newR n d).2.1 == d))) := by
  by_cases hd : 1 ≤ d
  · rw [vB_new n d hd, Bool.beq_comm (a := n), Bool.beq_comm (a := d)]
  · have hv : vB n d = false := decide_eq_false (fun h => hd h.1)
    rw [hv]
    symm
    obtain ⟨⟨r1, r2, r3⟩, hr⟩ : ∃ r, newR n d = r := ⟨_, rfl⟩
    rw [hr]
    simp only
    by_cases h3 : r3 = 0
    · subst h3
      have := (newR_good hr).1
      rw [show (r2 == d) = false by simp; omega]
      simp
    · rw [show (r3 == 0) = false by simpa using h3]
      simp

set_option maxRecDepth 100000 in
set_option maxHeartbeats 4000000 in
theorem law_new (n d : Int) (w : World) (n0 : -9223372036854775808 ≤ n) (n1 : n ≤ 9223372036854775807) (d0 : -9223372036854775808 ≤ d) (d1 : d ≤ 9223372036854775807) (hE : Env w) :
    Calls Tryd.prog 3 #[.int .i64 n, .int .i64 d] w fun e w' => e = .returned (.bool true) ∧ Below w.heap.size w w' := by
  have A1 := fun W => new_any n d W n0 n1 d0 d1
  have A2 := fun W => rnew_any n d W n0 n1 d0 d1
  have A3 := fun W => valid_any n d W n0 n1 d0 d1
  have hown := new_own n d
  obtain ⟨⟨r1, r2, r3⟩, hr⟩ : ∃ r, newR n d = r := ⟨_, rfl⟩
  rw [hr] at A1 A2 hown
  simp only at hown
  unfold RV at A1 A2
  simp only at A1 A2
  have EQ0 : ∀ W, _ := fun W => feq_walk r1 r2 r1 r2 W
  simp only [beq_self_eq_true, Bool.and_true] at EQ0
  obtain ⟨b, hb⟩ : ∃ b, (r1 == n && r2 == d) = b := ⟨_, rfl⟩
  have EQ1 : ∀ W, _ := fun W => feq_walk r1 r2 n d W
  rw [hb] at hown
  simp only [hb] at EQ1
  by_cases h3 : r3 = 0
  · subst h3
    have hv : vB n d = b := by rw [hown]; rfl
    have hvr : vP r1 r2 := newR_good hr
    have hvr' : vB r1 r2 = true := decide_eq_true hvr
    have A4 := fun W => valid_any r1 r2 W (by have := hvr.2.2.1; omega) (by have := hvr.2.2.2.1; omega) (by have := hvr.1; omega) (by have := hvr.2.1; omega)
    rw [hv] at A3
    rw [hvr'] at A4
    have A1 := Lib.hid A1
    have A2 := Lib.hid A2
    have A3 := Lib.hid A3
    have A4 := Lib.hid A4
    clear hown hr hv hvr hvr' hb
    go_enter Tryd.func3, Tryd.ntmps3
    go_wp2_with fail
    refine (A1.out _).mono ?_
    rintro e w1 ⟨rfl, hB⟩
    have hA := Blk.new w1 23 #[.int .i64 r1, .int .i64 r2]
    have hW1 := hB.alloc hB.size (.cells #[.int .i64 r1, .int .i64 r2] 23)
    clear hB
    go_wp2_with fail
    refine (A2.out _).mono ?_
    rintro e w2 ⟨rfl, hB⟩
    have hA2 := hA.below hB hA.lt
    have hW2 := below_st hW1 hB
    have c0 := hA2.cell 0
    have c1 := hA2.cell 1
    have hz : w1.heap.size < w2.heap.size := hA2.lt
    clear hA hW1 hB
    have hA3 := (hA2.alloc (.cells #[.int .i64 r1, .int .i64 r2] 23)).alloc (.cells #[.int .i64 n, .int .i64 d] 23)
    have hC3 : Blk ((w2.alloc (.cells #[.int .i64 r1, .int .i64 r2] 23)).alloc (.cells #[.int .i64 n, .int .i64 d] 23)) (w2.heap.size + 1) 23 #[.int .i64 n, .int .i64 d] := by
      have := Blk.new (w2.alloc (.cells #[.int .i64 r1, .int .i64 r2] 23)) 23 #[.int .i64 n, .int .i64 d]
      simpa using this
    have hW3 := (hW2.alloc hW2.size (.cells #[.int .i64 r1, .int .i64 r2] 23)).alloc (hW2.alloc hW2.size (.cells #[.int .i64 r1, .int .i64 r2] 23)).size (.cells #[.int .i64 n, .int .i64 d] 23)
    clear hA2 hW2
    go_wp2_with fail
    refine (A3.out _).mono ?_
    rintro e w3 ⟨rfl, hB⟩
    have hA4 := hA3.below hB hA3.lt
    have hC4 := hC3.below hB hC3.lt
    have hW4 := below_st hW3 hB
    clear hA3 hC3 hW3 hB c0 c1 hz
    have c0 := hA4.cell 0
    have c1 := hA4.cell 1
    have c2 := hC4.cell 0
    have c3 := hC4.cell 1
    go_wp2_with fail
    refine (A4.out _).mono ?_
    rintro e w4 ⟨rfl, hB⟩
    have hW5 := below_st hW4 hB
    clear hA4 hC4 hW4 hB c0 c1 c2 c3
    go_wp2_with fail
    refine (lives_any _ (hE.below hW5)).mono ?_
    rintro e w5 ⟨rfl, hB⟩
    have HW := Lib.hid (below_st hW5 hB)
    clear hW5 hB hE
    go_wp2
    go_ret
    exact ⟨rfl, HW.out⟩
  · have h3' : (r3 == 0) = false := by simpa using h3
    have hv : vB n d = false := by rw [hown, h3']; rfl
    rw [hv] at A3
    have A1 := Lib.hid A1
    have A2 := Lib.hid A2
    have A3 := Lib.hid A3
    clear hown hr hv hb
    go_enter Tryd.func3, Tryd.ntmps3
    go_wp2_with fail
    refine (A1.out _).mono ?_
    rintro e w1 ⟨rfl, hB⟩
    have hA := Blk.new w1 23 #[.int .i64 r1, .int .i64 r2]
    have hW1 := hB.alloc hB.size (.cells #[.int .i64 r1, .int .i64 r2] 23)
    clear hB
    go_wp2_with fail
    refine (A2.out _).mono ?_
    rintro e w2 ⟨rfl, hB⟩
    have hA2 := hA.below hB hA.lt
    have hW2 := below_st hW1 hB
    have c0 := hA2.cell 0
    have c1 := hA2.cell 1
    have hz : w1.heap.size < w2.heap.size := hA2.lt
    clear hA hW1 hB
    have hA3 := (hA2.alloc (.cells #[.int .i64 r1, .int .i64 r2] 23)).alloc (.cells #[.int .i64 n, .int .i64 d] 23)
    have hC3 : Blk ((w2.alloc (.cells #[.int .i64 r1, .int .i64 r2] 23)).alloc (.cells #[.int .i64 n, .int .i64 d] 23)) (w2.heap.size + 1) 23 #[.int .i64 n, .int .i64 d] := by
      have := Blk.new (w2.alloc (.cells #[.int .i64 r1, .int .i64 r2] 23)) 23 #[.int .i64 n, .int .i64 d]
      simpa using this
    have hW3 := (hW2.alloc hW2.size (.cells #[.int .i64 r1, .int .i64 r2] 23)).alloc (hW2.alloc hW2.size (.cells #[.int .i64 r1, .int .i64 r2] 23)).size (.cells #[.int .i64 n, .int .i64 d] 23)
    clear hA2 hW2
    go_wp2_with fail
    refine (A3.out _).mono ?_
    rintro e w3 ⟨rfl, hB⟩
    have hA4 := hA3.below hB hA3.lt
    have hC4 := hC3.below hB hC3.lt
    have hW4 := below_st hW3 hB
    clear hA3 hC3 hW3 hB c0 c1 hz
    have c0 := hA4.cell 0
    have c1 := hA4.cell 1
    have c2 := hC4.cell 0
    have c3 := hC4.cell 1
    go_wp2_with fail
    refine (lives_any _ (hE.below hW4)).mono ?_
    rintro e w5 ⟨rfl, hB⟩
    have HW := Lib.hid (below_st hW4 hB)
    clear hW4 hB hE hA4 hC4 c0 c1 c2 c3
    go_wp2
    go_ret
    exact ⟨rfl, HW.out⟩
end Go.Proofs.YtegodbbocbkomaaDoor
