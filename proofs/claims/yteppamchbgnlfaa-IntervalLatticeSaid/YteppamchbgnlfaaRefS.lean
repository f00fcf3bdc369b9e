/- The reference's small functions over words and fractions: Size, common, New, Valid, short. Conditions: numbers of 64 bits. -/
import Derived.Test.YteppamchbgnlfaaMem
import Derived.Test.YteppamchbgnlfaaFMath
import Derived.Laws.StructEq
import Derived.KernelRfl
import Derived.IntWalk
namespace Go.Proofs.Yteppamchbgnlfaa
open Go.RowKit

/-- A result as a value: a fraction and an error. -/
def RV (r : R3) : Value := .tuple #[.agg #[.int .i64 r.1, .int .i64 r.2.1], .int .i64 r.2.2]

theorem feq_walk (a b c d : Int) (w : World) : (Op.equalIn 10000 23 (.agg #[.int .i64 a, .int .i64 b]) (.agg #[.int .i64 c, .int .i64 d])).run Try.prog w = .ok (a == c && b == d) w := by
  have tu := Try.underlying3
  have ta := Try.isAgg3
  have tz := Try.sizeOf3
  have hS : Try.prog.underlying 23 = some (.struct (Try.prog.fieldsOf 23)) := by kernel_rfl
  rw [show (10000 : Nat) = 9999 + 1 from rfl, run_equalIn_agg w 9999 23 _ _ hS (by kernel_rfl)]
  simp only [Program.fieldsOf, Try.underlying23]
  go_simp
  by_cases h1 : a = c <;> by_cases h2 : b = d <;> simp [h1, h2]

theorem rsize_any (n : Int) (w : World) (h0 : -9223372036854775808 ≤ n) (h1 : n ≤ 9223372036854775807) :
    Calls Try.prog 54 #[.int .i64 n] w fun e w' => e = .returned (.int .u64 (n.natAbs : Nat)) ∧ w = w' := by
  by_cases h : n < 0
  · go_enter Try.func54, Try.ntmps54
    go_wp2
    go_ret
    refine ⟨ret_int ?_, rfl⟩
    rw [IntKind.wrap_u64, IntKind.wrap_u64]
    omega
  · go_enter Try.func54, Try.ntmps54
    go_wp2
    go_ret
    exact ⟨ret_int (by omega), rfl⟩

theorem gcd_round {x y g : Nat} (_hy : 0 < y) (h : Nat.gcd x y = g) : Nat.gcd y (x % y) = g := by
  rw [← h, Nat.gcd_comm x y, Nat.gcd_rec y x, Nat.gcd_comm]

theorem rcommon_any (a b : Nat) (w : World) (ha : a < 18446744073709551616) (hb : b < 18446744073709551616) :
    Calls Try.prog 73 #[.int .u64 a, .int .u64 b] w fun e w' => e = .returned (.int .u64 (Nat.gcd a b : Nat)) ∧ w = w' := by
  go_enter Try.func73, Try.ntmps73
  go_wp2
  go_loop [0, 1] (fun s t => ∃ x y : Nat, s = .int .u64 x ∧ t = .int .u64 y ∧ x < 18446744073709551616 ∧ y < 18446744073709551616 ∧ Nat.gcd x y = Nat.gcd a b) (fun _ t => (intOf t).toNat)
  case atStart => exact ⟨a, b, rfl, rfl, ha, hb, rfl⟩
  case round =>
    obtain ⟨x, y, rfl, rfl, hx, hy, hg⟩ := hrel
    have HG := Lib.hid hg
    clear hg
    by_cases h : 0 < y
    · have hm : x % y < y := Nat.mod_lt _ h
      go_wp2
      go_round
      case rel => exact ⟨y, x % y, rfl, by go_num, hy, by omega, gcd_round h HG.out⟩
      case measure => simp [intOf]; omega
    · obtain rfl : y = 0 := by omega
      go_wp2
      go_ret
      exact ⟨ret_int (by rw [← HG.out, Nat.gcd_zero_right]), rfl⟩

/-- A call that hands back a fraction and an error. -/
theorem ret_frac {fn : Func} {p q : Tmp} (hr : fn.results = #[.cell p 23, .tmp q]) {tmps : Array Value} {w : World} {g : Nat} {n d e : Int} {R : Ending → World → Prop}
    (hp : tmps.getD p undef = .pointer (some ⟨g, 0, none⟩)) (hq : tmps.getD q undef = .int .i64 e) (h : Blk w g 23 #[.int .i64 n, .int .i64 d]) (hR : R (.returned (RV (n, d, e))) w) :
    bodyPost Try.prog fn R .ret { tmps := tmps, defers := [] } w := by
  refine bodyPost_ret (v := RV (n, d, e)) ?_ rfl hR
  have hp' : tmps[p]?.getD undef = .pointer (some ⟨g, 0, none⟩) := by simpa using hp
  have hq' : tmps[q]?.getD undef = .int .i64 e := by simpa using hq
  have hl := run_loadVar_row (P := Try.prog) w g 23 23 _ (0, 0) _ h Try.underlying23 rfl (by kernel_rfl)
  simp [results, hr, hp', hq', asAddr, hl, RV]

theorem rnew_any (n d : Int) (w : World) (n0 : -9223372036854775808 ≤ n) (n1 : n ≤ 9223372036854775807) (d0 : -9223372036854775808 ≤ d) (d1 : d ≤ 9223372036854775807) :
    Calls Try.prog 56 #[.int .i64 n, .int .i64 d] w fun e w' => e = .returned (RV (newR n d)) ∧ Below w.heap.size w w' := by
  by_cases hd : d = 0
  · subst hd
    go_enter Try.func56, Try.ntmps56
    go_wp2
    exact ret_frac (p := 4) (q := 5) (by kernel_rfl) rfl rfl (Blk.new w _ _) ⟨by simp [newR], (Below.refl _ w).alloc (Nat.le_refl _) _⟩
  · have Hd := Lib.hid hd
    have hdb : (d == 0) = false := by simpa using hd
    go_enter Try.func56, Try.ntmps56
    go_wp2_with fail
    refine (rsize_any n _ n0 n1).mono ?_
    rintro e w' ⟨rfl, rfl⟩
    go_wp2_with fail
    refine (rsize_any d _ d0 d1).mono ?_
    rintro e w' ⟨rfl, rfl⟩
    obtain ⟨N, hN⟩ : ∃ N, n.natAbs = N := ⟨_, rfl⟩
    obtain ⟨D, hD⟩ : ∃ D, d.natAbs = D := ⟨_, rfl⟩
    rw [hN, hD]
    have hNb : N ≤ 9223372036854775808 := by omega
    have hDb : D ≤ 9223372036854775808 := by omega
    have hDp : 0 < D := by omega
    by_cases hm : n = -9223372036854775808 ∨ d = -9223372036854775808
    · have hr : newR n d = (0, 0, 5) := by unfold newR; rw [if_neg hd, if_pos hm]
      have HR := Lib.hid hr
      have hbig : 9223372036854775807 < N ∨ (N ≤ 9223372036854775807 ∧ 9223372036854775807 < D) := by omega
      clear hm hr hN hD hd
      rcases hbig with hb | ⟨hb, hb2⟩
      · go_wp2
        exact ret_frac (p := 4) (q := 5) (by kernel_rfl) rfl rfl (Blk.new w _ _) ⟨by rw [HR.out], (Below.refl _ w).alloc (Nat.le_refl _) _⟩
      · go_wp2
        exact ret_frac (p := 4) (q := 5) (by kernel_rfl) rfl rfl (Blk.new w _ _) ⟨by rw [HR.out], (Below.refl _ w).alloc (Nat.le_refl _) _⟩
    · have hr : newR n d = lowR (decide (n < 0) != decide (d < 0)) N D := by unfold newR; rw [if_neg hd, if_neg hm, hN, hD]
      unfold lowR at hr
      have hb1 : decide ((9223372036854775807 : Int) < (N : Int)) = false := decide_eq_false (by omega)
      have hb2 : decide ((9223372036854775807 : Int) < (D : Int)) = false := decide_eq_false (by omega)
      have hNb2 : N ≤ 9223372036854775807 := by omega
      have hDb2 : D ≤ 9223372036854775807 := by omega
      have HN := Lib.hid hN
      have HD := Lib.hid hD
      clear hm hN hD hd
      have HR0 := Lib.hid hr
      clear hr
      go_wp2_with fail
      refine (rcommon_any N D _ (by omega) (by omega)).mono ?_
      rintro e w' ⟨rfl, rfl⟩
      have hr := HR0.out
      clear HR0
      have hg0 : 0 < Nat.gcd N D := Nat.gcd_pos_of_pos_right _ hDp
      generalize Nat.gcd N D = g at hg0 hr
      have q1 := Nat.div_le_self N g
      have q2 := Nat.div_le_self D g
      obtain ⟨x, hx⟩ : ∃ x, N / g = x := ⟨_, rfl⟩
      obtain ⟨y, hy⟩ : ∃ y, D / g = y := ⟨_, rfl⟩
      have hx' : (N : Int) / (g : Int) = (x : Int) := by rw [← hx]; rfl
      have hy' : (D : Int) / (g : Int) = (y : Int) := by rw [← hy]; rfl
      rw [hx] at q1
      rw [hy] at q2
      rw [hx, hy] at hr
      clear hx hy
      by_cases hb : x ≤ 4611686018427387904 ∧ y ≤ 4611686018427387904
      · rw [if_pos hb] at hr
        have hb3 : decide ((4611686018427387904 : Int) < (x : Int)) = false := decide_eq_false (by omega)
        have hb4 : decide ((4611686018427387904 : Int) < (y : Int)) = false := decide_eq_false (by omega)
        have hx62 : x ≤ 4611686018427387904 := hb.1
        have hy62 : y ≤ 4611686018427387904 := hb.2
        clear hb
        have HR := Lib.hid hr
        clear hr
        rcases Int.lt_or_le n 0 with s1 | s1 <;> rcases Int.lt_or_le d 0 with s2 | s2
        all_goals
          first | (have t1 : decide (n < 0) = true := decide_eq_true s1) | (have t1 : decide (n < 0) = false := decide_eq_false (Int.not_lt.2 s1))
          first | (have t2 : decide (d < 0) = true := decide_eq_true s2) | (have t2 : decide (d < 0) = false := decide_eq_false (Int.not_lt.2 s2))
          go_wp2
          refine ret_frac (p := 4) (q := 5) (by kernel_rfl) rfl rfl (Blk.new w _ _) ⟨?_, (Below.refl _ w).alloc (Nat.le_refl _) _⟩
          rw [HR.out, t1, t2]
          rfl
      · rw [if_neg hb] at hr
        have HR := Lib.hid hr
        clear hr
        have hbig : decide ((4611686018427387904 : Int) < (x : Int)) = true ∨ (decide ((4611686018427387904 : Int) < (x : Int)) = false ∧ decide ((4611686018427387904 : Int) < (y : Int)) = true) := by
          rcases Nat.lt_or_ge 4611686018427387904 x with h | h
          · exact .inl (decide_eq_true (by omega))
          · exact .inr ⟨decide_eq_false (by omega), decide_eq_true (by omega)⟩
        clear hb
        rcases hbig with hb | ⟨hb, hb2⟩
        all_goals
          go_wp2
          exact ret_frac (p := 4) (q := 5) (by kernel_rfl) rfl rfl (Blk.new w _ _) ⟨by rw [HR.out], (Below.refl _ w).alloc (Nat.le_refl _) _⟩

theorem gcd_one {n d : Nat} (h : Nat.gcd n d = 1) : n / Nat.gcd n d = n ∧ d / Nat.gcd n d = d := by rw [h, Nat.div_one, Nat.div_one]; exact ⟨rfl, rfl⟩
/-- Valid is exactly: New maps it to itself. -/
theorem vB_new (n d : Int) (hd : 1 ≤ d) : vB n d = (((newR n d).2.2 == 0) && ((n == (newR n d).1) && (d == (newR n d).2.1))) := by
  rw [Bool.eq_iff_iff]
  simp only [vB, decide_eq_true_eq, Bool.and_eq_true, beq_iff_eq]
  have hdf : decide (d < 0) = false := decide_eq_false (by omega)
  constructor
  · rintro ⟨h1, h2, h3, h4, h5⟩
    obtain ⟨g1, g2⟩ := gcd_one h5
    have hl : newR n d = (n, d, 0) := by
      unfold newR lowR
      rw [if_neg (by omega), if_neg (by omega), g1, g2, if_pos (by omega), hdf]
      rcases Int.lt_or_le n 0 with s | s
      · rw [decide_eq_true s]
        simp only [Bool.true_bne, Bool.not_false, if_true]
        refine Prod.ext ?_ (Prod.ext ?_ rfl) <;> simp only [] <;> omega
      · rw [decide_eq_false (by omega : ¬ n < 0)]
        simp only [bne_self_eq_false, Bool.false_eq_true, if_false]
        refine Prod.ext ?_ (Prod.ext ?_ rfl) <;> simp only [] <;> omega
    rw [hl]
    exact ⟨rfl, rfl, rfl⟩
  · rintro ⟨h1, h2, h3⟩
    unfold newR lowR at h1 h2 h3
    rw [if_neg (by omega : ¬ d = 0)] at h1 h2 h3
    by_cases hm : n = -9223372036854775808 ∨ d = -9223372036854775808
    · rw [if_pos hm] at h1; simp at h1
    · rw [if_neg hm] at h1 h2 h3
      by_cases hb : n.natAbs / Nat.gcd n.natAbs d.natAbs ≤ 4611686018427387904 ∧ d.natAbs / Nat.gcd n.natAbs d.natAbs ≤ 4611686018427387904
      · rw [if_pos hb] at h2 h3
        simp only [] at h2 h3
        have hg : 0 < Nat.gcd n.natAbs d.natAbs := Nat.gcd_pos_of_pos_right _ (by omega)
        have e1 : d.natAbs / Nat.gcd n.natAbs d.natAbs = d.natAbs := by omega
        have hg1 : Nat.gcd n.natAbs d.natAbs = 1 := by
          rcases Nat.lt_or_ge 1 (Nat.gcd n.natAbs d.natAbs) with h | h
          · have := Nat.div_lt_self (n := d.natAbs) (by omega) h
            omega
          · omega
        rw [hg1, Nat.div_one, Nat.div_one] at hb
        exact ⟨by omega, by omega, by omega, by omega, hg1⟩
      · rw [if_neg hb] at h1; simp at h1

theorem rvalid_any (n d : Int) (w : World) (n0 : -9223372036854775808 ≤ n) (n1 : n ≤ 9223372036854775807) (d0 : -9223372036854775808 ≤ d) (d1 : d ≤ 9223372036854775807) :
    Calls Try.prog 36 #[.agg #[.int .i64 n, .int .i64 d]] w fun e w' => e = .returned (.bool (vB n d)) ∧ Below w.heap.size w w' := by
  by_cases hd : d < 1
  · have hv : vB n d = false := decide_eq_false (fun h => by have := h.1; omega)
    have HV := Lib.hid hv
    clear hv
    go_enter Try.func36, Try.ntmps36
    go_wp2
    go_ret
    exact ⟨ret_bool HV.out.symm, (Below.refl _ w).alloc (Nat.le_refl _) _⟩
  · have HV := Lib.hid (vB_new n d (by omega))
    have e1 := fun a b c d W => feq_walk a b c d W
    have hd1 : decide (d < 1) = false := decide_eq_false hd
    have hd2 : 1 ≤ d := by omega
    clear hd
    go_enter Try.func36, Try.ntmps36
    go_wp2_with fail
    refine (rnew_any n d _ n0 n1 d0 d1).mono ?_
    rintro e w1 ⟨rfl, hB⟩
    unfold RV
    generalize newR n d = r at HV
    obtain ⟨r1, r2, r3⟩ := r
    simp only [] at HV ⊢
    have hz : w.heap.size < w1.heap.size := by have := hB.size; simp at this; omega
    have hc := hB.cell (p := ⟨w.heap.size, 0, none⟩) (by simp)
    have hc2 := hB.cell (p := ⟨w.heap.size, 1, none⟩) (by simp)
    simp at hc hc2
    have hB2 := ((Below.refl _ w).alloc (Nat.le_refl _) _).trans (hB.mono (by simp))
    by_cases hr : r3 = 0
    · have hr' : (r3 == 0) = true := by simpa using hr
      go_wp2
      go_ret
      exact ⟨ret_bool (by rw [HV.out, hr']; simp), hB2.alloc (by omega) _⟩
    · have hr' : (r3 == 0) = false := by simpa using hr
      go_wp2
      go_ret
      exact ⟨ret_bool (by rw [HV.out, hr']; rfl), hB2.alloc (by omega) _⟩

end Go.Proofs.Yteppamchbgnlfaa
