/- The reference's small fractions: Around and Middle. Conditions: numbers of 64 bits. -/
import Derived.Test.YtegodbbocbkomaaDoorLawNew
namespace Go.Proofs.YtegodbbocbkomaaDoor
open Go.RowKit

def aroundI (n most : Int) : Int := (if n < 0 then -(n + 1) else n) % most
theorem aroundI_lo (n most : Int) (h : 1 ≤ most) : 0 ≤ aroundI n most := Int.emod_nonneg _ (by omega)
theorem aroundI_hi (n most : Int) (h : 1 ≤ most) : aroundI n most < most := Int.emod_lt_of_pos _ (by omega)

theorem around_any (n most : Int) (w : World) (h1 : -9223372036854775808 ≤ n) (h2 : n ≤ 9223372036854775807) (h3 : 1 ≤ most) (h4 : most ≤ 9223372036854775807) :
    Calls Tryd.prog 64 #[.int .i64 n, .int .i64 most] w fun e w' => e = .returned (.int .i64 (aroundI n most)) ∧ w = w' := by
  by_cases hn : n < 0
  · have ha : aroundI n most = (-(n + 1)) % most := by unfold aroundI; rw [if_pos hn]
    have Ha := Lib.hid ha
    clear ha
    go_enter Tryd.func64, Tryd.ntmps64
    go_wp2
    go_ret
    exact ⟨ret_int (by rw [Ha.out, ← Int.neg_tmod, Int.tmod_eq_emod_of_nonneg (by omega)]), rfl⟩
  · have ha : aroundI n most = n % most := by unfold aroundI; rw [if_neg hn]
    have Ha := Lib.hid ha
    clear ha
    go_enter Tryd.func64, Tryd.ntmps64
    go_wp2
    go_ret
    exact ⟨ret_int Ha.out.symm, rfl⟩

/-- A positive denominator within the bounds: New's result, and by what it was shortened. -/
theorem new_small {n d : Int} (hd : 0 < d) (hd1 : d ≤ 4611686018427387904) (hn : n.natAbs ≤ 4611686018427387904) :
    ∃ r1 r2 k : Int, newR n d = (r1, r2, 0) ∧ vP r1 r2 ∧ 0 < k ∧ n = r1 * k ∧ d = r2 * k ∧ r1.natAbs ≤ n.natAbs ∧ r2 ≤ d := by
  have hg : 0 < Nat.gcd n.natAbs d.natAbs := Nat.gcd_pos_of_pos_right _ (by omega)
  have e1 : n.natAbs / Nat.gcd n.natAbs d.natAbs * Nat.gcd n.natAbs d.natAbs = n.natAbs := Nat.div_mul_cancel (Nat.gcd_dvd_left _ _)
  have e2 : d.natAbs / Nat.gcd n.natAbs d.natAbs * Nat.gcd n.natAbs d.natAbs = d.natAbs := Nat.div_mul_cancel (Nat.gcd_dvd_right _ _)
  have l1 : n.natAbs / Nat.gcd n.natAbs d.natAbs ≤ n.natAbs := Nat.div_le_self _ _
  have l2 : d.natAbs / Nat.gcd n.natAbs d.natAbs ≤ d.natAbs := Nat.div_le_self _ _
  have hdf : decide (d < 0) = false := decide_eq_false (by omega)
  obtain ⟨x, hx⟩ : ∃ x, n.natAbs / Nat.gcd n.natAbs d.natAbs = x := ⟨_, rfl⟩
  obtain ⟨y, hy⟩ : ∃ y, d.natAbs / Nat.gcd n.natAbs d.natAbs = y := ⟨_, rfl⟩
  have hr : newR n d = ((if (decide (n < 0) != decide (d < 0)) then -(x : Int) else (x : Int)), (y : Int), 0) := by
    unfold newR lowR
    rw [if_neg (by omega), if_neg (by omega), hx, hy, if_pos (by omega)]
  have hv := newR_good hr
  refine ⟨_, _, ((Nat.gcd n.natAbs d.natAbs : Nat) : Int), hr, hv, by omega, ?_, ?_, ?_, by omega⟩
  · rw [hx] at e1
    have e3 : (x : Int) * ((Nat.gcd n.natAbs d.natAbs : Nat) : Int) = (n.natAbs : Int) := by rw [← Int.natCast_mul, e1]
    rw [hdf]
    rcases Int.lt_or_le n 0 with s | s
    · rw [decide_eq_true s]; simp only [Bool.true_bne, Bool.not_false, if_true]; rw [Int.neg_mul, e3]; omega
    · rw [decide_eq_false (by omega : ¬ n < 0)]; simp only [bne_self_eq_false, Bool.false_eq_true, if_false]; rw [e3]; omega
  · rw [hy] at e2
    have e3 : (y : Int) * ((Nat.gcd n.natAbs d.natAbs : Nat) : Int) = (d.natAbs : Int) := by rw [← Int.natCast_mul, e2]
    rw [e3]; omega
  · split <;> omega

theorem ret_one {fn : Func} {p : Tmp} (hr : fn.results = #[.cell p 23]) {tmps : Array Value} {w : World} {g : Nat} {n d : Int} {R : Ending → World → Prop}
    (hp : tmps.getD p undef = .pointer (some ⟨g, 0, none⟩)) (h : Blk w g 23 #[.int .i64 n, .int .i64 d]) (hR : R (.returned (.agg #[.int .i64 n, .int .i64 d])) w) :
    bodyPost Tryd.prog fn R .ret { tmps := tmps, defers := [] } w := by
  refine bodyPost_ret (v := .agg #[.int .i64 n, .int .i64 d]) ?_ rfl hR
  have hp' : tmps[p]?.getD undef = .pointer (some ⟨g, 0, none⟩) := by simpa using hp
  have hl := run_loadVar_row (P := Tryd.prog) w g 23 23 _ (0, 0) _ h Tryd.underlying23 rfl (by kernel_rfl)
  simp [results, hr, hp', asAddr, hl]

set_option maxRecDepth 100000 in
set_option maxHeartbeats 4000000 in
theorem middle_any (n : Int) (w : World) (h1 : -9223372036854775808 ≤ n) (h2 : n ≤ 9223372036854775807) :
    Calls Tryd.prog 33 #[.int .i64 n] w fun e w' => (∃ r1 r2 : Int, e = .returned (.agg #[.int .i64 r1, .int .i64 r2]) ∧ vP r1 r2 ∧ r1.natAbs ≤ 500 ∧ r2 ≤ 500) ∧ Below w.heap.size w w' := by
  have AR := fun W => around_any n 1000000007 W h1 h2 (by decide) (by decide)
  have k0 := aroundI_lo n 1000000007 (by decide)
  have k1 := aroundI_hi n 1000000007 (by decide)
  generalize aroundI n 1000000007 = k at AR k0 k1
  obtain ⟨u, hu⟩ : ∃ u, k % 1001 - 500 = u := ⟨_, rfl⟩
  obtain ⟨v, hv⟩ : ∃ v, 1 + k / 1001 % 500 = v := ⟨_, rfl⟩
  have u0 : -500 ≤ u := by omega
  have u1 : u ≤ 500 := by omega
  have v0 : 1 ≤ v := by omega
  have v1 : v ≤ 500 := by omega
  obtain ⟨r1, r2, g, hr, hvr, -, -, -, b1, b2⟩ := new_small (n := u) (d := v) (by omega) (by omega) (by omega)
  have NW := fun W => rnew_any u v W (by omega) (by omega) (by omega) (by omega)
  rw [hr] at NW
  unfold RV at NW
  simp only at NW
  have t1 : k.tmod 1001 = k % 1001 := Int.tmod_eq_emod_of_nonneg k0
  have t2 : k.tdiv 1001 = k / 1001 := Int.tdiv_eq_ediv_of_nonneg k0
  have t3 : (k / 1001).tmod 500 = k / 1001 % 500 := Int.tmod_eq_emod_of_nonneg (by omega)
  have AR := Lib.hid AR
  have NW := Lib.hid NW
  have hst := C1.start w
  have B1 : r1.natAbs ≤ 500 := by omega
  have B2 : r2 ≤ 500 := by omega
  have HR := Lib.hid (And.intro hvr (And.intro B1 B2))
  have HU := Lib.hid hu
  have HV := Lib.hid hv
  clear hr hvr b1 b2 h1 h2 B1 B2 hu hv
  go_enter Tryd.func33, Tryd.ntmps33
  go_wp2_with fail
  refine (AR.out _).mono ?_
  rintro e w1 ⟨rfl, rfl⟩
  go_wp2_with fail
  rw [HU.out, HV.out]
  refine (NW.out _).mono ?_
  rintro e w1 ⟨rfl, hB⟩
  have h1 := hst.call hB
  obtain ⟨c0, c1, c2, c3⟩ := h1.cells
  have H1 := Lib.hid h1
  have hz := h1.2.2
  clear h1 hB hst
  go_wp2
  exact ret_one (p := 2) (by kernel_rfl) rfl (H1.out.putal r1 r2 _).1 ⟨⟨r1, r2, rfl, HR.out.1, HR.out.2.1, HR.out.2.2⟩, (H1.out.putal r1 r2 _).2⟩
end Go.Proofs.YtegodbbocbkomaaDoor
