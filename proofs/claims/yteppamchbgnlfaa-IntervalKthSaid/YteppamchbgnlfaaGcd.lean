/- The reference's greatest common divisor of two numbers below 2^256. Conditions: one of them is not 0. -/
import Derived.Test.YteppamchbgnlfaaNat2
import Derived.Laws.StructEq
import Derived.KernelRfl
import Derived.Deep.LoopGhost
namespace Go.Proofs.Yteppamchbgnlfaa
open Go.RowKit
set_option maxRecDepth 100000 in
set_option maxHeartbeats 1000000 in
theorem neq_walk (a0 a1 a2 a3 a4 a5 a6 a7 b0 b1 b2 b3 b4 b5 b6 b7 : Int) (w : World) : (Op.equalIn 10000 66 (.agg #[.int .u64 a0, .int .u64 a1, .int .u64 a2, .int .u64 a3, .int .u64 a4, .int .u64 a5, .int .u64 a6, .int .u64 a7]) (.agg #[.int .u64 b0, .int .u64 b1, .int .u64 b2, .int .u64 b3, .int .u64 b4, .int .u64 b5, .int .u64 b6, .int .u64 b7])).run Try.prog w
    = .ok (a0 == b0 && (a1 == b1 && (a2 == b2 && (a3 == b3 && (a4 == b4 && (a5 == b5 && (a6 == b6 && a7 == b7))))))) w := by
  have tu := Try.underlying41
  have ta := Try.isAgg41
  have tz := Try.sizeOf41
  rw [show (10000 : Nat) = 9999 + 1 from rfl, Op.equalIn]
  simp only [Sem.run_bind, run_underlying Try.underlying66, Result.andThen_ok]
  simp only [Std.Legacy.Range.forIn_eq_forIn_range', Std.Legacy.Range.size, Nat.sub_zero, Nat.add_sub_cancel, Nat.div_one, List.range'_succ, List.range'_zero, List.forIn_cons, List.forIn_nil]
  go_simp
  by_cases h0 : a0 = b0
  · by_cases h1 : a1 = b1
    · by_cases h2 : a2 = b2
      · by_cases h3 : a3 = b3
        · by_cases h4 : a4 = b4
          · by_cases h5 : a5 = b5
            · by_cases h6 : a6 = b6
              · by_cases h7 : a7 = b7 <;> simp [*]
              · simp [*]
            · simp [*]
          · simp [*]
        · simp [*]
      · simp [*]
    · simp [*]
  · simp [*]

theorem neq_nv (a b : Nat) (ha : a < W8) (hb : b < W8) (w : World) : (Op.equalIn 10000 66 (NV a) (NV b)).run Try.prog w = .ok (decide (a = b)) w := by
  unfold NV
  rw [neq_walk]
  congr 1
  by_cases h : a = b
  · subst h; simp
  · have h' : limbs a ≠ limbs b := fun e => h (limbs_inj ha hb e)
    rw [decide_eq_false h]
    simp only [Bool.and_eq_false_iff, beq_eq_false_iff_ne, ne_eq]
    simp only [limbs, ne_eq, List.cons.injEq, and_true] at h'
    omega

/-- The blocks of a call of gcd. -/
def GS (w W : World) (z a b : Nat) : Prop :=
  NB W w.heap.size (limbs a) ∧ NB W (w.heap.size + 1) (limbs b) ∧ NB W (w.heap.size + 1 + 1) (limbs 0) ∧ NB W z (limbs 0) ∧ w.heap.size + 1 + 1 < z ∧ z < W.heap.size ∧ Below w.heap.size w W
section
variable {w W W' : World} {z a b : Nat}
theorem GS.call (h : GS w W z a b) (hb : Below W.heap.size W W') : GS w W' z a b := by
  obtain ⟨h1, h2, h3, h4, h5, h6, h7⟩ := h
  exact ⟨h1.below hb (by omega), h2.below hb (by omega), h3.below hb (by omega), h4.below hb h6, h5, Nat.lt_of_lt_of_le h6 hb.size, h7.trans (hb.mono h7.size)⟩
theorem size_set8 (w : World) (g n : Nat) : (set8 w g n).heap.size = w.heap.size := by unfold set8; simp
theorem GS.setA (h : GS w W z a b) (n : Nat) : GS w (set8 W w.heap.size n) z n b := by
  obtain ⟨h1, h2, h3, h4, h5, h6, h7⟩ := h
  exact ⟨h1.store8 n, h2.far8 (by omega) n, h3.far8 (by omega) n, h4.far8 (by omega) n, h5, by rw [size_set8]; exact h6, below_set8 h7 (Nat.le_refl _) n⟩
theorem GS.setB (h : GS w W z a b) (n : Nat) : GS w (set8 W (w.heap.size + 1) n) z a n := by
  obtain ⟨h1, h2, h3, h4, h5, h6, h7⟩ := h
  exact ⟨h1.far8 (by omega) n, h2.store8 n, h3.far8 (by omega) n, h4.far8 (by omega) n, h5, by rw [size_set8]; exact h6, below_set8 h7 (by omega) n⟩
end

theorem half_step {k g : Nat} (h : g % 2 = 0) : 2 ^ (k + 1) * (g / 2) = 2 ^ k * g := by
  rw [Nat.pow_succ, Nat.mul_assoc]
  congr 1
  omega
theorem twos_lt {k g a : Nat} (h : 2 ^ k * g = a) (hg : 0 < g) (ha : a < W8) : k < 256 := by
  rcases Nat.lt_or_ge k 256 with hk | hk
  · exact hk
  · have h1 : 2 ^ 256 ≤ 2 ^ k := Nat.pow_le_pow_right (by omega) hk
    have h2 : 2 ^ k ≤ 2 ^ k * g := Nat.le_mul_of_pos_right _ hg
    have h3 : W8 = 2 ^ 256 := by decide
    omega

theorem two_step {i G : Nat} : 2 ^ (i + 1) * G = 2 ^ i * G + 2 ^ i * G := by rw [Nat.pow_succ, Nat.mul_assoc, Nat.mul_comm 2 G, ← Nat.mul_assoc]; omega
theorem gcd_bound {k i G a b : Nat} (h : 2 ^ k * G = Nat.gcd a b) (hi : i < k) (ha : a < W8) (ha0 : 0 < a) : 2 ^ i * G + 2 ^ i * G < W8 := by
  have h1 : 2 ^ (i + 1) * G ≤ 2 ^ k * G := Nat.mul_le_mul_right _ (Nat.pow_le_pow_right (by omega) hi)
  have h2 : Nat.gcd a b ≤ a := Nat.gcd_le_left _ ha0
  have h3 := two_step (i := i) (G := G)
  omega

set_option maxRecDepth 100000 in
set_option maxHeartbeats 4000000 in
theorem ngcd_pos (a b : Nat) (w : World) (ha : a < W8) (hb : b < W8) (ha0 : 0 < a) (hb0 : 0 < b) :
    Calls Try.prog 87 #[NV a, NV b] w fun e w' => e = .returned (NV (Nat.gcd a b)) ∧ Below w.heap.size w w' := by
  have Ha := Lib.hid ha
  have Hb := Lib.hid hb
  have e1 := fun W => neq_nv a 0 ha (by decide) W
  have e2 := fun W => neq_nv b 0 hb (by decide) W
  rw [decide_eq_false (by omega)] at e1 e2
  clear ha hb
  unfold NV at e1 e2 ⊢
  go_enter Try.func87, Try.ntmps87
  go_wp2_with fail
  refine (nfrom_any 0 _ (by omega)).mono ?_
  rintro e w1 ⟨rfl, hB1⟩
  unfold NV
  have hs1 : w.heap.size + 1 + 1 + 1 ≤ w1.heap.size := by have := hB1.size; simpa using this
  have hz0 : w.heap.size < w1.heap.size := by omega
  have hz1 : w.heap.size + 1 < w1.heap.size := by omega
  have hz2 : w.heap.size + 1 + 1 < w1.heap.size := by omega
  have hca : NB w1 w.heap.size (limbs a) := ((((NB.new w a).alloc _).alloc _)).below hB1 (by simp; omega)
  have hcb : NB w1 (w.heap.size + 1) (limbs b) := by
    have := ((NB.new (w.alloc (.cells (nats (limbs a)).toArray 66)) b).alloc (.cells (nats (limbs 0)).toArray 66))
    rw [World.size_alloc] at this
    exact this.below hB1 (by simp)
  have hcr : NB w1 (w.heap.size + 1 + 1) (limbs 0) := by
    have := (NB.new ((w.alloc (.cells (nats (limbs a)).toArray 66)).alloc (.cells (nats (limbs b)).toArray 66)) 0)
    rw [World.size_alloc, World.size_alloc] at this
    exact this.below hB1 (by simp)
  have hB2 : Below w.heap.size w w1 := ((((Below.refl _ w).alloc (Nat.le_refl _) _).alloc (by simp) _).alloc (by simp; omega) _).trans (hB1.mono (by simp; omega))
  obtain ⟨c0, c1, c2, c3, c4, c5, c6, c7⟩ := hca.cells
  obtain ⟨d0, d1, d2, d3, d4, d5, d6, d7⟩ := hcb.cells
  have HA := Lib.hid hca
  have HB := Lib.hid hcb
  have HR := Lib.hid hcr
  clear hca hcb hcr
  go_wp2_with fail
  go_loopg [6] a (fun g t wr => ∃ b' k : Nat, 0 < g ∧ 0 < b' ∧ g < W8 ∧ b' < W8 ∧ GS w wr w1.heap.size g b' ∧ t = .int .i64 k ∧ k < 256 ∧ 2 ^ k * g = a ∧ 2 ^ k * Nat.gcd g b' = Nat.gcd a b)
  case atStart =>
    refine ⟨b, 0, ha0, hb0, Ha.out, Hb.out, ⟨HA.out.alloc _, HB.out.alloc _, HR.out.alloc _, NB.new w1 0, hz2, by simp, hB2.alloc (by omega) _⟩, rfl, by omega, by omega, by omega⟩
  case round =>
    obtain ⟨b', k, ha1, hb1, ha2, hb2, hG, rfl, hk, hka, hkg⟩ := hrel
    have HG := Lib.hid hG
    obtain ⟨a0, a1, a2, a3, a4, a5, a6, a7⟩ := hG.1.cells
    obtain ⟨b0, b1, b2, b3, b4, b5, b6, b7⟩ := hG.2.1.cells
    have hfa := hG.1.frozen
    have hfb := hG.2.1.frozen
    have HKA := Lib.hid hka
    have HKG := Lib.hid hkg
    have HA2 := Lib.hid ha2
    have HB2 := Lib.hid hb2
    clear hG hka hkg ha2 hb2 c0 c1 c2 c3 c4 c5 c6 c7 d0 d1 d2 d3 d4 d5 d6 d7 e1 e2
    have hea := lim_even gk
    have heb := lim_even b'
    by_cases hboth : gk % 2 = 0 ∧ b' % 2 = 0
    · obtain ⟨h1, h2⟩ := hboth
      have H1 := Lib.hid h1
      have H2 := Lib.hid h2
      have he1 : ((lim gk 0 : Nat) : Int) % 2 = 0 := by omega
      have he2 : ((lim b' 0 : Nat) : Int) % 2 = 0 := by omega
      clear h1 h2 hea heb
      go_wp2_with fail
      refine (nhalf_any gk _ HA2.out).mono ?_
      rintro e W1 ⟨rfl, hB⟩
      unfold NV
      have hG := HG.out.call hB
      obtain ⟨a0, a1, a2, a3, a4, a5, a6, a7⟩ := hG.1.cells
      obtain ⟨b0, b1, b2, b3, b4, b5, b6, b7⟩ := hG.2.1.cells
      have hfa := hG.1.frozen
      clear hB
      go_wp2_with fail
      refine (nhalf_any b' _ HB2.out).mono ?_
      rintro e W2 ⟨rfl, hB⟩
      unfold NV
      have hG2 := (hG.setA (gk / 2)).call hB
      have hfa2 := hG2.2.1.frozen
      obtain ⟨b0, b1, b2, b3, b4, b5, b6, b7⟩ := hG2.2.1.cells
      have HG2 := Lib.hid (hG2.setB (b' / 2))
      clear hG hG2 hB a0 a1 a2 a3 a4 a5 a6 a7 hfa hfb
      go_wp2
      go_roundg (gk / 2)
      case measure => omega
      case rel =>
        refine ⟨b' / 2, k + 1, by have := H1.out; omega, by have := H2.out; omega, by have := HA2.out; omega, by have := HB2.out; omega, HG2.out, by go_num, ?_, ?_, ?_⟩
        · exact twos_lt (by rw [half_step H1.out]; exact HKA.out) (by have := H1.out; omega) Ha.out
        · rw [half_step H1.out]; exact HKA.out
        · rw [Nat.pow_succ, Nat.mul_assoc, ← gcd_both H1.out H2.out]; exact HKG.out
    · have hodd : gk % 2 = 1 ∨ (gk % 2 = 0 ∧ b' % 2 = 1) := by omega
      have HO := Lib.hid (show gk % 2 = 1 ∨ b' % 2 = 1 by omega)
      clear hboth
      obtain ⟨G, hGG⟩ : ∃ G, Nat.gcd gk b' = G := ⟨_, rfl⟩
      have HGG := Lib.hid hGG
      obtain ⟨g0, rfl⟩ : ∃ g0 : Nat, g0 = gk := ⟨_, rfl⟩
      obtain ⟨wo, rfl⟩ : ∃ wo : World, wo = wr := ⟨_, rfl⟩
      clear hGG
      have hway : (((lim g0 0 : Nat) : Int) % 2 = 1) ∨ (((lim g0 0 : Nat) : Int) % 2 = 0 ∧ ((lim b' 0 : Nat) : Int) % 2 = 1) := by omega
      clear hodd hea heb
      rcases hway with he1 | ⟨he1, he2⟩
      all_goals
        go_wp2
        go_loopg [] (g0 + b') (fun s wr => ∃ a2 b2 : Nat, a2 + b2 = s ∧ 0 < a2 ∧ a2 < W8 ∧ b2 < W8 ∧ (a2 % 2 = 1 ∨ b2 % 2 = 1) ∧ GS w wr w1.heap.size a2 b2 ∧ Nat.gcd a2 b2 = G)
        case atStart => exact ⟨g0, b', rfl, ha1, HA2.out, HB2.out, HO.out, HG.out, HGG.out⟩
        case round =>
          clear a0 a1 a2 a3 a4 a5 a6 a7 b0 b1 b2 b3 b4 b5 b6 b7 hfa hfb he1
          try clear he2
          obtain ⟨p, q, hpq, hp0, hp8, hq8, hpo, hG, hgc⟩ := hrel
          have HG := Lib.hid hG
          have HPQ := Lib.hid hpq
          have HP8 := Lib.hid hp8
          have HQ8 := Lib.hid hq8
          have HPO := Lib.hid hpo
          have HGC := Lib.hid hgc
          have e2 := fun W => neq_nv q 0 hq8 (by decide) W
          obtain ⟨b0, b1, b2, b3, b4, b5, b6, b7⟩ := hG.2.1.cells
          obtain ⟨z0, z1, z2, z3, z4, z5, z6, z7⟩ := hG.2.2.2.1.cells
          clear hG hpq hp8 hq8 hpo hgc
          by_cases hq0 : q = 0
          · rw [decide_eq_true hq0] at e2
            have HQ0 := Lib.hid hq0
            clear hq0
            unfold NV at e2
            have hG := HG.out
            have hgG : p = G := by have := HGC.out; rw [HQ0.out, Nat.gcd_zero_right] at this; exact this
            have HGP := Lib.hid hgG
            clear b0 b1 b2 b3 b4 b5 b6 b7 hG hgG
            obtain ⟨b0, b1, b2, b3, b4, b5, b6, b7⟩ := HG.out.2.1.cells
            go_wp2
            clear b0 b1 b2 b3 b4 b5 b6 b7 z0 z1 z2 z3 z4 z5 z6 z7 e2
            go_loopw [7] (fun t wr => ∃ i : Nat, i ≤ k ∧ t = .int .i64 i ∧ GS w wr w1.heap.size (2 ^ i * G) q) (fun t _ => k - (intOf t).toNat)
            case atStart => exact ⟨0, by omega, rfl, by rw [Nat.pow_zero, Nat.one_mul, ← HGP.out]; exact HG.out⟩
            case round =>
              obtain ⟨i, hi, rfl, hG⟩ := hrel
              have HG3 := Lib.hid hG
              obtain ⟨a0, a1, a2, a3, a4, a5, a6, a7⟩ := hG.1.cells
              have hfa := hG.1.frozen
              by_cases hlt : i < k
              · have hbd := gcd_bound (G := G) (b := b) (by have h := HKG.out; rw [HGG.out] at h; exact h) hlt Ha.out ha0
                obtain ⟨x, hx⟩ : ∃ x, 2 ^ i * G = x := ⟨_, rfl⟩
                rw [hx] at a0 a1 a2 a3 a4 a5 a6 a7 hbd
                have HX := Lib.hid hx
                have HBD := Lib.hid hbd
                clear hG hbd hx
                go_wp2_with fail
                refine (nplus_any x x _ (by have := HBD.out; omega) (by have := HBD.out; omega) (by have := HBD.out; omega)).mono ?_
                rintro e W1 ⟨rfl, hB⟩
                unfold NV
                have hG2 := HG3.out.call hB
                obtain ⟨a0, a1, a2, a3, a4, a5, a6, a7⟩ := hG2.1.cells
                have hfa := hG2.1.frozen
                have HG4 := Lib.hid (hG2.setA (x + x))
                clear hG2 hB
                go_wp2
                go_roundw
                case rel => exact ⟨i + 1, by omega, by go_num, by rw [two_step, HX.out]; exact HG4.out⟩
                case measure => simp [intOf]; omega
              · obtain rfl : i = k := by omega
                have hr := hG.2.2.1.cells
                obtain ⟨r0, r1, r2, r3, r4, r5, r6, r7⟩ := hr
                have hfr := hG.2.2.1.frozen
                have hg2 : 2 ^ i * G = Nat.gcd a b := by rw [← HGG.out]; exact HKG.out
                have HG5 := Lib.hid hg2
                clear hG hg2
                go_wp2
                have hG := HG3.out
                refine ret_nat (p := 4) (by kernel_rfl) rfl (hG.2.2.1.store8 (2 ^ i * G)) ⟨?_, below_set8 hG.2.2.2.2.2.2 (by omega) _⟩
                rw [HG5.out]; rfl
          · rw [decide_eq_false hq0] at e2
            unfold NV at e2
            have hq1 : 0 < q := by omega
            clear hq0
            go_wp2
            go_loopg [] p (fun g wr => 0 < g ∧ g ≤ p ∧ (g % 2 = 1 ∨ q % 2 = 1) ∧ GS w wr w1.heap.size g q ∧ Nat.gcd g q = G)
            case atStart => exact ⟨hp0, Nat.le_refl _, HPO.out, HG.out, HGC.out⟩
            case round =>
              clear b0 b1 b2 b3 b4 b5 b6 b7 z0 z1 z2 z3 z4 z5 z6 z7
              obtain ⟨hg0, hgp, hgo, hG, hgc⟩ := hrel
              obtain ⟨g1, rfl⟩ : ∃ g1 : Nat, g1 = gk := ⟨_, rfl⟩
              have HG := Lib.hid hG
              have HGO := Lib.hid hgo
              have HGC := Lib.hid hgc
              obtain ⟨a0, a1, a2, a3, a4, a5, a6, a7⟩ := hG.1.cells
              have hfa := hG.1.frozen
              have hea := lim_even g1
              clear hG hgo hgc
              by_cases hev : g1 % 2 = 0
              · have HEV := Lib.hid hev
                have he : ((lim g1 0 : Nat) : Int) % 2 = 0 := by omega
                clear hev hea
                go_wp2_with fail
                refine (nhalf_any g1 _ (by have := HP8.out; omega)).mono ?_
                rintro e W1 ⟨rfl, hB⟩
                unfold NV
                have hG2 := HG.out.call hB
                obtain ⟨a0, a1, a2, a3, a4, a5, a6, a7⟩ := hG2.1.cells
                have hfa := hG2.1.frozen
                have HG4 := Lib.hid (hG2.setA (g1 / 2))
                clear hG2 hB
                go_wp2
                go_roundg (g1 / 2)
                case measure => omega
                case rel =>
                  have hq2 : q % 2 = 1 := by have := HGO.out; have := HEV.out; omega
                  exact ⟨by have := HEV.out; omega, by omega, .inr hq2, HG4.out, by rw [gcd_half_left HEV.out hq2]; exact HGC.out⟩
              · have HOD := Lib.hid (show g1 % 2 = 1 by omega)
                have he : ((lim g1 0 : Nat) : Int) % 2 = 1 := by omega
                clear hev hea
                go_wp2
                clear a0 a1 a2 a3 a4 a5 a6 a7 hfa he
                go_loopg [] q (fun h wr => 0 < h ∧ h ≤ q ∧ GS w wr w1.heap.size g1 h ∧ Nat.gcd g1 h = G)
                case atStart => exact ⟨hq1, Nat.le_refl _, HG.out, HGC.out⟩
                case round =>
                  obtain ⟨hh0, hhq, hG, hgc⟩ := hrel
                  have HG := Lib.hid hG
                  have HGC := Lib.hid hgc
                  obtain ⟨b0, b1, b2, b3, b4, b5, b6, b7⟩ := hG.2.1.cells
                  have hfb := hG.2.1.frozen
                  have heb := lim_even gk
                  obtain ⟨a0, a1, a2, a3, a4, a5, a6, a7⟩ := hG.1.cells
                  have hfa := hG.1.frozen
                  clear hG hgc
                  by_cases hev : gk % 2 = 0
                  · have HEV := Lib.hid hev
                    have he : ((lim gk 0 : Nat) : Int) % 2 = 0 := by omega
                    clear hev heb
                    go_wp2_with fail
                    refine (nhalf_any gk _ (by have := HQ8.out; omega)).mono ?_
                    rintro e W1 ⟨rfl, hB⟩
                    unfold NV
                    have hG2 := HG.out.call hB
                    obtain ⟨b0, b1, b2, b3, b4, b5, b6, b7⟩ := hG2.2.1.cells
                    have hfb := hG2.2.1.frozen
                    have HG4 := Lib.hid (hG2.setB (gk / 2))
                    clear hG2 hB
                    go_wp2
                    go_roundg (gk / 2)
                    case measure => omega
                    case rel => exact ⟨by have := HEV.out; omega, by omega, HG4.out, by rw [gcd_half_right HOD.out HEV.out]; exact HGC.out⟩
                  · have HOD2 := Lib.hid (show gk % 2 = 1 by omega)
                    have he : ((lim gk 0 : Nat) : Int) % 2 = 1 := by omega
                    clear hev heb
                    go_wp2_with fail
                    refine (nless_any g1 gk _ (by have := HP8.out; omega) (by have := HQ8.out; omega)).mono ?_
                    rintro e W1 ⟨rfl, hB⟩
                    have hG2 := HG.out.call hB
                    have HG2 := Lib.hid hG2
                    obtain ⟨a0, a1, a2, a3, a4, a5, a6, a7⟩ := hG2.1.cells
                    have hfa := hG2.1.frozen
                    obtain ⟨b0, b1, b2, b3, b4, b5, b6, b7⟩ := hG2.2.1.cells
                    have hfb := hG2.2.1.frozen
                    clear hG2 hB
                    by_cases hle : g1 ≤ gk
                    · have hc := cmpN_le.2 hle
                      generalize cmpN g1 gk = c at hc
                      go_wp2_with fail
                      refine (nminus_any gk g1 _ (by have := HQ8.out; omega) (by have := HP8.out; omega) hle).mono ?_
                      rintro e W2 ⟨rfl, hB⟩
                      unfold NV
                      have hG3 := HG2.out.call hB
                      have HG4 := Lib.hid (hG3.setB (gk - g1))
                      obtain ⟨b0, b1, b2, b3, b4, b5, b6, b7⟩ := hG3.2.1.cells
                      have hfb := hG3.2.1.frozen
                      clear hG3 hB a0 a1 a2 a3 a4 a5 a6 a7 hfa
                      go_wp2
                      go_roundg gk
                      case measure => have := HPQ.out; omega
                      case rel => exact ⟨g1, gk - g1, by omega, hg0, by have := HP8.out; omega, by have := HQ8.out; omega, .inl HOD.out, HG4.out, by rw [gcd_minus hle]; exact HGC.out⟩
                    · have hc := cmpN_gt (a := g1) (b := gk) (by omega)
                      rw [hc]
                      clear hc
                      go_wp2_with fail
                      refine (nminus_any g1 gk _ (by have := HP8.out; omega) (by have := HQ8.out; omega) (by omega)).mono ?_
                      rintro e W2 ⟨rfl, hB⟩
                      unfold NV
                      have hG3 := ((HG2.out.setA gk).setB g1).call hB
                      have HG4 := Lib.hid (hG3.setB (g1 - gk))
                      obtain ⟨b0, b1, b2, b3, b4, b5, b6, b7⟩ := hG3.2.1.cells
                      have hfb := hG3.2.1.frozen
                      clear hG3 hB a0 a1 a2 a3 a4 a5 a6 a7 hfa
                      go_wp2
                      go_roundg g1
                      case measure => have := HPQ.out; omega
                      case rel => exact ⟨gk, g1 - gk, by omega, hh0, by have := HQ8.out; omega, by have := HP8.out; omega, .inl HOD2.out, HG4.out, by rw [gcd_minus (by omega), Nat.gcd_comm]; exact HGC.out⟩

end Go.Proofs.Yteppamchbgnlfaa
