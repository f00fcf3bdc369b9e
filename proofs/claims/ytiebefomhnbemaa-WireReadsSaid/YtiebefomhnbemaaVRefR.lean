/- Contracts of the reference's reader: Back, End, Uint, Int. Conditions: at most a million bytes. -/
import Derived.Test.YtiebefomhnbemaaVRef
namespace Go.Proofs.Ytiebefomhnbemaa
open Go.RowKit
variable {lo : Nat}

/-- The reference's reader at block b, in a state. -/
def RR (lo : Nat) (W : World) (b : Nat) (s : St) : Prop :=
  ∃ sv, W.heap[b]? = some (.cells #[sv, .int .i64 (s.e : Int)] 47 (0, 0)) ∧ (∃ a l c, sv = .slice a l c) ∧ (s.e = 0 → SAt (fun k => k < lo ∧ k < b) W sv s.bs)
theorem RR.kp {P : Nat → Prop} {A B : World} {b : Nat} {s : St} (h : RR lo A b s) (hk : Kp P A B) (hp : ∀ k, (k < lo ∧ k < b) ∨ k = b → P k) : RR lo B b s := by
  obtain ⟨sv, hh, hs, h1⟩ := h
  exact ⟨sv, (hk.block b (heap_lt hh) (hp b (.inr rfl))).trans hh, hs, fun e => (h1 e).kp (hk.mono (fun k (h : k < lo ∧ k < b) => hp k (.inl h)))⟩
theorem RR.lt {W : World} {b : Nat} {s : St} (h : RR lo W b s) : b < W.heap.size := by
  obtain ⟨sv, hh, -⟩ := h
  exact heap_lt hh
theorem RR.below {A B : World} {b : Nat} {s : St} (h : RR lo A b s) (hB : Below A.heap.size A B) : RR lo B b s := h.kp (P := (· < A.heap.size)) (.of_base hB) (fun k h' => show k < A.heap.size by have := h.lt; omega)
theorem RR.drew {W : World} {b : Nat} {s : St} (h : RR lo W b s) : RR lo W.drew b s := h
theorem RR.left {W : World} {b : Nat} {s : St} (h : RR lo W b s) : ∃ a l c, W.heap[b]? = some (.cells #[.slice a l c, .int .i64 (s.e : Int)] 47 (0, 0)) ∧ (s.e = 0 → l = s.bs.length) := by
  obtain ⟨sv, hh, ⟨a, l, c, rfl⟩, h1⟩ := h
  refine ⟨a, l, c, hh, fun e => ?_⟩
  obtain ⟨a', c', e', -⟩ := h1 e
  simp only [Value.slice.injEq] at e'
  exact e'.2.1
/-- An error is recorded. -/
theorem rr_fail {w : World} {b : Nat} {x y : Value} {bs : List UInt8} (n : Nat) (hn : n ≠ 0) (hs : ∃ a l c, x = .slice a l c) (hh : w.heap[b]? = some (.cells #[x, y] 47 (0, 0))) : RR lo (w.setCell ⟨b, 1, none⟩ (.int .i64 (n : Int))) b ⟨bs, n⟩ ∧ Kp (· ≠ b) w (w.setCell ⟨b, 1, none⟩ (.int .i64 (n : Int))) :=
  ⟨⟨x, set_1 hh _, hs, fun e => absurd e hn⟩, kp_set _⟩
/-- A reader that has moved. -/
theorem rr_moved {w : World} {b : Nat} {sv v x : Value} {r : List UInt8} (hh : w.heap[b]? = some (.cells #[x, .int .i64 0] 47 (0, 0))) (hv : v = sv) (hS : SAt (fun k => k < lo ∧ k < b) w sv r) : RR lo (w.setCell ⟨b, 0, none⟩ v) b ⟨r, 0⟩ ∧ Kp (· ≠ b) w (w.setCell ⟨b, 0, none⟩ v) := by
  subst hv
  have hS0 := hS
  obtain ⟨a, c, e, -⟩ := hS0
  exact ⟨⟨_, set_0 hh _, ⟨a, _, c, e⟩, fun _ => hS.kp ((kp_set _).mono (fun k (h : k < lo ∧ k < b) => Nat.ne_of_lt h.2))⟩, kp_set _⟩
/-- What is left behind the first m bytes. -/
theorem sat_drop {P : Nat → Prop} {w : World} {g off c l m : Nat} {bs : List UInt8} (hm : m ≤ bs.length) (hl : l = bs.length - m) (hc : bs.length ≤ c) (hp : P g) (hg : g < w.heap.size) (hcs : ∀ j, j < bs.length → w.cell? ⟨g, off + j, none⟩ = some (.int .u8 (ofByte (bs[j]?.getD 0)))) : SAt P w (.slice (some ⟨g, off + m, none⟩) l (c - m)) (bs.drop m) := by
  subst hl
  refine ⟨_, c - m, by rw [List.length_drop], by rw [List.length_drop]; omega, (fun h => by cases h), fun _ => ⟨g, off + m, rfl, hp, hg, fun j hj => ?_⟩⟩
  rw [List.length_drop] at hj
  have := hcs (m + j) (by omega)
  rw [List.getElem?_drop, ← this]
  congr 2
  omega

theorem sat_end {P : Nat → Prop} {w : World} {a : Addr} {c l m : Nat} {bs : List UInt8} (hm : bs.length ≤ m) (hl : l = bs.length - m) : SAt P w (.slice (some a) l c) (bs.drop m) := by
  have hd : bs.drop m = [] := List.drop_eq_nil_of_le hm
  rw [hd]
  obtain rfl : l = 0 := by omega
  exact ⟨_, c, rfl, Nat.zero_le _, (fun h => by cases h), fun h => absurd rfl h⟩

set_option maxHeartbeats 1000000 in
theorem refback_any (z : Nat) (w : World) (h : z < 18446744073709551616) :
    Calls Try.prog 63 #[.int .u64 z] w fun e w' => e = .returned (.int .i64 (unzz z)) ∧ w = w' := by
  by_cases hz : z % 2 = 1
  · have hu : unzz z = -((z / 2 : Nat) : Int) - 1 := by unfold unzz; rw [if_pos hz]
    rw [hu]
    have hz1 : (z : Int) % 2 = 1 := by omega
    clear hu hz
    go_enter Try.func63, Try.ntmps63
    go_wp2
    go_ret
    exact ⟨rfl, rfl⟩
  · have hu : unzz z = ((z / 2 : Nat) : Int) := by unfold unzz; rw [if_neg hz]
    rw [hu]
    have hz1 : ¬ (z : Int) % 2 = 1 := by omega
    clear hu hz
    go_enter Try.func63, Try.ntmps63
    go_wp2
    go_ret
    exact ⟨rfl, rfl⟩

set_option maxHeartbeats 1000000 in
theorem rrend_any (b : Nat) (s : St) (w : World) (hr : RR lo w b s) :
    Calls Try.prog 25 #[.pointer (some ⟨b, 0, none⟩)] w fun e w' => e = .returned (.int .i64 (endE s : Int)) ∧ w = w' := by
  obtain ⟨a, l, c, hh, hl⟩ := hr.left
  have hc0 := cell_0 hh
  have hc1 := cell_1 hh
  clear hh hr
  obtain ⟨bs, e⟩ := s
  simp only at hc1 hl
  by_cases he : e = 0
  · subst he
    have hlen := hl rfl
    subst hlen
    by_cases hb : bs = []
    · subst hb
      have hE : endE ⟨[], 0⟩ = 0 := rfl
      rw [hE]
      clear hE hl
      go_enter Try.func25, Try.ntmps25
      go_wp2
      go_ret
      exact ⟨rfl, rfl⟩
    · have hE : endE ⟨bs, 0⟩ = 2 := by simp [endE, hb]
      have hp : (0 : Int) < (bs.length : Int) := by have := List.length_pos_iff.2 hb; omega
      rw [hE]
      clear hE hl hb
      go_enter Try.func25, Try.ntmps25
      go_wp2
      go_ret
      exact ⟨rfl, rfl⟩
  · have hE : endE ⟨bs, e⟩ = e := by simp [endE, he]
    have hne : ¬ (e : Int) = 0 := by omega
    rw [hE]
    clear hE hl he
    go_enter Try.func25, Try.ntmps25
    go_wp2
    go_ret
    exact ⟨rfl, rfl⟩

set_option maxRecDepth 100000 in
set_option maxHeartbeats 1000000 in
theorem rruint_err (b : Nat) (s : St) (w : World) (he : s.e ≠ 0) (hr : RR lo w b s) :
    Calls Try.prog 49 #[.pointer (some ⟨b, 0, none⟩)] w fun e w' => e = .returned (.int .u64 0) ∧ w = w' := by
  obtain ⟨a, l, c, hh, -⟩ := hr.left
  have hc1 := cell_1 hh
  have hne : ¬ (s.e : Int) = 0 := by omega
  clear hh hr he
  go_enter Try.func49, Try.ntmps49
  go_wp2
  go_loopw [3, 4, 5] (fun n un i wr => n = .int .u64 0 ∧ un = .int .u64 1 ∧ i = .int .i64 0 ∧ wr = w) (fun _ _ _ _ => 0)
  case atStart => exact ⟨rfl, rfl, rfl, rfl⟩
  case round =>
    obtain ⟨rfl, rfl, rfl, rfl⟩ := hrel
    go_wp2
    go_ret
    exact ⟨rfl, rfl⟩

theorem pow128 (k : Nat) (h : k ≤ 9) : 128 ^ k ≤ 9223372036854775808 := by
  have : (9223372036854775808 : Nat) = 128 ^ 9 := by decide
  rw [this]; exact Nat.pow_le_pow_right (by decide) h

set_option maxRecDepth 100000 in
set_option maxHeartbeats 4000000 in
theorem rruint_ok (b : Nat) (bs : List UInt8) (w : World) (hs : bs.length ≤ 1000000) (hr : RR lo w b ⟨bs, 0⟩) :
    Calls Try.prog 49 #[.pointer (some ⟨b, 0, none⟩)] w fun e w' => e = .returned (.int .u64 ((rdF 0 0 bs).1 : Int)) ∧ RR lo w' b ⟨(rdF 0 0 bs).2.1, (rdF 0 0 bs).2.2⟩ ∧ Kp (· ≠ b) w w' := by
  obtain ⟨sv, hh, -, h1⟩ := hr
  obtain ⟨a, c, rfl, hl, hn0, h3⟩ := h1 rfl
  have hc0 := cell_0 hh
  have hc1 := cell_1 hh
  have hf0 := free_0 hh
  have hf1 := free_1 hh
  have Hh := Lib.hid hh
  clear hh h1
  go_enter Try.func49, Try.ntmps49
  go_wp2
  go_loopw [3, 4, 5] (fun n un i wr => ∃ (k acc : Nat), n = .int .u64 acc ∧ un = .int .u64 ((128 ^ k : Nat) : Int) ∧ i = .int .i64 k ∧ k ≤ 9 ∧ k ≤ bs.length ∧ acc < 128 ^ k ∧ rdF k acc (bs.drop k) = rdF 0 0 bs ∧ w = wr) (fun _ _ i _ => (9 - intOf i).toNat)
  case atStart => exact ⟨0, 0, rfl, rfl, rfl, by omega, by omega, by decide, rfl, rfl⟩
  case round =>
    obtain ⟨k, acc, rfl, rfl, rfl, hk, hkl, hacc, hf, rfl⟩ := hrel
    have hpw := pow128 k hk
    obtain ⟨U, hU⟩ : ∃ U, 128 ^ k = U := ⟨_, rfl⟩
    rw [hU] at hacc hpw ⊢
    have HU := Lib.hid hU
    have Hf := Lib.hid hf
    clear hU hf
    by_cases hlt : k < bs.length
    · obtain ⟨g, off, rfl, hp, hg, hcs⟩ := h3 (by intro h; rw [h] at hlt; simp at hlt)
      have hcx := hcs k hlt
      rw [List.getElem?_eq_getElem hlt, Option.getD_some] at hcx
      have hd : bs.drop k = bs[k] :: bs.drop (k + 1) := List.drop_eq_getElem_cons hlt
      obtain ⟨x, hx⟩ : ∃ x, bs[k] = x := ⟨_, rfl⟩
      rw [hx] at hcx hd
      have hlo := ofByte_lo x
      have hhi := ofByte_hi x
      have hzx : ofByte x = (x.toNat : Int) := rfl
      obtain ⟨z, hz⟩ : ∃ z, ofByte x = z := ⟨_, rfl⟩
      rw [hz] at hlo hhi hzx hcx
      have Hzx := Lib.hid hzx
      have Hd := Lib.hid hd
      have Hcs := Lib.hid hcs
      have hk0 : (0 : Int) ≤ (k : Int) := by omega
      have hk1 : (k : Int) < (bs.length : Int) := by omega
      clear hx hz hzx hd hcs h3
      have hmb : x.toNat % 128 * U ≤ 127 * U := Nat.mul_le_mul_right U (by omega)
      have hxm : ((x.toNat % 128 : Nat) : Int) = z % 128 := by have := Hzx.out; omega
      obtain ⟨M, hMd⟩ : ∃ M, x.toNat % 128 * U = M := ⟨_, rfl⟩
      have hMi : z % 128 * (U : Int) = (M : Int) := by rw [← hxm, ← hMd, Int.natCast_mul]
      rw [hMd] at hmb
      have HMd := Lib.hid hMd
      clear hMd hxm
      have hcase : ((0 < k ∧ z = 0) ∨ (k = 9 ∧ 1 < z)) ∨ (¬ ((0 < k ∧ z = 0) ∨ (k = 9 ∧ 1 < z)) ∧ z < 128) ∨ (¬ ((0 < k ∧ z = 0) ∨ (k = 9 ∧ 1 < z)) ∧ ¬ z < 128) := by omega
      rcases hcase with hc | ⟨hc, hz⟩ | ⟨hc, hz⟩
      · have hbad : rdF 0 0 bs = (0, [], 2) := by
          rw [← Hf.out, Hd.out, rdF, if_pos (by have := Hzx.out; omega)]
        have Hbad := Lib.hid hbad
        have hfl := rr_fail (lo := lo) (bs := []) 2 (by decide) ⟨_, bs.length, c, rfl⟩ Hh.out
        have hb : (k = 9 ∧ 1 < z) ∨ (0 < k ∧ ¬ k = 9 ∧ z = 0) ∨ (k = 9 ∧ z = 0) := by omega
        clear hbad hc hMi
        rcases hb with ⟨rfl, hk3⟩ | ⟨hk2, hk3, hk4⟩ | ⟨rfl, hk3⟩
        case' inr.inl =>
          have hk5 : ¬ (k : Int) = 9 := by omega
          have hk6 : (0 : Int) < (k : Int) := by omega
          clear hk2
        all_goals
          go_wp2
          go_ret
          rw [Hbad.out]
          exact ⟨rfl, hfl.1, hfl.2⟩
      · have hval : rdF 0 0 bs = (acc + x.toNat * 128 ^ k, bs.drop (k + 1), 0) := by
          rw [← Hf.out, Hd.out, rdF, if_neg (by have := Hzx.out; omega), if_pos (by have := Hzx.out; omega)]
        have hMx : acc + x.toNat * 128 ^ k = acc + M := by
          have h1 := HMd.out
          rw [show x.toNat % 128 = x.toNat by have := Hzx.out; omega] at h1
          rw [HU.out, h1]
        rw [hMx] at hval
        have Hval := Lib.hid hval
        have hMb : acc + M < 18446744073709551616 := by
          by_cases h9 : k = 9
          · have h1 : x.toNat ≤ 1 := by have := Hzx.out; omega
            have h2 : x.toNat % 128 * U ≤ 1 * U := Nat.mul_le_mul_right U (by omega)
            rw [HMd.out] at h2
            omega
          · have h1 := pow128 (k + 1) (by omega)
            rw [Nat.pow_succ, HU.out] at h1
            omega
        have hM1 : IntKind.u64.wrap (z % 128 * (U : Int)) = (M : Int) := by rw [hMi]; exact wrap_u64_in _ (by omega) (by omega)
        have hM2 : IntKind.u64.wrap ((acc : Int) + (M : Int)) = ((acc + M : Nat) : Int) := by rw [wrap_u64_in _ (by omega) (by omega)]; omega
        have hsd := sat_drop (P := fun k => k < lo ∧ k < b) (m := k + 1) (l := bs.length - (k + 1)) (by omega) rfl hl hp hg Hcs.out
        have hk2 : (k : Int) + 1 ≤ (bs.length : Int) := by omega
        have hk3 : (0 : Int) ≤ (k : Int) + 1 := by omega
        have hk4 : (bs.length : Int) ≤ (c : Int) := by omega
        have hwk : IntKind.i64.wrap ((k : Int) + 1) = (k : Int) + 1 := by rw [IntKind.wrap_i64]; omega
        have hb : (k = 9 ∧ z = 1) ∨ (0 < k ∧ ¬ k = 9 ∧ ¬ z = 0) ∨ (k = 0) := by omega
        clear hval hMx hc hMi hMb
        rcases hb with ⟨rfl, hk6⟩ | ⟨hk5, hk6, hk7⟩ | rfl
        case' inl =>
          have hMU : U = M := by
            have h1 := HMd.out
            rw [show x.toNat % 128 = 1 by have := Hzx.out; omega, Nat.one_mul] at h1
            exact h1
          subst hMU
        case' inr.inl =>
          have hk8 : ¬ (k : Int) = 9 := by omega
          have hk9 : (0 : Int) < (k : Int) := by omega
        case' inr.inr =>
          have hbne : ¬ bs = [] := by intro h; rw [h] at hlt; simp at hlt
          simp only [Nat.add_zero] at hcx
        all_goals
          go_wp2
          all_goals
            go_ret
            rw [Hval.out]
            first
              | exact ⟨by first | rfl | simp, (rr_moved Hh.out rfl hsd).1, (rr_moved Hh.out rfl hsd).2⟩
              | exact ⟨by first | rfl | simp, (rr_moved Hh.out rfl (sat_end (by omega) rfl)).1, kp_set _⟩
              | (trace_state; sorry)
      · have hk8' : ¬ k = 9 := by
          intro h
          exact hc (.inr ⟨h, by omega⟩)
        have hval : rdF (k + 1) (acc + M) (bs.drop (k + 1)) = rdF 0 0 bs := by
          rw [← Hf.out, Hd.out, rdF, if_neg (by have := Hzx.out; omega), if_neg (by have := Hzx.out; omega), HU.out, HMd.out]
        have hp1 := pow128 (k + 1) (by omega)
        rw [Nat.pow_succ, HU.out] at hp1
        have hM1 : IntKind.u64.wrap (z % 128 * (U : Int)) = (M : Int) := by rw [hMi]; exact wrap_u64_in _ (by omega) (by omega)
        have hM2 : IntKind.u64.wrap ((acc : Int) + (M : Int)) = ((acc + M : Nat) : Int) := by rw [wrap_u64_in _ (by omega) (by omega)]; omega
        have hM3 : IntKind.u64.wrap ((U : Int) * 128) = ((U * 128 : Nat) : Int) := by rw [wrap_u64_in _ (by omega) (by omega)]; omega
        have hab : acc + M < 128 ^ (k + 1) := by rw [Nat.pow_succ, HU.out]; omega
        have hpw2 : U * 128 = 128 ^ (k + 1) := by rw [Nat.pow_succ, HU.out]
        have Hval := Lib.hid hval
        have Hab := Lib.hid hab
        have Hpw2 := Lib.hid hpw2
        have hk8 : ¬ (k : Int) = 9 := by omega
        have hz0 : ¬ z = 0 := by omega
        clear hval hab hpw2 hMi hc
        go_wp2
        all_goals
          refine ⟨⟨k + 1, acc + M, by simp, by rw [← Hpw2.out]; simp, by go_num, by omega, by omega, Hab.out, Hval.out, trivial⟩, by simp [intOf]; omega⟩
    · obtain rfl : k = bs.length := by omega
      have hend : rdF 0 0 bs = (0, [], 3) := by rw [← Hf.out, List.drop_length, rdF]
      have Hend := Lib.hid hend
      have hfl := rr_fail (lo := lo) (bs := []) 3 (by decide) ⟨a, bs.length, c, rfl⟩ Hh.out
      clear hend
      go_wp2
      go_ret
      rw [Hend.out]
      exact ⟨rfl, hfl.1, hfl.2⟩
end Go.Proofs.Ytiebefomhnbemaa
