/- The contract of the reference's reader's Bool. Conditions: at most a million bytes. -/
import Derived.Test.YtiebefomhnbemaaVRefL
namespace Go.Proofs.Ytiebefomhnbemaa
open Go.RowKit
variable {lo : Nat}

set_option maxRecDepth 100000 in
set_option maxHeartbeats 2000000 in
theorem rrbool_any (b : Nat) (s : St) (w : World) (hs : s.bs.length ≤ 1000000) (hr : RR lo w b s) :
    Calls Try.prog 51 #[.pointer (some ⟨b, 0, none⟩)] w fun e w' => e = .returned (.bool (rB s).1) ∧ RR lo w' b (rB s).2 ∧ Kp (· ≠ b) w w' := by
  have hr0 := hr
  obtain ⟨bs, e⟩ := s
  by_cases he : e = 0
  · subst he
    obtain ⟨sv, hh, -, h1⟩ := hr
    obtain ⟨a, c, rfl, hl, hn0, h3⟩ := h1 rfl
    simp only at hl hn0 h3 hh hs
    have hc0 := cell_0 hh
    have hc1 := cell_1 hh
    have hf0 := free_0 hh
    have hf1 := free_1 hh
    have Hh := Lib.hid hh
    clear h1 hh hr0
    cases bs with
    | nil =>
      have hfl := rr_fail (lo := lo) (bs := []) 3 (by decide) ⟨a, _, c, rfl⟩ Hh.out
      clear h3 hn0
      go_enter Try.func51, Try.ntmps51
      go_wp2
      go_ret
      exact ⟨rfl, hfl.1, hfl.2⟩
    | cons x r =>
      obtain ⟨g, off, rfl, hp, hg, hcs⟩ := h3 (by simp)
      have hcx := hcs 0 (by simp)
      simp only [Nat.add_zero, List.getElem?_cons_zero, Option.getD_some] at hcx
      have hlo := ofByte_lo x
      have hhi := ofByte_hi x
      have hzx : ofByte x = (x.toNat : Int) := rfl
      obtain ⟨z, hz⟩ : ∃ z, ofByte x = z := ⟨_, rfl⟩
      rw [hz] at hlo hhi hzx hcx
      have Hzx := Lib.hid hzx
      have Hcs := Lib.hid hcs
      have hl1 : (x :: r).length = r.length + 1 := List.length_cons
      rw [hl1] at hl hc0 hs
      obtain ⟨n, hn⟩ : ∃ n, r.length = n := ⟨_, rfl⟩
      rw [hn] at hl hc0 hs
      have Hn := Lib.hid hn
      have hnz : (0 : Int) ≤ (n : Int) := by omega
      clear hz hzx hcs h3 hl1 hn hn0
      by_cases hz1 : 1 < z
      · have hB : rB ⟨x :: r, 0⟩ = (false, ⟨[], 2⟩) := by simp only [rB, if_true]; rw [if_pos (by have := Hzx.out; omega)]
        rw [hB]
        have hfl := rr_fail (lo := lo) (bs := []) 2 (by decide) ⟨_, _, c, rfl⟩ Hh.out
        clear hB
        go_enter Try.func51, Try.ntmps51
        go_wp2
        go_ret
        exact ⟨rfl, hfl.1, hfl.2⟩
      · have hB : rB ⟨x :: r, 0⟩ = (z == 1, ⟨r, 0⟩) := by
          simp only [rB, if_true]
          rw [if_neg (by have := Hzx.out; omega)]
          rw [Prod.mk.injEq]
          refine ⟨?_, rfl⟩
          rw [Bool.eq_iff_iff]
          have := Hzx.out
          simp
          omega
        rw [hB]
        have hsd := sat_drop (P := fun k => k < lo ∧ k < b) (m := 1) (l := (x :: r).length - 1) (bs := x :: r) (by simp) rfl (by rw [List.length_cons, Hn.out]; exact hl) hp hg Hcs.out
        rw [List.length_cons, Hn.out] at hsd
        clear hB
        go_enter Try.func51, Try.ntmps51
        go_wp2
        all_goals
          go_ret
          first
            | exact ⟨rfl, (rr_moved Hh.out rfl hsd).1, kp_set _⟩
            | (have h0 : n = 0 := by omega
               have hr0 : r.length = 0 := by rw [Hn.out]; exact h0
               subst h0
               exact ⟨rfl, (rr_moved (r := r) Hh.out rfl (sat_nil hr0)).1, kp_set _⟩)
            | (trace_state; sorry)
  · have hB : rB ⟨bs, e⟩ = (false, ⟨bs, e⟩) := by simp only [rB, if_neg he]
    rw [hB]
    obtain ⟨a, l, c, hh, -⟩ := hr.left
    have hc1 := cell_1 hh
    have hne : ¬ (e : Int) = 0 := by omega
    simp only at hc1
    clear hh hB he hr
    go_enter Try.func51, Try.ntmps51
    go_wp2
    go_ret
    exact ⟨rfl, hr0, Kp.refl _ _⟩
end Go.Proofs.Ytiebefomhnbemaa
