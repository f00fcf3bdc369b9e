/- The reference's digits. Conditions: a string within the reach. -/
import Derived.Test.YtegodbbocbkomaaDoorDig
namespace Go.Proofs.YtegodbbocbkomaaDoor
open Go.RowKit

theorem dig_bad {l : List UInt8} {p k : Nat} (e : min (runL (l.drop p)) 20 = k) (h : k = 0 ∨ 19 < k ∨ 4611686018427387904 < valL 0 ((l.drop p).take k)) : digL l p = (0, -1) := by
  unfold digL; rw [e, if_pos h]
theorem dig_good {l : List UInt8} {p k : Nat} (e : min (runL (l.drop p)) 20 = k) (h : ¬ (k = 0 ∨ 19 < k ∨ 4611686018427387904 < valL 0 ((l.drop p).take k))) : digL l p = (((valL 0 ((l.drop p).take k) : Nat) : Int), ((p + k : Nat) : Int)) := by
  unfold digL; rw [e, if_neg h]

set_option maxRecDepth 100000 in
set_option maxHeartbeats 4000000 in
theorem digits_any (s : ByteArray) (p : Nat) (hs : s.size ≤ 140737488355328) (hp : p ≤ s.size) (w : World) :
    Calls Tryd.prog 69 #[.string s, .int .i64 p] w fun e w' => e = .returned (.tuple #[.int .i64 (digL s.data.toList p).1, .int .i64 (digL s.data.toList p).2]) ∧ Below w.heap.size w w' := by
  obtain ⟨m, hm⟩ : ∃ m, s.data.toList.drop p = m := ⟨_, rfl⟩
  have hget : ∀ i (h : p + i < s.size), m[i]? = some s[p + i] := fun i h => by
    rw [← hm, List.getElem?_drop, List.getElem?_eq_getElem (by simpa using h)]
    rfl
  have hlen : m.length = s.size - p := by rw [← hm]; simp
  have Hm := Lib.hid hm
  have Hget := Lib.hid hget
  clear hm hget
  go_enter Tryd.func69, Tryd.ntmps69
  go_wp2
  go_loop [1, 6] (fun a n => ∃ k N : Nat, k ≤ runL m ∧ k ≤ 20 ∧ N = valL 0 (m.take (min k 19)) ∧ a = .int .i64 ((p + k : Nat) : Int) ∧ n = .int .u64 (N : Int)) (fun a _ => p + 20 - (intOf a).toNat)
  case atStart => exact ⟨0, 0, Nat.zero_le _, by omega, rfl, rfl, rfl⟩
  case round =>
    obtain ⟨k, N, h1, h2, hN, rfl, rfl⟩ := hrel
    have hrun := run_le m
    by_cases hlt : k < runL m
    · obtain ⟨b, hb, hd⟩ := (run_step m k h1).1 hlt
      have hps : p + k < s.size := by omega
      have e1 := Hget.out k hps
      rw [hb] at e1
      injection e1 with e1
      obtain ⟨v, hv⟩ : ∃ v, b.toNat = v := ⟨_, rfl⟩
      have hd' := of_decide_eq_true hd
      rw [hv] at hd'
      have e2 : (s[p + k]'hps).toNat = v := by rw [← e1]; exact hv
      have f0 : (p : Int) + (k : Int) < (s.size : Int) := by omega
      have g0 : (48 : Int) ≤ (v : Int) := by omega
      have g1 : (v : Int) ≤ 57 := by omega
      clear hd e1
      by_cases k20 : k = 20
      · have f9 : ¬ (p : Int) + (k : Int) - p < 20 := by omega
        have f10 : 20 ≤ (p : Int) + (k : Int) - p := by omega
        clear hb hd' hv hlt
        have HD := Lib.hid (dig_bad (l := s.data.toList) (p := p) (k := k) (by rw [Hm.out]; omega) (Or.inr (Or.inl (by omega))))
        have f1 : ¬ (p : Int) + (k : Int) = p := by omega
        have f2 : ¬ (p : Int) + (k : Int) - p ≤ 19 := by omega
        have f3 : 19 < (p : Int) + (k : Int) - p := by omega
        have f4 : ((p : Int) + (k : Int) == p) = false := by rw [beq_eq_false_iff_ne]; exact f1
        clear h1 h2 hrun hlen hN k20
        go_wp2
        go_ret2
        exact ⟨by rw [HD.out]; rfl, Below.refl _ _⟩
      · have f9 : (p : Int) + (k : Int) - p < 20 := by omega
        by_cases k19 : k = 19
        · have f8 : ¬ (p : Int) + (k : Int) - p < 19 := by omega
          have f7 : 19 ≤ (p : Int) + (k : Int) - p := by omega
          have HK := Lib.hid (show k + 1 ≤ 20 ∧ N = valL 0 (m.take (min (k + 1) 19)) from ⟨by omega, by rw [hN, show min (k + 1) 19 = min k 19 by omega]⟩)
          clear hb hd' hv hN k19
          go_wp2
          go_round
          case rel => exact ⟨k + 1, N, by omega, HK.out.1, HK.out.2, by go_num, rfl⟩
          case measure => simp [intOf]; omega
        · have f8 : (p : Int) + (k : Int) - p < 19 := by omega
          have hm1 : min k 19 = k := by omega
          have hm2 : min (k + 1) 19 = k + 1 := by omega
          have hNx := val_next m k b hb
          rw [hm1] at hN
          rw [← hN, hv] at hNx
          have hsm := val_small m (k + 1) (by omega) (by omega)
          rw [hNx] at hsm
          have Hx := Lib.hid (show valL 0 (m.take (k + 1)) = 10 * N + (v - 48) ∧ k + 1 ≤ 20 from ⟨hNx, by omega⟩)
          have Hm2 := Lib.hid hm2
          clear hb hv hNx hm1 hm2 hN
          go_wp2
          go_round
          case rel => exact ⟨k + 1, 10 * N + (v - 48), by omega, Hx.out.2, by rw [Hm2.out, Hx.out.1], by go_num, by go_num⟩
          case measure => simp [intOf]; omega
    · have hkk : k = runL m := by omega
      have hno := fun h => hlt ((run_step m k h1).2 h)
      by_cases hps : p + k < s.size
      · have e1 := Hget.out k hps
        obtain ⟨v, e2⟩ : ∃ v, (s[p + k]'hps).toNat = v := ⟨_, rfl⟩
        have hd : ¬ (48 ≤ v ∧ v ≤ 57) := fun h => hno ⟨_, e1, by unfold dig; rw [e2]; exact decide_eq_true h⟩
        have f0 : (p : Int) + (k : Int) < (s.size : Int) := by omega
        clear e1 hno hlt
        by_cases g0 : 48 ≤ v
        · have g1 : ¬ (v : Int) ≤ 57 := by omega
          have g2 : (48 : Int) ≤ (v : Int) := by omega
          clear g0 hd
          have hk : min (runL (s.data.toList.drop p)) 20 = k := by rw [Hm.out]; omega
          by_cases k0 : k = 0
          · have HD := Lib.hid (dig_bad hk (Or.inl k0))
            have f4 : ((p : Int) + (k : Int) == p) = true := by rw [beq_iff_eq]; omega
            have f2 : (p : Int) + (k : Int) - p ≤ 19 := by omega
            clear h1 h2 hrun hlen hN hkk hk k0
            go_wp2
            go_ret2
            exact ⟨by rw [HD.out]; rfl, Below.refl _ _⟩
          · have f1 : ¬ (p : Int) + (k : Int) = p := by omega
            have f4 : ((p : Int) + (k : Int) == p) = false := by rw [beq_eq_false_iff_ne]; exact f1
            by_cases k20 : k = 20
            · have HD := Lib.hid (dig_bad hk (Or.inr (Or.inl (by omega))))
              have f2 : ¬ (p : Int) + (k : Int) - p ≤ 19 := by omega
              have f3 : 19 < (p : Int) + (k : Int) - p := by omega
              clear h1 h2 hrun hlen hN hkk hk k0 k20
              go_wp2
              go_ret2
              exact ⟨by rw [HD.out]; rfl, Below.refl _ _⟩
            · have f2 : (p : Int) + (k : Int) - p ≤ 19 := by omega
              have hN' : N = valL 0 ((s.data.toList.drop p).take k) := by rw [hN, Hm.out, Nat.min_eq_left (by omega)]
              by_cases kb : 4611686018427387904 < N
              · have HD := Lib.hid (dig_bad hk (Or.inr (Or.inr (by omega))))
                have f5 : (4611686018427387904 : Int) < (N : Int) := by omega
                clear h1 h2 hrun hlen hN hkk hk k0 k20 hN' kb
                go_wp2
                go_ret2
                exact ⟨by rw [HD.out]; rfl, Below.refl _ _⟩
              · have HD := Lib.hid (dig_good hk (by omega))
                rw [← hN'] at HD
                have f5 : (N : Int) ≤ (4611686018427387904 : Int) := by omega
                clear h1 h2 hrun hlen hN hkk hk k0 k20 hN' kb
                go_wp2
                go_ret2
                exact ⟨by rw [HD.out, Int.natCast_add]; rfl, Below.refl _ _⟩
        · have g2 : ¬ (48 : Int) ≤ (v : Int) := by omega
          clear g0 hd
          have hk : min (runL (s.data.toList.drop p)) 20 = k := by rw [Hm.out]; omega
          by_cases k0 : k = 0
          · have HD := Lib.hid (dig_bad hk (Or.inl k0))
            have f4 : ((p : Int) + (k : Int) == p) = true := by rw [beq_iff_eq]; omega
            have f2 : (p : Int) + (k : Int) - p ≤ 19 := by omega
            clear h1 h2 hrun hlen hN hkk hk k0
            go_wp2
            go_ret2
            exact ⟨by rw [HD.out]; rfl, Below.refl _ _⟩
          · have f1 : ¬ (p : Int) + (k : Int) = p := by omega
            have f4 : ((p : Int) + (k : Int) == p) = false := by rw [beq_eq_false_iff_ne]; exact f1
            by_cases k20 : k = 20
            · have HD := Lib.hid (dig_bad hk (Or.inr (Or.inl (by omega))))
              have f2 : ¬ (p : Int) + (k : Int) - p ≤ 19 := by omega
              have f3 : 19 < (p : Int) + (k : Int) - p := by omega
              clear h1 h2 hrun hlen hN hkk hk k0 k20
              go_wp2
              go_ret2
              exact ⟨by rw [HD.out]; rfl, Below.refl _ _⟩
            · have f2 : (p : Int) + (k : Int) - p ≤ 19 := by omega
              have hN' : N = valL 0 ((s.data.toList.drop p).take k) := by rw [hN, Hm.out, Nat.min_eq_left (by omega)]
              by_cases kb : 4611686018427387904 < N
              · have HD := Lib.hid (dig_bad hk (Or.inr (Or.inr (by omega))))
                have f5 : (4611686018427387904 : Int) < (N : Int) := by omega
                clear h1 h2 hrun hlen hN hkk hk k0 k20 hN' kb
                go_wp2
                go_ret2
                exact ⟨by rw [HD.out]; rfl, Below.refl _ _⟩
              · have HD := Lib.hid (dig_good hk (by omega))
                rw [← hN'] at HD
                have f5 : (N : Int) ≤ (4611686018427387904 : Int) := by omega
                clear h1 h2 hrun hlen hN hkk hk k0 k20 hN' kb
                go_wp2
                go_ret2
                exact ⟨by rw [HD.out, Int.natCast_add]; rfl, Below.refl _ _⟩
      · have f0 : ¬ (p : Int) + (k : Int) < (s.size : Int) := by omega
        have fb : (p : Int) + (k : Int) ≤ 140737488355400 := by omega
        clear hno hlt
        have hk : min (runL (s.data.toList.drop p)) 20 = k := by rw [Hm.out]; omega
        by_cases k0 : k = 0
        · have HD := Lib.hid (dig_bad hk (Or.inl k0))
          have f4 : ((p : Int) + (k : Int) == p) = true := by rw [beq_iff_eq]; omega
          have f2 : (p : Int) + (k : Int) - p ≤ 19 := by omega
          clear h1 h2 hrun hlen hN hkk hk k0
          go_wp2
          go_ret2
          exact ⟨by rw [HD.out]; rfl, Below.refl _ _⟩
        · have f1 : ¬ (p : Int) + (k : Int) = p := by omega
          have f4 : ((p : Int) + (k : Int) == p) = false := by rw [beq_eq_false_iff_ne]; exact f1
          by_cases k20 : k = 20
          · have HD := Lib.hid (dig_bad hk (Or.inr (Or.inl (by omega))))
            have f2 : ¬ (p : Int) + (k : Int) - p ≤ 19 := by omega
            have f3 : 19 < (p : Int) + (k : Int) - p := by omega
            clear h1 h2 hrun hlen hN hkk hk k0 k20
            go_wp2
            go_ret2
            exact ⟨by rw [HD.out]; rfl, Below.refl _ _⟩
          · have f2 : (p : Int) + (k : Int) - p ≤ 19 := by omega
            have hN' : N = valL 0 ((s.data.toList.drop p).take k) := by rw [hN, Hm.out, Nat.min_eq_left (by omega)]
            by_cases kb : 4611686018427387904 < N
            · have HD := Lib.hid (dig_bad hk (Or.inr (Or.inr (by omega))))
              have f5 : (4611686018427387904 : Int) < (N : Int) := by omega
              clear h1 h2 hrun hlen hN hkk hk k0 k20 hN' kb
              go_wp2
              go_ret2
              exact ⟨by rw [HD.out]; rfl, Below.refl _ _⟩
            · have HD := Lib.hid (dig_good hk (by omega))
              rw [← hN'] at HD
              have f5 : (N : Int) ≤ (4611686018427387904 : Int) := by omega
              clear h1 h2 hrun hlen hN hkk hk k0 k20 hN' kb
              go_wp2
              go_ret2
              exact ⟨by rw [HD.out, Int.natCast_add]; rfl, Below.refl _ _⟩
end Go.Proofs.YtegodbbocbkomaaDoor
