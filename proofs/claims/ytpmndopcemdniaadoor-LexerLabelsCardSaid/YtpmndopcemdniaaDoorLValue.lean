/- Contracts of Value, ValidMatcher, and of the references of Name, Value and ValidMatcher. Conditions: none. -/
import Derived.Test.YtpmndopcemdniaaDoorLName
namespace Go.Proofs.YtpmndopcemdniaaDoor
open Go.RowKit

theorem res_bytes : ∀ c : Nat, c < 128 → decide (0 ≤ Lib.indexByte [34, 92, 44, 123, 125] c.toUInt8) = resB (c : Int) := by decide +kernel

theorem res_any (c : Nat) (hc : c < 128) (w : World) : Calls Tryd.prog 32 #[.string ⟨#[34, 92, 44, 123, 125]⟩, .int .i32 (c : Int)] w fun e w' => e = .returned (.bool (resB (c : Int))) ∧ w = w' :=
  (Tryd.strings_ContainsRune_ascii ⟨#[34, 92, 44, 123, 125]⟩ (c : Int) w (by omega) (by omega)).mono fun e w' ⟨he, hw⟩ => ⟨by rw [he, Int.toNat_natCast, ← res_bytes c hc], hw.symm⟩

set_option maxHeartbeats 4000000 in
theorem value_any (s : ByteArray) (w : World) (hs : s.size ≤ 140737488351232) : Calls Tryd.prog 22 #[.string s] w fun e w' => e = .returned (.bool (valB s)) ∧ Below w.heap.size w w' := by
  by_cases h2 : s.size ≤ 16
  · go_enter Tryd.func22, Tryd.ntmps22
    go_wp2
    go_loopg [4] s.size (fun g _ wx => ∃ k : Nat, k + g = s.size ∧ wx = w.iter s k ∧ ValPre s k)
    case atStart => exact ⟨0, by omega, rfl, ValPre.zero s⟩
    case round =>
      obtain ⟨k, hkg, rfl, hp⟩ := hrel
      have HP := Lib.hid hp
      clear hp
      cases gk with
      | zero =>
        obtain rfl : k = s.size := by omega
        have HR := Lib.hid (valB_true h2 (fun j hj => HP.out j hj hj))
        have hnx := run_next_end (P := Tryd.prog) w s s.size
        go_wp2
        go_ret
        exact ⟨ret_bool HR.out.symm, below_iter w s _⟩
      | succ g =>
        have hk : k < s.size := by omega
        by_cases ha : (s[k]'hk).toNat < 128
        · have hnx := fun ty => run_next_ascii (P := Tryd.prog) w s k ty hk ha
          obtain ⟨c, hc⟩ : ∃ c : Nat, (s[k]'hk).toNat = c := ⟨_, rfl⟩
          have HC := Lib.hid hc
          rw [hc] at hnx ha
          clear hc
          by_cases hn : vchP (c : Int)
          · have HS := Lib.hid (HP.out.succ hk (by rw [HC.out]; exact hn))
            have e1 : resB (c : Int) = false := decide_eq_false (by unfold vchP at hn; omega)
            have b1 : 33 ≤ (c : Int) := hn.1
            have b2 : (c : Int) ≤ 126 := hn.2.1
            clear hn
            go_wp2_with (go_at_call 32; refine (res_any c ha _).mono ?_; rintro e w' ⟨rfl, rfl⟩)
            go_roundg g
            case measure => omega
            case rel => exact ⟨k + 1, by omega, rfl, HS.out⟩
          · have HR := Lib.hid (valB_at k hk (by rw [HC.out]; exact hn))
            by_cases b1 : 33 ≤ (c : Int)
            · by_cases b2 : (c : Int) ≤ 126
              · have e1 : resB (c : Int) = true := decide_eq_true (by unfold vchP at hn; omega)
                clear hn
                go_wp2_with (go_at_call 32; refine (res_any c ha _).mono ?_; rintro e w' ⟨rfl, rfl⟩)
                go_ret
                exact ⟨ret_bool HR.out.symm, below_iter w s _⟩
              · clear hn
                go_wp2
                go_ret
                exact ⟨ret_bool HR.out.symm, below_iter w s _⟩
            · clear hn
              go_wp2
              go_ret
              exact ⟨ret_bool HR.out.symm, below_iter w s _⟩
        · have hnx := fun ty => run_next_any (P := Tryd.prog) w s k ty hk
          have hd := decode_wide s k hk ha
          obtain ⟨c, hc⟩ : ∃ c : Nat, (Utf8.decode s k).1 = c := ⟨_, rfl⟩
          obtain ⟨q, hq⟩ : ∃ q : Nat, (Utf8.decode s k).2 = q := ⟨_, rfl⟩
          rw [hc] at hnx hd
          rw [hq] at hnx
          clear hc hq
          have HR := Lib.hid (valB_at k hk (by unfold vchP; omega))
          clear ha
          go_wp2
          go_ret
          exact ⟨ret_bool HR.out.symm, below_iter w s _⟩
  · have HR := Lib.hid (valB_long h2)
    go_enter Tryd.func22, Tryd.ntmps22
    go_wp2
    go_ret
    exact ⟨ret_bool HR.out.symm, Below.refl _ _⟩

set_option maxHeartbeats 4000000 in
theorem refvalue_any (s : ByteArray) (w : World) (hs : s.size ≤ 140737488351232) : Calls Tryd.prog 61 #[.string s] w fun e w' => e = .returned (.bool (valB s)) ∧ Below w.heap.size w w' := by
  by_cases h2 : s.size ≤ 16
  · go_enter Tryd.func61, Tryd.ntmps61
    go_wp2
    go_loop [3] (fun i => ∃ k : Nat, k ≤ s.size ∧ i = .int .i64 k ∧ ValPre s k) (fun i => s.size - (intOf i).toNat)
    case atStart => exact ⟨0, Nat.zero_le _, rfl, ValPre.zero s⟩
    case round =>
      obtain ⟨k, hk, rfl, hp⟩ := hrel
      have HP := Lib.hid hp
      clear hp
      by_cases hlt : k < s.size
      · by_cases hn : vchP (s[k].toNat : Int)
        · have HS := Lib.hid (HP.out.succ hlt hn)
          have b1 := hn.1
          have b2 := hn.2.1
          have e1 : ((s[k].toNat : Int) == 34) = false := by simp only [beq_eq_false_iff_ne]; exact hn.2.2.1
          have e2 : ((s[k].toNat : Int) == 92) = false := by simp only [beq_eq_false_iff_ne]; exact hn.2.2.2.1
          have e3 : ((s[k].toNat : Int) == 44) = false := by simp only [beq_eq_false_iff_ne]; exact hn.2.2.2.2.1
          have e4 : ((s[k].toNat : Int) == 123) = false := by simp only [beq_eq_false_iff_ne]; exact hn.2.2.2.2.2.1
          have e5 : ((s[k].toNat : Int) == 125) = false := by simp only [beq_eq_false_iff_ne]; exact hn.2.2.2.2.2.2
          clear hn
          go_wp2
          go_round
          case rel => exact ⟨k + 1, by omega, by go_num, HS.out⟩
          case measure => simp [intOf]; omega
        · have HR := Lib.hid (valB_at k hlt hn)
          have HN := Lib.hid hn
          clear hn
          go_wp2
          all_goals first
            | (go_ret; exact ⟨ret_bool HR.out.symm, Below.refl _ _⟩)
            | (exfalso; apply HN.out; unfold vchP; simp_all <;> omega)
      · obtain rfl : k = s.size := by omega
        have HR := Lib.hid (valB_true h2 (fun j hj => HP.out j hj hj))
        go_wp2
        go_ret
        exact ⟨ret_bool HR.out.symm, Below.refl _ _⟩
  · have HR := Lib.hid (valB_long h2)
    go_enter Tryd.func61, Tryd.ntmps61
    go_wp2
    go_ret
    exact ⟨ret_bool HR.out.symm, Below.refl _ _⟩
end Go.Proofs.YtpmndopcemdniaaDoor
