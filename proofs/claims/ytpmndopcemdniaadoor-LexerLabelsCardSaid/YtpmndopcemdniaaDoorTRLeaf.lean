/- Contracts of the reference's classes of bytes, word and number. Conditions: as each states. -/
import Derived.LoopN
import Derived.Test.YtpmndopcemdniaaDoorTOne
namespace Go.Proofs.YtpmndopcemdniaaDoor
open Go.RowKit

set_option maxHeartbeats 400000 in
theorem rwhite_any (c : UInt8) (w : World) : Calls Tryd.prog 43 #[.int .u8 (c.toNat : Int)] w fun e w' => e = .returned (.bool (whB c)) ∧ w = w' := by
  obtain ⟨n, hn⟩ : ∃ n, c.toNat = n := ⟨_, rfl⟩
  have hw : whB c = decide (n = 9 ∨ n = 10 ∨ n = 13 ∨ n = 32) := by unfold whB; rw [hn]
  rw [hn, hw]
  clear hw hn
  by_cases h9 : n = 9
  · have H := Lib.hid (show decide (n = 9 ∨ n = 10 ∨ n = 13 ∨ n = 32) = true from decide_eq_true (by omega))
    have e9 : ((n : Int) == 9) = true := by simp; omega
    clear h9
    go_enter Tryd.func43, Tryd.ntmps43
    go_wp2
    go_ret
    first | exact ⟨ret_bool H.out.symm, rfl⟩ | exact ⟨ret_bool (by rw [← Bool.decide_and]; exact H.out.symm), rfl⟩
  · have e9 : ((n : Int) == 9) = false := by simp; omega
    by_cases h10 : n = 10
    · have H := Lib.hid (show decide (n = 9 ∨ n = 10 ∨ n = 13 ∨ n = 32) = true from decide_eq_true (by omega))
      have e10 : ((n : Int) == 10) = true := by simp; omega
      clear h9 h10
      go_enter Tryd.func43, Tryd.ntmps43
      go_wp2
      go_ret
      first | exact ⟨ret_bool H.out.symm, rfl⟩ | exact ⟨ret_bool (by rw [← Bool.decide_and]; exact H.out.symm), rfl⟩
    · have e10 : ((n : Int) == 10) = false := by simp; omega
      by_cases h13 : n = 13
      · have H := Lib.hid (show decide (n = 9 ∨ n = 10 ∨ n = 13 ∨ n = 32) = true from decide_eq_true (by omega))
        have e13 : ((n : Int) == 13) = true := by simp; omega
        clear h9 h10 h13
        go_enter Tryd.func43, Tryd.ntmps43
        go_wp2
        go_ret
        first | exact ⟨ret_bool H.out.symm, rfl⟩ | exact ⟨ret_bool (by rw [← Bool.decide_and]; exact H.out.symm), rfl⟩
      · have e13 : ((n : Int) == 13) = false := by simp; omega
        by_cases h32 : n = 32
        · have H := Lib.hid (show decide (n = 9 ∨ n = 10 ∨ n = 13 ∨ n = 32) = true from decide_eq_true (by omega))
          have e32 : ((n : Int) == 32) = true := by simp; omega
          clear h9 h10 h13 h32
          go_enter Tryd.func43, Tryd.ntmps43
          go_wp2
          go_ret
          first | exact ⟨ret_bool H.out.symm, rfl⟩ | exact ⟨ret_bool (by rw [← Bool.decide_and]; exact H.out.symm), rfl⟩
        · have e32 : ((n : Int) == 32) = false := by simp; omega
          have H := Lib.hid (show decide (n = 9 ∨ n = 10 ∨ n = 13 ∨ n = 32) = false from decide_eq_false (by omega))
          clear h9 h10 h13 h32
          go_enter Tryd.func43, Tryd.ntmps43
          go_wp2
          go_ret
          first | exact ⟨ret_bool H.out.symm, rfl⟩ | exact ⟨ret_bool (by rw [← Bool.decide_and]; exact H.out.symm), rfl⟩
set_option maxHeartbeats 400000 in
theorem rletter_any (c : UInt8) (w : World) : Calls Tryd.prog 44 #[.int .u8 (c.toNat : Int)] w fun e w' => e = .returned (.bool (leB c)) ∧ w = w' := by
  obtain ⟨n, hn⟩ : ∃ n, c.toNat = n := ⟨_, rfl⟩
  have hw : leB c = decide (97 ≤ n ∧ n ≤ 122) := by unfold leB; rw [hn]
  rw [hn, hw]
  clear hw hn
  by_cases h1 : (97 : Int) ≤ (n : Int)
  · by_cases h2 : (n : Int) ≤ 122
    · have H := Lib.hid (show decide (97 ≤ n ∧ n ≤ 122) = true from decide_eq_true (by omega))
      go_enter Tryd.func44, Tryd.ntmps44
      go_wp2
      go_ret
      first | exact ⟨ret_bool H.out.symm, rfl⟩ | exact ⟨ret_bool (by rw [← Bool.decide_and]; exact H.out.symm), rfl⟩
    · have H := Lib.hid (show decide (97 ≤ n ∧ n ≤ 122) = false from decide_eq_false (by omega))
      go_enter Tryd.func44, Tryd.ntmps44
      go_wp2
      go_ret
      first | exact ⟨ret_bool H.out.symm, rfl⟩ | exact ⟨ret_bool (by rw [← Bool.decide_and]; exact H.out.symm), rfl⟩
  · have H := Lib.hid (show decide (97 ≤ n ∧ n ≤ 122) = false from decide_eq_false (by omega))
    go_enter Tryd.func44, Tryd.ntmps44
    go_wp2
    go_ret
    first | exact ⟨ret_bool H.out.symm, rfl⟩ | exact ⟨ret_bool (by rw [← Bool.decide_and]; exact H.out.symm), rfl⟩
set_option maxHeartbeats 400000 in
theorem rdigit_any (c : UInt8) (w : World) : Calls Tryd.prog 46 #[.int .u8 (c.toNat : Int)] w fun e w' => e = .returned (.bool (diB c)) ∧ w = w' := by
  obtain ⟨n, hn⟩ : ∃ n, c.toNat = n := ⟨_, rfl⟩
  have hw : diB c = decide (48 ≤ n ∧ n ≤ 57) := by unfold diB; rw [hn]
  rw [hn, hw]
  clear hw hn
  by_cases h1 : (48 : Int) ≤ (n : Int)
  · by_cases h2 : (n : Int) ≤ 57
    · have H := Lib.hid (show decide (48 ≤ n ∧ n ≤ 57) = true from decide_eq_true (by omega))
      go_enter Tryd.func46, Tryd.ntmps46
      go_wp2
      go_ret
      first | exact ⟨ret_bool H.out.symm, rfl⟩ | exact ⟨ret_bool (by rw [← Bool.decide_and]; exact H.out.symm), rfl⟩
    · have H := Lib.hid (show decide (48 ≤ n ∧ n ≤ 57) = false from decide_eq_false (by omega))
      go_enter Tryd.func46, Tryd.ntmps46
      go_wp2
      go_ret
      first | exact ⟨ret_bool H.out.symm, rfl⟩ | exact ⟨ret_bool (by rw [← Bool.decide_and]; exact H.out.symm), rfl⟩
  · have H := Lib.hid (show decide (48 ≤ n ∧ n ≤ 57) = false from decide_eq_false (by omega))
    go_enter Tryd.func46, Tryd.ntmps46
    go_wp2
    go_ret
    first | exact ⟨ret_bool H.out.symm, rfl⟩ | exact ⟨ret_bool (by rw [← Bool.decide_and]; exact H.out.symm), rfl⟩

theorem takeWhile_drop (p : UInt8 → Bool) (s : ByteArray) (k : Nat) (h : k < s.size) : (s.data.toList.drop k).takeWhile p = if p (s[k]'h) then s[k]'h :: (s.data.toList.drop (k + 1)).takeWhile p else [] := by
  rw [drop_cons s k h, List.takeWhile_cons]
theorem drop_end (s : ByteArray) : s.data.toList.drop s.size = [] := List.drop_eq_nil_of_le (by rw [list_len]; exact Nat.le_refl _)

set_option maxHeartbeats 4000000 in
theorem rword_any (s : ByteArray) (i : Nat) (w : World) (hs : s.size ≤ 140737488351232) (hi : i ≤ s.size) :
    Calls Tryd.prog 45 #[.string s, .int .i64 (i : Int)] w fun e w' => e = .returned (.int .i64 ((i + ((s.data.toList.drop i).takeWhile woB).length : Nat) : Int)) ∧ w = w' := by
  obtain ⟨E, hE⟩ : ∃ E, i + ((s.data.toList.drop i).takeWhile woB).length = E := ⟨_, rfl⟩
  rw [hE]
  have HE0 := Lib.hid hE
  clear hE
  go_enter Tryd.func45, Tryd.ntmps45
  go_wp2
  go_loop [1] (fun v => ∃ k : Nat, k ≤ s.size ∧ v = .int .i64 (k : Int) ∧ k + ((s.data.toList.drop k).takeWhile woB).length = E) (fun v => s.size - (intOf v).toNat)
  case atStart => exact ⟨i, hi, rfl, HE0.out⟩
  case round =>
    obtain ⟨k, hk, rfl, he⟩ := hrel
    by_cases hlt : k < s.size
    · have b1 : (k : Int) < (s.size : Int) := by omega
      rw [takeWhile_drop woB s k hlt] at he
      obtain ⟨c, hc⟩ : ∃ c, s[k]'hlt = c := ⟨_, rfl⟩
      rw [hc] at he
      have hcn : (s[k]'hlt).toNat = c.toNat := by rw [hc]
      cases h1 : leB c with
      | true =>
        rw [if_pos (by unfold woB; rw [h1]; rfl), List.length_cons] at he
        have HE := Lib.hid (show k + 1 + ((s.data.toList.drop (k + 1)).takeWhile woB).length = E by omega)
        clear he hc
        go_wp2_with (first | (go_at_call 44; refine (rletter_any _ _).mono ?_; rintro e w' ⟨rfl, rfl⟩) | (go_at_call 46; refine (rdigit_any _ _).mono ?_; rintro e w' ⟨rfl, rfl⟩))
        go_round
        case measure => simp [intOf]; omega
        case rel => exact ⟨k + 1, by omega, by go_num, HE.out⟩
      | false =>
        cases h2 : diB c with
        | true =>
          rw [if_pos (by unfold woB; rw [h1, h2]; rfl), List.length_cons] at he
          have HE := Lib.hid (show k + 1 + ((s.data.toList.drop (k + 1)).takeWhile woB).length = E by omega)
          clear he hc
          go_wp2_with (first | (go_at_call 44; refine (rletter_any _ _).mono ?_; rintro e w' ⟨rfl, rfl⟩) | (go_at_call 46; refine (rdigit_any _ _).mono ?_; rintro e w' ⟨rfl, rfl⟩))
          go_round
          case measure => simp [intOf]; omega
          case rel => exact ⟨k + 1, by omega, by go_num, HE.out⟩
        | false =>
          by_cases h3 : c.toNat = 95
          · rw [if_pos (by unfold woB; rw [h1, h2, decide_eq_true h3]; rfl), List.length_cons] at he
            have HE := Lib.hid (show k + 1 + ((s.data.toList.drop (k + 1)).takeWhile woB).length = E by omega)
            have e3 : ((c.toNat : Int) == 95) = true := by simp; omega
            clear he hc h3
            go_wp2_with (first | (go_at_call 44; refine (rletter_any _ _).mono ?_; rintro e w' ⟨rfl, rfl⟩) | (go_at_call 46; refine (rdigit_any _ _).mono ?_; rintro e w' ⟨rfl, rfl⟩))
            go_round
            case measure => simp [intOf]; omega
            case rel => exact ⟨k + 1, by omega, by go_num, HE.out⟩
          · rw [if_neg (by unfold woB; rw [h1, h2, decide_eq_false h3]; simp)] at he
            obtain rfl : k = E := he
            have e3 : ((c.toNat : Int) == 95) = false := by simp; omega
            clear hc h3
            go_wp2_with (first | (go_at_call 44; refine (rletter_any _ _).mono ?_; rintro e w' ⟨rfl, rfl⟩) | (go_at_call 46; refine (rdigit_any _ _).mono ?_; rintro e w' ⟨rfl, rfl⟩))
            go_ret
            exact ⟨rfl, rfl⟩
    · obtain rfl : k = s.size := by omega
      rw [drop_end] at he
      obtain rfl : s.size = E := he
      go_wp2
      go_ret
      exact ⟨rfl, rfl⟩

/-- The number that the reference reckons: exact up to 2^30, and above it if it is above it. -/
def satF : Nat → List UInt8 → Nat
  | n, [] => n
  | n, c :: r => satF (if n ≤ 1073741824 then 10 * n + (c.toNat - 48) else n) r
theorem satF_big : ∀ (l : List UInt8) (n : Nat), 1073741824 < n → satF n l = n
  | [], _, _ => rfl
  | c :: r, n, h => by
    unfold satF
    rw [if_neg (by omega)]
    exact satF_big r n h
theorem satF_is : ∀ (l : List UInt8) (n : Nat), (valF n l ≤ 1073741824 → satF n l = valF n l) ∧ (1073741824 < valF n l → 1073741824 < satF n l)
  | [], n => ⟨fun _ => rfl, fun h => h⟩
  | c :: r, n => by
    have hg := valF_ge r (10 * n + (c.toNat - 48))
    unfold satF valF
    by_cases h : n ≤ 1073741824
    · rw [if_pos h]
      exact satF_is r _
    · rw [if_neg h, satF_big r n (by omega)]
      exact ⟨fun h2 => by omega, fun _ => by omega⟩

set_option maxHeartbeats 4000000 in
theorem rnumber_any (s : ByteArray) (i : Nat) (w : World) (hs : s.size ≤ 140737488351232) (hi : i ≤ s.size) :
    Calls Tryd.prog 47 #[.string s, .int .i64 (i : Int)] w fun e w' => e = .returned (.tuple #[.int .i64 ((i + ((s.data.toList.drop i).takeWhile diB).length : Nat) : Int), .int .i64 (satF 0 ((s.data.toList.drop i).takeWhile diB) : Int)]) ∧ w = w' := by
  obtain ⟨E, hE⟩ : ∃ E, i + ((s.data.toList.drop i).takeWhile diB).length = E := ⟨_, rfl⟩
  obtain ⟨V, hV⟩ : ∃ V, satF 0 ((s.data.toList.drop i).takeWhile diB) = V := ⟨_, rfl⟩
  rw [hE, hV]
  have HE0 := Lib.hid hE
  have HV0 := Lib.hid hV
  clear hE hV
  go_enter Tryd.func47, Tryd.ntmps47
  go_wp2
  go_loop [1, 6] (fun v u => ∃ k n : Nat, k ≤ s.size ∧ v = .int .i64 (k : Int) ∧ u = .int .i64 (n : Int) ∧ n ≤ 10737418249 ∧ k + ((s.data.toList.drop k).takeWhile diB).length = E ∧ satF n ((s.data.toList.drop k).takeWhile diB) = V) (fun v _ => s.size - (intOf v).toNat)
  case atStart => exact ⟨i, 0, hi, rfl, rfl, by omega, HE0.out, HV0.out⟩
  case round =>
    obtain ⟨k, n, hk, rfl, rfl, hn, he, hv⟩ := hrel
    by_cases hlt : k < s.size
    · have b1 : (k : Int) < (s.size : Int) := by omega
      rw [takeWhile_drop diB s k hlt] at he hv
      obtain ⟨c, hc⟩ : ∃ c, s[k]'hlt = c := ⟨_, rfl⟩
      rw [hc] at he hv
      have hcn : (s[k]'hlt).toNat = c.toNat := by rw [hc]
      cases h1 : diB c with
      | true =>
        rw [if_pos h1, List.length_cons] at he
        rw [if_pos h1] at hv
        have hd : 48 ≤ c.toNat ∧ c.toNat ≤ 57 := by simpa [diB] using h1
        have HE := Lib.hid (show k + 1 + ((s.data.toList.drop (k + 1)).takeWhile diB).length = E by omega)
        by_cases hb : n ≤ 1073741824
        · have HV := Lib.hid (show satF (10 * n + (c.toNat - 48)) ((s.data.toList.drop (k + 1)).takeWhile diB) = V by unfold satF at hv; rw [if_pos hb] at hv; exact hv)
          have b2 : (n : Int) ≤ 1073741824 := by omega
          have b3 : IntKind.i64.wrap (10 * (n : Int)) = 10 * (n : Int) := by rw [IntKind.wrap_i64]; omega
          have b4 : IntKind.u8.wrap ((c.toNat : Int) - 48) = ((c.toNat - 48 : Nat) : Int) := by unfold IntKind.wrap; simp [IntKind.bits, IntKind.signed]; omega
          have b5 : IntKind.i64.wrap (((c.toNat - 48 : Nat) : Int)) = ((c.toNat - 48 : Nat) : Int) := by rw [IntKind.wrap_i64]; omega
          have b6 : IntKind.i64.wrap (10 * (n : Int) + ((c.toNat - 48 : Nat) : Int)) = 10 * (n : Int) + ((c.toNat - 48 : Nat) : Int) := by rw [IntKind.wrap_i64]; omega
          clear he hv hc
          go_wp2_with (first | (go_at_call 44; refine (rletter_any _ _).mono ?_; rintro e w' ⟨rfl, rfl⟩) | (go_at_call 46; refine (rdigit_any _ _).mono ?_; rintro e w' ⟨rfl, rfl⟩))
          go_round
          case measure => simp [intOf]; omega
          case rel => exact ⟨k + 1, 10 * n + (c.toNat - 48), by omega, by go_num, by go_num, by omega, HE.out, HV.out⟩
        · have HV := Lib.hid (show satF n ((s.data.toList.drop (k + 1)).takeWhile diB) = V by unfold satF at hv; rw [if_neg hb] at hv; exact hv)
          have b2 : ¬ (n : Int) ≤ 1073741824 := by omega
          clear he hv hc
          go_wp2_with (first | (go_at_call 44; refine (rletter_any _ _).mono ?_; rintro e w' ⟨rfl, rfl⟩) | (go_at_call 46; refine (rdigit_any _ _).mono ?_; rintro e w' ⟨rfl, rfl⟩))
          go_round
          case measure => simp [intOf]; omega
          case rel => exact ⟨k + 1, n, by omega, by go_num, rfl, hn, HE.out, HV.out⟩
      | false =>
        rw [if_neg (by simp [h1])] at he hv
        obtain rfl : k = E := he
        obtain rfl : n = V := hv
        clear hc
        go_wp2_with (first | (go_at_call 44; refine (rletter_any _ _).mono ?_; rintro e w' ⟨rfl, rfl⟩) | (go_at_call 46; refine (rdigit_any _ _).mono ?_; rintro e w' ⟨rfl, rfl⟩))
        go_ret2
        exact ⟨rfl, rfl⟩
    · obtain rfl : k = s.size := by omega
      rw [drop_end] at he hv
      obtain rfl : s.size = E := he
      obtain rfl : n = V := hv
      go_wp2
      go_ret2
      exact ⟨rfl, rfl⟩
end Go.Proofs.YtpmndopcemdniaaDoor
