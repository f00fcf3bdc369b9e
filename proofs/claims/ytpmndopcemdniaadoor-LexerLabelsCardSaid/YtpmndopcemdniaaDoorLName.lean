/- Contracts of Name and of its reference. Conditions: none. -/
import Derived.Laws.RangeString
import Derived.Laws.RangeAny
import Derived.Test.YtpmndopcemdniaaDoorMem
import Derived.Test.YtpmndopcemdniaaDoorShelf
import Derived.Test.YtpmndopcemdniaaDoorLMath
namespace Go.Proofs.YtpmndopcemdniaaDoor
open Go.RowKit

set_option maxHeartbeats 400000 in
theorem isletter_any (c : Int) (w : World) : Calls Tryd.prog 30 #[.int .i32 c] w fun e w' => e = .returned (.bool (ltrI c)) ∧ w = w' := by
  by_cases h1 : 97 ≤ c
  · by_cases h2 : c ≤ 122
    · have H := Lib.hid (show ltrI c = true from decide_eq_true ⟨h1, h2⟩)
      go_enter Tryd.func30, Tryd.ntmps30
      go_wp2
      go_ret
      exact ⟨ret_bool H.out.symm, rfl⟩
    · have H := Lib.hid (show ltrI c = false from decide_eq_false (fun x => h2 x.2))
      go_enter Tryd.func30, Tryd.ntmps30
      go_wp2
      go_ret
      exact ⟨ret_bool H.out.symm, rfl⟩
  · have H := Lib.hid (show ltrI c = false from decide_eq_false (fun x => h1 x.1))
    go_enter Tryd.func30, Tryd.ntmps30
    go_wp2
    go_ret
    exact ⟨ret_bool H.out.symm, rfl⟩

set_option maxHeartbeats 400000 in
theorem isdigit_any (c : Int) (w : World) : Calls Tryd.prog 31 #[.int .i32 c] w fun e w' => e = .returned (.bool (digI c)) ∧ w = w' := by
  by_cases h1 : 48 ≤ c
  · by_cases h2 : c ≤ 57
    · have H := Lib.hid (show digI c = true from decide_eq_true ⟨h1, h2⟩)
      go_enter Tryd.func31, Tryd.ntmps31
      go_wp2
      go_ret
      exact ⟨ret_bool H.out.symm, rfl⟩
    · have H := Lib.hid (show digI c = false from decide_eq_false (fun x => h2 x.2))
      go_enter Tryd.func31, Tryd.ntmps31
      go_wp2
      go_ret
      exact ⟨ret_bool H.out.symm, rfl⟩
  · have H := Lib.hid (show digI c = false from decide_eq_false (fun x => h1 x.1))
    go_enter Tryd.func31, Tryd.ntmps31
    go_wp2
    go_ret
    exact ⟨ret_bool H.out.symm, rfl⟩

/-- What a character that is no letter leads to. -/
theorem below_iter (w : World) (s : ByteArray) (k : Nat) : Below w.heap.size w (w.iter s k) := (Below.refl _ w).alloc (Nat.le_refl _) _

set_option maxHeartbeats 4000000 in
theorem name_any (s : ByteArray) (w : World) (hs : s.size ≤ 140737488351232) : Calls Tryd.prog 21 #[.string s] w fun e w' => e = .returned (.bool (nameB s)) ∧ Below w.heap.size w w' := by
  by_cases h1 : 1 ≤ s.size
  · have hE := empty_no h1
    have hF := isEmpty_no h1
    by_cases h2 : s.size ≤ 16
    · go_enter Tryd.func21, Tryd.ntmps21
      go_wp2
      go_loopg [3, 4] s.size (fun g _ _ wx => ∃ k : Nat, k + g = s.size ∧ wx = w.iter s k ∧ NamePre s k)
      case atStart => exact ⟨0, by omega, rfl, NamePre.zero s⟩
      case round =>
        obtain ⟨k, hkg, rfl, hp⟩ := hrel
        have HP := Lib.hid hp
        clear hp
        cases gk with
        | zero =>
          obtain rfl : k = s.size := by omega
          have HR := Lib.hid (nameB_true h1 h2 (fun j hj => HP.out j hj hj))
          have hnx := run_next_end (P := Tryd.prog) w s s.size
          go_wp2
          go_ret
          exact ⟨ret_bool HR.out.symm, below_iter w s _⟩
        | succ g =>
          have hk : k < s.size := by omega
          by_cases ha : (s[k]'hk).toNat < 128
          · have hnx := fun ty => run_next_ascii (P := Tryd.prog) w s k ty hk ha
            obtain ⟨c, hc⟩ : ∃ c : Nat, (s[k]'hk).toNat = c := ⟨_, rfl⟩
            have HC := Lib.hid hc
            rw [hc] at hnx ha
            clear hc
            by_cases hn : nchP k (c : Int)
            · have HS := Lib.hid (HP.out.succ hk (by rw [HC.out]; exact hn))
              by_cases hl : (97 ≤ (c : Int) ∧ (c : Int) ≤ 122)
              · have e1 : ltrI (c : Int) = true := decide_eq_true hl
                clear hn hl
                go_wp2_with (first | (go_at_call 30; refine (isletter_any _ _).mono ?_; rintro e w' ⟨rfl, rfl⟩) | (go_at_call 31; refine (isdigit_any _ _).mono ?_; rintro e w' ⟨rfl, rfl⟩))
                go_roundg g
                case measure => omega
                case rel => exact ⟨k + 1, by omega, rfl, HS.out⟩
              · have e1 : ltrI (c : Int) = false := decide_eq_false hl
                have hk0 : ((k : Int) == 0) = false := by
                  rcases hn with h | h
                  · exact absurd h hl
                  · simp; omega
                have ho : (48 ≤ (c : Int) ∧ (c : Int) ≤ 57) ∨ (c : Int) = 95 := by
                  rcases hn with h | h
                  · exact absurd h hl
                  · exact h.2
                by_cases hd : (48 ≤ (c : Int) ∧ (c : Int) ≤ 57)
                · have e2 : digI (c : Int) = true := decide_eq_true hd
                  clear hn hl ho hd
                  go_wp2_with (first | (go_at_call 30; refine (isletter_any _ _).mono ?_; rintro e w' ⟨rfl, rfl⟩) | (go_at_call 31; refine (isdigit_any _ _).mono ?_; rintro e w' ⟨rfl, rfl⟩))
                  go_roundg g
                  case measure => omega
                  case rel => exact ⟨k + 1, by omega, rfl, HS.out⟩
                · have e2 : digI (c : Int) = false := decide_eq_false hd
                  have e3 : ((c : Int) != 95) = false := by
                    rcases ho with h | h
                    · exact absurd h hd
                    · simp [h]
                  clear hn hl ho hd
                  go_wp2_with (first | (go_at_call 30; refine (isletter_any _ _).mono ?_; rintro e w' ⟨rfl, rfl⟩) | (go_at_call 31; refine (isdigit_any _ _).mono ?_; rintro e w' ⟨rfl, rfl⟩))
                  go_roundg g
                  case measure => omega
                  case rel => exact ⟨k + 1, by omega, rfl, HS.out⟩
            · have HR := Lib.hid (nameB_at k hk (by rw [HC.out]; exact hn))
              have hl : ¬ (97 ≤ (c : Int) ∧ (c : Int) ≤ 122) := fun h => hn (.inl h)
              have e1 : ltrI (c : Int) = false := decide_eq_false hl
              by_cases hk0 : k = 0
              · have ek : ((k : Int) == 0) = true := by simp [hk0]
                have HK := Lib.hid hk0
                clear hn hl hk0
                go_wp2_with (first | (go_at_call 30; refine (isletter_any _ _).mono ?_; rintro e w' ⟨rfl, rfl⟩) | (go_at_call 31; refine (isdigit_any _ _).mono ?_; rintro e w' ⟨rfl, rfl⟩))
                go_ret
                exact ⟨ret_bool HR.out.symm, below_iter w s _⟩
              · have ek : ((k : Int) == 0) = false := by simp; omega
                have e2 : digI (c : Int) = false := decide_eq_false fun h => hn (.inr ⟨hk0, .inl h⟩)
                have e3 : ((c : Int) != 95) = true := by
                  simp only [bne_iff_ne, ne_eq]
                  exact fun h => hn (.inr ⟨hk0, .inr h⟩)
                clear hn hl hk0
                go_wp2_with (first | (go_at_call 30; refine (isletter_any _ _).mono ?_; rintro e w' ⟨rfl, rfl⟩) | (go_at_call 31; refine (isdigit_any _ _).mono ?_; rintro e w' ⟨rfl, rfl⟩))
                go_ret
                exact ⟨ret_bool HR.out.symm, below_iter w s _⟩
          · have hnx := fun ty => run_next_any (P := Tryd.prog) w s k ty hk
            have hd := decode_wide s k hk ha
            obtain ⟨c, hc⟩ : ∃ c : Nat, (Utf8.decode s k).1 = c := ⟨_, rfl⟩
            obtain ⟨q, hq⟩ : ∃ q : Nat, (Utf8.decode s k).2 = q := ⟨_, rfl⟩
            rw [hc] at hnx hd
            rw [hq] at hnx
            clear hc hq
            have HR := Lib.hid (nameB_at k hk (by unfold nchP; omega))
            have e1 : ltrI (c : Int) = false := decide_eq_false (by omega)
            have e2 : digI (c : Int) = false := decide_eq_false (by omega)
            have e3 : ((c : Int) != 95) = true := by simp; omega
            clear ha
            by_cases hk0 : k = 0
            · have ek : ((k : Int) == 0) = true := by simp [hk0]
              have HK := Lib.hid hk0
              clear hk0
              go_wp2_with (first | (go_at_call 30; refine (isletter_any _ _).mono ?_; rintro e w' ⟨rfl, rfl⟩) | (go_at_call 31; refine (isdigit_any _ _).mono ?_; rintro e w' ⟨rfl, rfl⟩))
              go_ret
              exact ⟨ret_bool HR.out.symm, below_iter w s _⟩
            · have ek : ((k : Int) == 0) = false := by simp; omega
              clear hk0
              go_wp2_with (first | (go_at_call 30; refine (isletter_any _ _).mono ?_; rintro e w' ⟨rfl, rfl⟩) | (go_at_call 31; refine (isdigit_any _ _).mono ?_; rintro e w' ⟨rfl, rfl⟩))
              go_ret
              exact ⟨ret_bool HR.out.symm, below_iter w s _⟩
    · have HR := Lib.hid (nameB_long h2)
      go_enter Tryd.func21, Tryd.ntmps21
      go_wp2
      go_ret
      exact ⟨ret_bool HR.out.symm, Below.refl _ _⟩
  · have HR := Lib.hid (nameB_short h1)
    have hE := empty_is h1
    have hF := isEmpty_is h1
    go_enter Tryd.func21, Tryd.ntmps21
    go_wp2
    go_ret
    exact ⟨ret_bool HR.out.symm, Below.refl _ _⟩
end Go.Proofs.YtpmndopcemdniaaDoor
