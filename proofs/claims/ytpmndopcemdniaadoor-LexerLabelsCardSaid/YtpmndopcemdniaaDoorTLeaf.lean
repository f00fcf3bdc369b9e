/- Contracts of package lexer's classes of characters, and of prefix. Conditions: as each states. -/
import Derived.Test.YtpmndopcemdniaaDoorMem
import Derived.Test.YtpmndopcemdniaaDoorShelf
import Derived.Test.YtpmndopcemdniaaDoorTStr
namespace Go.Proofs.YtpmndopcemdniaaDoor
open Go.RowKit

set_option maxHeartbeats 400000 in
theorem xletter_any (c : Int) (w : World) : Calls Tryd.prog 66 #[.int .i32 c] w fun e w' => e = .returned (.bool (ltrI c)) ∧ w = w' := by
  by_cases h1 : 97 ≤ c
  · by_cases h2 : c ≤ 122
    · have H := Lib.hid (show ltrI c = true from decide_eq_true ⟨h1, h2⟩)
      go_enter Tryd.func66, Tryd.ntmps66
      go_wp2
      go_ret
      exact ⟨ret_bool H.out.symm, rfl⟩
    · have H := Lib.hid (show ltrI c = false from decide_eq_false (fun x => h2 x.2))
      go_enter Tryd.func66, Tryd.ntmps66
      go_wp2
      go_ret
      exact ⟨ret_bool H.out.symm, rfl⟩
  · have H := Lib.hid (show ltrI c = false from decide_eq_false (fun x => h1 x.1))
    go_enter Tryd.func66, Tryd.ntmps66
    go_wp2
    go_ret
    exact ⟨ret_bool H.out.symm, rfl⟩

set_option maxHeartbeats 400000 in
theorem xdigit_any (c : Int) (w : World) : Calls Tryd.prog 68 #[.int .i32 c] w fun e w' => e = .returned (.bool (digI c)) ∧ w = w' := by
  by_cases h1 : 48 ≤ c
  · by_cases h2 : c ≤ 57
    · have H := Lib.hid (show digI c = true from decide_eq_true ⟨h1, h2⟩)
      go_enter Tryd.func68, Tryd.ntmps68
      go_wp2
      go_ret
      exact ⟨ret_bool H.out.symm, rfl⟩
    · have H := Lib.hid (show digI c = false from decide_eq_false (fun x => h2 x.2))
      go_enter Tryd.func68, Tryd.ntmps68
      go_wp2
      go_ret
      exact ⟨ret_bool H.out.symm, rfl⟩
  · have H := Lib.hid (show digI c = false from decide_eq_false (fun x => h1 x.1))
    go_enter Tryd.func68, Tryd.ntmps68
    go_wp2
    go_ret
    exact ⟨ret_bool H.out.symm, rfl⟩

/-- A further character of a word. -/
def worI (c : Int) : Bool := ltrI c || digI c || decide (c = 95)
set_option maxHeartbeats 400000 in
theorem xword1_any (c : Int) (w : World) : Calls Tryd.prog 83 #[.int .i32 c] w fun e w' => e = .returned (.bool (worI c)) ∧ w = w' := by
  cases h1 : ltrI c
  · cases h2 : digI c
    · by_cases h3 : c = 95
      · have H := Lib.hid (show worI c = true by unfold worI; rw [h1, h2]; simp [h3])
        have e3 : (c == 95) = true := by simp [h3]
        clear h3
        go_enter Tryd.func83, Tryd.ntmps83
        go_wp2_with (first | (go_at_call 66; refine (xletter_any _ _).mono ?_; rintro e w' ⟨rfl, rfl⟩) | (go_at_call 68; refine (xdigit_any _ _).mono ?_; rintro e w' ⟨rfl, rfl⟩))
        go_ret
        exact ⟨ret_bool H.out.symm, rfl⟩
      · have H := Lib.hid (show worI c = false by unfold worI; rw [h1, h2]; simp [h3])
        have e3 : (c == 95) = false := by simp [h3]
        clear h3
        go_enter Tryd.func83, Tryd.ntmps83
        go_wp2_with (first | (go_at_call 66; refine (xletter_any _ _).mono ?_; rintro e w' ⟨rfl, rfl⟩) | (go_at_call 68; refine (xdigit_any _ _).mono ?_; rintro e w' ⟨rfl, rfl⟩))
        go_ret
        exact ⟨ret_bool H.out.symm, rfl⟩
    · have H := Lib.hid (show worI c = true by unfold worI; rw [h1, h2]; rfl)
      go_enter Tryd.func83, Tryd.ntmps83
      go_wp2_with (first | (go_at_call 66; refine (xletter_any _ _).mono ?_; rintro e w' ⟨rfl, rfl⟩) | (go_at_call 68; refine (xdigit_any _ _).mono ?_; rintro e w' ⟨rfl, rfl⟩))
      go_ret
      exact ⟨ret_bool H.out.symm, rfl⟩
  · have H := Lib.hid (show worI c = true by unfold worI; rw [h1]; rfl)
    go_enter Tryd.func83, Tryd.ntmps83
    go_wp2_with (first | (go_at_call 66; refine (xletter_any _ _).mono ?_; rintro e w' ⟨rfl, rfl⟩) | (go_at_call 68; refine (xdigit_any _ _).mono ?_; rintro e w' ⟨rfl, rfl⟩))
    go_ret
    exact ⟨ret_bool H.out.symm, rfl⟩

theorem xres_bytes : ∀ c : Nat, c < 128 → decide (0 ≤ Lib.indexByte [34, 92, 44, 123, 125] c.toUInt8) = resB (c : Int) := by decide +kernel
theorem xres_any (c : Nat) (hc : c < 128) (w : World) : Calls Tryd.prog 32 #[.string ⟨#[34, 92, 44, 123, 125]⟩, .int .i32 (c : Int)] w fun e w' => e = .returned (.bool (resB (c : Int))) ∧ w = w' :=
  (Tryd.strings_ContainsRune_ascii ⟨#[34, 92, 44, 123, 125]⟩ (c : Int) w (by omega) (by omega)).mono fun e w' ⟨he, hw⟩ => ⟨by rw [he, Int.toNat_natCast, ← xres_bytes c hc], hw.symm⟩
set_option maxHeartbeats 400000 in
theorem xforeign_any (c : Nat) (w : World) : Calls Tryd.prog 88 #[.int .i32 (c : Int)] w fun e w' => e = .returned (.bool (!decide (vchP (c : Int)))) ∧ w = w' := by
  by_cases h1 : (c : Int) < 33
  · have H := Lib.hid (show (!decide (vchP (c : Int))) = true by rw [decide_eq_false (fun h => by unfold vchP at h; omega)]; rfl)
    go_enter Tryd.func88, Tryd.ntmps88
    go_wp2
    go_ret
    exact ⟨ret_bool H.out.symm, rfl⟩
  · by_cases h2 : (c : Int) ≤ 126
    · have hc : c < 128 := by omega
      have H := Lib.hid (show (!decide (vchP (c : Int))) = resB (c : Int) by
        unfold resB
        by_cases h : vchP (c : Int)
        · rw [decide_eq_true h, decide_eq_false (by unfold vchP at h; omega)]; rfl
        · rw [decide_eq_false h, decide_eq_true (by unfold vchP at h; omega)]; rfl)
      go_enter Tryd.func88, Tryd.ntmps88
      go_wp2_with (go_at_call 32; refine (xres_any c hc _).mono ?_; rintro e w' ⟨rfl, rfl⟩)
      go_ret
      exact ⟨ret_bool (by rw [decide_eq_false (show ¬ 126 < (c : Int) by omega)]; exact H.out.symm), rfl⟩
    · have H := Lib.hid (show (!decide (vchP (c : Int))) = true by rw [decide_eq_false (fun h => by unfold vchP at h; omega)]; rfl)
      go_enter Tryd.func88, Tryd.ntmps88
      go_wp2
      go_ret
      exact ⟨ret_bool H.out.symm, rfl⟩

theorem pays_of {g : Nat} {p : Nat → Bool} (h : ∀ (c : Nat) (w : World), Calls Tryd.prog g #[.int .i32 (c : Int)] w fun e w' => e = .returned (.bool (p c)) ∧ w = w') (w : World) : PredGrows Tryd.prog g #[] p w :=
  fun W x _ _ => (h x W).mono fun _ _ ⟨he, hw⟩ => ⟨he, by rw [← hw]; exact Below.refl _ _⟩

/-- A class of ASCII characters: as a closure of the program, as a property of runes and of bytes. -/
structure Cls (g : Nat) (p : Nat → Bool) (q : UInt8 → Bool) : Prop where
  call : ∀ (c : Nat) (w : World), Calls Tryd.prog g #[.int .i32 (c : Int)] w fun e w' => e = .returned (.bool (p c)) ∧ w = w'
  enter : ∀ args w, (callFunc g args).run Tryd.prog w = .ok (.enter g args) w
  low : ∀ c : UInt8, c.toNat < 128 → p c.toNat = q c
  byte : ∀ c : UInt8, ¬ c.toNat < 128 → q c = false
  high : ∀ x, 128 ≤ x → p x = false
theorem cls_digit : Cls 68 (fun c => digI (c : Int)) diB :=
  ⟨fun c w => xdigit_any c w, enters_of Tryd.func68 (by kernel_rfl) rfl, fun c _ => by unfold digI diB; simp only [decide_eq_decide]; omega, fun c h => by unfold diB; simp only [decide_eq_false_iff_not]; omega, fun x h => by unfold digI; simp only [decide_eq_false_iff_not]; omega⟩
theorem cls_word : Cls 83 (fun c => worI (c : Int)) woB :=
  ⟨fun c w => xword1_any c w, enters_of Tryd.func83 (by kernel_rfl) rfl, fun c _ => by
      unfold worI woB ltrI digI leB diB
      rw [show decide (97 ≤ ((c.toNat : Nat) : Int) ∧ ((c.toNat : Nat) : Int) ≤ 122) = decide (97 ≤ c.toNat ∧ c.toNat ≤ 122) by simp only [decide_eq_decide]; omega, show decide (48 ≤ ((c.toNat : Nat) : Int) ∧ ((c.toNat : Nat) : Int) ≤ 57) = decide (48 ≤ c.toNat ∧ c.toNat ≤ 57) by simp only [decide_eq_decide]; omega,
        show decide (((c.toNat : Nat) : Int) = 95) = decide (c.toNat = 95) by simp only [decide_eq_decide]; omega],
    fun c h => by unfold woB leB diB; rw [decide_eq_false (by omega), decide_eq_false (by omega), decide_eq_false (by omega)]; rfl,
    fun x h => by unfold worI ltrI digI; rw [decide_eq_false (by omega), decide_eq_false (by omega), decide_eq_false (by omega)]; rfl⟩

set_option maxHeartbeats 1000000 in
theorem prefix_any {g : Nat} {p : Nat → Bool} {q : UInt8 → Bool} (C : Cls g p q) (s : ByteArray) (w : World) (hs : s.size ≤ 140737488351232) :
    Calls Tryd.prog 82 #[.string s, .func (.func g) #[] #[]] w fun e w' => e = .returned (.string (ba (s.data.toList.takeWhile q))) ∧ Below w.heap.size w w' := by
  have T := Lib.hid (fun W => Tryd.strings_TrimLeftFunc_grows g #[] C.enter p s W (pays_of C.call W))
  have hz := trim_class p q C.low C.byte C.high s
  obtain ⟨t, ht⟩ : ∃ t : ByteArray, Lib.trimLeftF p s = t := ⟨_, rfl⟩
  rw [ht] at T hz
  have hl : (s.data.toList.takeWhile q).length ≤ s.size := by rw [← list_len s]; exact (List.takeWhile_prefix _).length_le
  obtain ⟨k, hk⟩ : ∃ k, (s.data.toList.takeWhile q).length = k := ⟨_, rfl⟩
  have HR := Lib.hid (show s.extract 0 k = ba (s.data.toList.takeWhile q) by
    rw [ba_take, ← hk]
    congr 1
    exact List.prefix_iff_eq_take.1 (List.takeWhile_prefix _) |>.symm)
  rw [hk] at hl hz
  have b1 : IntKind.i64.wrap ((s.size : Int) - (t.size : Int)) = (k : Int) := by rw [IntKind.wrap_i64]; omega
  have b2 : (0 : Int) ≤ (k : Int) := by omega
  have b3 : (k : Int) ≤ (s.size : Int) := by omega
  clear hz ht hk hl
  go_enter Tryd.func82, Tryd.ntmps82
  go_wp2_with (go_at_call 97; refine (T.out _).mono ?_; rintro e w' ⟨rfl, hB⟩)
  go_ret
  exact ⟨by rw [← HR.out]; simp, hB⟩
end Go.Proofs.YtpmndopcemdniaaDoor
