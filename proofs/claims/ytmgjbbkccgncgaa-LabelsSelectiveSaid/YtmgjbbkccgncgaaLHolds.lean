/- Contracts of holds and of its reference. Conditions: none but the words' size. -/
import Derived.Test.YtmgjbbkccgncgaaLMatch
namespace Go.Proofs.Ytmgjbbkccgncgaa
open Go.RowKit

theorem eqB (u v : ByteArray) : decide (u = v) = (u.toList == v.toList) := by
  by_cases h : u = v
  · rw [str_yes h]; exact decide_eq_true h
  · rw [str_no h]; exact decide_eq_false h
theorem neB (u v : ByteArray) : decide (u ≠ v) = (!(u.toList == v.toList)) := by
  rw [← eqB]; simp

set_option maxHeartbeats 4000000 in
theorem holds_any (n v u : ByteArray) (k : Int) (w : World) (hkd : k = 0 ∨ k = 1 ∨ k = 2 ∨ (k ≠ 0 ∧ k ≠ 1 ∧ k ≠ 2)) :
    Calls Try.prog 57 #[.agg #[.string n, .int .i64 k, .string v], .string u] w fun e w' => e = .returned (.bool (holdsB k v u)) ∧ Below w.heap.size w w' := by
  have B1 := Lib.hid ((Below.refl w.heap.size w).alloc (Nat.le_refl _) (.cells #[.string n, .int .i64 k, .string v] 24))
  have H := Lib.hid (fun W => hasprefix_any u v W)
  rcases hkd with rfl | rfl | rfl | ⟨h0, h1, h2⟩
  · have HR := Lib.hid (show holdsB 0 v u = (u.toList == v.toList) from eqB u v)
    go_enter Try.func57, Try.ntmps57
    go_wp2
    go_ret
    exact ⟨ret_bool HR.out.symm, B1.out⟩
  · have HR := Lib.hid (show holdsB 1 v u = (!(u.toList == v.toList)) from neB u v)
    go_enter Try.func57, Try.ntmps57
    go_wp2
    go_ret
    exact ⟨ret_bool HR.out.symm, B1.out⟩
  · have HR := Lib.hid (show holdsB 2 v u = prefB u v from rfl)
    go_enter Try.func57, Try.ntmps57
    go_wp2_with (go_at_call 69; refine (H.out _).mono ?_; rintro e w' ⟨rfl, rfl⟩)
    go_ret
    exact ⟨ret_bool HR.out.symm, B1.out⟩
  · have HR := Lib.hid (show holdsB k v u = false by unfold holdsB; rw [if_neg h0, if_neg h1, if_neg h2])
    have x0 : (k == 0) = false := by simp [h0]
    have x1 : (k == 1) = false := by simp [h1]
    have x2 : (k == 2) = false := by simp [h2]
    go_enter Try.func57, Try.ntmps57
    go_wp2
    go_ret
    exact ⟨ret_bool HR.out.symm, B1.out⟩

set_option maxHeartbeats 4000000 in
theorem refholds_any (n v u : ByteArray) (k : Int) (w : World) (hkd : k = 0 ∨ k = 1 ∨ k = 2 ∨ (k ≠ 0 ∧ k ≠ 1 ∧ k ≠ 2)) :
    Calls Try.prog 58 #[.agg #[.string n, .int .i64 k, .string v], .string u] w fun e w' => e = .returned (.bool (holdsB k v u)) ∧ Below w.heap.size w w' := by
  have B1 := Lib.hid ((Below.refl w.heap.size w).alloc (Nat.le_refl _) (.cells #[.string n, .int .i64 k, .string v] 24))
  rcases hkd with rfl | rfl | rfl | ⟨h0, h1, h2⟩
  · have HR := Lib.hid (show holdsB 0 v u = (u.toList == v.toList) from eqB u v)
    go_enter Try.func58, Try.ntmps58
    go_wp2
    go_ret
    exact ⟨ret_bool HR.out.symm, B1.out⟩
  · have HR := Lib.hid (show holdsB 1 v u = (!(u.toList == v.toList)) from neB u v)
    go_enter Try.func58, Try.ntmps58
    go_wp2
    go_ret
    exact ⟨ret_bool HR.out.symm, B1.out⟩
  · by_cases hle : v.size ≤ u.size
    · have HR := Lib.hid (show holdsB 2 v u = ((u.extract 0 v.size).toList == v.toList) from by
        show prefB u v = _
        unfold prefB
        rw [decide_eq_true hle, Bool.true_and])
      have h1 : (v.size : Int) ≤ (u.size : Int) := by omega
      have hd : decide ((v.size : Int) ≤ (u.size : Int)) = true := decide_eq_true h1
      go_enter Try.func58, Try.ntmps58
      go_wp2_with fail
      go_quiet (fail)
      go_wp2
      go_ret
      exact ⟨ret_bool HR.out.symm, below_draw B1.out _⟩
    · have HR := Lib.hid (show holdsB 2 v u = false by show prefB u v = false; unfold prefB; rw [decide_eq_false hle]; rfl)
      have h1 : ¬ (v.size : Int) ≤ (u.size : Int) := by omega
      have hd : decide ((v.size : Int) ≤ (u.size : Int)) = false := decide_eq_false h1
      go_enter Try.func58, Try.ntmps58
      go_wp2_with fail
      go_quiet (fail)
      go_wp2
      go_ret
      exact ⟨ret_bool HR.out.symm, below_draw B1.out _⟩
  · have HR := Lib.hid (show holdsB k v u = false by unfold holdsB; rw [if_neg h0, if_neg h1, if_neg h2])
    have x0 : (k == 0) = false := by simp [h0]
    have x1 : (k == 1) = false := by simp [h1]
    have x2 : (k == 2) = false := by simp [h2]
    go_enter Try.func58, Try.ntmps58
    go_wp2
    go_ret
    exact ⟨ret_bool HR.out.symm, B1.out⟩
end Go.Proofs.Ytmgjbbkccgncgaa
