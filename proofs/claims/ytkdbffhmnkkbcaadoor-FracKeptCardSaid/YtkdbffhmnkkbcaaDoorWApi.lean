/- Contracts of a reader's Text, Raw, Ints, End, and of Read. Conditions: at most a million bytes. -/
import Derived.Laws.IdiomStrings
import Derived.Laws.BytesArg
import Derived.Test.YtkdbffhmnkkbcaaDoorWList
namespace Go.Proofs.YtkdbffhmnkkbcaaDoor.W
open Go.RowKit
variable {lo : Nat}

theorem str_bytes {W : World} {a : Option Addr} {l c : Nat} {X : List UInt8} (hI : BIn W.heap.size W (.slice a l c) X) :
    (convert 26 9 (.slice a l c)).run Tryd.prog W = .ok (.string ⟨X.toArray⟩) W := by
  rcases hI.cases with ⟨rfl, rfl, rfl, rfl⟩ | ⟨d, rfl, rfl, hcs⟩
  · exact run_convert_bytes_nil W 26 5 Tryd.underlying26 Tryd.underlying5 0 0 9 Tryd.underlying9
  · exact run_convert_bytes_back W 26 9 5 d c X Tryd.underlying26 Tryd.underlying5 Tryd.underlying9 (fun j hj => hcs j _ (by simp [u8s, hj, ofByte]))

set_option maxHeartbeats 1000000 in
theorem rtext_any (b : Nat) (s : St) (w : World) (hs : s.bs.length ≤ 1000000) (hr : Rd lo w b s) :
    Calls Tryd.prog 12 #[.pointer (some ⟨b, 0, none⟩)] w fun e w' => e = .returned (.string ⟨(rRaw s).1.toArray⟩) ∧ Rd lo w' b (rRaw s).2 ∧ Kp (· ≠ b) w w' := by
  have hl := listb_any b s w hs hr
  generalize (rRaw s).1 = X at *
  go_enter Tryd.func12, Tryd.ntmps12
  go_wp2_with fail
  refine hl.mono ?_
  rintro e w1 ⟨v, rfl, hv, hr1, hk⟩
  obtain ⟨a, c, rfl⟩ := hv.slice
  have hcv := str_bytes hv.in
  clear hl hv
  go_wp2
  go_ret
  exact ⟨rfl, hr1, hk⟩

set_option maxHeartbeats 1000000 in
theorem rend_any (b : Nat) (s : St) (w : World) (hs : s.bs.length ≤ 1000000) (hr : Rd lo w b s) :
    Calls Tryd.prog 13 #[.pointer (some ⟨b, 0, none⟩)] w fun e w' => e = .returned (.int .i64 (endE s : Int)) ∧ w = w' := by
  obtain ⟨a, l, c, hh, hl⟩ := hr.left
  have hc0 := cell_0 hh
  have hc1 := cell_1 hh
  clear hh hr
  obtain ⟨bs, e⟩ := s
  simp only at hl hs hc1 ⊢
  by_cases he : e = 0
  · subst he
    obtain rfl := hl rfl
    cases bs with
    | nil =>
      go_enter Tryd.func13, Tryd.ntmps13
      go_wp2
      go_ret
      exact ⟨rfl, rfl⟩
    | cons x r =>
      rw [List.length_cons] at hc0 hs
      go_enter Tryd.func13, Tryd.ntmps13
      go_wp2
      go_ret
      exact ⟨rfl, rfl⟩
  · have hE : endE ⟨bs, e⟩ = e := by simp [endE, he]
    have hne : ((e : Int) == 0) = false := by simp; omega
    have HE := Lib.hid hE
    clear hE he hl
    go_enter Tryd.func13, Tryd.ntmps13
    go_wp2
    go_ret
    rw [HE.out]
    exact ⟨rfl, rfl⟩

set_option maxHeartbeats 1000000 in
theorem read_any (n₀ : Nat) (a : Option Addr) (cap : Nat) (ys : List UInt8) (w : World) (hs : ys.length ≤ 1000000) (hI : BIn n₀ w (.slice a ys.length cap) ys) (hn : n₀ ≤ w.heap.size) :
    Calls Tryd.prog 8 #[.slice a ys.length cap] w fun e w' => ∃ b, e = .returned (.pointer (some ⟨b, 0, none⟩)) ∧ w.heap.size ≤ b ∧ Rd w.heap.size w' b ⟨ys, 0⟩ ∧ Below w.heap.size w w' := by
  go_enter Tryd.func8, Tryd.ntmps8
  go_wp2_with fail
  refine (clone_any n₀ a cap ys w (by omega) hI hn).mono ?_
  rintro e w1 ⟨v, rfl, hv, hB⟩
  have hsat := hv.sat
  obtain ⟨a', c', rfl⟩ := hv.slice
  go_wp2
  go_ret
  refine ⟨w1.heap.size, rfl, hB.size, ⟨_, heap_alloc_new w1 _, ⟨_, _, _, rfl⟩, fun _ => ?_⟩, hB.alloc hB.size _⟩
  exact (hsat.mono (Q := fun k => w.heap.size ≤ k ∧ k < w1.heap.size) (fun k hk h => ⟨h, hk⟩)).kp ((Kp.of_base ((Below.refl _ w1).alloc (Nat.le_refl _) _)).mono (fun k h => h.2))
end Go.Proofs.YtkdbffhmnkkbcaaDoor.W
