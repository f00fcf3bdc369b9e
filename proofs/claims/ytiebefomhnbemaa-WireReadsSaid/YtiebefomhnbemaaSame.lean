/- Contracts of the reference model's comparisons of slices. Conditions: slices within the reach. -/
import Derived.BigQuiet
import Derived.Deep.QuietTactic
import Derived.Test.YtiebefomhnbemaaHelp
namespace Go.Proofs.Ytiebefomhnbemaa
open Go.RowKit

/-- An element of what came in. -/
theorem InAt.get {k : IntKind} {n₀ : Nat} {W : World} {a : Option Addr} {len cap : Nat} {zs : List Int} (h : InAt k n₀ W (.slice a len cap) zs) {j : Nat} (hj : j < zs.length) : ∃ b off, a = some ⟨b, off, none⟩ ∧ b < n₀ ∧ W.cell? ⟨b, off + j, none⟩ = some (.int k (zs[j]?.getD 0)) := by
  rcases h with h | ⟨_, _, _, rfl⟩
  · exact h.get hj
  · simp at hj
/-- Two lists are the same. -/
def sameL (xs ys : List Int) : Bool := decide (xs = ys)
theorem sameL_self (xs : List Int) : sameL xs xs = true := by simp [sameL]
theorem sameL_of {xs ys : List Int} (h : xs = ys) : sameL xs ys = true := by simp [sameL, h]
theorem sameL_not {xs ys : List Int} (h : xs ≠ ys) : sameL xs ys = false := by simp [sameL, h]
theorem ret_bool {a b : Bool} (h : a = b) : Ending.returned (.bool a) = .returned (.bool b) := by rw [h]

set_option maxRecDepth 100000 in
set_option maxHeartbeats 1000000 in
theorem sameints_any (a a' : Option Addr) (cap cap' : Nat) (xs ys : List Int) (w : World) (_hx : xs.length ≤ 17592186044404) (hX : InAt .i64 w.heap.size w (.slice a xs.length cap) xs) (hY : InAt .i64 w.heap.size w (.slice a' ys.length cap') ys) :
    Calls Try.prog 34 #[.slice a xs.length cap, .slice a' ys.length cap'] w fun e w' => e = .returned (.bool (sameL xs ys)) ∧ Below w.heap.size w w' := by
  by_cases hl : xs.length = ys.length
  · have hne : ((xs.length : Int) != (ys.length : Int)) = false := by rw [hl]; simp
    have Hl := Lib.hid hl
    clear hl
    go_enter Try.func34, Try.ntmps34
    go_wp2
    go_loopw [5] (fun i wr => ∃ k : Nat, k ≤ xs.length ∧ i = .int .i64 k ∧ xs.take k = ys.take k ∧ Below w.heap.size w wr) (fun i _ => xs.length - (intOf i).toNat)
    case atStart => exact ⟨0, Nat.zero_le _, rfl, rfl, Below.refl _ _⟩
    case round =>
      obtain ⟨k, hk, rfl, ht, hB⟩ := hrel
      have Ht := Lib.hid ht
      clear ht
      by_cases hlt : k < xs.length
      · obtain ⟨b, off, rfl, hbb, hcx⟩ := hX.get hlt
        have hly : k < ys.length := by rw [← Hl.out]; exact hlt
        obtain ⟨b', off', rfl, hbb', hcy⟩ := hY.get hly
        have hcx1 := (hB.cell (p := ⟨b, off + k, none⟩) hbb).trans hcx
        have hcy1 := (hB.cell (p := ⟨b', off' + k, none⟩) hbb').trans hcy
        clear hcx hcy
        by_cases he : xs[k] = ys[k]
        · have hbn : (xs[k] != ys[k]) = false := by simp [he]
          have He := Lib.hid he
          clear he
          go_wp2
          go_quiet (fail)
          go_wp2
          go_roundw
          case rel => exact ⟨k + 1, by omega, by go_num, by rw [List.take_succ_eq_append_getElem hlt, List.take_succ_eq_append_getElem hly, Ht.out, He.out], ⟨hB.os, hB.tape, hB.output, hB.size, hB.block⟩⟩
          case measure => simp [intOf]; omega
        · have hbn : (xs[k] != ys[k]) = true := by simp [he]
          have hns : sameL xs ys = false := sameL_not (fun h => he (by subst h; rfl))
          have Hns := Lib.hid hns
          clear he hns
          go_wp2
          go_quiet (fail)
          go_wp2
          go_ret
          exact ⟨ret_bool Hns.out.symm, ⟨hB.os, hB.tape, hB.output, hB.size, hB.block⟩⟩
      · obtain rfl : k = xs.length := by omega
        have hse : sameL xs ys = true := sameL_of (by have h := Ht.out; rw [List.take_length, Hl.out, List.take_length] at h; exact h)
        have Hse := Lib.hid hse
        clear hse
        go_wp2
        go_ret
        exact ⟨ret_bool Hse.out.symm, hB⟩
  · have hne : ((xs.length : Int) != (ys.length : Int)) = true := by rw [bne_iff_ne]; omega
    have hns : sameL xs ys = false := sameL_not (fun h => hl (by rw [h]))
    have Hns := Lib.hid hns
    clear hl hns
    go_enter Try.func34, Try.ntmps34
    go_wp2
    go_ret
    exact ⟨ret_bool Hns.out.symm, Below.refl _ _⟩

set_option maxRecDepth 100000 in
set_option maxHeartbeats 1000000 in
theorem samebytes_any (a a' : Option Addr) (cap cap' : Nat) (xs ys : List Int) (w : World) (_hx : xs.length ≤ 17592186044404) (hX : InAt .u8 w.heap.size w (.slice a xs.length cap) xs) (hY : InAt .u8 w.heap.size w (.slice a' ys.length cap') ys) :
    Calls Try.prog 15 #[.slice a xs.length cap, .slice a' ys.length cap'] w fun e w' => e = .returned (.bool (sameL xs ys)) ∧ Below w.heap.size w w' := by
  by_cases hl : xs.length = ys.length
  · have hne : ((xs.length : Int) != (ys.length : Int)) = false := by rw [hl]; simp
    have Hl := Lib.hid hl
    clear hl
    go_enter Try.func15, Try.ntmps15
    go_wp2
    go_loopw [5] (fun i wr => ∃ k : Nat, k ≤ xs.length ∧ i = .int .i64 k ∧ xs.take k = ys.take k ∧ Below w.heap.size w wr) (fun i _ => xs.length - (intOf i).toNat)
    case atStart => exact ⟨0, Nat.zero_le _, rfl, rfl, Below.refl _ _⟩
    case round =>
      obtain ⟨k, hk, rfl, ht, hB⟩ := hrel
      have Ht := Lib.hid ht
      clear ht
      by_cases hlt : k < xs.length
      · obtain ⟨b, off, rfl, hbb, hcx⟩ := hX.get hlt
        have hly : k < ys.length := by rw [← Hl.out]; exact hlt
        obtain ⟨b', off', rfl, hbb', hcy⟩ := hY.get hly
        have hcx1 := (hB.cell (p := ⟨b, off + k, none⟩) hbb).trans hcx
        have hcy1 := (hB.cell (p := ⟨b', off' + k, none⟩) hbb').trans hcy
        clear hcx hcy
        by_cases he : xs[k] = ys[k]
        · have hbn : (xs[k] != ys[k]) = false := by simp [he]
          have He := Lib.hid he
          clear he
          go_wp2
          go_quiet (fail)
          go_wp2
          go_roundw
          case rel => exact ⟨k + 1, by omega, by go_num, by rw [List.take_succ_eq_append_getElem hlt, List.take_succ_eq_append_getElem hly, Ht.out, He.out], ⟨hB.os, hB.tape, hB.output, hB.size, hB.block⟩⟩
          case measure => simp [intOf]; omega
        · have hbn : (xs[k] != ys[k]) = true := by simp [he]
          have hns : sameL xs ys = false := sameL_not (fun h => he (by subst h; rfl))
          have Hns := Lib.hid hns
          clear he hns
          go_wp2
          go_quiet (fail)
          go_wp2
          go_ret
          exact ⟨ret_bool Hns.out.symm, ⟨hB.os, hB.tape, hB.output, hB.size, hB.block⟩⟩
      · obtain rfl : k = xs.length := by omega
        have hse : sameL xs ys = true := sameL_of (by have h := Ht.out; rw [List.take_length, Hl.out, List.take_length] at h; exact h)
        have Hse := Lib.hid hse
        clear hse
        go_wp2
        go_ret
        exact ⟨ret_bool Hse.out.symm, hB⟩
  · have hne : ((xs.length : Int) != (ys.length : Int)) = true := by rw [bne_iff_ne]; omega
    have hns : sameL xs ys = false := sameL_not (fun h => hl (by rw [h]))
    have Hns := Lib.hid hns
    clear hl hns
    go_enter Try.func15, Try.ntmps15
    go_wp2
    go_ret
    exact ⟨ret_bool Hns.out.symm, Below.refl _ _⟩
end Go.Proofs.Ytiebefomhnbemaa
