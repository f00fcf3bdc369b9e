/- Contract of the reference's symbol. Conditions: a byte at the place. -/
import Derived.Test.YtpmndopcemdniaaDoorTRLeaf
namespace Go.Proofs.YtpmndopcemdniaaDoor
open Go.RowKit

def oneV : Array Value := #[.string ⟨#[43]⟩, .string ⟨#[45]⟩, .string ⟨#[42]⟩, .string ⟨#[47]⟩, .string ⟨#[40]⟩, .string ⟨#[41]⟩, .string ⟨#[123]⟩, .string ⟨#[125]⟩, .string ⟨#[44]⟩, .string ⟨#[46]⟩, .string ⟨#[64]⟩, .string ⟨#[61]⟩]
theorem oneV_at (k : Nat) (hk : k < 12) : oneV[k]? = some (.string (ba (symsL.getD k []))) := by
  match k, hk with
  | 0, _ => rfl
  | 1, _ => rfl
  | 2, _ => rfl
  | 3, _ => rfl
  | 4, _ => rfl
  | 5, _ => rfl
  | 6, _ => rfl
  | 7, _ => rfl
  | 8, _ => rfl
  | 9, _ => rfl
  | 10, _ => rfl
  | 11, _ => rfl
theorem sym_one (k : Nat) (hk : k < 12) : (symsL.getD k []).length = 1 := (show ∀ k, k < 12 → (symsL.getD k []).length = 1 by decide) k hk
/-- No symbol of two bytes begins here. -/
def noTwo (l : List UInt8) : Prop := List.isPrefixOf [33, 61] l = false ∧ List.isPrefixOf [94, 61] l = false
theorem sym_end {c : UInt8} {r : List UInt8} (h2 : noTwo (c :: r)) (h : ∀ j, j < 12 → symsL.getD j [] ≠ [c]) : symL (c :: r) = [] := by
  refine sym_none _ fun k hk => ?_
  by_cases h12 : k < 12
  · obtain ⟨x, hx⟩ := List.length_eq_one_iff.1 (sym_one k h12)
    have hn := h k h12
    rw [hx] at hn ⊢
    have hxc : x ≠ c := fun e => hn (by rw [e])
    simp [List.isPrefixOf, hxc]
  · by_cases h13 : k = 12
    · rw [h13]; exact h2.1
    · rw [show k = 13 by omega]; exact h2.2
theorem sym_hit {c : UInt8} {r : List UInt8} (k : Nat) (hk : k < 12) (h : symsL.getD k [] = [c]) : symL (c :: r) = [c] := by
  have h1 := sym_at k (by omega) (c :: r) (by rw [h]; simp [List.isPrefixOf])
  rw [h1, h]
theorem ba_toList (l : List UInt8) : (ba l).toList = l := by rw [ByteArray.toList_eq]; rfl
theorem ba_ne {a b : List UInt8} (h : a ≠ b) : ((ba a).toList == (ba b).toList) = false := by
  rw [ba_toList, ba_toList]; simp [h]
theorem ba_same {a b : List UInt8} (h : a = b) : ((ba a).toList == (ba b).toList) = true := by rw [h]; simp

set_option maxRecDepth 100000 in
set_option maxHeartbeats 4000000 in
theorem rsymbol_any (s : ByteArray) (i : Nat) (w : World) (hs : s.size ≤ 140737488351232) (hi : i < s.size) :
    Calls Tryd.prog 49 #[.string s, .int .i64 (i : Int)] w fun e w' => e = .returned (.string (ba (symL (s.data.toList.drop i)))) ∧ Below w.heap.size w w' := by
  obtain ⟨c, hc⟩ : ∃ c, s[i]'hi = c := ⟨_, rfl⟩
  have hd := drop_cons s i hi
  rw [hc] at hd
  obtain ⟨Q, hQ⟩ : ∃ Q, symL (s.data.toList.drop i) = Q := ⟨_, rfl⟩
  rw [hQ]
  have hone : s.extract i (i + 1) = ba [c] := by
    rw [ba_ext, List.drop_take, show i + 1 - i = 1 by omega, hd, List.take_succ_cons, List.take_zero]
  have hsl : ∀ W : World, (Instr.slice 9 (.string s) (some (.int .i64 (i : Int))) (some (.int .i64 ((i : Int) + 1))) none).run Tryd.prog W = .ok (.string (ba [c])) W := fun W => by
    have h := run_slice_string (P := Tryd.prog) W 9 s .i64 .i64 i (i + 1) Tryd.underlying9 (by omega) (by omega) (by omega)
    rw [show ((i : Int)).toNat = i by omega, show ((i : Int) + 1).toNat = i + 1 by omega, hone] at h
    exact h
  have b0 : IntKind.i64.wrap ((i : Int) + 1) = (i : Int) + 1 := by rw [IntKind.wrap_i64]; omega
  have b00 : IntKind.i64.wrap ((i : Int) + 2) = (i : Int) + 2 := by rw [IntKind.wrap_i64]; omega
  have hE : ∀ x : UInt8, (c = x → ((ba [c]).toList == [x]) = true) ∧ (c ≠ x → ((ba [c]).toList == [x]) = false) := fun x => by
    rw [ByteArray.toList_eq]
    refine ⟨fun e => by subst e; simp [ba], fun e => ?_⟩
    simp [ba]
    exact e
  have HD := Lib.hid hd
  have HQ := Lib.hid hQ
  have HE := Lib.hid hE
  clear hd hQ hone hE hc
  by_cases h33 : c = 33
  · have e1 := (HE.out 33).1 h33
    have ho : oneB c = false := by rw [h33]; decide
    by_cases hn : i + 1 < s.size
    · have bn : (i : Int) + 1 < (s.size : Int) := by omega
      have hd2 := drop_cons s (i + 1) hn
      by_cases h61 : (s[i + 1]'hn).toNat = 61
      · have e61 : (((s[i + 1]'hn).toNat : Int) == 61) = true := by simp; omega
        have hc61 : s[i + 1]'hn = 61 := UInt8.toNat_inj.1 h61
        have HR := Lib.hid (show Q = [c, 61] by
          rw [← HQ.out, HD.out, sym_cons, if_neg (by simp [ho]), if_pos]
          rw [hd2, hc61]
          exact ⟨by rw [h33]; decide, rfl⟩)
        have htwo : s.extract i (i + 2) = ba [c, 61] := by
          rw [ba_ext, List.drop_take, show i + 2 - i = 2 by omega, HD.out, hd2, hc61, List.take_succ_cons, List.take_succ_cons, List.take_zero]
        have hsl2 : ∀ W : World, (Instr.slice 9 (.string s) (some (.int .i64 (i : Int))) (some (.int .i64 ((i : Int) + 2))) none).run Tryd.prog W = .ok (.string (ba [c, 61])) W := fun W => by
          have k := run_slice_string (P := Tryd.prog) W 9 s .i64 .i64 i (i + 2) Tryd.underlying9 (by omega) (by omega) (by omega)
          rw [show ((i : Int)).toNat = i by omega, show ((i : Int) + 2).toNat = i + 2 by omega, htwo] at k
          exact k
        clear h33 hd2 h61 hc61 htwo ho
        go_enter Tryd.func49, Tryd.ntmps49
        go_wp2
        go_ret
        exact ⟨by rw [HR.out]; rfl, Below.refl _ _⟩
      · have e61 : (((s[i + 1]'hn).toNat : Int) == 61) = false := by simp; omega
        have hc61 : ¬ s[i + 1]'hn = 61 := fun e => h61 (by rw [e]; rfl)
        have H2 := Lib.hid (show noTwo (s.data.toList.drop i) from by
          rw [HD.out, hd2]
          refine ⟨?_, ?_⟩ <;> simp [List.isPrefixOf] <;> intro _ e <;> exact hc61 e.symm)
        clear h33 hd2 h61 hc61 ho
        go_enter Tryd.func49, Tryd.ntmps49
        go_wp2
        obtain ⟨W1, hW1⟩ : ∃ W1, w.alloc (.cells #[.string ⟨#[43]⟩, .string ⟨#[45]⟩, .string ⟨#[42]⟩, .string ⟨#[47]⟩, .string ⟨#[40]⟩, .string ⟨#[41]⟩, .string ⟨#[123]⟩, .string ⟨#[125]⟩, .string ⟨#[44]⟩, .string ⟨#[46]⟩, .string ⟨#[64]⟩, .string ⟨#[61]⟩] 9) = W1 := ⟨_, rfl⟩
        have hB : Below w.heap.size w W1 := by rw [← hW1]; exact (Below.refl _ w).alloc (Nat.le_refl _) _
        have HC := Lib.hid (show ∀ k, k < 12 → W1.cell? ⟨w.heap.size, k, none⟩ = some (.string (ba (symsL.getD k []))) from fun k hk => by
          rw [← hW1, ← oneV_at k hk]
          exact World.cell?_alloc_mark w _ _ _ k)
        rw [hW1]
        clear hW1
        go_loop [7] (fun v => ∃ k : Nat, k ≤ 12 ∧ v = .int .i64 (k : Int) ∧ ∀ j, j < k → symsL.getD j [] ≠ [c]) (fun v => 12 - (intOf v).toNat)
        case atStart => exact ⟨0, by omega, rfl, fun j h => by omega⟩
        case round =>
          obtain ⟨k, hk, rfl, hno⟩ := hrel
          by_cases hlt : k < 12
          · have b1 : (k : Int) < 12 := by omega
            have ck := HC.out k hlt
            by_cases hx : symsL.getD k [] = [c]
            · have HR := Lib.hid (show Q = [c] by rw [← HQ.out, HD.out]; exact sym_hit k hlt hx)
              rw [hx] at ck
              have e9 := ba_same (rfl : [c] = [c])
              clear hx hno
              go_wp2
              go_ret
              exact ⟨by rw [HR.out]; rfl, hB⟩
            · have e9 := ba_ne hx
              have HN := Lib.hid (show ∀ j, j < k + 1 → symsL.getD j [] ≠ [c] from fun j hj => by
                by_cases e : j = k
                · rw [e]; exact hx
                · exact hno j (by omega))
              obtain ⟨z, hz⟩ : ∃ z, ba (symsL.getD k []) = z := ⟨_, rfl⟩
              rw [hz] at ck e9
              clear hx hno hz
              go_wp2
              go_round
              case measure => simp [intOf]; omega
              case rel => exact ⟨k + 1, by omega, by go_num, HN.out⟩
          · obtain rfl : k = 12 := by omega
            have HR := Lib.hid (show Q = [] by rw [← HQ.out, HD.out]; rw [HD.out] at H2; exact sym_end H2.out hno)
            clear hno
            go_wp2
            go_ret
            exact ⟨by rw [HR.out]; rfl, hB⟩
    · have bn : decide ((i : Int) + 1 < (s.size : Int)) = false := decide_eq_false (by omega)
      have hd2 : s.data.toList.drop (i + 1) = [] := by rw [show i + 1 = s.size by omega]; exact drop_end s
      have H2 := Lib.hid (show noTwo (s.data.toList.drop i) from by
        rw [HD.out, hd2]
        refine ⟨?_, ?_⟩ <;> simp [List.isPrefixOf])
      have bm : ¬ (i : Int) + 1 < (s.size : Int) := by omega
      clear h33 hd2 ho hn
      go_enter Tryd.func49, Tryd.ntmps49
      go_wp2
      obtain ⟨W1, hW1⟩ : ∃ W1, w.alloc (.cells #[.string ⟨#[43]⟩, .string ⟨#[45]⟩, .string ⟨#[42]⟩, .string ⟨#[47]⟩, .string ⟨#[40]⟩, .string ⟨#[41]⟩, .string ⟨#[123]⟩, .string ⟨#[125]⟩, .string ⟨#[44]⟩, .string ⟨#[46]⟩, .string ⟨#[64]⟩, .string ⟨#[61]⟩] 9) = W1 := ⟨_, rfl⟩
      have hB : Below w.heap.size w W1 := by rw [← hW1]; exact (Below.refl _ w).alloc (Nat.le_refl _) _
      have HC := Lib.hid (show ∀ k, k < 12 → W1.cell? ⟨w.heap.size, k, none⟩ = some (.string (ba (symsL.getD k []))) from fun k hk => by
        rw [← hW1, ← oneV_at k hk]
        exact World.cell?_alloc_mark w _ _ _ k)
      rw [hW1]
      clear hW1
      go_loop [7] (fun v => ∃ k : Nat, k ≤ 12 ∧ v = .int .i64 (k : Int) ∧ ∀ j, j < k → symsL.getD j [] ≠ [c]) (fun v => 12 - (intOf v).toNat)
      case atStart => exact ⟨0, by omega, rfl, fun j h => by omega⟩
      case round =>
        obtain ⟨k, hk, rfl, hno⟩ := hrel
        by_cases hlt : k < 12
        · have b1 : (k : Int) < 12 := by omega
          have ck := HC.out k hlt
          by_cases hx : symsL.getD k [] = [c]
          · have HR := Lib.hid (show Q = [c] by rw [← HQ.out, HD.out]; exact sym_hit k hlt hx)
            rw [hx] at ck
            have e9 := ba_same (rfl : [c] = [c])
            clear hx hno
            go_wp2
            go_ret
            exact ⟨by rw [HR.out]; rfl, hB⟩
          · have e9 := ba_ne hx
            have HN := Lib.hid (show ∀ j, j < k + 1 → symsL.getD j [] ≠ [c] from fun j hj => by
              by_cases e : j = k
              · rw [e]; exact hx
              · exact hno j (by omega))
            obtain ⟨z, hz⟩ : ∃ z, ba (symsL.getD k []) = z := ⟨_, rfl⟩
            rw [hz] at ck e9
            clear hx hno hz
            go_wp2
            go_round
            case measure => simp [intOf]; omega
            case rel => exact ⟨k + 1, by omega, by go_num, HN.out⟩
        · obtain rfl : k = 12 := by omega
          have HR := Lib.hid (show Q = [] by rw [← HQ.out, HD.out]; rw [HD.out] at H2; exact sym_end H2.out hno)
          clear hno
          go_wp2
          go_ret
          exact ⟨by rw [HR.out]; rfl, hB⟩
  · by_cases h94 : c = 94
    · have e1 := (HE.out 33).2 h33
      have e2 := (HE.out 94).1 h94
      have ho : oneB c = false := by rw [h94]; decide
      by_cases hn : i + 1 < s.size
      · have bn : (i : Int) + 1 < (s.size : Int) := by omega
        have hd2 := drop_cons s (i + 1) hn
        by_cases h61 : (s[i + 1]'hn).toNat = 61
        · have e61 : (((s[i + 1]'hn).toNat : Int) == 61) = true := by simp; omega
          have hc61 : s[i + 1]'hn = 61 := UInt8.toNat_inj.1 h61
          have HR := Lib.hid (show Q = [c, 61] by
            rw [← HQ.out, HD.out, sym_cons, if_neg (by simp [ho]), if_pos]
            rw [hd2, hc61]
            exact ⟨by rw [h94]; decide, rfl⟩)
          have htwo : s.extract i (i + 2) = ba [c, 61] := by
            rw [ba_ext, List.drop_take, show i + 2 - i = 2 by omega, HD.out, hd2, hc61, List.take_succ_cons, List.take_succ_cons, List.take_zero]
          have hsl2 : ∀ W : World, (Instr.slice 9 (.string s) (some (.int .i64 (i : Int))) (some (.int .i64 ((i : Int) + 2))) none).run Tryd.prog W = .ok (.string (ba [c, 61])) W := fun W => by
            have k := run_slice_string (P := Tryd.prog) W 9 s .i64 .i64 i (i + 2) Tryd.underlying9 (by omega) (by omega) (by omega)
            rw [show ((i : Int)).toNat = i by omega, show ((i : Int) + 2).toNat = i + 2 by omega, htwo] at k
            exact k
          clear h33 h94 hd2 h61 hc61 htwo ho
          go_enter Tryd.func49, Tryd.ntmps49
          go_wp2
          go_ret
          exact ⟨by rw [HR.out]; rfl, Below.refl _ _⟩
        · have e61 : (((s[i + 1]'hn).toNat : Int) == 61) = false := by simp; omega
          have hc61 : ¬ s[i + 1]'hn = 61 := fun e => h61 (by rw [e]; rfl)
          have H2 := Lib.hid (show noTwo (s.data.toList.drop i) from by
            rw [HD.out, hd2]
            refine ⟨?_, ?_⟩ <;> simp [List.isPrefixOf] <;> intro _ e <;> exact hc61 e.symm)
          clear h33 h94 hd2 h61 hc61 ho
          go_enter Tryd.func49, Tryd.ntmps49
          go_wp2
          obtain ⟨W1, hW1⟩ : ∃ W1, w.alloc (.cells #[.string ⟨#[43]⟩, .string ⟨#[45]⟩, .string ⟨#[42]⟩, .string ⟨#[47]⟩, .string ⟨#[40]⟩, .string ⟨#[41]⟩, .string ⟨#[123]⟩, .string ⟨#[125]⟩, .string ⟨#[44]⟩, .string ⟨#[46]⟩, .string ⟨#[64]⟩, .string ⟨#[61]⟩] 9) = W1 := ⟨_, rfl⟩
          have hB : Below w.heap.size w W1 := by rw [← hW1]; exact (Below.refl _ w).alloc (Nat.le_refl _) _
          have HC := Lib.hid (show ∀ k, k < 12 → W1.cell? ⟨w.heap.size, k, none⟩ = some (.string (ba (symsL.getD k []))) from fun k hk => by
            rw [← hW1, ← oneV_at k hk]
            exact World.cell?_alloc_mark w _ _ _ k)
          rw [hW1]
          clear hW1
          go_loop [7] (fun v => ∃ k : Nat, k ≤ 12 ∧ v = .int .i64 (k : Int) ∧ ∀ j, j < k → symsL.getD j [] ≠ [c]) (fun v => 12 - (intOf v).toNat)
          case atStart => exact ⟨0, by omega, rfl, fun j h => by omega⟩
          case round =>
            obtain ⟨k, hk, rfl, hno⟩ := hrel
            by_cases hlt : k < 12
            · have b1 : (k : Int) < 12 := by omega
              have ck := HC.out k hlt
              by_cases hx : symsL.getD k [] = [c]
              · have HR := Lib.hid (show Q = [c] by rw [← HQ.out, HD.out]; exact sym_hit k hlt hx)
                rw [hx] at ck
                have e9 := ba_same (rfl : [c] = [c])
                clear hx hno
                go_wp2
                go_ret
                exact ⟨by rw [HR.out]; rfl, hB⟩
              · have e9 := ba_ne hx
                have HN := Lib.hid (show ∀ j, j < k + 1 → symsL.getD j [] ≠ [c] from fun j hj => by
                  by_cases e : j = k
                  · rw [e]; exact hx
                  · exact hno j (by omega))
                obtain ⟨z, hz⟩ : ∃ z, ba (symsL.getD k []) = z := ⟨_, rfl⟩
                rw [hz] at ck e9
                clear hx hno hz
                go_wp2
                go_round
                case measure => simp [intOf]; omega
                case rel => exact ⟨k + 1, by omega, by go_num, HN.out⟩
            · obtain rfl : k = 12 := by omega
              have HR := Lib.hid (show Q = [] by rw [← HQ.out, HD.out]; rw [HD.out] at H2; exact sym_end H2.out hno)
              clear hno
              go_wp2
              go_ret
              exact ⟨by rw [HR.out]; rfl, hB⟩
      · have bn : decide ((i : Int) + 1 < (s.size : Int)) = false := decide_eq_false (by omega)
        have hd2 : s.data.toList.drop (i + 1) = [] := by rw [show i + 1 = s.size by omega]; exact drop_end s
        have H2 := Lib.hid (show noTwo (s.data.toList.drop i) from by
          rw [HD.out, hd2]
          refine ⟨?_, ?_⟩ <;> simp [List.isPrefixOf])
        have bm : ¬ (i : Int) + 1 < (s.size : Int) := by omega
        clear h33 h94 hd2 ho hn
        go_enter Tryd.func49, Tryd.ntmps49
        go_wp2
        obtain ⟨W1, hW1⟩ : ∃ W1, w.alloc (.cells #[.string ⟨#[43]⟩, .string ⟨#[45]⟩, .string ⟨#[42]⟩, .string ⟨#[47]⟩, .string ⟨#[40]⟩, .string ⟨#[41]⟩, .string ⟨#[123]⟩, .string ⟨#[125]⟩, .string ⟨#[44]⟩, .string ⟨#[46]⟩, .string ⟨#[64]⟩, .string ⟨#[61]⟩] 9) = W1 := ⟨_, rfl⟩
        have hB : Below w.heap.size w W1 := by rw [← hW1]; exact (Below.refl _ w).alloc (Nat.le_refl _) _
        have HC := Lib.hid (show ∀ k, k < 12 → W1.cell? ⟨w.heap.size, k, none⟩ = some (.string (ba (symsL.getD k []))) from fun k hk => by
          rw [← hW1, ← oneV_at k hk]
          exact World.cell?_alloc_mark w _ _ _ k)
        rw [hW1]
        clear hW1
        go_loop [7] (fun v => ∃ k : Nat, k ≤ 12 ∧ v = .int .i64 (k : Int) ∧ ∀ j, j < k → symsL.getD j [] ≠ [c]) (fun v => 12 - (intOf v).toNat)
        case atStart => exact ⟨0, by omega, rfl, fun j h => by omega⟩
        case round =>
          obtain ⟨k, hk, rfl, hno⟩ := hrel
          by_cases hlt : k < 12
          · have b1 : (k : Int) < 12 := by omega
            have ck := HC.out k hlt
            by_cases hx : symsL.getD k [] = [c]
            · have HR := Lib.hid (show Q = [c] by rw [← HQ.out, HD.out]; exact sym_hit k hlt hx)
              rw [hx] at ck
              have e9 := ba_same (rfl : [c] = [c])
              clear hx hno
              go_wp2
              go_ret
              exact ⟨by rw [HR.out]; rfl, hB⟩
            · have e9 := ba_ne hx
              have HN := Lib.hid (show ∀ j, j < k + 1 → symsL.getD j [] ≠ [c] from fun j hj => by
                by_cases e : j = k
                · rw [e]; exact hx
                · exact hno j (by omega))
              obtain ⟨z, hz⟩ : ∃ z, ba (symsL.getD k []) = z := ⟨_, rfl⟩
              rw [hz] at ck e9
              clear hx hno hz
              go_wp2
              go_round
              case measure => simp [intOf]; omega
              case rel => exact ⟨k + 1, by omega, by go_num, HN.out⟩
          · obtain rfl : k = 12 := by omega
            have HR := Lib.hid (show Q = [] by rw [← HQ.out, HD.out]; rw [HD.out] at H2; exact sym_end H2.out hno)
            clear hno
            go_wp2
            go_ret
            exact ⟨by rw [HR.out]; rfl, hB⟩
    · have e1 := (HE.out 33).2 h33
      have e2 := (HE.out 94).2 h94
      have H2 := Lib.hid (show noTwo (s.data.toList.drop i) from by
        rw [HD.out]
        refine ⟨?_, ?_⟩ <;> simp [List.isPrefixOf]
        · intro e; exact absurd e.symm h33
        · intro e; exact absurd e.symm h94)
      clear h33 h94
      go_enter Tryd.func49, Tryd.ntmps49
      go_wp2
      obtain ⟨W1, hW1⟩ : ∃ W1, w.alloc (.cells #[.string ⟨#[43]⟩, .string ⟨#[45]⟩, .string ⟨#[42]⟩, .string ⟨#[47]⟩, .string ⟨#[40]⟩, .string ⟨#[41]⟩, .string ⟨#[123]⟩, .string ⟨#[125]⟩, .string ⟨#[44]⟩, .string ⟨#[46]⟩, .string ⟨#[64]⟩, .string ⟨#[61]⟩] 9) = W1 := ⟨_, rfl⟩
      have hB : Below w.heap.size w W1 := by rw [← hW1]; exact (Below.refl _ w).alloc (Nat.le_refl _) _
      have HC := Lib.hid (show ∀ k, k < 12 → W1.cell? ⟨w.heap.size, k, none⟩ = some (.string (ba (symsL.getD k []))) from fun k hk => by
        rw [← hW1, ← oneV_at k hk]
        exact World.cell?_alloc_mark w _ _ _ k)
      rw [hW1]
      clear hW1
      go_loop [7] (fun v => ∃ k : Nat, k ≤ 12 ∧ v = .int .i64 (k : Int) ∧ ∀ j, j < k → symsL.getD j [] ≠ [c]) (fun v => 12 - (intOf v).toNat)
      case atStart => exact ⟨0, by omega, rfl, fun j h => by omega⟩
      case round =>
        obtain ⟨k, hk, rfl, hno⟩ := hrel
        by_cases hlt : k < 12
        · have b1 : (k : Int) < 12 := by omega
          have ck := HC.out k hlt
          by_cases hx : symsL.getD k [] = [c]
          · have HR := Lib.hid (show Q = [c] by rw [← HQ.out, HD.out]; exact sym_hit k hlt hx)
            rw [hx] at ck
            have e9 := ba_same (rfl : [c] = [c])
            clear hx hno
            go_wp2
            go_ret
            exact ⟨by rw [HR.out]; rfl, hB⟩
          · have e9 := ba_ne hx
            have HN := Lib.hid (show ∀ j, j < k + 1 → symsL.getD j [] ≠ [c] from fun j hj => by
              by_cases e : j = k
              · rw [e]; exact hx
              · exact hno j (by omega))
            obtain ⟨z, hz⟩ : ∃ z, ba (symsL.getD k []) = z := ⟨_, rfl⟩
            rw [hz] at ck e9
            clear hx hno hz
            go_wp2
            go_round
            case measure => simp [intOf]; omega
            case rel => exact ⟨k + 1, by omega, by go_num, HN.out⟩
        · obtain rfl : k = 12 := by omega
          have HR := Lib.hid (show Q = [] by rw [← HQ.out, HD.out]; rw [HD.out] at H2; exact sym_end H2.out hno)
          clear hno
          go_wp2
          go_ret
          exact ⟨by rw [HR.out]; rfl, hB⟩
end Go.Proofs.YtpmndopcemdniaaDoor
