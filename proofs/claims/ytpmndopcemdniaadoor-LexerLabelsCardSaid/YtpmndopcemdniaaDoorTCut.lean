/- strings.Cut at a quotation mark; the tests of a string's contents; numerals of digits. Conditions: as each states. -/
import Derived.Test.YtpmndopcemdniaaDoorEnv
import Derived.Test.YtpmndopcemdniaaDoorTLeaf
namespace Go.Proofs.YtpmndopcemdniaaDoor
open Go.RowKit Go.Sort

/-- The bytes before the first quotation mark, those behind it, and whether there is one. -/
def cutQ (l : List UInt8) : List UInt8 × List UInt8 × Bool :=
  if 0 ≤ Lib.indexByte l 34 then (l.take (Lib.indexByte l 34).toNat, l.drop ((Lib.indexByte l 34).toNat + 1), true) else (l, [], false)

theorem indexQ : ∀ l : List UInt8, Lib.indexByte l 34 = if (l.takeWhile nqB).length < l.length then ((l.takeWhile nqB).length : Int) else -1
  | [] => by simp [Lib.indexByte]
  | c :: r => by
    have ih := indexQ r
    rw [List.takeWhile_cons]
    unfold Lib.indexByte
    by_cases h : c = 34
    · subst h
      rw [if_neg (show ¬ nqB 34 = true by decide)]
      simp
    · have h2 : nqB c = true := by
        unfold nqB
        refine decide_eq_true fun e => h ?_
        exact UInt8.toNat_inj.1 e
      rw [if_pos h2, ih]
      have h3 : (c == 34) = false := by simp [h]
      rw [h3, List.length_cons, List.length_cons]
      by_cases h4 : (r.takeWhile nqB).length < r.length
      · have e : (((r.takeWhile nqB).length : Int) == -1) = false := by simp
        rw [if_pos h4, e, if_pos (show (r.takeWhile nqB).length + 1 < r.length + 1 by omega)]
        simp
      · rw [if_neg h4, if_neg (show ¬ (r.takeWhile nqB).length + 1 < r.length + 1 by omega)]
        rfl
theorem takeWhile_all {p : UInt8 → Bool} : ∀ l : List UInt8, l.all p = true ↔ l.takeWhile p = l
  | [] => by simp
  | c :: r => by
    rw [List.takeWhile_cons, List.all_cons]
    cases h : p c
    · simp
    · simp [takeWhile_all r]
theorem takeWhile_take {p : UInt8 → Bool} (l : List UInt8) : l.take (l.takeWhile p).length = l.takeWhile p := (List.prefix_iff_eq_take.1 (List.takeWhile_prefix _)).symm
theorem cutQ_is (l : List UInt8) : (cutQ l).1 = l.takeWhile nqB ∧ (cutQ l).2.2 = decide ((l.takeWhile nqB).length < l.length) := by
  unfold cutQ
  rw [indexQ l]
  by_cases h : (l.takeWhile nqB).length < l.length
  · rw [if_pos h, if_pos (by omega), decide_eq_true h]
    exact ⟨takeWhile_take l, rfl⟩
  · rw [if_neg h, if_neg (by omega), decide_eq_false h]
    have hp := List.takeWhile_prefix (l := l) (p := nqB)
    exact ⟨(hp.eq_of_length (by have := hp.length_le; omega)).symm, rfl⟩

/-- Whether a string has a byte that no value has. -/
theorem idx_not (p : Nat → Bool) (s : ByteArray) : ∀ f k, Lib.idxFuncFrom (fun c => !p c) true s f k = Lib.idxFuncFrom p false s f k
  | 0, _ => rfl
  | f + 1, k => by
    unfold Lib.idxFuncFrom
    rw [idx_not p s f]
    congr 1
    cases p (Utf8.decode s k).1 <;> simp
theorem foreign_is (s : ByteArray) : decide (0 ≤ Lib.idxFunc (fun c => !decide (vchP (c : Int))) true s) = !s.data.toList.all vaB := by
  unfold Lib.idxFunc
  rw [idx_not (fun c => decide (vchP (c : Int)))]
  rw [idx_class (fun c => decide (vchP (c : Int))) vaB (fun c _ => rfl) (fun c h => by unfold vaB; exact decide_eq_false (fun e => by unfold vchP at e; omega)) (fun x h => decide_eq_false (fun e => by unfold vchP at e; omega)) s s.size 0 (by omega) (by omega)]
  rw [List.drop_zero, Nat.zero_add]
  have hp := List.takeWhile_prefix (l := s.data.toList) (p := vaB)
  by_cases h : (s.data.toList.takeWhile vaB).length < s.size
  · rw [if_pos h, decide_eq_true (by omega)]
    cases ha : s.data.toList.all vaB
    · rfl
    · exfalso
      have he : s.data.toList.takeWhile vaB = s.data.toList := (takeWhile_all _).1 ha
      rw [he, list_len] at h
      omega
  · rw [if_neg h, decide_eq_false (by omega)]
    have he := hp.eq_of_length (by have := hp.length_le; rw [list_len] at this ⊢; omega)
    have : s.data.toList.all vaB = true := (takeWhile_all _).2 he
    rw [this]; rfl
theorem xcontains_any (s : ByteArray) (w : World) : Calls Tryd.prog 87 #[.string s, .func (.func 88) #[] #[]] w fun e w' => e = .returned (.bool (!s.data.toList.all vaB)) ∧ Below w.heap.size w w' := by
  rw [← foreign_is]
  exact Tryd.strings_ContainsFunc_grows 88 #[] (enters_of Tryd.func88 (by kernel_rfl) rfl) _ s w (pays_of (fun c w => xforeign_any c w) w)

/-- Numerals of digits. -/
theorem valF_ge : ∀ (l : List UInt8) (n : Nat), n ≤ valF n l
  | [], _ => Nat.le_refl _
  | c :: r, n => by
    unfold valF
    exact Nat.le_trans (by omega) (valF_ge r _)
theorem parse_digits : ∀ (l : List UInt8) (n : Nat), (∀ c ∈ l, diB c = true) → n < 18446744073709551616 → Lib.parseUint10 n l = if valF n l < 18446744073709551616 then .ok (valF n l) else .range
  | [], n, _, hn => by show Lib.NumEnd.ok n = if n < 18446744073709551616 then .ok n else .range; rw [if_pos hn]
  | c :: r, n, h, hn => by
    have hc : 48 ≤ c.toNat ∧ c.toNat ≤ 57 := by simpa [diB] using h c (by simp)
    have hr : ∀ d ∈ r, diB d = true := fun d hd => h d (by simp [hd])
    unfold Lib.parseUint10 valF
    rw [if_pos hc, Nat.mul_comm n 10]
    have hg := valF_ge r (10 * n + (c.toNat - 48))
    by_cases h1 : 1844674407370955162 ≤ n
    · rw [if_pos h1, if_neg (by omega)]
    · rw [if_neg h1]
      by_cases h2 : 18446744073709551616 ≤ 10 * n + (c.toNat - 48)
      · rw [if_pos h2, if_neg (by omega)]
      · rw [if_neg h2]
        exact parse_digits r _ hr (by omega)
theorem atoi_digits (l : List UInt8) (hne : l ≠ []) (h : ∀ c ∈ l, diB c = true) : atoiO l = if valF 0 l < 9223372036854775808 then some (valF 0 l : Int) else none := by
  obtain ⟨c, r, rfl⟩ := List.exists_cons_of_ne_nil hne
  have hc : 48 ≤ c.toNat ∧ c.toNat ≤ 57 := by simpa [diB] using h c (by simp)
  have hp := parse_digits (c :: r) 0 h (by omega)
  have hm : Lib.atoiAll (c :: r) = if valF 0 (c :: r) < 9223372036854775808 then .ok (valF 0 (c :: r) : Int) else .range := by
    unfold Lib.atoiAll
    dsimp only
    rw [if_neg (show ¬ (c.toNat = 43 ∨ c.toNat = 45) by omega)]
    unfold Lib.parseMag
    rw [if_neg (by simp), hp]
    by_cases h1 : valF 0 (c :: r) < 18446744073709551616
    · rw [if_pos h1]
      dsimp only
      by_cases h2 : valF 0 (c :: r) < 9223372036854775808
      · rw [if_neg (by omega), if_neg (by omega), if_pos h2]
        simp [show ¬ c.toNat = 45 by omega]
      · rw [if_pos (by omega), if_neg h2]
    · rw [if_neg h1]
      dsimp only
      rw [if_neg (by omega)]
  unfold atoiO
  rw [hm]
  by_cases h2 : valF 0 (c :: r) < 9223372036854775808
  · rw [if_pos h2, if_pos h2]
  · rw [if_neg h2, if_neg h2]
set_option maxRecDepth 100000 in
set_option maxHeartbeats 4000000 in
theorem sqcut_any (s : ByteArray) (hs : s.size ≤ 281474976710656) (w : World) :
    Calls Tryd.prog 100 #[.string s, .string ⟨#[34]⟩] w fun e w' => e = .returned (.tuple #[str (cutQ s.data.toList).1, str (cutQ s.data.toList).2.1, .bool (cutQ s.data.toList).2.2]) ∧ Below w.heap.size w w' := by
  have hlen : s.data.toList.length = s.size := by simp
  obtain ⟨k, hk⟩ : ∃ k, Lib.indexByte s.data.toList 34 = k := ⟨_, rfl⟩
  have h1 := Lib.indexByte_ge s.data.toList 34
  have h2 := indexByte_lt s.data.toList 34
  have IX := fun W => Tryd.stringslite_Index_one s 34 W
  rw [hk] at h1 h2 IX
  by_cases h0 : 0 ≤ k
  · obtain ⟨n, rfl⟩ := Int.eq_ofNat_of_zero_le h0
    have h3 : n < s.size := by
      rcases h2 with h2 | h2
      · rw [hlen] at h2; omega
      · rw [h2] at hk; simp [Lib.indexByte] at hk
    have HC := Lib.hid (show cutQ s.data.toList = (s.data.toList.take n, s.data.toList.drop (n + 1), true) by unfold cutQ; rw [hk, if_pos h0]; rfl)
    have b1 : (0 : Int) ≤ (n : Int) := by omega
    have b2 : (n : Int) ≤ (s.size : Int) := by omega
    have b3 : (n : Int) + 1 ≤ (s.size : Int) := by omega
    have b4 : (0 : Int) ≤ (n : Int) + 1 := by omega
    have b5 : IntKind.i64.wrap ((n : Int) + 1) = (n : Int) + 1 := by rw [IntKind.wrap_i64]; omega
    have b6 : decide ((0 : Int) ≤ (n : Int)) = true := decide_eq_true b1
    have IX := Lib.hid IX
    clear hk h1 h2 h0
    go_enter Tryd.func100, Tryd.ntmps100
    go_wp2_with fail
    refine (IX.out _).mono ?_
    rintro e w1 ⟨rfl, rfl⟩
    go_wp2
    go_quiet (fail)
    all_goals
      go_wp2
      go_ret3
      exact ⟨by rw [HC.out, ext_left, ext_right]; rfl, drewN_below _ _⟩
  · have b6 : decide ((0 : Int) ≤ k) = false := decide_eq_false h0
    have HC := Lib.hid (show cutQ s.data.toList = (s.data.toList, [], false) by unfold cutQ; rw [hk, if_neg h0])
    have IX := Lib.hid IX
    clear hk h1 h2 h0
    go_enter Tryd.func100, Tryd.ntmps100
    go_wp2_with fail
    refine (IX.out _).mono ?_
    rintro e w1 ⟨rfl, rfl⟩
    go_wp2
    go_ret3
    exact ⟨by rw [HC.out, str_of s]; rfl, Below.refl _ _⟩

theorem qcut_any (s : ByteArray) (hs : s.size ≤ 281474976710656) (w : World) :
    Calls Tryd.prog 86 #[.string s, .string ⟨#[34]⟩] w fun e w' => e = .returned (.tuple #[str (cutQ s.data.toList).1, str (cutQ s.data.toList).2.1, .bool (cutQ s.data.toList).2.2]) ∧ Below w.heap.size w w' := by
  have SC := Lib.hid (fun W => sqcut_any s hs W)
  obtain ⟨⟨a, b, f⟩, hr⟩ : ∃ r, cutQ s.data.toList = r := ⟨_, rfl⟩
  rw [hr] at SC ⊢
  clear hr
  go_enter Tryd.func86, Tryd.ntmps86
  go_wp2_with fail
  refine (SC.out _).mono ?_
  rintro e w1 ⟨rfl, hB⟩
  go_wp2
  go_ret3
  exact ⟨rfl, hB⟩
end Go.Proofs.YtpmndopcemdniaaDoor
