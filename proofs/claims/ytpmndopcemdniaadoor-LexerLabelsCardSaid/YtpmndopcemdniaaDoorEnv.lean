/- What the package variables hold, kept by calls; strconv.Itoa, strconv.Atoi, strings.Cut at one byte as package frac calls them. Conditions: the variables as the program lays them. -/
import Derived.Test.YtpmndopcemdniaaDoorShelf
import Derived.Test.YtpmndopcemdniaaDoorMem
import Derived.Lib.AtoiErrMem
import Derived.Stop.LaidErr
import Derived.Lib.LaidTab
import Derived.OwnWalk
namespace Go.Proofs.YtpmndopcemdniaaDoor
open Go.RowKit Go.Sort

theorem gPow : Tryd.prog.globalNamed "internal/strconv.uint64pow10" = some 2 := by kernel_rfl
theorem gES : Tryd.prog.globalNamed "strconv.ErrSyntax" = some 5 := by kernel_rfl
theorem gER : Tryd.prog.globalNamed "strconv.ErrRange" = some 6 := by kernel_rfl

theorem var_lt {n : String} {g : Nat} {w : World} {cs : Array Value} (hg : Tryd.prog.globalNamed n = some g) (h : w.var? Tryd.prog n = some cs) : g < w.heap.size := by
  unfold World.var? at h
  rw [hg] at h
  simp only [Option.bind_some] at h
  rcases Nat.lt_or_ge g w.heap.size with h' | h'
  · exact h'
  · rw [Array.getElem?_eq_none h'] at h; cases h
theorem var_below {n : String} {g : Nat} {w w' : World} {cs : Array Value} (hg : Tryd.prog.globalNamed n = some g) (h : w.var? Tryd.prog n = some cs) (hb : Below w.heap.size w w') : w'.var? Tryd.prog n = some cs := by
  have hlt := var_lt hg h
  unfold World.var? at h ⊢
  rw [hg] at h ⊢
  simp only [Option.bind_some] at h ⊢
  rw [hb.block g hlt]
  exact h
/-- The tables and errors that frac's text functions read. -/
structure Env (w : World) : Prop where
  pow : Lib.TabIs Tryd.prog w "internal/strconv.uint64pow10" .u64 Lib.pow10Tab
  syn : ∃ p, w.var? Tryd.prog "strconv.ErrSyntax" = some #[.iface 152 p]
  rng : ∃ p, w.var? Tryd.prog "strconv.ErrRange" = some #[.iface 152 p]
theorem Env.below {w w' : World} (h : Env w) (hb : Below w.heap.size w w') : Env w' :=
  ⟨var_below gPow h.pow hb, h.syn.imp fun _ k => var_below gES k hb, h.rng.imp fun _ k => var_below gER k hb⟩
theorem Env.from {w0 w : World} (h : Env w0) (hb : Below w0.heap.size w0 w) : Env w := h.below hb

theorem grow_below (w : World) (os : Array Obj) : Below w.heap.size w (grow w os) := ⟨rfl, rfl, rfl, by simp, fun g hg => heap_grow_old w os hg⟩
theorem drewN_below (w : World) (n : Nat) : Below w.heap.size w (w.drewN n) := below_draw (Below.refl _ w) n

theorem itoa_any (n : Int) (h0 : -9223372036854775808 ≤ n) (h1 : n ≤ 9223372036854775807) (w : World) (hE : Env w) :
    Calls Tryd.prog 42 #[.int .i64 n] w fun e w' => e = .returned (.string ⟨(Lib.itoa n).toArray⟩) ∧ Below w.heap.size w w' :=
  (Tryd.strconv_Itoa n h0 h1 w hE.pow).mono fun _ _ ⟨he, k, os, hw⟩ => ⟨he, by subst hw; exact (drewN_below w k).trans (grow_below (w.drewN k) os)⟩

/-- The int that the text spells, if it spells one. -/
def atoiO (l : List UInt8) : Option Int := match Lib.atoiAll l with | .ok v => some v | _ => none
theorem atoi_any (s : ByteArray) (hlim : s.size ≤ 281474976710656) (w : World) (hE : Env w) :
    Calls Tryd.prog 84 #[.string s] w fun e w' => (∃ v ev, e = .returned (.tuple #[.int .i64 v, ev]) ∧ ((atoiO s.data.toList = some v ∧ ev = .nilIface) ∨ (atoiO s.data.toList = none ∧ ∃ N, ev = .iface 139 (.pointer (some ⟨N, 0, none⟩))))) ∧ Below w.heap.size w w' := by
  obtain ⟨p, hp⟩ := hE.syn
  obtain ⟨q, hq⟩ := hE.rng
  cases h : Lib.atoiAll s.data.toList
  · rename_i v
    refine (Tryd.strconv_Atoi_ok s (by omega) v h w).mono fun e w' ⟨he, hw⟩ => ⟨⟨v, _, he, Or.inl ⟨by unfold atoiO; rw [h], rfl⟩⟩, ?_⟩
    rcases hw with rfl | ⟨t, rfl⟩
    · exact Below.refl _ _
    · exact Lib.bytesWorld_below _ _ _
  · exact (Tryd.strconv_Atoi_syntax_var s hlim h _ _ w hp).mono fun e w' ⟨N, he, _, _, hb⟩ => ⟨⟨_, _, he, Or.inr ⟨by unfold atoiO; rw [h], N, rfl⟩⟩, hb⟩
  · exact (Tryd.strconv_Atoi_range_var s hlim h _ _ w hq).mono fun e w' ⟨N, he, _, _, hb⟩ => ⟨⟨_, _, he, Or.inr ⟨by unfold atoiO; rw [h], N, rfl⟩⟩, hb⟩

theorem indexByte_lt (l : List UInt8) (c : UInt8) : Lib.indexByte l c < l.length ∨ l = [] := by
  induction l with
  | nil => exact Or.inr rfl
  | cons b l ih =>
    left
    unfold Lib.indexByte
    split
    · simp only [List.length_cons]; omega
    · split
      · simp only [List.length_cons]; omega
      · rcases ih with h | rfl
        · simp only [List.length_cons]; omega
        · simp_all [Lib.indexByte]

/-- The text before the first '/', the text behind it, and whether there is one. -/
def cutL (l : List UInt8) : List UInt8 × List UInt8 × Bool :=
  if 0 ≤ Lib.indexByte l 47 then (l.take (Lib.indexByte l 47).toNat, l.drop ((Lib.indexByte l 47).toNat + 1), true) else (l, [], false)
def str (l : List UInt8) : Value := .string ⟨l.toArray⟩
theorem str_of (s : ByteArray) : Value.string s = str s.data.toList := by unfold str; simp

theorem str_congr {a b : ByteArray} (h : a.data.toList = b.data.toList) : a = b := by
  cases a; cases b; congr 1; exact Array.toList_inj.1 h
theorem str_eq {a : ByteArray} {l : List UInt8} (h : a.data.toList = l) : Value.string a = str l := by
  rw [str_of, h]
theorem ext_left (s : ByteArray) (n : Nat) : Value.string (s.extract 0 n) = str (s.data.toList.take n) := by
  apply str_eq
  rw [ByteArray.data_extract, Array.toList_extract]
  simp
theorem ext_right (s : ByteArray) (n : Nat) : Value.string (s.extract (n + 1) s.size) = str (s.data.toList.drop (n + 1)) := by
  apply str_eq
  rw [ByteArray.data_extract, Array.toList_extract]
  have h : s.size = s.data.toList.length := by simp
  rw [List.extract_eq_take_drop]
  exact List.take_of_length_le (by rw [List.length_drop, h]; exact Nat.le_refl _)

set_option maxRecDepth 100000 in
set_option maxHeartbeats 4000000 in
theorem scut_any (s : ByteArray) (hs : s.size ≤ 281474976710656) (w : World) :
    Calls Tryd.prog 100 #[.string s, .string ⟨#[47]⟩] w fun e w' => e = .returned (.tuple #[str (cutL s.data.toList).1, str (cutL s.data.toList).2.1, .bool (cutL s.data.toList).2.2]) ∧ Below w.heap.size w w' := by
  have hlen : s.data.toList.length = s.size := by simp
  obtain ⟨k, hk⟩ : ∃ k, Lib.indexByte s.data.toList 47 = k := ⟨_, rfl⟩
  have h1 := Lib.indexByte_ge s.data.toList 47
  have h2 := indexByte_lt s.data.toList 47
  have IX := fun W => Tryd.stringslite_Index_one s 47 W
  rw [hk] at h1 h2 IX
  by_cases h0 : 0 ≤ k
  · obtain ⟨n, rfl⟩ := Int.eq_ofNat_of_zero_le h0
    have h3 : n < s.size := by
      rcases h2 with h2 | h2
      · rw [hlen] at h2; omega
      · rw [h2] at hk; simp [Lib.indexByte] at hk
    have HC := Lib.hid (show cutL s.data.toList = (s.data.toList.take n, s.data.toList.drop (n + 1), true) by unfold cutL; rw [hk, if_pos h0]; rfl)
    have b1 : (0 : Int) ≤ (n : Int) := by omega
    have b2 : (n : Int) ≤ (s.size : Int) := by omega
    have b3 : (n : Int) + 1 ≤ (s.size : Int) := by omega
    have b4 : (0 : Int) ≤ (n : Int) + 1 := by omega
    have b5 : IntKind.i64.wrap ((n : Int) + 1) = (n : Int) + 1 := by rw [IntKind.wrap_i64]; omega
    have b6 : decide ((0 : Int) ≤ (n : Int)) = true := decide_eq_true b1
    have IX := Lib.hid IX
    clear hk h1 h2 h0
    go_enter Tryd.func100, Tryd.ntmps100
    go_wp2_with fail
    refine (IX.out _).mono ?_
    rintro e w1 ⟨rfl, rfl⟩
    go_wp2
    go_quiet (fail)
    all_goals
      go_wp2
      go_ret3
      exact ⟨by rw [HC.out, ext_left, ext_right]; rfl, drewN_below _ _⟩
  · have b6 : decide ((0 : Int) ≤ k) = false := decide_eq_false h0
    have HC := Lib.hid (show cutL s.data.toList = (s.data.toList, [], false) by unfold cutL; rw [hk, if_neg h0])
    have IX := Lib.hid IX
    clear hk h1 h2 h0
    go_enter Tryd.func100, Tryd.ntmps100
    go_wp2_with fail
    refine (IX.out _).mono ?_
    rintro e w1 ⟨rfl, rfl⟩
    go_wp2
    go_ret3
    exact ⟨by rw [HC.out, str_of s]; rfl, Below.refl _ _⟩

theorem cut_any (s : ByteArray) (hs : s.size ≤ 281474976710656) (w : World) :
    Calls Tryd.prog 86 #[.string s, .string ⟨#[47]⟩] w fun e w' => e = .returned (.tuple #[str (cutL s.data.toList).1, str (cutL s.data.toList).2.1, .bool (cutL s.data.toList).2.2]) ∧ Below w.heap.size w w' := by
  have SC := Lib.hid (fun W => scut_any s hs W)
  obtain ⟨⟨a, b, f⟩, hr⟩ : ∃ r, cutL s.data.toList = r := ⟨_, rfl⟩
  rw [hr] at SC ⊢
  clear hr
  go_enter Tryd.func86, Tryd.ntmps86
  go_wp2_with fail
  refine (SC.out _).mono ?_
  rintro e w1 ⟨rfl, hB⟩
  go_wp2
  go_ret3
  exact ⟨rfl, hB⟩
end Go.Proofs.YtpmndopcemdniaaDoor
