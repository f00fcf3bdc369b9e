/- Contracts of Keep and of its reference. Conditions: lists of bounded length. -/
import Derived.Deep.AppendLies
import Derived.Test.YtmgjbbkccgncgaaLGood
namespace Go.Proofs.Ytmgjbbkccgncgaa
open Go.RowKit

/-- A list of strings at a slice value. -/
def SsAt (W : World) (sv : Value) (ss : List ByteArray) : Prop := (sv = .slice none 0 0 ∧ ss = []) ∨ ∃ g c, sv = .slice (some ⟨g, 0, none⟩) ss.length c ∧ ss.length ≤ c ∧ SCells W g ss
theorem SsAt.below {A B : World} {sv : Value} {ss : List ByteArray} (h : SsAt A sv ss) (hB : Below A.heap.size A B) : SsAt B sv ss := by
  rcases h with h | ⟨g, c, e, hl, hc⟩
  · exact .inl h
  · exact .inr ⟨g, c, e, hl, hc.below hc.1 hB⟩
theorem SsAt.slice {W : World} {sv : Value} {ss : List ByteArray} (h : SsAt W sv ss) : ∃ a c, sv = .slice a ss.length c := by
  rcases h with ⟨rfl, rfl⟩ | ⟨g, c, e, -⟩
  · exact ⟨none, 0, rfl⟩
  · exact ⟨_, c, e⟩
theorem SsAt.nil {W : World} : SsAt W (.slice none 0 0) [] := .inl ⟨rfl, rfl⟩
theorem SsAt.get {W : World} {a : Option Addr} {l c : Nat} {ss : List ByteArray} (h : SsAt W (.slice a l c) ss) {j : Nat} {x : ByteArray} (hj : ss[j]? = some x) : ∃ g, a = some ⟨g, 0, none⟩ ∧ g < W.heap.size ∧ W.cell? ⟨g, j, none⟩ = some (.string x) := by
  rcases h with ⟨-, rfl⟩ | ⟨g, c', e, hl, hg, hc⟩
  · simp at hj
  · simp only [Value.slice.injEq] at e
    obtain ⟨rfl, -, rfl⟩ := e
    exact ⟨g, rfl, hg, hc j x hj⟩
theorem SsAt.of_owns {W : World} {base : Nat} {v : Value} {ss : List ByteArray} (h : W.ownsRow base 9 1 v ss.length (ss.map Value.string)) : SsAt W v ss := by
  by_cases h0 : ss = []
  · subst h0
    rcases h.2 with ⟨rfl, -⟩ | ⟨g, cap, cur, rfl, hb, hg, hn, -⟩
    · exact .nil
    · exact .inr ⟨g, cap, rfl, Nat.zero_le _, (Array.getElem?_eq_some_iff.1 hg).1, fun j x hj => by simp at hj⟩
  · obtain ⟨g, cap, rfl, hl, -, hc⟩ := scells_of h h0
    exact .inr ⟨g, cap, rfl, hl, hc⟩
theorem owns_below {A B : World} {base e size n : Nat} {v : Value} {xs : List Value} (h : A.ownsRow base e size v n xs) (hB : Below A.heap.size A B) : B.ownsRow base e size v n xs := by
  refine ⟨h.1, ?_⟩
  rcases h.2 with h2 | ⟨g, cap, cur, e1, hg, hh, rest⟩
  · exact .inl h2
  · exact .inr ⟨g, cap, cur, e1, hg, (hB.block g (Array.getElem?_eq_some_iff.1 hh).1).trans hh, rest⟩

/-- Whether a string is among others; what Keep keeps. -/
def inL (ss : List ByteArray) (x : ByteArray) : Bool := ss.any fun s => decide (s = x)
theorem inL_iff {ss : List ByteArray} {x : ByteArray} : inL ss x = true ↔ x ∈ ss := by
  unfold inL
  rw [List.any_eq_true]
  constructor
  · rintro ⟨s, hs, he⟩
    rw [← of_decide_eq_true he]; exact hs
  · exact fun h => ⟨x, h, decide_eq_true rfl⟩
theorem inL_no {ss : List ByteArray} {x : ByteArray} (h : x ∉ ss) : inL ss x = false := by
  rw [Bool.eq_false_iff]
  exact fun h2 => h (inL_iff.1 h2)
def keepL (it : List L2) (ss : List ByteArray) : List L2 := it.filter fun t => inL ss t.1
theorem keepL_snoc {it : List L2} {ss : List ByteArray} {k : Nat} {n v : ByteArray} (h : it[k]? = some (n, v)) : keepL (it.take (k + 1)) ss = keepL (it.take k) ss ++ if inL ss n then [(n, v)] else [] := by
  unfold keepL
  rw [List.take_add_one, h, List.filter_append]
  congr 1
  cases hx : inL ss n <;> simp [hx]
theorem keepL_len (it : List L2) (ss : List ByteArray) : (keepL it ss).length ≤ it.length := List.length_filter_le _ _
theorem inL_hit {ss : List ByteArray} {k : Nat} {x s : ByteArray} (h : ss[k]? = some s) (e : s = x) : inL ss x = true := inL_iff.2 (by rw [← e]; exact List.mem_of_getElem? h)
theorem notin_snoc {ss : List ByteArray} {k : Nat} {x s : ByteArray} (h : x ∉ ss.take k) (hs : ss[k]? = some s) (e : s ≠ x) : x ∉ ss.take (k + 1) := by
  rw [List.take_add_one, hs]
  intro hm
  rcases List.mem_append.1 hm with h1 | h1
  · exact h h1
  · simp at h1; exact e h1.symm

set_option maxRecDepth 100000 in
set_option maxHeartbeats 4000000 in
theorem in_any (a : Option Addr) (c : Nat) (ss : List ByteArray) (x : ByteArray) (w : World) (hI : SsAt w (.slice a ss.length c) ss) (hlen : ss.length ≤ 1000) :
    Calls Try.prog 56 #[.slice a ss.length c, .string x] w fun e w' => e = .returned (.bool (inL ss x)) ∧ w = w' := by
  have HI := Lib.hid hI
  clear hI
  go_enter Try.func56, Try.ntmps56
  go_wp2
  go_loop [5] (fun i => ∃ k : Nat, k ≤ ss.length ∧ i = .int .i64 k ∧ x ∉ ss.take k) (fun i => ss.length - (intOf i).toNat)
  case atStart => exact ⟨0, Nat.zero_le _, rfl, by simp⟩
  case round =>
    obtain ⟨k, hk, rfl, hn⟩ := hrel
    have HN := Lib.hid hn
    clear hn
    by_cases hlt : k < ss.length
    · obtain ⟨s, hs⟩ : ∃ s, ss[k]? = some s := ⟨_, List.getElem?_eq_getElem hlt⟩
      obtain ⟨g, rfl, -, c0⟩ := HI.out.get hs
      have HS := Lib.hid hs
      clear hs
      by_cases he : s = x
      · have e1 := str_yes he
        have HR := Lib.hid (inL_hit HS.out he)
        clear he
        go_wp2
        go_ret
        exact ⟨ret_bool HR.out.symm, rfl⟩
      · have e1 := str_no he
        have HN2 := Lib.hid (notin_snoc HN.out HS.out he)
        clear he
        go_wp2
        go_round
        case rel => exact ⟨k + 1, by omega, by go_num, HN2.out⟩
        case measure => simp [intOf]; omega
    · have HR := Lib.hid (show inL ss x = false from inL_no (by have h := HN.out; rwa [List.take_of_length_le (by omega)] at h))
      have hge : ¬ (k : Int) < (ss.length : Int) := by omega
      go_wp2
      go_ret
      exact ⟨ret_bool HR.out.symm, rfl⟩

set_option maxRecDepth 100000 in
set_option maxHeartbeats 4000000 in
theorem index_any (a : Option Addr) (c : Nat) (ss : List ByteArray) (x : ByteArray) (w : World) (hI : SsAt w (.slice a ss.length c) ss) (hlen : ss.length ≤ 1000) :
    Calls Try.prog 68 #[.slice a ss.length c, .string x] w fun e w' => (∃ i : Int, e = .returned (.int .i64 i) ∧ decide (0 ≤ i) = inL ss x) ∧ w = w' := by
  have HI := Lib.hid hI
  clear hI
  go_enter Try.func68, Try.ntmps68
  go_wp2
  go_loop [8] (fun i => ∃ k : Nat, k ≤ ss.length ∧ i = .int .i64 k ∧ x ∉ ss.take k) (fun i => ss.length - (intOf i).toNat)
  case atStart => exact ⟨0, Nat.zero_le _, rfl, by simp⟩
  case round =>
    obtain ⟨k, hk, rfl, hn⟩ := hrel
    have HN := Lib.hid hn
    clear hn
    by_cases hlt : k < ss.length
    · obtain ⟨s, hs⟩ : ∃ s, ss[k]? = some s := ⟨_, List.getElem?_eq_getElem hlt⟩
      obtain ⟨g, rfl, -, c0⟩ := HI.out.get hs
      have HS := Lib.hid hs
      clear hs
      by_cases he : s = x
      · have e1 := str_yes he.symm
        have HR := Lib.hid (inL_hit HS.out he)
        clear he
        go_wp2
        go_ret
        exact ⟨⟨_, rfl, by rw [HR.out]; exact decide_eq_true (by omega)⟩, rfl⟩
      · have e1 := str_no (Ne.symm he)
        have HN2 := Lib.hid (notin_snoc HN.out HS.out he)
        clear he
        go_wp2
        go_round
        case rel => exact ⟨k + 1, by omega, by go_num, HN2.out⟩
        case measure => simp [intOf]; omega
    · have HR := Lib.hid (show inL ss x = false from inL_no (by have h := HN.out; rwa [List.take_of_length_le (by omega)] at h))
      have hge : ¬ (k : Int) < (ss.length : Int) := by omega
      go_wp2
      go_ret
      exact ⟨⟨-1, rfl, by rw [HR.out]; rfl⟩, rfl⟩

set_option maxRecDepth 100000 in
set_option maxHeartbeats 4000000 in
theorem has_any (a : Option Addr) (c : Nat) (ss : List ByteArray) (x : ByteArray) (w : World) (hI : SsAt w (.slice a ss.length c) ss) (hlen : ss.length ≤ 1000) :
    Calls Try.prog 55 #[.slice a ss.length c, .string x] w fun e w' => e = .returned (.bool (inL ss x)) ∧ w = w' := by
  go_enter Try.func55, Try.ntmps55
  go_wp2_with fail
  refine (index_any a c ss x w hI hlen).mono ?_
  rintro e w' ⟨⟨i, rfl, hi⟩, rfl⟩
  have HI := Lib.hid hi
  clear hi
  go_wp2
  go_ret
  exact ⟨ret_bool HI.out, rfl⟩

/-- What Keep answers. -/
def KeepR (it : List L2) (ss : List ByteArray) (w : World) (e : Ending) (w' : World) : Prop := ∃ v, e = .returned v ∧ w'.ownsRow w.heap.size 40 2 v (keepL it ss).length ((keepL it ss).flatMap cells2) ∧ Below w.heap.size w w'

set_option maxRecDepth 100000 in
set_option maxHeartbeats 8000000 in
theorem keep_any (sv nv : Value) (it : List L2) (ss : List ByteArray) (w : World) (hI : LsAt w sv it) (hS : SsAt w nv ss) (hlen : it.length ≤ 1000) (hs : ss.length ≤ 1000) :
    Calls Try.prog 33 #[sv, nv] w (KeepR it ss w) := by
  obtain ⟨il, hi, hz0, hz1, hz2⟩ := info_parts Try.infoLabel
  obtain ⟨a, c, rfl, -⟩ := hI.slice
  obtain ⟨b, d, rfl⟩ := hS.slice
  have HI := Lib.hid hI
  have HS := Lib.hid hS
  clear hI hS
  go_enter Try.func33, Try.ntmps33
  go_wp2
  go_loopw [5, 10] (fun x i wr => ∃ (k : Nat) (sb : Value), sb = x ∧ k ≤ it.length ∧ i = .int .i64 k ∧ wr.ownsRow w.heap.size 40 2 sb (keepL (it.take k) ss).length ((keepL (it.take k) ss).flatMap cells2) ∧ Below w.heap.size w wr) (fun _ i _ => it.length - (intOf i).toNat)
  case atStart => exact ⟨0, _, rfl, Nat.zero_le _, rfl, World.ownsRow_nil _ _ _ _, Below.refl _ _⟩
  case round =>
    obtain ⟨k, sb, rfl, hk, rfl, hown, hB⟩ := hrel
    by_cases hlt : k < it.length
    · obtain ⟨n, v, hj⟩ := label_at hlt
      obtain ⟨g, off, rfl, hgs, c0, c1⟩ := (HI.out.below hB).get hj
      have HK := Lib.hid (keepL_snoc (ss := ss) hj)
      have kl : (keepL (it.take k) ss).length ≤ 1000 := by have := keepL_len (it.take k) ss; rw [List.length_take] at this; omega
      obtain ⟨m, hm⟩ : ∃ m, keepL (it.take k) ss = m := ⟨_, rfl⟩
      rw [hm] at HK kl hown
      clear hm hj
      cases hin : inL ss n
      · rw [hin] at HK
        have hA := Blk.new wr 40 #[.string n, .string v]
        have d0 := hA.cell 0
        have d1 := hA.cell 1
        have hB1 := hB.alloc hB.size (.cells #[.string n, .string v] 40)
        have hW1 : Below wr.heap.size wr (wr.alloc (.cells #[.string n, .string v] 40)) := (Below.refl _ wr).alloc (Nat.le_refl _) _
        have hown1 := hown.alloc (.cells #[.string n, .string v] 40)
        have HCON := Lib.hid (has_any b d ss n _ ((HS.out.below hB).below hW1) hs)
        clear hA hW1
        rw [hin] at HCON
        go_wp2_with fail
        (with_reducible refine HCON.out.mono ?_)
        rintro e w' ⟨rfl, rfl⟩
        go_wp2
        go_roundw
        case rel => exact ⟨k + 1, sb, rfl, by omega, by go_num, by rw [HK.out]; simpa using hown1, hB1⟩
        case measure => simp [intOf]; omega
      · rw [hin] at HK
        have hA := Blk.new wr 40 #[.string n, .string v]
        have d0 := hA.cell 0
        have d1 := hA.cell 1
        have hB1 := hB.alloc hB.size (.cells #[.string n, .string v] 40)
        have hW1 : Below wr.heap.size wr (wr.alloc (.cells #[.string n, .string v] 40)) := (Below.refl _ wr).alloc (Nat.le_refl _) _
        have hown1 := hown.alloc (.cells #[.string n, .string v] 40)
        have HCON := Lib.hid (has_any b d ss n _ ((HS.out.below hB).below hW1) hs)
        clear hA hW1
        rw [hin] at HCON
        go_wp2_with fail
        (with_reducible refine HCON.out.mono ?_)
        rintro e w' ⟨rfl, rfl⟩
        go_wp2_with (at_builtin; refine wpList_append_own _ rfl _ _ 31 rfl w.heap.size 40 il (.agg #[.string ⟨#[]⟩, .string ⟨#[]⟩]) 2 32 Try.underlying31 hi hz0 hz1 hz2 rfl (by decide) sb _ _ rfl (hown1.alloc _) ⟨wr.heap.size + 1, 0, none⟩ 1 1 [.string n, .string v] rfl rfl (by have h := World.news_of_block (cs := #[.string n, .string v]) (t := 40) (fr := (0, 0)) (heap_alloc_new (wr.alloc (.cells #[.string n, .string v] 40)) (.cells #[.string n, .string v] 40)); rwa [World.size_alloc] at h) (by simp [Value.oneCell']) (by unfold maxLen; omega) (by omega) (by have := hB1.size; simp at this; simp; omega) ?_; intro v3 w3 hown3 hgrow3 _)
        go_roundw
        case rel => exact ⟨k + 1, v3, rfl, by omega, by go_num, by rw [HK.out]; (first | rw [if_pos trivial] | rw [if_pos rfl]); rw [List.length_append, List.flatMap_append]; exact hown3, (hB1.alloc hB1.size _).grown hgrow3 (by have := hB1.size; simp at this; simp; omega) (fun j hj => (hown1.lt j hj).1)⟩
        case measure => simp [intOf]; omega
    · obtain rfl : k = it.length := by omega
      rw [List.take_length] at hown
      have HO := Lib.hid hown
      clear hown
      go_wp2
      go_ret
      exact ⟨sb, rfl, HO.out, hB⟩

set_option maxRecDepth 100000 in
set_option maxHeartbeats 8000000 in
theorem refkeep_any (sv nv : Value) (it : List L2) (ss : List ByteArray) (w : World) (hI : LsAt w sv it) (hS : SsAt w nv ss) (hlen : it.length ≤ 1000) (hs : ss.length ≤ 1000) :
    Calls Try.prog 34 #[sv, nv] w (KeepR it ss w) := by
  obtain ⟨il, hi, hz0, hz1, hz2⟩ := info_parts Try.infoLabel
  obtain ⟨a, c, rfl, -⟩ := hI.slice
  obtain ⟨b, d, rfl⟩ := hS.slice
  have HI := Lib.hid hI
  have HS := Lib.hid hS
  clear hI hS
  go_enter Try.func34, Try.ntmps34
  go_wp2
  go_loopw [5, 6] (fun x i wr => ∃ (k : Nat) (sb : Value), sb = x ∧ k ≤ it.length ∧ i = .int .i64 k ∧ wr.ownsRow w.heap.size 40 2 sb (keepL (it.take k) ss).length ((keepL (it.take k) ss).flatMap cells2) ∧ Below w.heap.size w wr) (fun _ i _ => it.length - (intOf i).toNat)
  case atStart => exact ⟨0, _, rfl, Nat.zero_le _, rfl, World.ownsRow_nil _ _ _ _, Below.refl _ _⟩
  case round =>
    obtain ⟨k, sb, rfl, hk, rfl, hown, hB⟩ := hrel
    by_cases hlt : k < it.length
    · obtain ⟨n, v, hj⟩ := label_at hlt
      obtain ⟨g, off, rfl, hgs, c0, c1⟩ := (HI.out.below hB).get hj
      have HK := Lib.hid (keepL_snoc (ss := ss) hj)
      have kl : (keepL (it.take k) ss).length ≤ 1000 := by have := keepL_len (it.take k) ss; rw [List.length_take] at this; omega
      obtain ⟨m, hm⟩ : ∃ m, keepL (it.take k) ss = m := ⟨_, rfl⟩
      rw [hm] at HK kl hown
      clear hm hj
      cases hin : inL ss n
      · rw [hin] at HK
        have HCON := Lib.hid (in_any b d ss n _ (HS.out.below hB) hs)
        rw [hin] at HCON
        go_wp2_with fail
        (with_reducible refine HCON.out.mono ?_)
        rintro e w' ⟨rfl, rfl⟩
        go_wp2
        go_roundw
        case rel => exact ⟨k + 1, sb, rfl, by omega, by go_num, by rw [HK.out]; simpa using hown, hB⟩
        case measure => simp [intOf]; omega
      · rw [hin] at HK
        have HCON := Lib.hid (in_any b d ss n _ (HS.out.below hB) hs)
        rw [hin] at HCON
        go_wp2_with fail
        (with_reducible refine HCON.out.mono ?_)
        rintro e w' ⟨rfl, rfl⟩
        go_wp2_with (at_builtin; refine wpList_append_own _ rfl _ _ 31 rfl w.heap.size 40 il (.agg #[.string ⟨#[]⟩, .string ⟨#[]⟩]) 2 32 Try.underlying31 hi hz0 hz1 hz2 rfl (by decide) sb _ _ rfl (hown.alloc _) ⟨wr.heap.size, 0, none⟩ 1 1 [.string n, .string v] rfl rfl (World.news_of_block (cs := #[.string n, .string v]) (t := 40) (fr := (0, 0)) (heap_alloc_new wr _)) (by simp [Value.oneCell']) (by unfold maxLen; omega) (by omega) (by have := hB.size; simp; omega) ?_; intro v3 w3 hown3 hgrow3 _)
        go_roundw
        case rel => exact ⟨k + 1, v3, rfl, by omega, by go_num, by rw [HK.out]; (first | rw [if_pos trivial] | rw [if_pos rfl]); rw [List.length_append, List.flatMap_append]; exact hown3, (hB.alloc hB.size _).grown hgrow3 (by have := hB.size; simp; omega) (fun j hj => (hown.lt j hj).1)⟩
        case measure => simp [intOf]; omega
    · obtain rfl : k = it.length := by omega
      rw [List.take_length] at hown
      have HO := Lib.hid hown
      clear hown
      go_wp2
      go_ret
      exact ⟨sb, rfl, HO.out, hB⟩
end Go.Proofs.Ytmgjbbkccgncgaa
