/- Contracts of Text and of its reference. Conditions: lists and strings of bounded length. -/
import Derived.Lib.Join
import Derived.Test.YtpmndopcemdniaaDoorLJoin
import Derived.Test.YtpmndopcemdniaaDoorLNew
namespace Go.Proofs.YtpmndopcemdniaaDoor
open Go.RowKit

/-- The text of one label, of a list; as far as the reference has written it. -/
def elS (n v : ByteArray) : ByteArray := ((n ++ ⟨#[61, 34]⟩) ++ v) ++ ⟨#[34]⟩
def els (it : List L2) : List ByteArray := it.map fun t => elS t.1 t.2
def textB (it : List L2) : ByteArray := (⟨#[123]⟩ ++ ⟨(Lib.join ((els it).map (·.data.toList)) [44]).toArray⟩) ++ ⟨#[125]⟩
def textK (it : List L2) : Nat → ByteArray
  | 0 => ⟨#[123]⟩
  | k + 1 => match it[k]? with
    | some t => ((((if 0 < k then textK it k ++ ⟨#[44]⟩ else textK it k) ++ t.1) ++ ⟨#[61, 34]⟩) ++ t.2) ++ ⟨#[34]⟩
    | none => textK it k
theorem ba_append (a b : ByteArray) : (a ++ b).data.toList = a.data.toList ++ b.data.toList := by simp [ByteArray.data_append]
theorem lba_ext {a b : ByteArray} (h : a.data.toList = b.data.toList) : a = b := ByteArray.ext (Array.toList_inj.1 h)
theorem ba_size (a : ByteArray) : a.data.toList.length = a.size := Array.length_toList
theorem join_snoc (xs : List (List UInt8)) (y sep : List UInt8) : Lib.join (xs ++ [y]) sep = if xs = [] then y else Lib.join xs sep ++ sep ++ y := by
  cases xs with
  | nil => rw [if_pos rfl]; exact Lib.join_one y sep
  | cons x r =>
    rw [if_neg (by simp), List.cons_append, Lib.join_cons, Lib.join_cons]
    simp [Lib.joinTail]
theorem els_take {it : List L2} {k : Nat} {n v : ByteArray} (h : it[k]? = some (n, v)) : els (it.take (k + 1)) = els (it.take k) ++ [elS n v] := by
  unfold els
  rw [List.take_add_one, h]
  simp
theorem textK_bytes {it : List L2} : ∀ k, k ≤ it.length → (textK it k).data.toList = 123 :: Lib.join ((els (it.take k)).map (·.data.toList)) [44]
  | 0, _ => by simp [textK, els, Lib.join_nil]
  | k + 1, hk => by
    obtain ⟨n, v, hj⟩ := label_at (it := it) (k := k) (by omega)
    have ih := textK_bytes (it := it) k (by omega)
    unfold textK
    rw [hj, els_take hj, List.map_append, List.map_singleton, join_snoc]
    by_cases h0 : 0 < k
    · have hne : (els (it.take k)).map (·.data.toList) ≠ [] := by
        intro e
        have h1 := congrArg List.length e
        have h2 : (els (it.take k)).length = k := by simp [els]; omega
        rw [List.length_map, h2, List.length_nil] at h1
        omega
      rw [if_pos h0, if_neg hne]
      simp only [ba_append, ih, elS]
      simp
    · obtain rfl : k = 0 := by omega
      rw [if_neg h0, if_pos (by simp [els])]
      simp only [ba_append, ih, elS]
      simp [els, Lib.join_nil]
theorem textK_end (it : List L2) : textK it it.length ++ ⟨#[125]⟩ = textB it := by
  apply lba_ext
  rw [ba_append, textK_bytes it.length (Nat.le_refl _), List.take_length]
  unfold textB
  simp only [ba_append]
  simp
theorem textK_size {it : List L2} (hz : Sz it) : ∀ k, k ≤ it.length → (textK it k).size ≤ 2004 * k + 1
  | 0, _ => by show (⟨#[123]⟩ : ByteArray).size ≤ 1; exact Nat.le_refl _
  | k + 1, hk => by
    obtain ⟨n, v, hj⟩ := label_at (it := it) (k := k) (by omega)
    have ih := textK_size hz k (by omega)
    obtain ⟨h1, h2⟩ := hz.at hj
    have e1 : (⟨#[44]⟩ : ByteArray).size = 1 := rfl
    have e2 : (⟨#[61, 34]⟩ : ByteArray).size = 2 := rfl
    have e3 : (⟨#[34]⟩ : ByteArray).size = 1 := rfl
    unfold textK
    rw [hj]
    simp only [ByteArray.size_append, e2, e3]
    split
    · simp only [ByteArray.size_append, e1]; omega
    · omega
theorem textB_size {it : List L2} (hz : Sz it) : (textB it).size ≤ 2004 * it.length + 2 := by
  rw [← textK_end, ByteArray.size_append]
  have := textK_size hz it.length (Nat.le_refl _)
  have e : (⟨#[125]⟩ : ByteArray).size = 1 := rfl
  omega
theorem elS_size {n v : ByteArray} (h1 : n.size ≤ 1000) (h2 : v.size ≤ 1000) : (elS n v).size ≤ 2003 := by
  unfold elS
  have e2 : (⟨#[61, 34]⟩ : ByteArray).size = 2 := rfl
  have e3 : (⟨#[34]⟩ : ByteArray).size = 1 := rfl
  simp only [ByteArray.size_append, e2, e3]
  omega
theorem joined_size (it : List L2) : (Lib.join ((els it).map (·.data.toList)) [44]).length ≤ (textB it).size := by
  unfold textB
  rw [ByteArray.size_append, ByteArray.size_append]
  have e : (⟨(Lib.join ((els it).map (·.data.toList)) [44]).toArray⟩ : ByteArray).size = (Lib.join ((els it).map (·.data.toList)) [44]).length := List.size_toArray ..
  omega

/-- A row of strings that a call made, as Join takes it. -/
theorem join_own (v : Value) (xs : List ByteArray) (sep : ByteArray) (w : World) {base : Nat} (hO : w.ownsRow base 9 1 v xs.length (xs.map Value.string)) (hN : xs.length ≤ 1000) (hlen : (Lib.join (xs.map (·.data.toList)) sep.data.toList).length ≤ 140737488355328) :
    Calls Tryd.prog 36 #[v, .string sep] w fun e w' => e = .returned (.string ⟨(Lib.join (xs.map (·.data.toList)) sep.data.toList).toArray⟩) ∧ Below w.heap.size w w' := by
  have hO0 := hO
  rcases hO.2 with ⟨rfl, hl⟩ | ⟨g, cap, cur, rfl, hb, hg, hn, -⟩
  · have hy : xs = [] := List.eq_nil_of_length_eq_zero hl
    subst hy
    exact (Tryd.strings_Join_none none 0 sep w).mono fun e w' ⟨he, hw⟩ => ⟨he, by rw [hw]; exact Below.refl _ _⟩
  · exact Tryd.strings_Join g 0 cap xs sep w (fun j x hx => by
      have hj : j < xs.length := (List.getElem?_eq_some_iff.1 hx).1
      have h := hO0.cellAt j (by omega)
      rw [List.getElem?_map, hx] at h
      simpa using h) (Array.getElem?_eq_some_iff.1 hg).1 (by omega) hn hlen

set_option maxRecDepth 100000 in
set_option maxHeartbeats 8000000 in
theorem text_any (sv : Value) (it : List L2) (w : World) (hI : LsAt w sv it) (hlen : it.length ≤ 1000) (hz : Sz it) :
    Calls Tryd.prog 24 #[sv] w fun e w' => e = .returned (.string (textB it)) ∧ Below w.heap.size w w' := by
  obtain ⟨a, c, rfl, hlc⟩ := hI.slice
  obtain ⟨i0, hi, hz0, hz1, hz2⟩ := info_parts Tryd.infoStr
  have HI := Lib.hid hI
  have HZ := Lib.hid hz
  clear hI hz
  go_enter Tryd.func24, Tryd.ntmps24
  go_wp2_with (at_make; refine wpList_make_own _ rfl _ _ 54 rfl w.heap.size 9 i0 (.string ⟨#[]⟩) 1 Tryd.underlying54 hi hz0 hz1 .i64 .i64 _ it.length rfl rfl rfl (by rw [hz2]; omega) (by unfold maxLen; omega) (Nat.le_refl _) ?_; intro w1 hown hgrow)
  have hB0 : Below w.heap.size w w1 := (Below.refl _ _).grown hgrow (Nat.le_refl _) (fun j hj => by cases hj)
  clear hgrow
  go_loopw [3, 11] (fun v i wr => ∃ k : Nat, k ≤ it.length ∧ i = .int .i64 k ∧ wr.ownsRow w.heap.size 9 1 v k ((els (it.take k)).map Value.string) ∧ Below w.heap.size w wr) (fun _ i _ => it.length - (intOf i).toNat)
  case atStart => exact ⟨0, Nat.zero_le _, rfl, hown, hB0⟩
  case round =>
    obtain ⟨k, hk, rfl, hown, hB⟩ := hrel
    clear hB0
    have hlk : (els (it.take k)).length = k := by simp [els]; omega
    by_cases hlt : k < it.length
    · obtain ⟨n, v, hj⟩ := label_at hlt
      obtain ⟨zn, zv⟩ := HZ.out.at hj
      obtain ⟨g, off, rfl, -, hgs, hL⟩ := (HI.out.below hB).all (by intro e; rw [e] at hlt; simp at hlt)
      obtain ⟨c0, c1⟩ := hL k n v hj
      have HT := Lib.hid (els_take hj)
      clear hL hj hlk
      go_wp2_with (at_builtin; refine wpList_append_own _ rfl _ _ 54 rfl w.heap.size 9 i0 (.string ⟨#[]⟩) 1 16 Tryd.underlying54 hi hz0 hz1 hz2 rfl (by decide) _ _ _ rfl ((hown.alloc _).alloc _) ⟨wr.heap.size + 1, 0, none⟩ 1 1 [.string (elS n v)] rfl rfl (by have h := cell_one_new (wr.alloc (.cells #[.string n, .string v] 43)) (.string (elS n v)) 9; rwa [World.size_alloc] at h) (by simp [Value.oneCell']) (by unfold maxLen; omega) (by omega) (by have := hB.size; simp; omega) ?_; intro v' w1 hown' hgrow _)
      go_roundw
      case rel => exact ⟨k + 1, by omega, by go_num, by rw [HT.out, List.map_append]; exact hown', ((hB.alloc hB.size _).alloc (by have := hB.size; simp; omega) _).grown hgrow (by have := hB.size; simp; omega) (fun j hj => (hown.lt j hj).1)⟩
      case measure => simp [intOf]; omega
    · obtain rfl : k = it.length := by omega
      rw [List.take_length] at hown hlk
      have hown1 := hown
      rw [← hlk] at hown1
      have zt := textB_size HZ.out
      have zj := joined_size it
      have HJ := Lib.hid (join_own _ (els it) ⟨#[44]⟩ wr hown1 (by omega) (by show (Lib.join _ [44]).length ≤ _; omega))
      have zs : (⟨(Lib.join ((els it).map (·.data.toList)) [44]).toArray⟩ : ByteArray).size ≤ 2004002 := by
        have e : (⟨(Lib.join ((els it).map (·.data.toList)) [44]).toArray⟩ : ByteArray).size = (Lib.join ((els it).map (·.data.toList)) [44]).length := List.size_toArray ..
        omega
      obtain ⟨js, hjs⟩ : ∃ js : ByteArray, js = ⟨(Lib.join ((els it).map (·.data.toList)) [44]).toArray⟩ := ⟨_, rfl⟩
      have HR := Lib.hid (show (⟨#[123]⟩ ++ js) ++ ⟨#[125]⟩ = textB it by rw [hjs]; rfl)
      have HJS := Lib.hid hjs
      rw [← hjs] at zs
      clear hown1 zt zj hjs hown
      go_wp2_with fail
      (with_reducible refine HJ.out.mono ?_)
      rintro e w1 ⟨rfl, hb⟩
      have e1 : (Value.string ⟨(Lib.join ((els it).map (·.data.toList)) (⟨#[44]⟩ : ByteArray).data.toList).toArray⟩) = .string js := by rw [HJS.out]
      rw [e1]
      clear e1
      go_wp2
      go_ret
      exact ⟨by rw [← HR.out]; rfl, below_st hB hb⟩

end Go.Proofs.YtpmndopcemdniaaDoor
