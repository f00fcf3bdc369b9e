/- Both parsers agree; the reference's mutated strings; bounds on the generators' texts. Conditions: strings of at most 1000 bytes. -/
import Derived.Laws.IdiomStrings
import Derived.Deep.RegionHeld3
import Derived.Test.YtmgjbbkccgncgaaGreatDoorLRefParse
namespace Go.Proofs.YtmgjbbkccgncgaaGreatDoor
open Go.RowKit

theorem refparse2 (s : ByteArray) (w : World) (hs : s.size ≤ 1000) : Calls Tryz.prog 15 #[.string s] w (ParR s (parP s) w) := by
  have h := refparse_any s w hs
  unfold ParR at h ⊢
  rw [← (par_ref s).1, ← (par_ref s).2] at h
  exact h
theorem ans_len (s : ByteArray) : (ansP s (parP s)).length ≤ 9 := by
  unfold ansP
  split
  · unfold parP
    split
    · exact Nat.zero_le _
    · rw [List.length_map]; exact parts_len s
  · exact Nat.zero_le _

set_option maxRecDepth 100000 in
set_option maxHeartbeats 4000000 in
theorem parses_any (s : ByteArray) (w : World) (hs : s.size ≤ 1000) (hm : MaxAt w) : Calls Tryz.prog 8 #[.string s] w fun e w' => e = .returned (.bool true) ∧ Below w.heap.size w w' := by
  have HP := Lib.hid (parse_any s w hs hm)
  have HR := Lib.hid (fun (W : World) => refparse2 s W hs)
  have hl := ans_len s
  unfold ParR at HP HR
  obtain ⟨A, hA⟩ : ∃ A, ansP s (parP s) = A := ⟨_, rfl⟩
  obtain ⟨x, hx⟩ : ∃ x, errP s (parP s) = x := ⟨_, rfl⟩
  rw [hA, hx] at HP HR
  rw [hA] at hl
  have ex : (x == x) = true := by simp
  clear hA hx hm
  go_enter Tryz.func8, Tryz.ntmps8
  go_wp2_with fail
  (with_reducible refine HP.out.mono ?_)
  rintro e w1 ⟨v1, rfl, hL1, hb1⟩
  obtain ⟨a1, c1, rfl, -⟩ := hL1.slice
  have HB1 := Lib.hid hb1
  have HL1 := Lib.hid hL1
  clear hb1 hL1 HP
  go_wp2_with fail
  (with_reducible refine (HR.out _).mono ?_)
  rintro e w2 ⟨v2, rfl, hL2, hb2⟩
  obtain ⟨a2, c2, rfl, -⟩ := hL2.slice
  have HB2 := Lib.hid (below_st HB1.out hb2)
  have hS := same_any a1 a2 c1 c2 A A w2 (HL1.out.below hb2) hL2 (by omega) (by omega)
  rw [sameL_of rfl] at hS
  have HS := Lib.hid hS
  clear hb2 hL2 HR hS
  go_wp2_with fail
  (with_reducible refine HS.out.mono ?_)
  rintro e w3 ⟨rfl, hb3⟩
  have HB3 := Lib.hid (below_st HB2.out hb3)
  clear hb3 HS
  go_wp2
  go_ret
  exact ⟨rfl, HB3.out⟩

theorem conv_one (w : World) (c : UInt8) : (convert 41 9 (.slice (some ⟨w.heap.size, 0, none⟩) 1 1)).run Tryz.prog (w.alloc (.cells #[.int .u8 (c.toNat : Int)] 5)) = .ok (.string ⟨#[c]⟩) (w.alloc (.cells #[.int .u8 (c.toNat : Int)] 5)) :=
  run_convert_bytes_back (w.alloc (.cells #[.int .u8 (c.toNat : Int)] 5)) 41 9 5 ⟨w.heap.size, 0, none⟩ 1 [c] Tryz.underlying41 Tryz.underlying5 Tryz.underlying9 (fun j hj => by
    obtain rfl : j = 0 := by simpa using hj
    exact cell_one_new w (.int .u8 (c.toNat : Int)) 5 0 _ rfl)

def StrLe (m : Nat) (e : Ending) : Prop := ∃ s : ByteArray, e = .returned (.string s) ∧ s.size ≤ m
set_option maxRecDepth 100000 in
set_option maxHeartbeats 8000000 in
theorem mutated_any (s : ByteArray) (at' how : Int) (c : UInt8) (w : World) (hs : s.size ≤ 1000) (h1 : -9223372036854775808 ≤ at') (h2 : at' ≤ 9223372036854775807) (h3 : -9223372036854775808 ≤ how) (h4 : how ≤ 9223372036854775807) :
    Calls Tryz.prog 9 #[.string s, .int .i64 at', .int .i64 how, .int .u8 (c.toNat : Int)] w fun e w' => StrLe (s.size + 1) e ∧ Below w.heap.size w w' := by
  have A1 := Lib.hid (fun W => around_any at' ((s.size : Int) + 1) W h1 h2 (by omega) (by omega))
  have A2 := Lib.hid (fun W => around_any how 3 W h3 h4 (by omega) (by omega))
  have k0 := aroundI_lo at' ((s.size : Int) + 1) (by omega)
  have k1 := aroundI_hi at' ((s.size : Int) + 1) (by omega)
  obtain ⟨q, hq⟩ : ∃ q, aroundI at' ((s.size : Int) + 1) = q := ⟨_, rfl⟩
  rw [hq] at A1 k0 k1
  obtain ⟨k, rfl⟩ := Int.eq_ofNat_of_zero_le k0
  obtain ⟨r, hr⟩ : ∃ r, aroundI how 3 = r := ⟨_, rfl⟩
  rw [hr] at A2
  have k2 : (k : Int) ≤ (s.size : Int) := by omega
  have HC := Lib.hid (fun W => conv_one W c)
  have HB := Lib.hid ((Below.refl w.heap.size w).alloc (Nat.le_refl _) (.cells #[.int .u8 (c.toNat : Int)] 5))
  have w1 : IntKind.i64.wrap ((s.size : Int) + 1) = (s.size : Int) + 1 := by rw [IntKind.wrap_i64]; omega
  have w2 : IntKind.i64.wrap ((k : Int) + 1) = (k : Int) + 1 := by rw [IntKind.wrap_i64]; omega
  have k3 : ((k : Int) + 1).toNat = k + 1 := by omega
  clear hq hr k1 h1 h2 h3 h4
  have one : (⟨#[c]⟩ : ByteArray).size = 1 := rfl
  have HO := Lib.hid one
  clear one
  have hcase : ((k : Int) = (s.size : Int)) ∨ ((k : Int) ≠ (s.size : Int) ∧ r = 0) ∨ ((k : Int) ≠ (s.size : Int) ∧ r ≠ 0 ∧ r = 1) ∨ ((k : Int) ≠ (s.size : Int) ∧ r ≠ 0 ∧ r ≠ 1) := by omega
  have HK := Lib.hid hcase
  clear hcase
  go_enter Tryz.func9, Tryz.ntmps9
  go_wp2_with fail
  (with_reducible refine (A1.out _).mono ?_)
  rintro e w' ⟨rfl, rfl⟩
  have hconv := HC.out w
  rcases HK.out with hk | ⟨hk, hr⟩ | ⟨hk, hr, hr1⟩ | ⟨hk, hr, hr1⟩
  · have e1 : ((k : Int) == (s.size : Int)) = true := by simp [hk]
    go_wp2_with fail
    go_region
    go_wp2
    go_ret
    refine ⟨⟨_, rfl, ?_⟩, HB.out.drew⟩
    simp only [ByteArray.size_append, ByteArray.size_extract, HO.out]
    omega
  · have e1 : ((k : Int) == (s.size : Int)) = false := by simpa using hk
    have e2 : (r == 0) = true := by simp [hr]
    go_wp2_with fail
    (with_reducible refine (A2.out _).mono ?_)
    rintro e w' ⟨rfl, rfl⟩
    go_wp2_with fail
    go_region
    go_wp2
    go_ret
    refine ⟨⟨_, rfl, ?_⟩, HB.out.drew⟩
    simp only [ByteArray.size_append, ByteArray.size_extract, HO.out]
    omega
  · have e1 : ((k : Int) == (s.size : Int)) = false := by simpa using hk
    have e2 : (r == 0) = false := by simpa using hr
    have e3 : (r == 1) = true := by simp [hr1]
    have k4 : (k : Int) + 1 ≤ (s.size : Int) := by omega
    go_wp2_with fail
    (with_reducible refine (A2.out _).mono ?_)
    rintro e w' ⟨rfl, rfl⟩
    go_wp2_with fail
    (with_reducible refine (A2.out _).mono ?_)
    rintro e w' ⟨rfl, rfl⟩
    go_wp2_with fail
    go_region
    go_wp2
    go_ret
    refine ⟨⟨_, rfl, ?_⟩, HB.out.drew⟩
    simp only [ByteArray.size_append, ByteArray.size_extract, HO.out]
    omega
  · have e1 : ((k : Int) == (s.size : Int)) = false := by simpa using hk
    have e2 : (r == 0) = false := by simpa using hr
    have e3 : (r == 1) = false := by simpa using hr1
    have k4 : (k : Int) + 1 ≤ (s.size : Int) := by omega
    go_wp2_with fail
    (with_reducible refine (A2.out _).mono ?_)
    rintro e w' ⟨rfl, rfl⟩
    go_wp2_with fail
    (with_reducible refine (A2.out _).mono ?_)
    rintro e w' ⟨rfl, rfl⟩
    go_wp2_with fail
    go_region
    go_wp2
    go_ret
    refine ⟨⟨_, rfl, ?_⟩, HB.out.drew⟩
    simp only [ByteArray.size_append, ByteArray.size_extract, HO.out]
    omega

/-- A finer bound on a text. -/
def SzM (m : Nat) (it : List L2) : Prop := ∀ t ∈ it, t.1.size ≤ m ∧ t.2.size ≤ m
theorem textK_sizeM {m : Nat} {it : List L2} (hz : SzM m it) : ∀ k, k ≤ it.length → (textK it k).size ≤ (2 * m + 4) * k + 1
  | 0, _ => by show (⟨#[123]⟩ : ByteArray).size ≤ _; exact Nat.le_refl _
  | k + 1, hk => by
    obtain ⟨n, v, hj⟩ := label_at (it := it) (k := k) (by omega)
    have ih := textK_sizeM hz k (by omega)
    obtain ⟨h1a, h1b⟩ : n.size ≤ m ∧ v.size ≤ m := hz (n, v) (List.mem_of_getElem? hj)
    have e2 : (⟨#[61, 34]⟩ : ByteArray).size = 2 := rfl
    have e3 : (⟨#[34]⟩ : ByteArray).size = 1 := rfl
    have e4 : (⟨#[44]⟩ : ByteArray).size = 1 := rfl
    have hmul : (2 * m + 4) * (k + 1) = (2 * m + 4) * k + (2 * m + 4) := by rw [Nat.mul_add, Nat.mul_one]
    rw [textK, hj]
    simp only [ByteArray.size_append, e2, e3]
    rw [hmul]
    obtain ⟨Q, hQ⟩ : ∃ Q, (2 * m + 4) * k = Q := ⟨_, rfl⟩
    rw [hQ] at ih ⊢
    by_cases h0 : 0 < k
    · rw [if_pos h0, ByteArray.size_append, e4]; omega
    · rw [if_neg h0]; omega
theorem textB_sizeM {m : Nat} {it : List L2} (hz : SzM m it) : (textB it).size ≤ (2 * m + 4) * it.length + 2 := by
  rw [← textK_end, ByteArray.size_append]
  have := textK_sizeM hz it.length (Nat.le_refl _)
  have e : (⟨#[125]⟩ : ByteArray).size = 1 := rfl
  omega
theorem names16_17 : ∀ n ∈ names16, n.size ≤ 17 := by decide +kernel
theorem vals14_17 : ∀ n ∈ vals14, n.size ≤ 17 := by decide +kernel
theorem DirtyOf.text {it : List L2} (h : DirtyOf it) : (textB it).size ≤ 500 := by
  have := textB_sizeM (m := 17) (it := it) (fun t ht => ⟨names16_17 _ (h.2 t ht).1, vals14_17 _ (h.2 t ht).2⟩)
  have h1 := h.1
  omega
theorem SetOf.text {k : Nat} {it : List L2} (h : SetOf k it) (h6 : it.length ≤ 6) : (textB it).size ≤ 500 := by
  have := textB_sizeM (m := 16) (it := it) (fun t ht => ⟨(nameB_size (h.good t ht).1).2, valB_size (h.good t ht).2.2⟩)
  omega
end Go.Proofs.YtmgjbbkccgncgaaGreatDoor
