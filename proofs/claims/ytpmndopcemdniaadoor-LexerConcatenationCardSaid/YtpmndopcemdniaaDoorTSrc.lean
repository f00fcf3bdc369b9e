/- Contracts of the reference's generators Source and Clean. Conditions: a list of integers. -/
import Derived.Test.YtpmndopcemdniaaDoorTGen
namespace Go.Proofs.YtpmndopcemdniaaDoor
open Go.RowKit

def partsL : List (List UInt8) := [[97], [115, 117, 109], [120, 95, 49], [48], [55], [48, 52, 50], [49, 48, 55, 51, 55, 52, 49, 56, 50, 52], [34, 34], [34, 98, 50, 34], [43], [45], [42], [47], [40], [41], [123], [125], [44], [46], [64], [61], [33, 61], [94, 61], [107, 116, 104], [98, 121], [122, 111, 110, 101], [33], [94], [34], [49, 48, 55, 51, 55, 52, 49, 56, 50, 53], [97, 98, 99, 100, 101, 102, 103, 104, 105, 106, 107, 108, 109, 110, 111, 112], [97, 98, 99, 100, 101, 102, 103, 104, 105, 106, 107, 108, 109, 110, 111, 112, 113], [65], [95], [35], [34, 97, 32, 98, 34], [34, 97, 98, 99, 100, 101, 102, 103, 104, 105, 106, 107, 108, 109, 110, 111, 112, 113, 34]]
def spacesL : List (List UInt8) := [[32], [], [9], [10], [13, 32], [32, 32]]
def cleanL : List (List UInt8) := [[97], [115, 117, 109], [120, 95, 49], [48], [55], [48, 52, 50], [49, 48, 55, 51, 55, 52, 49, 56, 50, 52], [34, 34], [34, 98, 50, 34], [43], [45], [42], [47], [40], [41], [123], [125], [44], [46], [64], [61], [33, 61], [94, 61], [107, 116, 104], [98, 121], [122, 111, 110, 101]]
/-- A block of strings of few bytes. -/
theorem strs_at (W : World) (t : TypeId) (L : List (List UInt8)) (k : Nat) (hk : k < L.length) (hs : L.all (fun x => decide (x.length ≤ 19)) = true) :
    ∃ x : ByteArray, (W.alloc (.cells (L.map fun l => Value.string ⟨l.toArray⟩).toArray t)).cell? ⟨W.heap.size, k, none⟩ = some (.string x) ∧ x.size ≤ 19 := by
  refine ⟨⟨(L[k]'hk).toArray⟩, ?_, ?_⟩
  · refine (World.cell?_alloc_mark W _ _ _ k).trans ?_
    rw [List.getElem?_toArray, List.getElem?_map, List.getElem?_eq_getElem hk]
    rfl
  · have := List.all_eq_true.1 hs _ (List.getElem_mem hk)
    have h2 : (⟨(L[k]'hk).toArray⟩ : ByteArray).size = (L[k]'hk).length := List.size_toArray ..
    rw [h2]
    simpa using this

set_option maxRecDepth 100000 in
set_option maxHeartbeats 8000000 in
theorem source_any (sv : Value) (zs : List Int) (w : World) (hI : IntsIn w sv zs) : Calls Tryd.prog 12 #[sv] w fun e w' => ∃ b : ByteArray, e = .returned (.string b) ∧ b.size ≤ 1200 ∧ Below w.heap.size w w' := by
  obtain ⟨⟨a, c, rfl, h1⟩, h2, hlen⟩ := hI
  obtain ⟨A, hA⟩ : ∃ A, w.alloc (.cells (partsL.map fun l => Value.string ⟨l.toArray⟩).toArray 9) = A := ⟨_, rfl⟩
  obtain ⟨B, hB⟩ : ∃ B, A.alloc (.cells (spacesL.map fun l => Value.string ⟨l.toArray⟩).toArray 9) = B := ⟨_, rfl⟩
  have hAz : A.heap.size = w.heap.size + 1 := by rw [← hA]; simp
  have hBz : B.heap.size = w.heap.size + 2 := by rw [← hB]; simp [hAz]
  have hwA : Below w.heap.size w A := by rw [← hA]; exact (Below.refl _ w).alloc (Nat.le_refl _) _
  have hAB : Below A.heap.size A B := by rw [← hB]; exact (Below.refl _ A).alloc (Nat.le_refl _) _
  have hwB := step_low hwA hAB
  have HP := Lib.hid (show ∀ k, k < 37 → ∃ x : ByteArray, B.cell? ⟨w.heap.size, k, none⟩ = some (.string x) ∧ x.size ≤ 19 from fun k hk => by
    obtain ⟨x, hx, hs⟩ := strs_at w 9 partsL k hk (by decide)
    rw [hA] at hx
    exact ⟨x, (hAB.cell (p := ⟨w.heap.size, k, none⟩) (by show w.heap.size < A.heap.size; omega)).trans hx, hs⟩)
  have HS := Lib.hid (show ∀ k, k < 6 → ∃ x : ByteArray, B.cell? ⟨w.heap.size + 1, k, none⟩ = some (.string x) ∧ x.size ≤ 19 from fun k hk => by
    obtain ⟨x, hx, hs⟩ := strs_at A 9 spacesL k hk (by decide)
    rw [hB, hAz] at hx
    exact ⟨x, hx, hs⟩)
  have HA : (w.alloc (.cells #[.string ⟨#[97]⟩, .string ⟨#[115, 117, 109]⟩, .string ⟨#[120, 95, 49]⟩, .string ⟨#[48]⟩, .string ⟨#[55]⟩, .string ⟨#[48, 52, 50]⟩, .string ⟨#[49, 48, 55, 51, 55, 52, 49, 56, 50, 52]⟩, .string ⟨#[34, 34]⟩, .string ⟨#[34, 98, 50, 34]⟩, .string ⟨#[43]⟩, .string ⟨#[45]⟩, .string ⟨#[42]⟩, .string ⟨#[47]⟩, .string ⟨#[40]⟩, .string ⟨#[41]⟩, .string ⟨#[123]⟩, .string ⟨#[125]⟩, .string ⟨#[44]⟩, .string ⟨#[46]⟩, .string ⟨#[64]⟩, .string ⟨#[61]⟩, .string ⟨#[33, 61]⟩, .string ⟨#[94, 61]⟩, .string ⟨#[107, 116, 104]⟩, .string ⟨#[98, 121]⟩, .string ⟨#[122, 111, 110, 101]⟩, .string ⟨#[33]⟩, .string ⟨#[94]⟩, .string ⟨#[34]⟩, .string ⟨#[49, 48, 55, 51, 55, 52, 49, 56, 50, 53]⟩, .string ⟨#[97, 98, 99, 100, 101, 102, 103, 104, 105, 106, 107, 108, 109, 110, 111, 112]⟩, .string ⟨#[97, 98, 99, 100, 101, 102, 103, 104, 105, 106, 107, 108, 109, 110, 111, 112, 113]⟩, .string ⟨#[65]⟩, .string ⟨#[95]⟩, .string ⟨#[35]⟩, .string ⟨#[34, 97, 32, 98, 34]⟩, .string ⟨#[34, 97, 98, 99, 100, 101, 102, 103, 104, 105, 106, 107, 108, 109, 110, 111, 112, 113, 34]⟩] 9)) = A := hA
  have HB : (A.alloc (.cells #[.string ⟨#[32]⟩, .string ⟨#[]⟩, .string ⟨#[9]⟩, .string ⟨#[10]⟩, .string ⟨#[13, 32]⟩, .string ⟨#[32, 32]⟩] 9)) = B := hB
  clear hA hB
  obtain ⟨N, hN⟩ : ∃ N, zs.length = N := ⟨_, rfl⟩
  have HN := Lib.hid hN
  rw [hN] at hlen ⊢
  have H1 := Lib.hid h1
  have H2 := Lib.hid h2
  clear h1 h2 hN
  go_enter Tryd.func12, Tryd.ntmps12
  go_wp2
  try rw [HA, HB]
  clear HA HB
  go_loopw [5, 6] (fun sv iv wr => ∃ (b : ByteArray) (i : Nat), sv = .string b ∧ iv = .int .i64 (i : Int) ∧ i ≤ 30 ∧ b.size ≤ 38 * i ∧ Below B.heap.size B wr) (fun _ iv _ => 30 - (intOf iv).toNat)
  case atStart => exact ⟨⟨#[]⟩, 0, rfl, rfl, by omega, by decide, Below.refl _ _⟩
  case round =>
    obtain ⟨b, i, hb, rfl, hi, hs, hw⟩ := hrel
    subst hb
    by_cases hlt : i < N
    · have b1 : (i : Int) < (N : Int) := by omega
      by_cases h30 : i < 30
      · have b2 : (i : Int) < 30 := by omega
        obtain ⟨x, hx⟩ : ∃ x, zs[i]? = some x := ⟨_, List.getElem?_eq_getElem (by rw [HN.out]; exact hlt)⟩
        obtain ⟨g, off, rfl, hg, hc⟩ := H1.out i x hx
        obtain ⟨q1, q2⟩ := H2.out x (List.mem_of_getElem? hx)
        have ci := ((step_low hwB hw).cell (p := ⟨g, off + i, none⟩) hg).trans hc
        have a1 := aroundI_lo x 1800 (by omega)
        have a2 := aroundI_hi x 1800 (by omega)
        obtain ⟨m, hm⟩ : ∃ m : Nat, aroundI x 1800 = (m : Int) := ⟨(aroundI x 1800).toNat, by omega⟩
        have AR := Lib.hid (fun W => show Calls Tryd.prog 16 #[.int .i64 x, .int .i64 1800] W fun e w' => e = .returned (.int .i64 (m : Int)) ∧ W = w' from by
          have h := around_any x 1800 W q1 q2 (by omega) (by omega)
          rw [hm] at h
          exact h)
        have hm2 : m < 1800 := by omega
        obtain ⟨r, hr⟩ : ∃ r, m % 6 = r := ⟨_, rfl⟩
        obtain ⟨d, hd⟩ : ∃ d, m / 6 = d := ⟨_, rfl⟩
        have r6 : (m : Int) % 6 = (r : Int) := by omega
        have d6 : (m : Int) / 6 = (d : Int) := by omega
        obtain ⟨y, hy, hys⟩ := HS.out r (by omega)
        replace hy := (hw.cell (p := ⟨w.heap.size + 1, r, none⟩) (by show w.heap.size + 1 < B.heap.size; omega)).trans hy
        have rr : (r : Int) < 6 := by omega
        by_cases h37 : d < 37
        · have b3 : ¬ (37 : Int) ≤ (d : Int) := by omega
          have b4 : (d : Int) < 37 := by omega
          obtain ⟨z, hz, hzs⟩ := HP.out d h37
          replace hz := (hw.cell (p := ⟨w.heap.size, d, none⟩) (by show w.heap.size < B.heap.size; omega)).trans hz
          clear hx hc hm a1 a2 hr hd
          go_wp2_with (go_at_call 16; refine (AR.out _).mono ?_; rintro e w' ⟨rfl, rfl⟩)
          go_quiet (fail)
          go_wp2
          go_roundw
          case measure => simp [intOf]; omega
          case rel => exact ⟨_, i + 1, rfl, by go_num, by omega, by simp only [ByteArray.size_append]; omega, below_draw hw _⟩
        · obtain ⟨k, hk⟩ : ∃ k, d % 26 = k := ⟨_, rfl⟩
          have d26 : (d : Int) % 26 = (k : Int) := by omega
          have b3 : (37 : Int) ≤ (d : Int) := by omega
          have b4 : (k : Int) < 37 := by omega
          obtain ⟨z, hz, hzs⟩ := HP.out k (by omega)
          replace hz := (hw.cell (p := ⟨w.heap.size, k, none⟩) (by show w.heap.size < B.heap.size; omega)).trans hz
          clear hx hc hm a1 a2 hr hd hk
          go_wp2_with (go_at_call 16; refine (AR.out _).mono ?_; rintro e w' ⟨rfl, rfl⟩)
          go_quiet (fail)
          go_wp2
          go_roundw
          case measure => simp [intOf]; omega
          case rel => exact ⟨_, i + 1, rfl, by go_num, by omega, by simp only [ByteArray.size_append]; omega, below_draw hw _⟩
      · have b2 : ¬ (i : Int) < 30 := by omega
        clear hlt h30
        go_wp2
        go_ret
        exact ⟨_, rfl, by omega, step_low hwB hw⟩
    · have b1 : decide ((i : Int) < (N : Int)) = false := decide_eq_false (by omega)
      have b2 : ¬ (i : Int) < (N : Int) := by omega
      clear hlt
      go_wp2
      go_ret
      exact ⟨_, rfl, by omega, step_low hwB hw⟩

set_option maxRecDepth 100000 in
set_option maxHeartbeats 8000000 in
theorem clean_any (sv : Value) (zs : List Int) (w : World) (hI : IntsIn w sv zs) : Calls Tryd.prog 13 #[sv] w fun e w' => ∃ b : ByteArray, e = .returned (.string b) ∧ b.size ≤ 1200 ∧ Below w.heap.size w w' := by
  obtain ⟨⟨a, c, rfl, h1⟩, h2, hlen⟩ := hI
  obtain ⟨B, hB⟩ : ∃ B, w.alloc (.cells (cleanL.map fun l => Value.string ⟨l.toArray⟩).toArray 9) = B := ⟨_, rfl⟩
  have hBz : B.heap.size = w.heap.size + 1 := by rw [← hB]; simp
  have hwB : Below w.heap.size w B := by rw [← hB]; exact (Below.refl _ w).alloc (Nat.le_refl _) _
  have HP := Lib.hid (show ∀ k, k < 26 → ∃ x : ByteArray, B.cell? ⟨w.heap.size, k, none⟩ = some (.string x) ∧ x.size ≤ 19 from fun k hk => by
    obtain ⟨x, hx, hs⟩ := strs_at w 9 cleanL k hk (by decide)
    rw [hB] at hx
    exact ⟨x, hx, hs⟩)
  have HB : (w.alloc (.cells #[.string ⟨#[97]⟩, .string ⟨#[115, 117, 109]⟩, .string ⟨#[120, 95, 49]⟩, .string ⟨#[48]⟩, .string ⟨#[55]⟩, .string ⟨#[48, 52, 50]⟩, .string ⟨#[49, 48, 55, 51, 55, 52, 49, 56, 50, 52]⟩, .string ⟨#[34, 34]⟩, .string ⟨#[34, 98, 50, 34]⟩, .string ⟨#[43]⟩, .string ⟨#[45]⟩, .string ⟨#[42]⟩, .string ⟨#[47]⟩, .string ⟨#[40]⟩, .string ⟨#[41]⟩, .string ⟨#[123]⟩, .string ⟨#[125]⟩, .string ⟨#[44]⟩, .string ⟨#[46]⟩, .string ⟨#[64]⟩, .string ⟨#[61]⟩, .string ⟨#[33, 61]⟩, .string ⟨#[94, 61]⟩, .string ⟨#[107, 116, 104]⟩, .string ⟨#[98, 121]⟩, .string ⟨#[122, 111, 110, 101]⟩] 9)) = B := hB
  clear hB
  obtain ⟨N, hN⟩ : ∃ N, zs.length = N := ⟨_, rfl⟩
  have HN := Lib.hid hN
  rw [hN] at hlen ⊢
  have H1 := Lib.hid h1
  have H2 := Lib.hid h2
  clear h1 h2 hN
  go_enter Tryd.func13, Tryd.ntmps13
  go_wp2
  try rw [HB]
  clear HB
  go_loopw [4, 5] (fun sv iv wr => ∃ (b : ByteArray) (i : Nat), sv = .string b ∧ iv = .int .i64 (i : Int) ∧ i ≤ 30 ∧ b.size ≤ 38 * i ∧ Below B.heap.size B wr) (fun _ iv _ => 30 - (intOf iv).toNat)
  case atStart => exact ⟨⟨#[]⟩, 0, rfl, rfl, by omega, by decide, Below.refl _ _⟩
  case round =>
    obtain ⟨b, i, hb, rfl, hi, hs, hw⟩ := hrel
    subst hb
    by_cases hlt : i < N
    · have b1 : (i : Int) < (N : Int) := by omega
      by_cases h30 : i < 30
      · have b2 : (i : Int) < 30 := by omega
        obtain ⟨x, hx⟩ : ∃ x, zs[i]? = some x := ⟨_, List.getElem?_eq_getElem (by rw [HN.out]; exact hlt)⟩
        obtain ⟨g, off, rfl, hg, hc⟩ := H1.out i x hx
        obtain ⟨q1, q2⟩ := H2.out x (List.mem_of_getElem? hx)
        have ci := ((step_low hwB hw).cell (p := ⟨g, off + i, none⟩) hg).trans hc
        have a1 := aroundI_lo x 1000 (by omega)
        have a2 := aroundI_hi x 1000 (by omega)
        obtain ⟨m, hm⟩ : ∃ m : Nat, aroundI x 1000 = (m : Int) := ⟨(aroundI x 1000).toNat, by omega⟩
        have AR := Lib.hid (fun W => show Calls Tryd.prog 16 #[.int .i64 x, .int .i64 1000] W fun e w' => e = .returned (.int .i64 (m : Int)) ∧ W = w' from by
          have h := around_any x 1000 W q1 q2 (by omega) (by omega)
          rw [hm] at h
          exact h)
        have hm2 : m < 1000 := by omega
        obtain ⟨k, hk⟩ : ∃ k, m % 26 = k := ⟨_, rfl⟩
        have d26 : (m : Int) % 26 = (k : Int) := by omega
        have b4 : (k : Int) < 26 := by omega
        obtain ⟨z, hz, hzs⟩ := HP.out k (by omega)
        replace hz := (hw.cell (p := ⟨w.heap.size, k, none⟩) (by show w.heap.size < B.heap.size; omega)).trans hz
        have hsp : (⟨#[32]⟩ : ByteArray).size = 1 := rfl
        by_cases h800 : m < 800
        · have b3 : (m : Int) < 800 := by omega
          have HSP := Lib.hid hsp
          clear hx hc hm a1 a2 hk hsp
          go_wp2_with (go_at_call 16; refine (AR.out _).mono ?_; rintro e w' ⟨rfl, rfl⟩)
          go_roundw
          case measure => simp [intOf]; omega
          case rel => exact ⟨_, i + 1, rfl, by go_num, by omega, by have := HSP.out; simp only [ByteArray.size_append]; omega, hw⟩
        · have b3 : ¬ (m : Int) < 800 := by omega
          have HSP := Lib.hid hsp
          clear hx hc hm a1 a2 hk hsp
          go_wp2_with (go_at_call 16; refine (AR.out _).mono ?_; rintro e w' ⟨rfl, rfl⟩)
          go_roundw
          case measure => simp [intOf]; omega
          case rel => exact ⟨_, i + 1, rfl, by go_num, by omega, by have := HSP.out; simp only [ByteArray.size_append]; omega, hw⟩
      · have b2 : ¬ (i : Int) < 30 := by omega
        clear hlt h30
        go_wp2
        go_ret
        exact ⟨_, rfl, by omega, step_low hwB hw⟩
    · have b1 : decide ((i : Int) < (N : Int)) = false := decide_eq_false (by omega)
      have b2 : ¬ (i : Int) < (N : Int) := by omega
      clear hlt
      go_wp2
      go_ret
      exact ⟨_, rfl, by omega, step_low hwB hw⟩
end Go.Proofs.YtpmndopcemdniaaDoor
