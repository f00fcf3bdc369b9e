/- Both parsers agree; the reference's mutated strings; bounds on the generators' texts. Conditions: strings of at most 1000 bytes. -/
import Derived.Laws.IdiomStrings
import Derived.Deep.RegionHeld3
import Derived.Test.YtmgjbbkccgncgaaDoorLRefParse
namespace Go.Proofs.YtmgjbbkccgncgaaDoor
open Go.RowKit

theorem ans_len (s : ByteArray) : (ansP s (parP s)).length ≤ 9 := by
  unfold ansP
  split
  · unfold parP
    split
    · exact Nat.zero_le _
    · rw [List.length_map]; exact parts_len s
  · exact Nat.zero_le _

theorem conv_one (w : World) (c : UInt8) : (convert 34 9 (.slice (some ⟨w.heap.size, 0, none⟩) 1 1)).run Tryd.prog (w.alloc (.cells #[.int .u8 (c.toNat : Int)] 5)) = .ok (.string ⟨#[c]⟩) (w.alloc (.cells #[.int .u8 (c.toNat : Int)] 5)) :=
  run_convert_bytes_back (w.alloc (.cells #[.int .u8 (c.toNat : Int)] 5)) 34 9 5 ⟨w.heap.size, 0, none⟩ 1 [c] Tryd.underlying34 Tryd.underlying5 Tryd.underlying9 (fun j hj => by
    obtain rfl : j = 0 := by simpa using hj
    exact cell_one_new w (.int .u8 (c.toNat : Int)) 5 0 _ rfl)

def StrLe (m : Nat) (e : Ending) : Prop := ∃ s : ByteArray, e = .returned (.string s) ∧ s.size ≤ m
/-- A finer bound on a text. -/
def SzM (m : Nat) (it : List L2) : Prop := ∀ t ∈ it, t.1.size ≤ m ∧ t.2.size ≤ m
theorem textK_sizeM {m : Nat} {it : List L2} (hz : SzM m it) : ∀ k, k ≤ it.length → (textK it k).size ≤ (2 * m + 4) * k + 1
  | 0, _ => by show (⟨#[123]⟩ : ByteArray).size ≤ _; exact Nat.le_refl _
  | k + 1, hk => by
    obtain ⟨n, v, hj⟩ := label_at (it := it) (k := k) (by omega)
    have ih := textK_sizeM hz k (by omega)
    obtain ⟨h1a, h1b⟩ : n.size ≤ m ∧ v.size ≤ m := hz (n, v) (List.mem_of_getElem? hj)
    have e2 : (⟨#[61, 34]⟩ : ByteArray).size = 2 := rfl
    have e3 : (⟨#[34]⟩ : ByteArray).size = 1 := rfl
    have e4 : (⟨#[44]⟩ : ByteArray).size = 1 := rfl
    have hmul : (2 * m + 4) * (k + 1) = (2 * m + 4) * k + (2 * m + 4) := by rw [Nat.mul_add, Nat.mul_one]
    rw [textK, hj]
    simp only [ByteArray.size_append, e2, e3]
    rw [hmul]
    obtain ⟨Q, hQ⟩ : ∃ Q, (2 * m + 4) * k = Q := ⟨_, rfl⟩
    rw [hQ] at ih ⊢
    by_cases h0 : 0 < k
    · rw [if_pos h0, ByteArray.size_append, e4]; omega
    · rw [if_neg h0]; omega
theorem textB_sizeM {m : Nat} {it : List L2} (hz : SzM m it) : (textB it).size ≤ (2 * m + 4) * it.length + 2 := by
  rw [← textK_end, ByteArray.size_append]
  have := textK_sizeM hz it.length (Nat.le_refl _)
  have e : (⟨#[125]⟩ : ByteArray).size = 1 := rfl
  omega
theorem names16_17 : ∀ n ∈ names16, n.size ≤ 17 := by decide +kernel
theorem vals14_17 : ∀ n ∈ vals14, n.size ≤ 17 := by decide +kernel
theorem DirtyOf.text {it : List L2} (h : DirtyOf it) : (textB it).size ≤ 500 := by
  have := textB_sizeM (m := 17) (it := it) (fun t ht => ⟨names16_17 _ (h.2 t ht).1, vals14_17 _ (h.2 t ht).2⟩)
  have h1 := h.1
  omega
theorem SetOf.text {k : Nat} {it : List L2} (h : SetOf k it) (h6 : it.length ≤ 6) : (textB it).size ≤ 500 := by
  have := textB_sizeM (m := 16) (it := it) (fun t ht => ⟨(nameB_size (h.good t ht).1).2, valB_size (h.good t ht).2.2⟩)
  omega
end Go.Proofs.YtmgjbbkccgncgaaDoor
