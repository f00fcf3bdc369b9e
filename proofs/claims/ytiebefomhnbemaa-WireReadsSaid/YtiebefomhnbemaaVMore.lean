/- Lists of values that are appended to, read and compared. Conditions: none. -/
import Derived.Deep.RegionHeld3
import Derived.Test.YtiebefomhnbemaaValsAny
namespace Go.Proofs.Ytiebefomhnbemaa
open Go.RowKit

theorem Gen.pushes {base : Nat} {W wl w1 : World} {v v' : Value} {ts it : List VT} {tmp : Obj} (hG : Gen base W v it) (hbase : base ≤ W.heap.size) (hB : Below W.heap.size W wl) (ht : ∀ t ∈ ts, VP (W.heap.size ≤ ·) wl t)
    (hown' : w1.ownsRow base 28 5 v' (it.length + ts.length) (it.flatMap cells5 ++ ts.flatMap cells5)) (hgrow : (wl.alloc tmp).grownBy w1 v.ownBlock) (hat : v'.ownBlock = v.ownBlock ∨ v'.ownBlock = some (wl.alloc tmp).heap.size) :
    Gen base w1 v' (it ++ ts) ∧ Below base W w1 := by
  obtain ⟨h1, h2⟩ := hG
  have hk : Kp (fun k => some k ≠ v.ownBlock) wl w1 := by
    refine (Kp.of_below ((Below.refl _ wl).alloc (Nat.le_refl _) tmp)).trans ⟨hgrow.os, hgrow.tape, hgrow.output, hgrow.size, fun k hk hp => hgrow.block k hk hp⟩
  have hnew : ∀ k, k < wl.heap.size → some k ≠ v.ownBlock → some k ≠ v'.ownBlock := by
    intro k hk hne e
    rcases hat with h | h
    · exact hne (e.trans h)
    · rw [h] at e
      simp at e
      omega
  have hrow := fun j hj => h1.lt j hj
  refine ⟨⟨?_, fun s hs => ?_⟩, ?_⟩
  · rw [List.length_append, List.flatMap_append]
    exact hown'
  · rcases List.mem_append.1 hs with h | h
    · have h3 := (h2 s h).below hB
      exact ((h3.mono (Q := fun k => some k ≠ v.ownBlock ∧ base ≤ k ∧ some k ≠ v'.ownBlock) (fun k hk hp => ⟨hp.2, hp.1, hnew k hk hp.2⟩)).kp (hk.mono (fun k h => h.1))).mono (fun k _ h => h.2)
    · have hne : ∀ k, W.heap.size ≤ k → some k ≠ v.ownBlock := fun k hk e => by have := hrow k e.symm; omega
      exact (((ht s h).mono (Q := fun k => some k ≠ v.ownBlock ∧ base ≤ k ∧ some k ≠ v'.ownBlock) (fun k hkl hp => ⟨hne k hp, by have h' : W.heap.size ≤ k := hp; omega, hnew k hkl (hne k hp)⟩)).kp (hk.mono (fun k h => h.1))).mono (fun k _ h => h.2)
  · exact (hB.mono hbase).trans (((Below.refl base wl).alloc (by have := hB.size; omega) tmp).grown hgrow (by simp; have := hB.size; omega) (fun j hj => (hrow j hj).1))
theorem Rd.drew {lo b : Nat} {W : World} {s : St} (h : Rd lo W b s) : Rd lo W.drew b s := h
theorem Fine.small {t : VT} (h : Fine t) : Small t.1 := ⟨h.1, by have := h.2.1; omega, by have := h.2.2; omega⟩
theorem encAll_drop (it : List VT) (k : Nat) (h : k < it.length) : encAll (vals (it.drop k)) = enc it[k].1 ++ encAll (vals (it.drop (k + 1))) := by
  rw [List.drop_eq_getElem_cons h]
  simp only [vals, List.map_cons, encAll, List.flatMap_cons]
/-- One of the values of an encoding is read. -/
theorem rV_drop (it : List VT) (k : Nat) (h : k < it.length) (hc : Canon it[k].1) : rV it[k].1.k ⟨encAll (vals (it.drop k)), 0⟩ = (it[k].1, ⟨encAll (vals (it.drop (k + 1))), 0⟩) := by
  rw [encAll_drop it k h]
  exact rV_enc _ _ hc
theorem encAll_len (it : List VT) (k : Nat) (hn : it.length ≤ 30) (hs : ∀ t ∈ it, Small t.1) : (encAll (vals (it.drop k))).length ≤ 1000000 := by
  have h1 := encAll_length (vals (it.drop k)) (fun v hv => by
    obtain ⟨t, ht, rfl⟩ := List.mem_map.1 hv
    exact hs t (List.mem_of_mem_drop ht))
  rw [vals_length, List.length_drop] at h1
  omega
end Go.Proofs.Ytiebefomhnbemaa
