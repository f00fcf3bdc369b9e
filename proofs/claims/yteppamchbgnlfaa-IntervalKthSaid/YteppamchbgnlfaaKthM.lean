/- What Kth answers: the ends of the same rank in the sorted ends. Plain mathematics. Conditions: none. -/
import Derived.Test.YteppamchbgnlfaaSMath
namespace Go.Proofs.Yteppamchbgnlfaa
open Go.RowKit

instance (x y : F2) : Decidable (leF x y) := by unfold leF; infer_instance
def insF (x : F2) : List F2 → List F2
  | [] => [x]
  | y :: l => if leF x y then x :: y :: l else y :: insF x l
def sortF : List F2 → List F2
  | [] => []
  | x :: l => insF x (sortF l)
theorem insF_perm (x : F2) : ∀ l : List F2, (insF x l).Perm (x :: l)
  | [] => List.Perm.refl _
  | y :: l => by
    unfold insF
    split
    · exact List.Perm.refl _
    · exact ((insF_perm x l).cons y).trans (List.Perm.swap x y l)
theorem sortF_perm : ∀ l : List F2, (sortF l).Perm l
  | [] => List.Perm.refl _
  | x :: l => (insF_perm x (sortF l)).trans ((sortF_perm l).cons x)
theorem insF_pw {x : F2} : ∀ {l : List F2}, VL (x :: l) → l.Pairwise leF → (insF x l).Pairwise leF
  | [], _, _ => by simp [insF]
  | y :: l, hv, h => by
    have hx : vP x.1 x.2 := hv x (by simp)
    have hy : vP y.1 y.2 := hv y (by simp)
    rw [List.pairwise_cons] at h
    unfold insF
    split
    · rename_i hxy
      refine List.pairwise_cons.2 ⟨fun z hz => ?_, List.pairwise_cons.2 h⟩
      rcases List.mem_cons.1 hz with rfl | hz
      · exact hxy
      · exact leF_trans hx hy (hv z (by simp [hz])) hxy (h.1 z hz)
    · rename_i hxy
      refine List.pairwise_cons.2 ⟨fun z hz => ?_, insF_pw (fun z hz => hv z (by rcases List.mem_cons.1 hz with rfl | hz <;> simp [*])) h.2⟩
      rcases List.mem_cons.1 ((insF_perm x l).mem_iff.1 hz) with rfl | hz
      · exact leF_total _ _ hxy
      · exact h.1 z hz
theorem sortF_pw : ∀ {l : List F2}, VL l → (sortF l).Pairwise leF
  | [], _ => List.Pairwise.nil
  | x :: l, hv => insF_pw (fun z hz => by
      rcases List.mem_cons.1 hz with rfl | hz
      · exact hv _ (by simp)
      · exact hv z (by simp [(sortF_perm l).mem_iff.1 hz])) (sortF_pw fun z hz => hv z (by simp [hz]))
theorem srt_pw {l : List F2} (h : l.Pairwise leF) : Srt l l.length := by
  intro p q x y hpq hq hx hy
  rw [List.pairwise_iff_getElem] at h
  have h1 : p < l.length := by omega
  rw [List.getElem?_eq_getElem h1] at hx
  rw [List.getElem?_eq_getElem hq] at hy
  cases hx; cases hy
  exact h p q h1 hq hpq
theorem sortF_srt {l : List F2} (hv : VL l) : Srt (sortF l) (sortF l).length := srt_pw (sortF_pw hv)
/-- A sorted arrangement is this one. -/
theorem sortF_eq {l m : List F2} (hv : VL l) (hp : m.Perm l) (hs : Srt m m.length) : m = sortF l :=
  srt_unique m (sortF l) (hp.trans (sortF_perm l).symm) (hv.perm hp) hs (sortF_srt hv)
theorem sortF_len (l : List F2) : (sortF l).length = l.length := (sortF_perm l).length_eq

/-- An interval. -/
abbrev I4 := Int × Int × Int × Int
def loI (x : I4) : F2 := (x.1, x.2.1)
def hiI (x : I4) : F2 := (x.2.2.1, x.2.2.2)
def vX (x : I4) : Prop := (vP x.1 x.2.1 ∧ vP x.2.2.1 x.2.2.2) ∧ cmpR x.1 x.2.1 x.2.2.1 x.2.2.2 ≤ 0
instance (x : I4) : Decidable (vX x) := by unfold vX; infer_instance
def losL (l : List I4) : List F2 := l.map loI
def hisL (l : List I4) : List F2 := l.map hiI
def kthR (l : List I4) (k : Int) : Int × Int × Int × Int × Int :=
  if k < 1 ∨ (l.length : Int) < k ∨ ¬ ∀ x ∈ l, vX x then (0, 0, 0, 0, 1)
  else ((((sortF (losL l))[(k - 1).toNat]?).getD (0, 0)).1, (((sortF (losL l))[(k - 1).toNat]?).getD (0, 0)).2, (((sortF (hisL l))[(k - 1).toNat]?).getD (0, 0)).1, (((sortF (hisL l))[(k - 1).toNat]?).getD (0, 0)).2, 0)
theorem vl_los {l : List I4} (h : ∀ x ∈ l, vX x) : VL (losL l) := fun y hy => by
  obtain ⟨x, hx, rfl⟩ := List.mem_map.1 hy
  exact (h x hx).1.1
theorem vl_his {l : List I4} (h : ∀ x ∈ l, vX x) : VL (hisL l) := fun y hy => by
  obtain ⟨x, hx, rfl⟩ := List.mem_map.1 hy
  exact (h x hx).1.2
/-- Kth does not ask for the order of the list. -/
theorem kthR_perm {l m : List I4} (hp : l.Perm m) (hv : ∀ x ∈ l, vX x) (k : Int) : kthR l k = kthR m k := by
  have hvm : ∀ x ∈ m, vX x := fun x hx => hv x (hp.mem_iff.2 hx)
  have e1 : sortF (losL l) = sortF (losL m) := sortF_eq (vl_los hvm) ((sortF_perm _).trans (hp.map loI)) (sortF_srt (vl_los hv))
  have e2 : sortF (hisL l) = sortF (hisL m) := sortF_eq (vl_his hvm) ((sortF_perm _).trans (hp.map hiI)) (sortF_srt (vl_his hv))
  have e3 : (∀ x ∈ l, vX x) = (∀ x ∈ m, vX x) := propext ⟨fun _ => hvm, fun _ => hv⟩
  unfold kthR
  rw [hp.length_eq, e1, e2]
  simp only [e3]
end Go.Proofs.Yteppamchbgnlfaa
