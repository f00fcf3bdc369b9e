/- Sorting fractions: what a round of the insertion keeps; that a sorted arrangement of valid fractions is the only one. Conditions: valid fractions. -/
import Derived.Test.YteppamchbgnlfaaMin
namespace Go.Proofs.Yteppamchbgnlfaa

def leF (x y : F2) : Prop := cmpR x.1 x.2 y.1 y.2 ≤ 0
theorem leF_trans {x y z : F2} (hx : vP x.1 x.2) (hy : vP y.1 y.2) (hz : vP z.1 z.2) (h1 : leF x y) (h2 : leF y z) : leF x z := cmp_trans hx hy hz h1 h2
theorem leF_anti {x y : F2} (hx : vP x.1 x.2) (hy : vP y.1 y.2) (h1 : leF x y) (h2 : leF y x) : x = y := by
  unfold leF at h1 h2
  rw [cmp_anti] at h2
  have h := (cmp_zero hx hy).1 (by omega)
  exact Prod.ext h.1 h.2
theorem leF_refl (x : F2) : leF x x := by
  unfold leF cmpR
  split
  · rw [Int.sub_self]; decide
  · decide
theorem lt_le {x y : F2} (h : cmpR y.1 y.2 x.1 x.2 < 0) : leF y x := by unfold leF; omega
/-- Sorted up to place i (not included). -/
def Srt (l : List F2) (i : Nat) : Prop := ∀ (p q : Nat) (x y : F2), p < q → q < i → l[p]? = some x → l[q]? = some y → leF x y
/-- Sorted up to place i (included), but for what stands at j. -/
def SrtX (l : List F2) (i j : Nat) : Prop := ∀ (p q : Nat) (x y : F2), p < q → q ≤ i → q ≠ j → l[p]? = some x → l[q]? = some y → leF x y
theorem SrtX.start {l : List F2} {i : Nat} (h : Srt l i) : SrtX l i i := fun p q x y h1 h2 h3 hx hy => h p q x y h1 (by omega) hx hy
theorem SrtX.zero {l : List F2} {i : Nat} (h : SrtX l i 0) : Srt l (i + 1) := fun p q x y h1 h2 hx hy => h p q x y h1 (by omega) (by omega) hx hy
theorem SrtX.stop {l : List F2} {i k : Nat} (hv : VL l) (h : SrtX l i (k + 1)) {x y : F2} (hx : l[k]? = some x) (hy : l[k + 1]? = some y) (hc : ¬ cmpR y.1 y.2 x.1 x.2 < 0) : Srt l (i + 1) := by
  have hxy : leF x y := by unfold leF; rw [cmp_anti]; omega
  intro p q u v h1 h2 hu hv'
  by_cases hq : q = k + 1
  · subst hq
    rw [hy] at hv'
    injection hv' with hv'
    subst hv'
    by_cases hp : p = k
    · subst hp
      rw [hx] at hu; injection hu with hu; subst hu; exact hxy
    · exact leF_trans (hv.get hu) (hv.get hx) (hv.get hy) (h p k u x (by omega) (by omega) (by omega) hu hx) hxy
  · exact h p q u v h1 (by omega) hq hu hv'
def swapL (l : List F2) (k : Nat) (x y : F2) : List F2 := (l.set (k + 1) x).set k y
theorem swapL_get {l : List F2} {k : Nat} (hk : k + 1 < l.length) (x y : F2) (p : Nat) : (swapL l k x y)[p]? = if p = k then some y else if p = k + 1 then some x else l[p]? := by
  unfold swapL
  rw [List.getElem?_set]
  by_cases h : p = k
  · subst h; rw [if_pos rfl, if_pos rfl, if_pos (by rw [List.length_set]; omega)]
  · rw [if_neg (fun e => h e.symm), if_neg h, List.getElem?_set]
    by_cases h2 : p = k + 1
    · subst h2; rw [if_pos rfl, if_pos rfl, if_pos (by omega)]
    · rw [if_neg (fun e => h2 e.symm), if_neg h2]
theorem SrtX.swap {l : List F2} {i k : Nat} (hki : k + 1 ≤ i) (hil : i < l.length) (h : SrtX l i (k + 1)) {x y : F2} (hx : l[k]? = some x) (hy : l[k + 1]? = some y) (hc : cmpR y.1 y.2 x.1 x.2 < 0) : SrtX (swapL l k x y) i k := by
  intro p q u v h1 h2 h3 hu hv
  rw [swapL_get (by omega)] at hu hv
  rw [if_neg h3] at hv
  by_cases hq : q = k + 1
  · rw [if_pos hq] at hv
    injection hv with hv; subst hv
    by_cases hp : p = k
    · rw [if_pos hp] at hu; injection hu with hu; subst hu; exact lt_le hc
    · rw [if_neg hp, if_neg (by omega)] at hu
      exact h p k u x (by omega) (by omega) (by omega) hu hx
  · rw [if_neg hq] at hv
    by_cases hp : p = k
    · rw [if_pos hp] at hu; injection hu with hu; subst hu
      exact h (k + 1) q y v (by omega) h2 hq hy hv
    · rw [if_neg hp] at hu
      by_cases hp2 : p = k + 1
      · rw [if_pos hp2] at hu; injection hu with hu; subst hu
        exact h k q x v (by omega) h2 hq hx hv
      · rw [if_neg hp2] at hu
        exact h p q u v h1 h2 hq hu hv
theorem swapL_perm {l : List F2} {k : Nat} {x y : F2} (hx : l[k]? = some x) (hy : l[k + 1]? = some y) : (swapL l k x y).Perm l := by
  induction l generalizing k with
  | nil => simp at hx
  | cons a l ih =>
    cases k with
    | zero =>
      simp at hx; subst hx
      cases l with
      | nil => simp at hy
      | cons b l =>
        simp at hy; subst hy
        exact List.Perm.swap _ _ _
    | succ k =>
      have := ih (k := k) (by simpa using hx) (by simpa using hy)
      unfold swapL at *
      simpa using this.cons a
theorem VL.perm {l m : List F2} (h : VL l) (hp : m.Perm l) : VL m := fun x hx => h x (hp.mem_iff.1 hx)
/-- A sorted arrangement of valid fractions is the only one. -/
theorem srt_unique : ∀ (l m : List F2), l.Perm m → VL l → Srt l l.length → Srt m m.length → l = m
  | [], m, hp, _, _, _ => (List.nil_perm.1 hp).symm
  | a :: l, [], hp, _, _, _ => absurd hp.symm (by simp)
  | a :: l, b :: m, hp, hv, h1, h2 => by
    have va := hv a (by simp)
    have vb : vP b.1 b.2 := hv b (hp.mem_iff.2 (by simp))
    have least : ∀ (c : F2) (n : List F2), Srt (c :: n) (c :: n).length → ∀ z ∈ c :: n, leF c z := by
      intro c n hs z hz
      rcases List.mem_cons.1 hz with rfl | hz
      · exact leF_refl _
      · obtain ⟨q, hq⟩ := List.mem_iff_getElem?.1 hz
        have hlt : q < n.length := by
          rcases Nat.lt_or_ge q n.length with h | h
          · exact h
          · rw [List.getElem?_eq_none h] at hq; cases hq
        exact hs 0 (q + 1) c z (by omega) (by simp; omega) rfl (by simpa using hq)
    have hab : a = b := leF_anti va vb (least a l h1 b (hp.mem_iff.2 (by simp))) (least b m h2 a (hp.mem_iff.1 (by simp)))
    subst hab
    have tail : ∀ (n : List F2), Srt (a :: n) (a :: n).length → Srt n n.length := fun n hs p q x y hpq hq hx hy => hs (p + 1) (q + 1) x y (by omega) (by simp; omega) (by simpa using hx) (by simpa using hy)
    rw [srt_unique l m (List.perm_cons a |>.1 hp) (fun x hx => hv x (by simp [hx])) (tail l h1) (tail m h2)]
end Go.Proofs.Yteppamchbgnlfaa
