/- The law FracTexts holds. Conditions: the variables as laid; numbers of 64 bits. -/
import Derived.Test.YtegodbbocbkomaaDoorPMath
import Derived.Test.YtegodbbocbkomaaDoorRefD
import Derived.Test.YtegodbbocbkomaaDoorLawOrder
namespace Go.Proofs.YtegodbbocbkomaaDoor
open Go.RowKit

theorem text_size (n d : Int) : (⟨(textL n d).toArray⟩ : ByteArray).size ≤ 140737488355328 := by
  show (textL n d).toArray.size ≤ _
  rw [List.size_toArray]
  unfold textL
  split
  · rename_i h
    have h1 := Lib.itoa_length_le n (by have := h.2.2.1; omega) (by have := h.2.2.2.1; omega)
    have h2 := Lib.itoa_length_le d (by have := h.1; omega) (by have := h.2.1; omega)
    split
    · omega
    · rw [List.length_append, List.length_cons]; omega
  · simp

set_option maxRecDepth 100000 in
set_option maxHeartbeats 8000000 in
theorem law_texts (n d : Int) (w : World) (n0 : -9223372036854775808 ≤ n) (n1 : n ≤ 9223372036854775807) (d0 : -9223372036854775808 ≤ d) (d1 : d ≤ 9223372036854775807) (hE : Env w) :
    Calls Tryd.prog 7 #[.int .i64 n, .int .i64 d] w fun e w' => e = .returned (.bool true) ∧ Below w.heap.size w w' := by
  have OF := Lib.hid (fun W => of_any n d W n0 n1 d0 d1)
  have FT := fun (W0 W : World) (h0 : Env W0) (hW : Below W0.heap.size W0 W) => (text_any n d W n0 n1 d0 d1 (h0.below hW)).mono fun e w' (h : _ ∧ _) => (⟨h.1, below_step hW h.2⟩ : _ ∧ Below W0.heap.size W0 w')
  have RT := fun (W0 W : World) (hW : Below W0.heap.size W0 W) => (rtext_any n d W n0 n1 d0 d1).mono fun e w' (h : _ ∧ _) => (⟨h.1, below_step hW h.2⟩ : _ ∧ Below W0.heap.size W0 w')
  obtain ⟨sr, hsr⟩ : ∃ s : ByteArray, s = ⟨(textL n d).toArray⟩ := ⟨_, rfl⟩
  unfold str at FT RT
  rw [← hsr] at FT RT
  replace FT := Lib.hid FT
  replace RT := Lib.hid RT
  clear n0 n1 d0 d1 hsr
  go_enter Tryd.func7, Tryd.ntmps7
  go_wp2_with fail
  refine (OF.out _).mono ?_
  rintro e w1 ⟨⟨an, ad, rfl, va⟩, hB⟩
  have hF : Frs w1 [] := fun x hx => by cases hx
  replace hF := hF.new an ad
  have hW := hB.alloc hB.size (.cells #[.int .i64 an, .int .i64 ad] 23)
  have hE1 := hE.below hW
  have T1 := fun W hE => text_any an ad W (vP64 va).1.1 (vP64 va).1.2 (vP64 va).2.1 (vP64 va).2.2 hE
  have T2 := fun (W0 W : World) (hW : Below W0.heap.size W0 W) => (rtext_any an ad W (vP64 va).1.1 (vP64 va).1.2 (vP64 va).2.1 (vP64 va).2.2).mono fun e w' (h : _ ∧ _) => (⟨h.1, below_step hW h.2⟩ : _ ∧ Below W0.heap.size W0 w')
  have PA := fun W hE => parse_any ⟨(textL an ad).toArray⟩ (text_size an ad) W hE
  rw [show (⟨(textL an ad).toArray⟩ : ByteArray).data.toList = textL an ad by simp, parse_text va] at PA
  unfold RV at PA
  simp only at PA
  obtain ⟨sa, hsa⟩ : ∃ s : ByteArray, s = ⟨(textL an ad).toArray⟩ := ⟨_, rfl⟩
  unfold str at T1 T2
  rw [← hsa] at T1 T2 PA
  replace T1 := Lib.hid T1
  replace T2 := Lib.hid T2
  replace PA := Lib.hid PA
  clear hB OF va hsa
  go_wp2_with fail
  refine (T1.out _ hE1).mono ?_
  rintro e w2 ⟨rfl, hB⟩
  replace hF := hF.below hB
  replace hW := below_st hW hB
  have hE2 := hE1.below hB
  clear hB T1 hE1
  go_wp2_with fail
  refine (PA.out _ hE2).mono ?_
  rintro e w3 ⟨rfl, hB⟩
  replace hF := hF.below hB
  replace hW := below_st hW hB
  have hE3 := hE2.below hB
  clear hB PA hE2
  replace hF := hF.new an ad
  replace hW := hW.alloc hW.size (.cells #[.int .i64 an, .int .i64 ad] 23)
  replace hF := hF.new n d
  rw [World.size_alloc] at hF
  replace hW := hW.alloc hW.size (.cells #[.int .i64 n, .int .i64 d] 23)
  replace hE3 := hE.below hW
  go_wp2_with fail
  obtain ⟨w0, hw0⟩ : ∃ w0 : World, ((w3.alloc (.cells #[.int .i64 an, .int .i64 ad] 23)).alloc (.cells #[.int .i64 n, .int .i64 d] 23)) = w0 := ⟨_, rfl⟩
  rw [hw0] at hF hW hE3 ⊢
  clear hw0
  have keep : ∀ W : World, Below w0.heap.size w0 W → W.cell? ⟨w1.heap.size, 0, none⟩ = some (.int .i64 an) ∧ W.cell? ⟨w1.heap.size, 1, none⟩ = some (.int .i64 ad) ∧ W.cell? ⟨w3.heap.size, 0, none⟩ = some (.int .i64 an) ∧ W.cell? ⟨w3.heap.size, 1, none⟩ = some (.int .i64 ad) ∧ W.cell? ⟨w3.heap.size + 1, 0, none⟩ = some (.int .i64 n) ∧ W.cell? ⟨w3.heap.size + 1, 1, none⟩ = some (.int .i64 d) := fun W hW =>
    have k := hF.below hW
    ⟨(k.get (g := w1.heap.size) (n := an) (d := ad) (by simp)).1, (k.get (g := w1.heap.size) (n := an) (d := ad) (by simp)).2.1, (k.get (g := w3.heap.size) (n := an) (d := ad) (by simp)).1, (k.get (g := w3.heap.size) (n := an) (d := ad) (by simp)).2.1, (k.get (g := w3.heap.size + 1) (n := n) (d := d) (by simp)).1, (k.get (g := w3.heap.size + 1) (n := n) (d := d) (by simp)).2.1⟩
  have lv : ∀ W : World, Below w0.heap.size w0 W → Calls Tryd.prog 16 #[] W fun e w' => e = .returned (.bool true) ∧ Below w0.heap.size w0 w' := fun W hW => (lives_any W (hE3.below hW)).mono fun e w' ⟨he, hB⟩ => ⟨he, below_step hW hB⟩
  have FT2 := Lib.hid (fun (W : World) (hW : Below w0.heap.size w0 W) => FT.out w0 W hE3 hW)
  have h00 := Below.refl w0.heap.size w0
  have h0d : Below w0.heap.size w0 w0.drew := h00.drew
  obtain ⟨c0, c1, c2, c3, c4, c5⟩ := keep w0 h00
  have HW := Lib.hid hW
  have Keep := Lib.hid keep
  have LV := Lib.hid lv
  clear keep lv hW hF hE hE3 FT
  go_region_held3 (fun W => W.cell? ⟨w1.heap.size, 0, none⟩ = some (.int .i64 an) ∧ W.cell? ⟨w1.heap.size, 1, none⟩ = some (.int .i64 ad) ∧ W.cell? ⟨w3.heap.size, 0, none⟩ = some (.int .i64 an) ∧ W.cell? ⟨w3.heap.size, 1, none⟩ = some (.int .i64 ad) ∧ W.cell? ⟨w3.heap.size + 1, 0, none⟩ = some (.int .i64 n) ∧ W.cell? ⟨w3.heap.size + 1, 1, none⟩ = some (.int .i64 d)) (exact Keep.out _ (by with_reducible assumption))
    (first | (go_at_call 30; first | ((with_reducible refine (T2.out w0 _ (by with_reducible assumption)).mono ?_); rintro e w' ⟨rfl, hb⟩; obtain ⟨c0, c1, c2, c3, c4, c5⟩ := Keep.out _ hb) | ((with_reducible refine (RT.out w0 _ (by with_reducible assumption)).mono ?_); rintro e w' ⟨rfl, hb⟩; obtain ⟨c0, c1, c2, c3, c4, c5⟩ := Keep.out _ hb)) |
      (go_at_call 28; (with_reducible refine (FT2.out _ (by with_reducible assumption)).mono ?_); rintro e w' ⟨rfl, hb⟩; obtain ⟨c0, c1, c2, c3, c4, c5⟩ := Keep.out _ hb) |
      (go_at_call 16; (with_reducible refine (LV.out _ (by with_reducible assumption)).mono ?_); rintro e w' ⟨rfl, hb⟩; obtain ⟨c0, c1, c2, c3, c4, c5⟩ := Keep.out _ hb))
  all_goals
    go_wp2
    go_ret
    exact ⟨rfl, below_st HW.out (by with_reducible assumption)⟩
end Go.Proofs.YtegodbbocbkomaaDoor
