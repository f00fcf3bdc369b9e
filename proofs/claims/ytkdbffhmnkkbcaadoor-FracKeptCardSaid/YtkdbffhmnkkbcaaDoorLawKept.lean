/- The walk of FracKept: a fraction that is written and read comes back. Conditions: the variables as laid; numbers of 64 bits. -/
import Derived.Deep.DeepCutAuto
import Derived.Deep.RegionHeld3
import Derived.Test.YtkdbffhmnkkbcaaDoorOf
import Derived.Test.YtkdbffhmnkkbcaaDoorPMath
import Derived.Test.YtkdbffhmnkkbcaaDoorLives
import Derived.Test.YtkdbffhmnkkbcaaDoorWApi
import Derived.Test.YtkdbffhmnkkbcaaDoorWWrite
import Derived.Test.YtkdbffhmnkkbcaaDoorInj
import Derived.Lib.ItoaLen
namespace Go.Proofs.YtkdbffhmnkkbcaaDoor
open Go.RowKit

theorem vP64 {n d : Int} (h : vP n d) : (-9223372036854775808 ≤ n ∧ n ≤ 9223372036854775807) ∧ (-9223372036854775808 ≤ d ∧ d ≤ 9223372036854775807) :=
  ⟨⟨by have := h.2.2.1; omega, by have := h.2.2.2.1; omega⟩, ⟨by have := h.1; omega, by have := h.2.1; omega⟩⟩
theorem ktext_size (n d : Int) : (⟨(textL n d).toArray⟩ : ByteArray).size ≤ 1000 := by
  show (textL n d).toArray.size ≤ _
  rw [List.size_toArray]
  unfold textL
  split
  · rename_i h
    have h1 := Lib.itoa_length_le n (by have := h.2.2.1; omega) (by have := h.2.2.2.1; omega)
    have h2 := Lib.itoa_length_le d (by have := h.1; omega) (by have := h.2.1; omega)
    split
    · omega
    · rw [List.length_append, List.length_cons]; omega
  · simp
theorem Blk.kp {P : Nat → Prop} {w w' : World} {g : Nat} {t : TypeId} {cs : Array Value} (h : Blk w g t cs) (hk : W.Kp P w w') (hp : P g) : Blk w' g t cs := (hk.block g h.lt hp).trans h
def fracB : ByteArray := ⟨#[102, 114, 97, 99]⟩
def sum2 (x y : Int) : Int := W.sumI fracB.data.toList [x, y]
theorem sum2_iff {x y z : Int} (hx : -9223372036854775808 ≤ x ∧ x ≤ 9223372036854775807) (hz : -9223372036854775808 ≤ z ∧ z ≤ 9223372036854775807) (h : sum2 x y = sum2 z y) : x = z :=
  W.sumI_one fracB.data.toList [] [y] x z hx hz h
/-- Two integers at a slice value. -/
def Two (w : World) (sv : Value) (x y : Int) : Prop := W.RowAt .i64 w.heap.size w sv [x, y]
theorem Two.below {w w' : World} {sv : Value} {x y : Int} (h : Two w sv x y) (hb : Below w.heap.size w w') : Two w' sv x y := (W.RowAt.below hb h).mono hb.size
theorem two_new (w : World) (x y : Int) : Two (w.alloc (.cells #[.int .i64 x, .int .i64 y] 3)) (.slice (some ⟨w.heap.size, 0, none⟩) 2 2) x y := by
  have h := W.rowAt_new w .i64 3 [x, y]
  have e : (w.alloc (.cells #[.int .i64 x, .int .i64 y] 3)).heap.size = w.heap.size + 1 := by simp
  unfold Two
  rw [e]
  exact h
theorem sum_two {w : World} {sv : Value} {x y : Int} (h : Two w sv x y) : Calls Tryd.prog 14 #[.string ⟨#[102, 114, 97, 99]⟩, sv] w fun e w' => e = .returned (.int .u64 (sum2 x y)) ∧ Below w.heap.size w w' := by
  obtain ⟨a, c, rfl⟩ : ∃ a c, sv = .slice a 2 c := by
    rcases h with ⟨_, h⟩ | ⟨b, off, cap, e, -⟩
    · cases h
    · exact ⟨_, cap, e⟩
  exact W.sum_any fracB [x, y] a c w (by decide) (by simp) h
theorem kal_below {w0 X : World} (h : Below w0.heap.size w0 X) (o : Obj) : Below w0.heap.size w0 (X.alloc o) := h.alloc h.size o
theorem kstep {w0 X Y : World} (h : Below w0.heap.size w0 X) (k : Below X.heap.size X Y) : Below w0.heap.size w0 Y := h.trans (k.mono h.size)
theorem klater {f : FuncId} {args : Array Value} {r : Ending} {w0 X : World} (h : Below w0.heap.size w0 X) (c : Calls Tryd.prog f args X fun e w' => e = r ∧ Below X.heap.size X w') : Calls Tryd.prog f args X fun e w' => e = r ∧ Below w0.heap.size w0 w' :=
  c.mono fun _ _ ⟨a, b⟩ => ⟨a, kstep h b⟩
theorem klater2 {f : FuncId} {args : Array Value} {r : Ending} {w0 X : World} {sv : Value} {x y : Int} (h : Below w0.heap.size w0 X) (hT : Two X sv x y) (c : Calls Tryd.prog f args X fun e w' => e = r ∧ Below X.heap.size X w') :
    Calls Tryd.prog f args X fun e w' => e = r ∧ Two w' sv x y ∧ Below w0.heap.size w0 w' :=
  c.mono fun _ _ ⟨a, b⟩ => ⟨a, hT.below b, kstep h b⟩
theorem Two.alloc {w : World} {sv : Value} {x y : Int} (h : Two w sv x y) (o : Obj) : Two (w.alloc o) sv x y := h.below ((Below.refl _ w).alloc (Nat.le_refl _) o)
theorem two_new1 (w : World) (o : Obj) (x y : Int) : Two ((w.alloc o).alloc (.cells #[.int .i64 x, .int .i64 y] 3)) (.slice (some ⟨w.heap.size + 1, 0, none⟩) 2 2) x y := by
  have h := two_new (w.alloc o) x y
  rwa [World.size_alloc] at h
theorem i_self (x : Int) : (x == x) = true := by simp

/-- What the bytes are, and what is read out of them. -/
def keptB (an ad : Int) (s : ByteArray) : List UInt8 := (([] ++ W.uv (W.zz an)) ++ W.uv (W.zz ad)) ++ (W.uv s.size ++ s.data.toList)
theorem kept_len (an ad : Int) (s : ByteArray) (hs : s.size ≤ 1000) : (keptB an ad s).length ≤ 2000 := by
  unfold keptB
  have h1 := W.uv_length (W.zz an)
  have h2 := W.uv_length (W.zz ad)
  have h3 := W.uv_length s.size
  have e : s.data.toList.length = s.size := by simp
  simp only [List.length_append, List.length_nil]
  omega
theorem kept_read (an ad : Int) (s : ByteArray) (hs : s.size ≤ 1000) (ha : -9223372036854775808 ≤ an ∧ an ≤ 9223372036854775807) (hd : -9223372036854775808 ≤ ad ∧ ad ≤ 9223372036854775807) :
    W.rI ⟨keptB an ad s, 0⟩ = (an, ⟨W.uv (W.zz ad) ++ (W.uv s.size ++ s.data.toList), 0⟩) ∧
    W.rI ⟨W.uv (W.zz ad) ++ (W.uv s.size ++ s.data.toList), 0⟩ = (ad, ⟨W.uv s.size ++ s.data.toList, 0⟩) ∧
    W.rRaw ⟨W.uv s.size ++ s.data.toList, 0⟩ = (s.data.toList, ⟨[], 0⟩) := by
  refine ⟨?_, W.rI_uv ad _ hd.1 hd.2, ?_⟩
  · unfold keptB
    rw [List.nil_append, List.append_assoc]
    exact W.rI_uv an _ ha.1 ha.2
  · have e : s.data.toList.length = s.size := by simp
    unfold W.rRaw
    rw [W.rL_uv s.size s.data.toList (by omega) (by omega)]
    simp only [if_true]
    rw [← e, List.take_length, List.drop_length]

/-- What stays through the whole walk: the two fractions and all that lay. -/
structure KH (w : World) (ga gb gw : Nat) (an ad bn bd : Int) (u : World) : Prop where
  fa : Blk u ga 24 #[.int .i64 an, .int .i64 ad]
  fb : Blk u gb 24 #[.int .i64 bn, .int .i64 bd]
  fw : Below w.heap.size w u
  la : ga < gw
  lb : gb < gw
  lw : w.heap.size ≤ gw
section
variable {w u u' : World} {ga gb gw : Nat} {an ad bn bd : Int}
theorem KH.base (h : KH w ga gb gw an ad bn bd u) (hb : Below gw u u') : KH w ga gb gw an ad bn bd u' :=
  ⟨h.fa.below hb h.la, h.fb.below hb h.lb, h.fw.trans (hb.mono h.lw), h.la, h.lb, h.lw⟩
theorem KH.next (h : KH w ga gb gw an ad bn bd u) (hb : Below u.heap.size u u') : KH w ga gb gw an ad bn bd u' :=
  ⟨h.fa.below hb h.fa.lt, h.fb.below hb h.fb.lt, kstep h.fw hb, h.la, h.lb, h.lw⟩
theorem KH.kp {br : Nat} (h : KH w ga gb gw an ad bn bd u) (hk : W.Kp (· ≠ br) u u') (hbr : gw ≤ br) : KH w ga gb gw an ad bn bd u' :=
  ⟨h.fa.kp hk (by have := h.la; show ga ≠ br; omega), h.fb.kp hk (by have := h.lb; show gb ≠ br; omega), h.fw.trans (hk.below h.fw.size (fun k hk => by have := h.lw; show k ≠ br; omega)), h.la, h.lb, h.lw⟩
theorem KH.cells (h : KH w ga gb gw an ad bn bd u) : u.cell? ⟨ga, 0, none⟩ = some (.int .i64 an) ∧ u.cell? ⟨ga, 1, none⟩ = some (.int .i64 ad) ∧ u.cell? ⟨gb, 0, none⟩ = some (.int .i64 bn) ∧ u.cell? ⟨gb, 1, none⟩ = some (.int .i64 bd) ∧ ga < u.heap.size ∧ gb < u.heap.size :=
  ⟨h.fa.cell 0, h.fa.cell 1, h.fb.cell 0, h.fb.cell 1, h.fa.lt, h.fb.lt⟩
end

set_option maxRecDepth 100000 in
set_option maxHeartbeats 16000000 in
theorem law_kept (l0 l1 l2 l3 : Int) (w : World) (b0 : -9223372036854775808 ≤ l0 ∧ l0 ≤ 9223372036854775807) (b1 : -9223372036854775808 ≤ l1 ∧ l1 ≤ 9223372036854775807) (b2 : -9223372036854775808 ≤ l2 ∧ l2 ≤ 9223372036854775807) (b3 : -9223372036854775808 ≤ l3 ∧ l3 ≤ 9223372036854775807) (hE : Env w) :
    Calls Tryd.prog 3 #[.agg #[.int .i64 l0, .int .i64 l1, .int .i64 l2, .int .i64 l3]] w fun e w' => e = .returned (.bool true) ∧ Below w.heap.size w w' := by
  have O1 := Lib.hid (fun W => of_any l0 l1 W b0.1 b0.2 b1.1 b1.2)
  have O2 := Lib.hid (fun W => of_any l2 l3 W b2.1 b2.2 b3.1 b3.2)
  have HE := Lib.hid hE
  have hL := Blk.new w 22 #[.int .i64 l0, .int .i64 l1, .int .i64 l2, .int .i64 l3]
  have hW : Below w.heap.size w (w.alloc (.cells #[.int .i64 l0, .int .i64 l1, .int .i64 l2, .int .i64 l3] 22)) := (Below.refl _ w).alloc (Nat.le_refl _) _
  clear b0 b1 b2 b3 hE
  go_enter Tryd.func3, Tryd.ntmps3
  go_wp2_with fail
  refine (O1.out _).mono ?_
  rintro e w1 ⟨⟨an, ad, rfl, va⟩, hB⟩
  replace hL := hL.below hB hL.lt
  replace hW := below_st hW hB
  have z0 : w.heap.size < w1.heap.size := hL.lt
  have c2 := hL.cell 2
  have c3 := hL.cell 3
  have hA := Blk.new w1 24 #[.int .i64 an, .int .i64 ad]
  replace hW := hW.alloc hW.size (.cells #[.int .i64 an, .int .i64 ad] 24)
  clear hB O1 hL
  go_wp2_with fail
  refine (O2.out _).mono ?_
  rintro e w2 ⟨⟨bn, bd, rfl, vb⟩, hB⟩
  replace hA := hA.below hB hA.lt
  replace hW := below_st hW hB
  have z1 : w1.heap.size < w2.heap.size := hA.lt
  have y0 := hA.cell 0
  have y1 := hA.cell 1
  have hFB := (Blk.new w2 24 #[.int .i64 bn, .int .i64 bd]).alloc (.cells #[.slice none 0 0] 28)
  replace hA := (hA.alloc (.cells #[.int .i64 bn, .int .i64 bd] 24)).alloc (.cells #[.slice none 0 0] 28)
  have hws := hW.size
  replace hW := (hW.alloc hW.size (.cells #[.int .i64 bn, .int .i64 bd] 24)).alloc (by simp; omega) (.cells #[.slice none 0 0] 28)
  have hR := W.Wr.new (w2.heap.size + 1) (w2.alloc (.cells #[.int .i64 bn, .int .i64 bd] 24)) (by simp)
  rw [World.size_alloc] at hR
  clear hB O2 c2 c3
  have K0 := Lib.hid (KH.mk (w := w) (gw := w2.heap.size + 1) hA hFB hW (by omega) (by omega) (by omega))
  have HR := Lib.hid hR
  have HVA := Lib.hid (vP64 va)
  have HVB := Lib.hid (vP64 vb)
  have hts := ktext_size an ad
  have TX := Lib.hid (fun W hE => text_any an ad W (vP64 va).1.1 (vP64 va).1.2 (vP64 va).2.1 (vP64 va).2.2 hE)
  have PA := Lib.hid (fun W hE => parse_any ⟨(textL an ad).toArray⟩ (by omega) W hE)
  rw [show (⟨(textL an ad).toArray⟩ : ByteArray).data.toList = textL an ad by simp, parse_text va] at PA
  unfold RV at PA
  simp only at PA
  obtain ⟨sa, hsa⟩ : ∃ s : ByteArray, s = ⟨(textL an ad).toArray⟩ := ⟨_, rfl⟩
  unfold str at TX
  rw [← hsa] at TX PA hts
  have HKR := Lib.hid (kept_read an ad sa hts (vP64 va).1 (vP64 va).2)
  have HKL := Lib.hid (kept_len an ad sa hts)
  have HTS := Lib.hid hts
  clear hA hFB hW hR va vb hws hsa hts
  go_wp2_with fail
  refine (W.wint_any (w2.heap.size + 1) (w2.heap.size + 1) an [] _ HVA.out.1.1 HVA.out.1.2 (by simp) HR.out).mono ?_
  rintro e u1 ⟨rfl, hR, hb⟩
  obtain ⟨ga, hga⟩ : ∃ g, w1.heap.size = g := ⟨_, rfl⟩
  obtain ⟨gb, hgb⟩ : ∃ g, w2.heap.size = g := ⟨_, rfl⟩
  rw [hga, hgb] at K0 
  rw [hgb] at hR hb HR
  rw [hga, hgb]
  obtain ⟨gw, hgw⟩ : ∃ g, gb + 1 = g := ⟨_, rfl⟩
  rw [hgw] at K0 hR hb ⊢
  have hk := K0.out.base hb
  have K1 := Lib.hid hk
  obtain ⟨x0, x1, x2, x3, q1, q2⟩ := hk.cells
  have HR1 := Lib.hid hR
  clear hR hb HR K0 y0 y1 z0 z1 hga hgb hgw hk
  go_wp2_with fail
  refine (W.wint_any gw gw ad _ u1 HVA.out.2.1 HVA.out.2.2 (by have := W.uv_length (W.zz an); simp; omega) HR1.out).mono ?_
  rintro e u2 ⟨rfl, hR, hb⟩
  have hk := K1.out.base hb
  have K2 := Lib.hid hk
  obtain ⟨x0, x1, x2, x3, q1, q2⟩ := hk.cells
  have HR2 := Lib.hid hR
  clear hR hb HR1 K1 hk
  go_wp2_with fail
  refine (TX.out u2 (HE.out.below K2.out.fw)).mono ?_
  rintro e u3 ⟨rfl, hb⟩
  have hk := K2.out.next hb
  have K3 := Lib.hid hk
  obtain ⟨x0, x1, x2, x3, q1, q2⟩ := hk.cells
  have HR3 := Lib.hid (HR2.out.below hb)
  clear hb HR2 K2 hk TX
  go_wp2_with fail
  refine (W.wtext_any gw gw sa _ u3 (by have := W.uv_length (W.zz an); have := W.uv_length (W.zz ad); simp; omega) (by have := HTS.out; omega) HR3.out).mono ?_
  rintro e u4 ⟨rfl, hR, hb⟩
  have hk := K3.out.base hb
  have K4 := Lib.hid hk
  obtain ⟨x0, x1, x2, x3, q1, q2⟩ := hk.cells
  have HR4 := Lib.hid (show W.Wr gw u4 gw (keptB an ad sa) from hR)
  clear hb hR HR3 K3 hk
  go_wp2_with fail
  refine (W.wdone_any gw gw (keptB an ad sa) u4 (by have := HKL.out; omega) HR4.out).mono ?_
  rintro e u5 ⟨vd, rfl, hBs, hb⟩
  have hk := K4.out.next hb
  have K5 := Lib.hid hk
  obtain ⟨x0, x1, x2, x3, q1, q2⟩ := hk.cells
  obtain ⟨da, dc, rfl⟩ := hBs.slice
  have hgu : gw ≤ u5.heap.size := by
    have h1 := HR4.out.1
    have h2 := (W.heap_lt HR4.out.2.choose_spec.1)
    have := hb.size
    omega
  have RD := Lib.hid (W.read_any u5.heap.size da dc (keptB an ad sa) u5 (by have := HKL.out; omega) hBs.in (Nat.le_refl _))
  clear hb hBs HR4 K4 hk
  go_wp2_with fail
  refine RD.out.mono ?_
  rintro e u6 ⟨br, rfl, hbr, hRd, hb⟩
  have hk := K5.out.next hb
  have K6 := Lib.hid hk
  obtain ⟨x0, x1, x2, x3, q1, q2⟩ := hk.cells
  have hgr : gw ≤ br := by omega
  have RD6 := Lib.hid hRd
  clear hb hbr hgu RD K5 hk hRd
  have R1 := W.rint_any br ⟨keptB an ad sa, 0⟩ u6 (by have := HKL.out; show (keptB an ad sa).length ≤ _; omega) RD6.out
  rw [HKR.out.1] at R1
  have RR1 := Lib.hid R1
  clear R1
  go_wp2_with fail
  (with_reducible refine RR1.out.mono ?_)
  rintro e u7 ⟨rfl, hRd, hkp⟩
  have hk := K6.out.kp hkp hgr
  have K7 := Lib.hid hk
  obtain ⟨x0, x1, x2, x3, q1, q2⟩ := hk.cells
  have R2 := W.rint_any br ⟨W.uv (W.zz ad) ++ (W.uv sa.size ++ sa.data.toList), 0⟩ u7 (by have := HKL.out; unfold keptB at this; simp only [List.length_append, List.length_nil] at this ⊢; omega) hRd
  rw [HKR.out.2.1] at R2
  have RR2 := Lib.hid R2
  clear R2 RR1 hkp hRd K6 RD6 hk
  go_wp2_with fail
  (with_reducible refine RR2.out.mono ?_)
  rintro e u8 ⟨rfl, hRd, hkp⟩
  have hk := K7.out.kp hkp hgr
  have K8 := Lib.hid hk
  obtain ⟨x0, x1, x2, x3, q1, q2⟩ := hk.cells
  have R3 := W.rtext_any br ⟨W.uv sa.size ++ sa.data.toList, 0⟩ u8 (by have := HKL.out; unfold keptB at this; simp only [List.length_append, List.length_nil] at this ⊢; omega) hRd
  rw [HKR.out.2.2] at R3
  have RR3 := Lib.hid (show Calls Tryd.prog 12 #[.pointer (some ⟨br, 0, none⟩)] u8 fun e w' => e = .returned (.string sa) ∧ W.Rd u5.heap.size w' br ⟨[], 0⟩ ∧ W.Kp (· ≠ br) u8 w' from by simpa using R3)
  clear R3 RR2 hkp hRd K7 hk
  go_wp2_with fail
  (with_reducible refine RR3.out.mono ?_)
  rintro e u9 ⟨rfl, hRd, hkp⟩
  have hk := K8.out.kp hkp hgr
  have K9 := Lib.hid hk
  obtain ⟨x0, x1, x2, x3, q1, q2⟩ := hk.cells
  have PA9 := Lib.hid (PA.out u9 (HE.out.below K9.out.fw))
  have RD9 := Lib.hid hRd
  clear hkp hRd K8 RR3 PA hk
  go_wp2_with fail
  (with_reducible refine PA9.out.mono ?_)
  rintro e v0 ⟨rfl, hb⟩
  have hk := K9.out.next hb
  obtain ⟨x0, x1, x2, x3, q1, q2⟩ := hk.cells
  have hC := Blk.new v0 24 #[.int .i64 an, .int .i64 ad]
  have hal : Below v0.heap.size v0 (v0.alloc (.cells #[.int .i64 an, .int .i64 ad] 24)) := (Below.refl _ v0).alloc (Nat.le_refl _) _
  have hRdc := RD9.out.kp (P := fun _ => True) (.of_below (kstep hb hal)) (fun _ _ => trivial)
  have KC := Lib.hid (hk.next hal)
  have HC := Lib.hid hC
  have RE := W.rend_any br ⟨[], 0⟩ _ (by simp) hRdc
  have RRE := Lib.hid (show Calls Tryd.prog 13 #[.pointer (some ⟨br, 0, none⟩)] (v0.alloc (.cells #[.int .i64 an, .int .i64 ad] 24)) fun e w' => e = .returned (.int .i64 0) ∧ (v0.alloc (.cells #[.int .i64 an, .int .i64 ad] 24)) = w' from RE)
  clear hb hk hC hal hRdc RE K9 PA9 RD9
  go_wp2_with fail
  (with_reducible refine RRE.out.mono ?_)
  rintro e v2 ⟨rfl, hv2⟩
  have s1 := i_self an
  have s2 := i_self ad
  have hkv := KC.out
  have hcv := HC.out
  rw [hv2] at hkv hcv
  have KCC := Lib.hid hkv
  obtain ⟨gc, hgc⟩ : ∃ g, v0.heap.size = g := ⟨_, rfl⟩
  rw [hgc] at hcv ⊢
  have z0 := hcv.cell 0
  have z1 := hcv.cell 1
  clear RRE x0 x1 x2 x3 q1 q2 KC HC hv2 hgc
  obtain ⟨x0, x1, x2, x3, q1, q2⟩ := hkv.cells
  clear hkv hcv
  go_wp2_with fail
  have KC := KCC
  have hg := KC.out.cells
  obtain ⟨X1, hX1⟩ : ∃ x, sum2 an ad = x := ⟨_, rfl⟩
  obtain ⟨X2, hX2⟩ : ∃ x, sum2 bn ad = x := ⟨_, rfl⟩
  have HSI := Lib.hid (show X1 = X2 → an = bn by intro h; exact sum2_iff (y := ad) HVA.out.1 HVB.out.1 (by rw [hX1, hX2]; exact h))
  have HXX := Lib.hid (show an = bn → X1 = X2 by intro h; rw [← hX1, ← hX2, h])
  have HC1 := Lib.hid (fun (X : World) (hb : Below v2.heap.size v2 X) => show Calls Tryd.prog 14 #[.string ⟨#[102, 114, 97, 99]⟩, .slice (some ⟨X.heap.size, 0, none⟩) 2 2] (X.alloc (.cells #[.int .i64 an, .int .i64 ad] 3)) fun e w' => e = .returned (.int .u64 X1) ∧ Below v2.heap.size v2 w' from by rw [← hX1]; exact klater (kal_below hb _) (sum_two (two_new X an ad)))
  have HD1 := Lib.hid (fun (X : World) (hb : Below v2.heap.size v2 X) => show Calls Tryd.prog 14 #[.string ⟨#[102, 114, 97, 99]⟩, .slice (some ⟨X.heap.size, 0, none⟩) 2 2] ((X.alloc (.cells #[.int .i64 an, .int .i64 ad] 3)).alloc (.cells #[.int .i64 bn, .int .i64 ad] 3)) fun e w' => e = .returned (.int .u64 X1) ∧ Two w' (.slice (some ⟨X.heap.size + 1, 0, none⟩) 2 2) bn ad ∧ Below v2.heap.size v2 w' from by rw [← hX1]; exact klater2 (kal_below (kal_below hb _) _) (two_new1 X _ bn ad) (sum_two ((two_new X an ad).alloc _)))
  have HE1 := Lib.hid (fun (X : World) (hb : Below v2.heap.size v2 X) => show Calls Tryd.prog 14 #[.string ⟨#[102, 114, 97, 99]⟩, .slice (some ⟨X.heap.size + 1, 0, none⟩) 2 2] ((X.alloc (.cells #[.int .i64 bn, .int .i64 ad] 3)).alloc (.cells #[.int .i64 an, .int .i64 ad] 3)) fun e w' => e = .returned (.int .u64 X1) ∧ Two w' (.slice (some ⟨X.heap.size, 0, none⟩) 2 2) bn ad ∧ Below v2.heap.size v2 w' from by rw [← hX1]; exact klater2 (kal_below (kal_below hb _) _) ((two_new X bn ad).alloc _) (sum_two (two_new1 X _ an ad)))
  have HC2 := Lib.hid (fun (X : World) (hb : Below v2.heap.size v2 X) => show Calls Tryd.prog 14 #[.string ⟨#[102, 114, 97, 99]⟩, .slice (some ⟨X.heap.size, 0, none⟩) 2 2] (X.alloc (.cells #[.int .i64 bn, .int .i64 ad] 3)) fun e w' => e = .returned (.int .u64 X2) ∧ Below v2.heap.size v2 w' from by rw [← hX2]; exact klater (kal_below hb _) (sum_two (two_new X bn ad)))
  have HF2 := Lib.hid (fun (W : World) (sv : Value) (hb : Below v2.heap.size v2 W) (hM : Two W sv bn ad) => show Calls Tryd.prog 14 #[.string ⟨#[102, 114, 97, 99]⟩, sv] W fun e w' => e = .returned (.int .u64 X2) ∧ Below v2.heap.size v2 w' from by rw [← hX2]; exact klater hb (sum_two hM))
  have KC2 := Lib.hid KC.out
  have LV := Lib.hid (fun (W : World) (hb : Below v2.heap.size v2 W) => klater hb (lives_any W (HE.out.below (KC2.out.next hb).fw)))
  have Keep := Lib.hid (fun (W : World) (hb : Below v2.heap.size v2 W) => show W.cell? ⟨ga, 0, none⟩ = some (.int .i64 an) ∧ W.cell? ⟨ga, 1, none⟩ = some (.int .i64 ad) ∧ W.cell? ⟨gb, 0, none⟩ = some (.int .i64 bn) from
    have k := (KC2.out.next hb).cells
    ⟨k.1, k.2.1, k.2.2.1⟩)
  have HW := Lib.hid KC2.out.fw
  have h00 := Below.refl v2.heap.size v2
  have h0d : Below v2.heap.size v2 v2.drew := h00.drew
  have HC1d := Lib.hid (show Calls Tryd.prog 14 #[.string ⟨#[102, 114, 97, 99]⟩, .slice (some ⟨v2.heap.size, 0, none⟩) 2 2] (v2.alloc (.cells #[.int .i64 an, .int .i64 ad] 3)).drew fun e w' => e = .returned (.int .u64 X1) ∧ Below v2.heap.size v2 w' from HC1.out v2.drew h0d)
  have HD1d := Lib.hid (show Calls Tryd.prog 14 #[.string ⟨#[102, 114, 97, 99]⟩, .slice (some ⟨v2.heap.size, 0, none⟩) 2 2] ((v2.alloc (.cells #[.int .i64 an, .int .i64 ad] 3)).alloc (.cells #[.int .i64 bn, .int .i64 ad] 3)).drew fun e w' => e = .returned (.int .u64 X1) ∧ Two w' (.slice (some ⟨v2.heap.size + 1, 0, none⟩) 2 2) bn ad ∧ Below v2.heap.size v2 w' from HD1.out v2.drew h0d)
  have HE1d := Lib.hid (show Calls Tryd.prog 14 #[.string ⟨#[102, 114, 97, 99]⟩, .slice (some ⟨v2.heap.size + 1, 0, none⟩) 2 2] ((v2.alloc (.cells #[.int .i64 bn, .int .i64 ad] 3)).alloc (.cells #[.int .i64 an, .int .i64 ad] 3)).drew fun e w' => e = .returned (.int .u64 X1) ∧ Two w' (.slice (some ⟨v2.heap.size, 0, none⟩) 2 2) bn ad ∧ Below v2.heap.size v2 w' from HE1.out v2.drew h0d)
  clear z0 z1 x0 x1 x2 x3 q1 q2 hX1 hX2 hg KC KCC
  have hcs : ((X1 == X2) = true ∧ (an == bn) = true) ∨ ((X1 == X2) = false ∧ (an == bn) = false) := by
    by_cases h : an = bn
    · exact .inl ⟨by rw [HXX.out h]; exact i_self _, by rw [h]; exact i_self _⟩
    · exact .inr ⟨by rw [beq_eq_false_iff_ne]; intro h2; exact h (HSI.out h2), by rw [beq_eq_false_iff_ne]; exact h⟩
  rcases hcs with ⟨g1, g2⟩ | ⟨g1, g2⟩
  all_goals
    go_wp2_with fail
    go_region_held3 (fun W => W.cell? ⟨ga, 0, none⟩ = some (.int .i64 an) ∧ W.cell? ⟨ga, 1, none⟩ = some (.int .i64 ad) ∧ W.cell? ⟨gb, 0, none⟩ = some (.int .i64 bn)) (first | (exact Keep.out _ (by with_reducible assumption)) | (exact Keep.out _ (kal_below (by with_reducible assumption) _)) | (exact Keep.out _ (kal_below (kal_below (by with_reducible assumption) _) _)))
      (first | (go_at_call 14; first | ((with_reducible refine HC1d.out.mono ?_); rintro e w' ⟨rfl, hb⟩; obtain ⟨c0, c1, c2⟩ := Keep.out _ hb) | ((with_reducible refine HD1d.out.mono ?_); rintro e w' ⟨rfl, hm, hb⟩; obtain ⟨c0, c1, c2⟩ := Keep.out _ hb) | ((with_reducible refine HE1d.out.mono ?_); rintro e w' ⟨rfl, hm, hb⟩; obtain ⟨c0, c1, c2⟩ := Keep.out _ hb) | ((with_reducible refine (HC1.out _ (by with_reducible assumption)).mono ?_); rintro e w' ⟨rfl, hb⟩; obtain ⟨c0, c1, c2⟩ := Keep.out _ hb) | ((with_reducible refine (HD1.out _ (by with_reducible assumption)).mono ?_); rintro e w' ⟨rfl, hm, hb⟩; obtain ⟨c0, c1, c2⟩ := Keep.out _ hb) | ((with_reducible refine (HE1.out _ (by with_reducible assumption)).mono ?_); rintro e w' ⟨rfl, hm, hb⟩; obtain ⟨c0, c1, c2⟩ := Keep.out _ hb) | ((with_reducible refine (HC2.out _ (by with_reducible assumption)).mono ?_); rintro e w' ⟨rfl, hb⟩; obtain ⟨c0, c1, c2⟩ := Keep.out _ hb) | ((with_reducible refine (HF2.out _ _ (by with_reducible assumption) (by with_reducible assumption)).mono ?_); rintro e w' ⟨rfl, hb⟩; obtain ⟨c0, c1, c2⟩ := Keep.out _ hb)) | (go_at_call 15; ((with_reducible refine (LV.out _ (by with_reducible assumption)).mono ?_); rintro e w' ⟨rfl, hb⟩; obtain ⟨c0, c1, c2⟩ := Keep.out _ hb)))
    all_goals
      go_wp2
      go_ret
      exact ⟨rfl, kstep HW.out (by with_reducible assumption)⟩
end Go.Proofs.YtkdbffhmnkkbcaaDoor
