/- The walk of LabelsParse. Conditions: the library's variable MaxLen holds an integer. -/
import Derived.Test.YtmgjbbkccgncgaaGreatDoorLParses
import Derived.Test.YtmgjbbkccgncgaaGreatDoorLHelp
namespace Go.Proofs.YtmgjbbkccgncgaaGreatDoor
open Go.RowKit

theorem short60 (s : ByteArray) (w : World) (hs : s.size ≤ 9223372036854775807) : Calls Tryz.prog 4 #[.string s, .int .i64 60] w fun e w' => e = .returned (.string (shortB s 60)) ∧ w = w' := short_fn s 60 w hs (by omega)
set_option maxRecDepth 100000 in
set_option maxHeartbeats 8000000 in
theorem lparse_walk (s : ByteArray) (v1 : Value) (zs : List Int) (n1 n2 : Int) (c : UInt8) (w : World) (hs : s.size ≤ 140737488351232) (hI : IntsIn w v1 zs) (a1 : -9223372036854775808 ≤ n1) (a2 : n1 ≤ 9223372036854775807) (a3 : -9223372036854775808 ≤ n2) (a4 : n2 ≤ 9223372036854775807) (hm : MaxAt w) :
    Calls Tryz.prog 3 #[.string s, v1, .int .i64 n1, .int .i64 n2, .int .u8 (c.toNat : Int)] w fun e w' => e = .returned (.bool true) ∧ Below w.heap.size w w' := by
  have HS := Lib.hid (fun W => short60 s W (by omega))
  have hf := shortB_size s 60
  obtain ⟨f, hfe⟩ : ∃ f, shortB s 60 = f := ⟨_, rfl⟩
  rw [hfe] at HS hf
  clear hfe
  have HM := Lib.hid hm
  have HI := Lib.hid hI
  have PS := Lib.hid (fun (x : ByteArray) (W : World) (hx : x.size ≤ 1000) (hb : Below w.heap.size w W) => parses_any x W hx (HM.out.below hb))
  have MU := Lib.hid (fun (x : ByteArray) (W : World) (hx : x.size ≤ 1000) => mutated_any x n1 n2 c W hx a1 a2 a3 a4)
  have hg : ((⟨#[123]⟩ ++ f) ++ ⟨#[125]⟩ : ByteArray).size ≤ 1000 := by
    have e1 : (⟨#[123]⟩ : ByteArray).size = 1 := rfl
    have e2 : (⟨#[125]⟩ : ByteArray).size = 1 := rfl
    simp only [ByteArray.size_append, e1, e2]
    omega
  have HG := Lib.hid hg
  have HF := Lib.hid (show f.size ≤ 1000 by omega)
  clear hI hm a1 a2 a3 a4 hg
  go_enter Tryz.func3, Tryz.ntmps3
  go_wp2_with fail
  (with_reducible refine (HS.out _).mono ?_)
  rintro e w' ⟨rfl, rfl⟩
  go_wp2_with fail
  refine (dirty_any v1 zs w HI.out).mono ?_
  rintro e w1 ⟨d, jt, rfl, hO, hDo, hb⟩
  have HT := Lib.hid (reftext_any d jt w1 (LsAt.of_owns hO) (by have := hDo.1; omega) hDo.sz)
  have HTZ := Lib.hid (show (textB jt).size ≤ 900 by have := hDo.text; omega)
  have HB1 := Lib.hid hb
  obtain ⟨t, ht⟩ : ∃ t, textB jt = t := ⟨_, rfl⟩
  rw [ht] at HT HTZ
  clear ht hO hDo hb
  go_wp2_with fail
  (with_reducible refine HT.out.mono ?_)
  rintro e w2 ⟨rfl, hb⟩
  have HB2 := Lib.hid (below_st HB1.out hb)
  clear hb HT HB1
  go_wp2_with fail
  refine (set_any v1 zs w2 (HI.out.below HB2.out)).mono ?_
  rintro e w3 ⟨d2, it, rfl, hO, hSo, hb⟩
  have HT := Lib.hid (reftext_any d2 it w3 (LsAt.of_owns hO) (by have := hSo.2.1; omega) hSo.sz)
  have HUZ := Lib.hid (show (textB it).size ≤ 900 by have := hSo.text hSo.2.1; omega)
  have HB3 := Lib.hid (below_st HB2.out hb)
  obtain ⟨u, hu⟩ : ∃ u, textB it = u := ⟨_, rfl⟩
  rw [hu] at HT HUZ
  clear hu hO hSo hb HB2
  go_wp2_with fail
  (with_reducible refine HT.out.mono ?_)
  rintro e w4 ⟨rfl, hb⟩
  have HB4 := Lib.hid (below_st HB3.out hb)
  clear hb HT HB3
  go_wp2_with fail
  (with_reducible refine (PS.out f _ HF.out HB4.out).mono ?_)
  rintro e w5 ⟨rfl, hb⟩
  have HB5 := Lib.hid (below_st HB4.out hb)
  clear hb HB4
  go_wp2_with fail
  (with_reducible refine (PS.out ((⟨#[123]⟩ ++ f) ++ ⟨#[125]⟩) _ HG.out HB5.out).mono ?_)
  rintro e w6 ⟨rfl, hb⟩
  have HB6 := Lib.hid (below_st HB5.out hb)
  clear hb HB5
  go_wp2_with fail
  (with_reducible refine (PS.out t _ (Nat.le_trans HTZ.out (by omega)) HB6.out).mono ?_)
  rintro e w7 ⟨rfl, hb⟩
  have HB7 := Lib.hid (below_st HB6.out hb)
  clear hb HB6
  go_wp2_with fail
  (with_reducible refine (PS.out u _ (Nat.le_trans HUZ.out (by omega)) HB7.out).mono ?_)
  rintro e w8 ⟨rfl, hb⟩
  have HB8 := Lib.hid (below_st HB7.out hb)
  clear hb HB7
  go_wp2_with fail
  (with_reducible refine (MU.out t _ (Nat.le_trans HTZ.out (by omega))).mono ?_)
  rintro e w9 ⟨⟨m1, rfl, hm1⟩, hb⟩
  have HB9 := Lib.hid (below_st HB8.out hb)
  have HM1 := Lib.hid (show m1.size ≤ 1000 by have := HTZ.out; omega)
  clear hb HB8 hm1
  go_wp2_with fail
  (with_reducible refine (PS.out m1 _ HM1.out HB9.out).mono ?_)
  rintro e wa ⟨rfl, hb⟩
  have HBa := Lib.hid (below_st HB9.out hb)
  clear hb HB9
  go_wp2_with fail
  (with_reducible refine (MU.out u _ (Nat.le_trans HUZ.out (by omega))).mono ?_)
  rintro e wb ⟨⟨m2, rfl, hm2⟩, hb⟩
  have HBb := Lib.hid (below_st HBa.out hb)
  have HM2 := Lib.hid (show m2.size ≤ 1000 by have := HUZ.out; omega)
  clear hb HBa hm2
  go_wp2_with fail
  (with_reducible refine (PS.out m2 _ HM2.out HBb.out).mono ?_)
  rintro e wc ⟨rfl, hb⟩
  have HBc := Lib.hid (below_st HBb.out hb)
  clear hb HBb
  go_wp2_with fail
  refine (lives_any wc).mono ?_
  rintro e wd ⟨rfl, hb⟩
  have HBd := Lib.hid (below_st HBc.out hb)
  clear hb HBc
  go_wp2
  go_ret
  exact ⟨rfl, HBd.out⟩
end Go.Proofs.YtmgjbbkccgncgaaGreatDoor
