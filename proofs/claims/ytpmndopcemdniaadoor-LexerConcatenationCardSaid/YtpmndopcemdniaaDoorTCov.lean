/- The walks of covers and of LexerCovers. Conditions: the table of symbols as the program lays it. -/
import Derived.Test.YtpmndopcemdniaaDoorTCovM
namespace Go.Proofs.YtpmndopcemdniaaDoor
open Go.RowKit

theorem tok_ok {s : List UInt8} {ts : List Tk} {a : Nat} (h : tokL s = (ts, a, 0)) : s.length ≤ 2000 ∧ a = 0 ∧ ∃ a', lexP 0 s = (ts, a', 0) := by
  unfold tokL at h
  by_cases h1 : 2000 < s.length
  · rw [if_pos h1] at h
    simp at h
  · rw [if_neg h1] at h
    unfold comb at h
    by_cases h2 : (lexP 0 s).2.2 = 0
    · rw [if_pos h2] at h
      obtain ⟨e1, e2⟩ := Prod.mk.inj h
      obtain ⟨e3, _⟩ := Prod.mk.inj e2
      refine ⟨by omega, e3.symm, (lexP 0 s).2.1, ?_⟩
      rw [← e1]
      exact Prod.ext (by simp) (Prod.ext rfl h2)
    · rw [if_neg h2] at h
      have := (Prod.mk.inj h).2
      rw [this] at h2
      exact absurd rfl h2
theorem ba_app (a b : ByteArray) : (a ++ b).data.toList = a.data.toList ++ b.data.toList := by simp

set_option maxRecDepth 100000 in
set_option maxHeartbeats 16000000 in
theorem covers_any (s : ByteArray) (w : World) (hs : s.size ≤ 140737488351232) (hE : LEnv w) : Calls Tryd.prog 19 #[.string s] w fun e w' => e = .returned (.bool true) ∧ Below w.heap.size w w' := by
  have T := tokens_any s w hs hE
  have hsl := list_len s
  by_cases he : (tokL s.data.toList).2.2 = 0
  · obtain ⟨⟨ts, a, er⟩, hq⟩ : ∃ q, tokL s.data.toList = q := ⟨_, rfl⟩
    rw [hq] at T he
    replace he : er = 0 := he
    subst he
    obtain ⟨h2000, rfl, a', hlex⟩ := tok_ok hq
    rw [hsl] at h2000
    obtain ⟨N, hN⟩ : ∃ N, ts.length = N := ⟨_, rfl⟩
    have hNl : N ≤ 2000 := by have := comb_len s.data.toList; rw [hq, ] at this; rw [← hN]; exact this
    have HN := Lib.hid hN
    replace T := Lib.hid T
    have HL := Lib.hid hlex
    have P0 := Lib.hid (show (⟨#[34]⟩ : ByteArray).size = 1 from rfl)
    clear hq hsl hlex hN
    go_enter Tryd.func19, Tryd.ntmps19
    go_wp2_with (go_at_call 20; refine (T.out).mono ?_; rintro e w1 ⟨v, rfl, ho, hB⟩; have hT := tsAt_of ho; obtain ⟨a0, c0, hsv⟩ := hT.slice; subst hsv; clear ho; rw [HN.out])
    rw [HN.out] at hT
    have HT := Lib.hid hT
    clear hT
    go_loopw [6, 7, 8] (fun rv ev iv wr => ∃ (b : ByteArray) (q k : Nat), rv = .string b ∧ ev = .int .i64 (q : Int) ∧ iv = .int .i64 (k : Int) ∧ q ≤ s.size ∧ b.size ≤ q ∧ b.data.toList.all whB = true ∧ (∃ a', lexP q (s.data.toList.drop q) = (ts.drop k, a', 0)) ∧ k ≤ N ∧ Below w1.heap.size w1 wr) (fun _ _ iv _ => N - (intOf iv).toNat)
    case atStart => exact ⟨⟨#[]⟩, 0, 0, rfl, rfl, rfl, Nat.zero_le _, Nat.le_refl _, rfl, ⟨a', by rw [List.drop_zero, List.drop_zero]; exact HL.out⟩, Nat.zero_le _, Below.refl _ _⟩
    case round =>
      obtain ⟨b, q, k, hb, he2, rfl, hq, hbq, hbw, ⟨a2, hlx⟩, hk, hw⟩ := hrel
      subst hb he2
      by_cases hlt : k < N
      · have b1 : (k : Int) < (N : Int) := by omega
        obtain ⟨t, ts', a3, hts, hp1, hp2, hp3, hp4, hp5, hp6, hp7⟩ : ∃ t ts' a', ts.drop k = t :: ts' ∧ q ≤ t.pos ∧ ((s.data.toList.drop q).take (t.pos - q)).all whB = true ∧ 1 ≤ sizeT t ∧ t.pos + sizeT t ≤ s.size ∧ (s.data.toList.drop t.pos).take (sizeT t) = fullT t ∧ lexP (t.pos + sizeT t) (s.data.toList.drop (t.pos + sizeT t)) = (ts', a', 0) ∧ t.kind ≤ 3 := by
          rcases next_tok hq hlx with ⟨h, _⟩ | h
          · have := congrArg List.length h
            rw [List.length_drop, HN.out] at this
            simp at this
            omega
          · exact h
        have htk : ts[k]? = some t := by
          have := congrArg (·[0]?) hts
          simpa using this
        have hdk : ts.drop (k + 1) = ts' := by rw [← List.drop_drop, hts]; rfl
        obtain ⟨P, hP⟩ : ∃ P, t.pos = P := ⟨_, rfl⟩
        obtain ⟨n, hn⟩ : ∃ n, sizeT t = n := ⟨_, rfl⟩
        rw [hP] at hp1 hp2 hp4 hp5 hp6
        rw [hn] at hp3 hp4 hp5 hp6
        have hful : (fullT t).length = n := by rw [fullT_len, hn]
        obtain ⟨E, hE2⟩ : ∃ E, P + n = E := ⟨_, rfl⟩
        rw [hE2] at hp4 hp6
        obtain ⟨y, hy⟩ : ∃ y, s.extract q P = y := ⟨_, rfl⟩
        have hyl : y.data.toList = (s.data.toList.drop q).take (P - q) := by rw [← hy, ba_ext, ba_list, List.drop_take]
        have hys : y.size ≤ P - q := by rw [← list_len y, hyl, List.length_take]; omega
        have hy2 : y.size ≤ 2000 := by omega
        have hb2 : b.size ≤ 2000 := by omega
        have hx0 := ext_of s P n rfl
        rw [hp5, hE2] at hx0
        obtain ⟨z, hz⟩ : ∃ z, ba (fullT t) = z := ⟨_, rfl⟩
        rw [hz] at hx0
        have hzs : z.size = n := by rw [← hz, ba_len, hful]
        have hsl1 : ∀ W : World, (Instr.slice 9 (.string s) (some (.int .i64 (P : Int))) (some (.int .i64 (E : Int))) none).run Tryd.prog W = .ok (.string z) W := fun W => by
          have h := run_slice_string (P := Tryd.prog) W 9 s .i64 .i64 P E Tryd.underlying9 (by omega) (by omega) (by omega)
          rw [show ((P : Int)).toNat = P by omega, show ((E : Int)).toNat = E by omega, hx0] at h
          exact h
        have hsl2 : ∀ W : World, (Instr.slice 9 (.string s) (some (.int .i64 (q : Int))) (some (.int .i64 (P : Int))) none).run Tryd.prog W = .ok (.string y) W := fun W => by
          have h := run_slice_string (P := Tryd.prog) W 9 s .i64 .i64 q P Tryd.underlying9 (by omega) (by omega) (by omega)
          rw [show ((q : Int)).toNat = q by omega, show ((P : Int)).toNat = P by omega, hy] at h
          exact h
        have bz : IntKind.i64.wrap ((P : Int) + (n : Int)) = (E : Int) := by rw [IntKind.wrap_i64]; omega
        have Bb := Lib.hid (show decide (s.size < E) = false from decide_eq_false (by omega))
        have Bp := Lib.hid (show decide (P < q) = false from decide_eq_false (by omega))
        have em : z.toList.isEmpty = false := by rw [← hz, ba_toList]; cases hh : fullT t with | nil => rw [hh] at hful; simp at hful; omega | cons _ _ => rfl
        have ez : (z.toList == z.toList) = true := by simp
        have HR := Lib.hid (show (∃ a', lexP E (s.data.toList.drop E) = (ts.drop (k + 1), a', 0)) ∧ E ≤ s.size ∧ (b ++ y).size ≤ E ∧ (b ++ y).data.toList.all whB = true from ⟨⟨a3, by rw [hdk]; exact hp6⟩, hp4, by rw [ByteArray.size_append]; omega, by rw [ba_app, List.all_append, hbw, hyl, hp2]; rfl⟩)
        rcases HT.out with ⟨_, h0⟩ | ⟨g, cap, hsv, hg, hc⟩
        · rw [h0] at htk; simp at htk
        obtain ⟨rfl, _⟩ : a0 = some ⟨g, 0, none⟩ ∧ True := by simp at hsv; exact ⟨hsv.1, trivial⟩
        obtain ⟨c0', c1, c2, c3⟩ := hc k t htk
        replace c0' := (hw.cell (p := ⟨g, k * 4, none⟩) hg).trans c0'
        replace c1 := (hw.cell (p := ⟨g, k * 4 + 1, none⟩) hg).trans c1
        replace c3 := (hw.cell (p := ⟨g, k * 4 + 3, none⟩) hg).trans c3
        rw [hP] at c3
        by_cases h2 : t.kind = 2
        · have ek : ((t.kind : Int) == 2) = true := by simp; omega
          have hcat : (⟨#[34]⟩ ++ ba t.text ++ ⟨#[34]⟩ : ByteArray) = z := by
            rw [← hz]
            apply ba_eq
            rw [ba_app, ba_app, ba_list]
            unfold fullT
            rw [if_pos h2]
            simp
          have htx : (ba t.text).size ≤ 2000 := by
            rw [ba_len]
            have : (fullT t).length = t.text.length + 2 := by unfold fullT; rw [if_pos h2]; simp
            omega
          have q1 := P0.out
          clear hlx hbw hts htk hdk hP hn hp1 hp2 hp3 hp5 hp6 hp7 hful hE2 hyl hx0 hz hc c2 h2 hsv hy hq hp4
          go_wp2
          have bp := Bp.out
          have bb := Bb.out
          go_quiet (fail)
          go_wp2
          go_roundw
          case measure => simp [intOf]; omega
          case rel => exact ⟨b ++ y, E, k + 1, rfl, by go_num, by go_num, HR.out.2.1, HR.out.2.2.1, HR.out.2.2.2, HR.out.1, by omega, below_draw hw _⟩
        · have ek : ((t.kind : Int) == 2) = false := by simp; omega
          have hcat : ba t.text = z := by rw [← hz]; unfold fullT; rw [if_neg h2]
          rw [hcat] at c1
          clear hlx hbw hts htk hdk hP hn hp1 hp2 hp3 hp5 hp6 hp7 hful hE2 hyl hx0 hz hc c2 h2 hsv hy hq hp4 hcat
          go_wp2
          have bp := Bp.out
          have bb := Bb.out
          go_quiet (fail)
          go_wp2
          go_roundw
          case measure => simp [intOf]; omega
          case rel => exact ⟨b ++ y, E, k + 1, rfl, by go_num, by go_num, HR.out.2.1, HR.out.2.2.1, HR.out.2.2.2, HR.out.1, by omega, below_draw hw _⟩
      · have b1 : ¬ (k : Int) < (N : Int) := by omega
        have hall : (s.data.toList.drop q).all whB = true := by
          rcases next_tok hq hlx with ⟨_, h⟩ | ⟨t, ts', a', h, _⟩
          · exact h
          · have := congrArg List.length h
            rw [List.length_drop, HN.out] at this
            simp at this
            omega
        obtain ⟨y, hy⟩ : ∃ y, s.extract q s.size = y := ⟨_, rfl⟩
        have hyl : y.data.toList = s.data.toList.drop q := by rw [← hy, ba_drop, ba_list]
        have hys : y.size ≤ 2000 := by rw [← list_len y, hyl, List.length_drop, list_len]; omega
        obtain ⟨C, hC⟩ : ∃ C, b ++ y = C := ⟨_, rfl⟩
        have hCw : C.data.toList.all whB = true := by rw [← hC, ba_app, List.all_append, hbw, hyl, hall]; rfl
        have bq : (q : Int) ≤ (s.size : Int) := by omega
        have bq0 : (0 : Int) ≤ (q : Int) := by omega
        have hbs : b.size ≤ 2000 := by omega
        have hCs : C.size ≤ 4000 := by rw [← hC, ByteArray.size_append]; omega
        have HCw := Lib.hid hCw
        have HBe := Lib.hid (step_low hB hw)
        clear hall hyl hCw hlx hbw
        go_wp2
        go_loop [10] (fun v => ∃ j : Nat, j ≤ C.size ∧ v = .int .i64 (j : Int)) (fun v => C.size - (intOf v).toNat)
        case atStart => exact ⟨0, Nat.zero_le _, rfl⟩
        case round =>
          obtain ⟨j, hj, rfl⟩ := hrel
          by_cases hjt : j < C.size
          · have b3 : (j : Int) < (C.size : Int) := by omega
            have hwj := List.all_eq_true.1 HCw.out _ (List.getElem_mem (by rw [list_len]; exact hjt))
            rw [get_byte C j hjt] at hwj
            obtain ⟨m, hm⟩ : ∃ m, (C[j]'hjt).toNat = m := ⟨_, rfl⟩
            unfold whB at hwj
            rw [hm] at hwj
            have hwd := of_decide_eq_true hwj
            clear hwj
            by_cases h9 : m = 9
            · have e9 : ((m : Int) != 9) = false := by simp; omega
              clear hwd h9
              go_wp2
              go_round
              case measure => simp [intOf]; omega
              case rel => exact ⟨j + 1, by omega, by go_num⟩
            · have e9 : ((m : Int) != 9) = true := by simp; omega
              by_cases h10 : m = 10
              · have e10 : ((m : Int) != 10) = false := by simp; omega
                clear hwd h9 h10
                go_wp2
                go_round
                case measure => simp [intOf]; omega
                case rel => exact ⟨j + 1, by omega, by go_num⟩
              · have e10 : ((m : Int) != 10) = true := by simp; omega
                by_cases h13 : m = 13
                · have e13 : ((m : Int) != 13) = false := by simp; omega
                  clear hwd h9 h10 h13
                  go_wp2
                  go_round
                  case measure => simp [intOf]; omega
                  case rel => exact ⟨j + 1, by omega, by go_num⟩
                · have e13 : ((m : Int) != 13) = true := by simp; omega
                  have e32 : ((m : Int) != 32) = false := by simp; omega
                  clear hwd h9 h10 h13
                  go_wp2
                  go_round
                  case measure => simp [intOf]; omega
                  case rel => exact ⟨j + 1, by omega, by go_num⟩
          · have b3 : ¬ (j : Int) < (C.size : Int) := by omega
            go_wp2
            go_ret
            exact ⟨rfl, HBe.out⟩
  · obtain ⟨h1, h2⟩ := err_at _ he
    obtain ⟨⟨ts, a, er⟩, hq⟩ : ∃ q, tokL s.data.toList = q := ⟨_, rfl⟩
    rw [hq] at T h1 h2 he
    replace h1 : ts = [] := h1
    subst h1
    replace h2 : a ≤ s.size := by rw [← hsl]; exact h2
    have e1 : ((er : Int) != 0) = true := by simp; exact he
    have b1 : (0 : Int) ≤ (a : Int) := by omega
    have b2 : (a : Int) ≤ (s.size : Int) := by omega
    replace T := Lib.hid T
    clear hq he hsl
    go_enter Tryd.func19, Tryd.ntmps19
    go_wp2_with (go_at_call 20; refine (T.out).mono ?_; rintro e w1 ⟨v, rfl, ho, hB⟩; obtain ⟨a0, c0, hsv⟩ := (tsAt_of ho).slice; subst hsv; clear ho)
    go_ret
    exact ⟨rfl, hB⟩
end Go.Proofs.YtpmndopcemdniaaDoor
