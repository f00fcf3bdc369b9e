/- The contract of the reference's Tokens. Conditions: none. -/
import Derived.Deep.AppendLies
import Derived.Laws.AppendOwnNone
import Derived.Test.YtpmndopcemdniaaDoorTRQuo
import Derived.Test.YtpmndopcemdniaaDoorTRSym
import Derived.Test.YtpmndopcemdniaaDoorTToks
namespace Go.Proofs.YtpmndopcemdniaaDoor
open Go.RowKit

theorem Tryd.infoRTok : (Tryd.prog.info? 71).map (fun i => (i.zero, i.size, i.bytes)) = some (some (.agg #[.int .i64 0, .string ⟨#[]⟩, .int .i64 0, .int .i64 0]), 4, 40) := by kernel_rfl
/-- What the reference's Tokens hands back. -/
def RTokPost (w : World) (q : List Tk × Nat × Nat) (e : Ending) (w' : World) : Prop :=
  ∃ v, e = .returned (.tuple #[v, .int .i64 (q.2.1 : Int), .int .i64 (q.2.2 : Int)]) ∧ w'.ownsRow w.heap.size 71 4 v q.1.length (rowT q.1) ∧ Below w.heap.size w w'
theorem app_below {w Y w2 : World} {e : TypeId} {v : Value} {n : Nat} {xs : List Value} {tmp : Obj} (hB : Below w.heap.size w Y) (ho : Y.ownsRow w.heap.size e 4 v n xs) (hg : (Y.alloc tmp).grownBy w2 v.ownBlock) : Below w.heap.size w w2 := by
  refine (hB.alloc hB.size tmp).grown hg (by have := hB.size; simp; omega) fun j ej => ?_
  rcases ho.2 with ⟨rfl, _⟩ | ⟨g, cap, cur, rfl, hb, _, _⟩
  · simp [Value.ownBlock] at ej
  · obtain rfl : g = j := by simpa [Value.ownBlock] using ej
    exact hb
theorem owns_below {W W' : World} {base : Nat} {e : TypeId} {size n : Nat} {v : Value} {xs : List Value} (h : W.ownsRow base e size v n xs) (hb : Below W.heap.size W W') : W'.ownsRow base e size v n xs :=
  by
  cases hv : v.ownBlock with
  | none => exact h.kept (grown_of_below hb) (.inl hv)
  | some b => exact h.kept (grown_of_below hb) (.inr (by rw [hv]; simp))
theorem row_low {W : World} {base : Nat} {e : TypeId} {size n : Nat} {v : Value} {xs : List Value} (h : W.ownsRow base e size v n xs) : ∀ b, v.ownBlock = some b → b < W.heap.size := fun b hb => by
  rcases h.2 with ⟨rfl, _⟩ | ⟨g, cap, cur, rfl, _, hg, _⟩
  · cases hb
  · obtain rfl : g = b := by simpa [Value.ownBlock] using hb
    exact (Array.getElem?_eq_some_iff.1 hg).1

theorem rstep {s : ByteArray} {p : Nat} {c : UInt8} {t : List UInt8} {acc : List Tk} {R : List Tk × Nat × Nat} (hlt : p < s.size) (hd : s.data.toList.drop p = c :: t) (hw : whB c = false) (h0 : (firstL (c :: t)).2 = 0) (hc : comb acc (lexP p (c :: t)) = R) :
    comb (acc ++ [atT (firstL (c :: t)).1 p]) (lexP (p + sizeT (firstL (c :: t)).1) (s.data.toList.drop (p + sizeT (firstL (c :: t)).1))) = R ∧ 1 ≤ sizeT (firstL (c :: t)).1 ∧ p + sizeT (firstL (c :: t)).1 ≤ s.size := by
  have hs := first_size h0
  have hl : (c :: t).length = s.size - p := by rw [← hd, List.length_drop, list_len]
  rw [comb_tok acc p hw h0, ← hd, List.drop_drop] at hc
  rw [hd] at hc
  exact ⟨hc, hs.1, by omega⟩
theorem grown_set (W : World) (a : Addr) (u : Value) : W.grownBy (W.setCell a u) (some a.block) := ⟨rfl, rfl, rfl, by simp, fun k _ hk => Below.heap_setCell W a u k (fun e => hk (by rw [e]))⟩
theorem heap_new_at {W : World} {o : Obj} {g : Nat} (h : g = W.heap.size) : (W.alloc o).heap[g]? = some o := by subst h; exact heap_alloc_new W o
theorem step_low {w0 W W' : World} (h : Below w0.heap.size w0 W) (k : Below W.heap.size W W') : Below w0.heap.size w0 W' := h.trans (k.mono h.size)
theorem quo_first {c : UInt8} {t : List UInt8} (e1 : leB c = false) (e2 : diB c = false) (e3 : c = 34) {tx : List UInt8} {qe : Nat} (h : quoL t = (tx, qe)) : firstL (c :: t) = if qe = 0 then (⟨2, tx, 0, 0⟩, 0) else (tk0, qe) := by
  rw [first_cons, if_neg (by simp [e1]), if_neg (by simp [e2]), if_pos e3]
  unfold quoL at h
  by_cases h1 : (t.takeWhile nqB).length < t.length ∧ (t.takeWhile nqB).all vaB
  · rw [if_pos h1] at h ⊢
    by_cases h2 : (t.takeWhile nqB).length ≤ 16
    · rw [if_pos h2] at h ⊢
      obtain ⟨rfl, rfl⟩ := Prod.mk.inj h
      rfl
    · rw [if_neg h2] at h ⊢
      obtain ⟨rfl, rfl⟩ := Prod.mk.inj h
      rfl
  · rw [if_neg h1] at h ⊢
    obtain ⟨rfl, rfl⟩ := Prod.mk.inj h
    rfl
theorem quo_len {t tx : List UInt8} {qe : Nat} (h : quoL t = (tx, qe)) : tx.length ≤ 16 := by
  unfold quoL at h
  split at h
  · split at h
    · obtain ⟨rfl, rfl⟩ := Prod.mk.inj h; assumption
    · obtain ⟨rfl, rfl⟩ := Prod.mk.inj h; simp
  · obtain ⟨rfl, rfl⟩ := Prod.mk.inj h; simp
theorem ext_of (s : ByteArray) (p n : Nat) {l : List UInt8} (h : s.data.toList.drop p = l) : s.extract p (p + n) = ba (l.take n) := by
  rw [ba_ext, List.drop_take, show p + n - p = n by omega, h]

set_option maxRecDepth 100000 in
set_option maxHeartbeats 16000000 in
theorem rtokens_any (s : ByteArray) (w : World) (hs : s.size ≤ 140737488351232) :
    Calls Tryd.prog 27 #[.string s] w (RTokPost w (tokL s.data.toList)) := by
  obtain ⟨i0, hi, hz0, hz1, hz2⟩ := info_parts Tryd.infoRTok
  have hsl := list_len s
  obtain ⟨⟨L, a, er⟩, hq⟩ : ∃ q, tokL s.data.toList = q := ⟨_, rfl⟩
  rw [hq]
  unfold RTokPost
  dsimp only
  by_cases h2 : s.size ≤ 2000
  · have b1 : ¬ (2000 : Int) < (s.size : Int) := by omega
    have HT := Lib.hid (show comb [] (lexP 0 s.data.toList) = (L, a, er) by rw [← hq]; unfold tokL; rw [if_neg (by omega)])
    clear hsl hq
    go_enter Tryd.func27, Tryd.ntmps27
    go_wp2
    go_loopw [5, 6] (fun out iv wr => ∃ (acc : List Tk) (p : Nat) (v : Value), out = v ∧ iv = .int .i64 (p : Int) ∧ p ≤ s.size ∧ wr.ownsRow w.heap.size 71 4 v acc.length (rowT acc) ∧ Below w.heap.size w wr ∧ comb acc (lexP p (s.data.toList.drop p)) = (L, a, er) ∧ acc.length ≤ p) (fun _ iv _ => s.size - (intOf iv).toNat)
    case atStart => exact ⟨[], 0, _, rfl, rfl, Nat.zero_le _, World.ownsRow_nil _ _ _ _, Below.refl _ _, HT.out, Nat.le_refl _⟩
    case round =>
      obtain ⟨acc, p, v, hv, rfl, hp, ho, hB, hc, hl⟩ := hrel
      subst hv
      by_cases hlt : p < s.size
      · have b2 : (p : Int) < (s.size : Int) := by omega
        have hd := drop_cons s p hlt
        obtain ⟨c, hch⟩ : ∃ c, s[p]'hlt = c := ⟨_, rfl⟩
        have hcn : (s[p]'hlt).toNat = c.toNat := by rw [hch]
        rw [hch] at hd
        rw [hd] at hc
        cases hw : whB c with
        | true =>
          rw [lex_white _ _ hw] at hc
          have HC := Lib.hid hc
          clear hc hd hch
          go_wp2_with (first | (go_at_call 43; refine (rwhite_any _ _).mono ?_; rintro e w' ⟨rfl, rfl⟩) | (go_at_call 44; refine (rletter_any _ _).mono ?_; rintro e w' ⟨rfl, rfl⟩) | (go_at_call 46; refine (rdigit_any _ _).mono ?_; rintro e w' ⟨rfl, rfl⟩))
          go_roundw
          case measure => simp [intOf]; omega
          case rel => exact ⟨acc, p + 1, _, rfl, by go_num, by omega, ho, hB, HC.out, by omega⟩
        | false =>
          have hzero : (.string ⟨#[]⟩ : Value) = .string (ba []) := rfl
          obtain ⟨t, ht⟩ : ∃ t, s.data.toList.drop (p + 1) = t := ⟨_, rfl⟩
          rw [ht] at hd hc
          have hBw := hB.size
          have hlen : acc.length ≤ 2000 := by omega
          have hdl : (c :: t).length = s.size - p := by rw [← hd, List.length_drop, list_len]
          have hne : u5.ownBlock ≠ some wr.heap.size := fun e => by have := row_low ho _ e; omega
          cases e1 : leB c with
          | true =>
            obtain ⟨tw, htw⟩ : ∃ tw, (c :: t).takeWhile woB = tw := ⟨_, rfl⟩
            have hpre := List.takeWhile_prefix (l := c :: t) (p := woB)
            have hwl : tw.length ≤ s.size - p := by rw [← htw, ← hdl]; exact hpre.length_le
            have hx0 := ext_of s p tw.length hd
            rw [show (c :: t).take tw.length = tw from by rw [← htw]; exact takeWhile_take _] at hx0
            obtain ⟨E, hE⟩ : ∃ E, p + tw.length = E := ⟨_, rfl⟩
            rw [hE] at hx0
            have Wd := Lib.hid (fun W => show Calls Tryd.prog 45 #[.string s, .int .i64 (p : Int)] W fun e w' => e = .returned (.int .i64 (E : Int)) ∧ W = w' from by
              have h := rword_any s p W hs hp
              rw [hd, htw, hE] at h
              exact h)
            have hsl : ∀ W : World, (Instr.slice 9 (.string s) (some (.int .i64 (p : Int))) (some (.int .i64 (E : Int))) none).run Tryd.prog W = .ok (.string (ba tw)) W := fun W => by
              have h := run_slice_string (P := Tryd.prog) W 9 s .i64 .i64 p E Tryd.underlying9 (by omega) (by omega) (by omega)
              rw [show ((p : Int)).toNat = p by omega, show ((E : Int)).toNat = E by omega, hx0] at h
              exact h
            have b5 : IntKind.i64.wrap ((E : Int) - (p : Int)) = (tw.length : Int) := by rw [IntKind.wrap_i64]; omega
            by_cases h16 : tw.length ≤ 16
            · have hx : firstL (c :: t) = (⟨0, tw, 0, 0⟩, 0) := by rw [first_cons, if_pos e1, htw, if_pos h16]
              have hst := rstep hlt hd hw (by rw [hx]) hc
              rw [hx] at hst
              have HH := Lib.hid (show comb (acc ++ [⟨0, tw, 0, p⟩]) (lexP E (s.data.toList.drop E)) = (L, a, er) ∧ p + 1 ≤ E ∧ E ≤ s.size from by rw [← hE]; exact ⟨hst.1, by have := hst.2; simp [sizeT] at this; omega, by omega⟩)
              have b6 : ¬ (16 : Int) < (tw.length : Int) := by omega
              clear hst hx hc hd ht hch hdl hpre hx0 hE htw h16 hzero
              go_wp2_with (first | (go_at_call 43; refine (rwhite_any _ _).mono ?_; rintro e w' ⟨rfl, rfl⟩) | (go_at_call 44; refine (rletter_any _ _).mono ?_; rintro e w' ⟨rfl, rfl⟩) | (go_at_call 46; refine (rdigit_any _ _).mono ?_; rintro e w' ⟨rfl, rfl⟩) | (go_at_call 45; refine (Wd.out _).mono ?_; rintro e w' ⟨rfl, rfl⟩) | (at_builtin; go_loud (refine wpList_append_own _ rfl _ _ 50 rfl w.heap.size 71 i0 (.agg #[.int .i64 0, .string ⟨#[]⟩, .int .i64 0, .int .i64 0]) 4 40 Tryd.underlying50 hi hz0 hz1 hz2 rfl (by decide) u5 acc.length (rowT acc) rfl ((ho.alloc _).alloc _) ⟨_, 0, none⟩ 1 1 (tkL ⟨0, tw, 0, p⟩) rfl rfl (World.news_of_block (cs := #[.int .i64 ((0 : Nat) : Int), .string (ba tw), .int .i64 ((0 : Nat) : Int), .int .i64 (p : Int)]) (heap_new_at (by simp))) (by simp [tkL, Value.oneCell']) (by unfold maxLen; omega) (by omega) (by have h8 := hB.size; simp; omega) ?_); intro v' w2 hown hg hnil))
              go_roundw
              case measure => have hm := HH.out.2; simp [intOf]; omega
              case rel => exact ⟨acc ++ [⟨0, tw, 0, p⟩], E, _, rfl, by go_num, HH.out.2.2, by rw [rowT_snoc, List.length_append]; exact hown, app_below (hB.alloc hB.size _) (ho.alloc _) hg, HH.out.1, by rw [List.length_append]; have := HH.out; simp; omega⟩
            · have hx : firstL (c :: t) = (tk0, 4) := by rw [first_cons, if_pos e1, htw, if_neg h16]
              rw [comb_err acc p hw (by rw [hx]; decide), hx] at hc
              obtain ⟨rfl, hc2⟩ := Prod.mk.inj hc
              obtain ⟨rfl, rfl⟩ := Prod.mk.inj hc2
              have b6 : (16 : Int) < (tw.length : Int) := by omega
              clear hx hd ht hch hdl hpre hx0 hE htw h16 hzero
              go_wp2_with (first | (go_at_call 43; refine (rwhite_any _ _).mono ?_; rintro e w' ⟨rfl, rfl⟩) | (go_at_call 44; refine (rletter_any _ _).mono ?_; rintro e w' ⟨rfl, rfl⟩) | (go_at_call 46; refine (rdigit_any _ _).mono ?_; rintro e w' ⟨rfl, rfl⟩) | (go_at_call 45; refine (Wd.out _).mono ?_; rintro e w' ⟨rfl, rfl⟩))
              go_ret3
              exact ⟨_, rfl, World.ownsRow_nil _ _ _ _, hB.alloc hB.size _⟩
          | false =>
            cases e2 : diB c with
            | true =>
              obtain ⟨tw, htw⟩ : ∃ tw, (c :: t).takeWhile diB = tw := ⟨_, rfl⟩
              have hpre := List.takeWhile_prefix (l := c :: t) (p := diB)
              have hwl : tw.length ≤ s.size - p := by rw [← htw, ← hdl]; exact hpre.length_le
              have hx0 := ext_of s p tw.length hd
              rw [show (c :: t).take tw.length = tw from by rw [← htw]; exact takeWhile_take _] at hx0
              obtain ⟨E, hE⟩ : ∃ E, p + tw.length = E := ⟨_, rfl⟩
              rw [hE] at hx0
              obtain ⟨N, hN⟩ : ∃ N, satF 0 tw = N := ⟨_, rfl⟩
              have hsat := satF_is tw 0
              rw [hN] at hsat
              have Nd := Lib.hid (fun W => show Calls Tryd.prog 47 #[.string s, .int .i64 (p : Int)] W fun e w' => e = .returned (.tuple #[.int .i64 (E : Int), .int .i64 (N : Int)]) ∧ W = w' from by
                have h := rnumber_any s p W hs hp
                rw [hd, htw, hE, hN] at h
                exact h)
              have hsl : ∀ W : World, (Instr.slice 9 (.string s) (some (.int .i64 (p : Int))) (some (.int .i64 (E : Int))) none).run Tryd.prog W = .ok (.string (ba tw)) W := fun W => by
                have h := run_slice_string (P := Tryd.prog) W 9 s .i64 .i64 p E Tryd.underlying9 (by omega) (by omega) (by omega)
                rw [show ((p : Int)).toNat = p by omega, show ((E : Int)).toNat = E by omega, hx0] at h
                exact h
              by_cases hv : valF 0 tw ≤ 1073741824
              · have hx : firstL (c :: t) = (⟨1, tw, N, 0⟩, 0) := by rw [first_cons, if_neg (by simp [e1]), if_pos e2, htw, if_pos hv, hsat.1 hv]
                have hst := rstep hlt hd hw (by rw [hx]) hc
                rw [hx] at hst
                have HH := Lib.hid (show comb (acc ++ [⟨1, tw, N, p⟩]) (lexP E (s.data.toList.drop E)) = (L, a, er) ∧ p + 1 ≤ E ∧ E ≤ s.size from by rw [← hE]; exact ⟨hst.1, by have := hst.2; simp [sizeT] at this; omega, by omega⟩)
                have b6 : ¬ (1073741824 : Int) < (N : Int) := by have := hsat.1 hv; omega
                clear hst hx hc hd ht hch hdl hpre hx0 hE htw hv hsat hN hzero
                go_wp2_with (first | (go_at_call 43; refine (rwhite_any _ _).mono ?_; rintro e w' ⟨rfl, rfl⟩) | (go_at_call 44; refine (rletter_any _ _).mono ?_; rintro e w' ⟨rfl, rfl⟩) | (go_at_call 46; refine (rdigit_any _ _).mono ?_; rintro e w' ⟨rfl, rfl⟩) | (go_at_call 47; refine (Nd.out _).mono ?_; rintro e w' ⟨rfl, rfl⟩) | (at_builtin; go_loud (refine wpList_append_own _ rfl _ _ 50 rfl w.heap.size 71 i0 (.agg #[.int .i64 0, .string ⟨#[]⟩, .int .i64 0, .int .i64 0]) 4 40 Tryd.underlying50 hi hz0 hz1 hz2 rfl (by decide) u5 acc.length (rowT acc) rfl ((ho.alloc _).alloc _) ⟨_, 0, none⟩ 1 1 (tkL ⟨1, tw, N, p⟩) rfl rfl (World.news_of_block (cs := #[.int .i64 ((1 : Nat) : Int), .string (ba tw), .int .i64 ((N : Nat) : Int), .int .i64 (p : Int)]) (heap_new_at (by simp))) (by simp [tkL, Value.oneCell']) (by unfold maxLen; omega) (by omega) (by have h8 := hB.size; simp; omega) ?_); intro v' w2 hown hg hnil))
                go_roundw
                case measure => have hm := HH.out.2; simp [intOf]; omega
                case rel => exact ⟨acc ++ [⟨1, tw, N, p⟩], E, _, rfl, by go_num, HH.out.2.2, by rw [rowT_snoc, List.length_append]; exact hown, app_below (hB.alloc hB.size _) (ho.alloc _) hg, HH.out.1, by rw [List.length_append]; have := HH.out; simp; omega⟩
              · have hx : firstL (c :: t) = (tk0, 5) := by rw [first_cons, if_neg (by simp [e1]), if_pos e2, htw, if_neg hv]
                rw [comb_err acc p hw (by rw [hx]; decide), hx] at hc
                obtain ⟨rfl, hc2⟩ := Prod.mk.inj hc
                obtain ⟨rfl, rfl⟩ := Prod.mk.inj hc2
                have b6 : (1073741824 : Int) < (N : Int) := by have := hsat.2 (by omega); omega
                clear hx hd ht hch hdl hpre hx0 hE htw hv hsat hN hzero
                go_wp2_with (first | (go_at_call 43; refine (rwhite_any _ _).mono ?_; rintro e w' ⟨rfl, rfl⟩) | (go_at_call 44; refine (rletter_any _ _).mono ?_; rintro e w' ⟨rfl, rfl⟩) | (go_at_call 46; refine (rdigit_any _ _).mono ?_; rintro e w' ⟨rfl, rfl⟩) | (go_at_call 47; refine (Nd.out _).mono ?_; rintro e w' ⟨rfl, rfl⟩))
                go_ret3
                exact ⟨_, rfl, World.ownsRow_nil _ _ _ _, hB.alloc hB.size _⟩
            | false =>
              by_cases e3 : c = 34
              · have e3t : ((c.toNat : Int) == 34) = true := by rw [e3]; rfl
                have Hd := Lib.hid (And.intro hd ht)
                obtain ⟨⟨tx, qe⟩, hqu⟩ : ∃ q, quoL t = q := ⟨_, rfl⟩
                have Qd := Lib.hid (fun W => show Calls Tryd.prog 48 #[.string s, .int .i64 (p : Int)] W fun e w' => e = .returned (.tuple #[.string (ba tx), .int .i64 (qe : Int)]) ∧ Below W.heap.size W w' from by
                  have h := rquoted_any s p W hs hlt
                  rw [ht, hqu] at h
                  exact h)
                have hA := Blk.new wr 71 #[.int .i64 2, .string ⟨#[]⟩, .int .i64 0, .int .i64 (p : Int)]
                have hBX : Below w.heap.size w (wr.alloc (.cells #[.int .i64 2, .string ⟨#[]⟩, .int .i64 0, .int .i64 (p : Int)] 71)) := hB.alloc hB.size _
                have ho1 := ho.alloc (.cells #[.int .i64 2, .string ⟨#[]⟩, .int .i64 0, .int .i64 (p : Int)] 71)
                have hfq : firstL (c :: t) = if qe = 0 then (⟨2, tx, 0, 0⟩, 0) else (tk0, qe) := quo_first e1 e2 e3 hqu
                have hzt : (ba tx).size = tx.length := ba_len tx
                have htl : tx.length ≤ 16 := quo_len hqu
                by_cases hqe : qe = 0
                · rw [if_pos hqe] at hfq
                  subst hqe
                  have hst := rstep hlt hd hw (by rw [hfq]) hc
                  rw [hfq] at hst
                  obtain ⟨E, hE⟩ : ∃ E, p + (tx.length + 2) = E := ⟨_, rfl⟩
                  have HH := Lib.hid (show comb (acc ++ [⟨2, tx, 0, p⟩]) (lexP E (s.data.toList.drop E)) = (L, a, er) ∧ p + 1 ≤ E ∧ E ≤ s.size from by rw [← hE]; exact ⟨hst.1, by omega, hst.2.2⟩)
                  have b7 : IntKind.i64.wrap ((p : Int) + ((ba tx).size : Int)) = (p : Int) + ((ba tx).size : Int) := by rw [IntKind.wrap_i64]; omega
                  have b8 : IntKind.i64.wrap ((p : Int) + ((ba tx).size : Int) + 2) = (E : Int) := by rw [IntKind.wrap_i64]; omega
                  clear hst hfq hqu hc hd ht hch hdl hE e3 hzero hzt
                  go_wp2_with (first | (go_at_call 43; refine (rwhite_any _ _).mono ?_; rintro e w' ⟨rfl, rfl⟩) | (go_at_call 44; refine (rletter_any _ _).mono ?_; rintro e w' ⟨rfl, rfl⟩) | (go_at_call 46; refine (rdigit_any _ _).mono ?_; rintro e w' ⟨rfl, rfl⟩) | (go_at_call 48; refine (Qd.out _).mono ?_; rintro e w1 ⟨rfl, hB1⟩; replace hA := hA.below hB1 hA.lt; have fz := hA.frozen; have c0 := hA.cell 0; have c1 := hA.cell 1; have c2 := hA.cell 2; have c3 := hA.cell 3) | (at_builtin; go_loud (refine wpList_append_own _ rfl _ _ 50 rfl w.heap.size 71 i0 (.agg #[.int .i64 0, .string ⟨#[]⟩, .int .i64 0, .int .i64 0]) 4 40 Tryd.underlying50 hi hz0 hz1 hz2 rfl (by decide) u5 acc.length (rowT acc) rfl (((owns_below ho1 hB1).kept (grown_set w1 ⟨wr.heap.size, 1, none⟩ (.string (ba tx))) (.inr hne)).alloc _) ⟨_, 0, none⟩ 1 1 (tkL ⟨2, tx, 0, p⟩) rfl rfl (World.news_of_block (cs := #[.int .i64 ((2 : Nat) : Int), .string (ba tx), .int .i64 ((0 : Nat) : Int), .int .i64 (p : Int)]) (heap_new_at (by simp))) (by simp [tkL, Value.oneCell']) (by unfold maxLen; omega) (by omega) (by have h8 := hB.size; have h9 := hB1.size; rw [World.size_alloc] at h9; simp; omega) ?_); intro v' w2 hown hg hnil))
                  go_roundw
                  case measure => have hm := HH.out.2; simp [intOf]; omega
                  case rel => exact ⟨acc ++ [⟨2, tx, 0, p⟩], E, _, rfl, by go_num, HH.out.2.2, by rw [rowT_snoc, List.length_append]; exact hown, app_below ((step_low hBX hB1).setCell (p := ⟨wr.heap.size, 1, none⟩) hBw (.string (ba tx))) ((owns_below ho1 hB1).kept (grown_set w1 ⟨wr.heap.size, 1, none⟩ (.string (ba tx))) (.inr hne)) hg, HH.out.1, by rw [List.length_append]; have := HH.out; simp; omega⟩
                · rw [if_neg hqe] at hfq
                  rw [comb_err acc p hw (by rw [hfq]; exact hqe), hfq] at hc
                  obtain ⟨rfl, hc2⟩ := Prod.mk.inj hc
                  obtain ⟨rfl, rfl⟩ := Prod.mk.inj hc2
                  have b9 : ((qe : Int) != 0) = true := by simp; omega
                  have b7 : IntKind.i64.wrap ((p : Int) + ((ba tx).size : Int)) = (p : Int) + ((ba tx).size : Int) := by rw [IntKind.wrap_i64]; omega
                  have b8 : IntKind.i64.wrap ((p : Int) + ((ba tx).size : Int) + 2) = (p : Int) + ((ba tx).size : Int) + 2 := by rw [IntKind.wrap_i64]; omega
                  clear hfq hqu hd ht hch hdl hqe e3 hzero hzt
                  go_wp2_with (first | (go_at_call 43; refine (rwhite_any _ _).mono ?_; rintro e w' ⟨rfl, rfl⟩) | (go_at_call 44; refine (rletter_any _ _).mono ?_; rintro e w' ⟨rfl, rfl⟩) | (go_at_call 46; refine (rdigit_any _ _).mono ?_; rintro e w' ⟨rfl, rfl⟩) | (go_at_call 48; refine (Qd.out _).mono ?_; rintro e w1 ⟨rfl, hB1⟩; replace hA := hA.below hB1 hA.lt; have fz := hA.frozen; have c0 := hA.cell 0; have c1 := hA.cell 1; have c2 := hA.cell 2; have c3 := hA.cell 3))
                  go_ret3
                  exact ⟨_, rfl, World.ownsRow_nil _ _ _ _, (step_low hBX hB1).setCell (p := ⟨wr.heap.size, 1, none⟩) hBw _⟩
              · have e3t : ((c.toNat : Int) == 34) = false := by simp; exact fun h => e3 (UInt8.toNat_inj.1 (by show c.toNat = 34; omega))
                obtain ⟨tx, htx⟩ : ∃ tx, symL (c :: t) = tx := ⟨_, rfl⟩
                have Sd := Lib.hid (fun W => show Calls Tryd.prog 49 #[.string s, .int .i64 (p : Int)] W fun e w' => e = .returned (.string (ba tx)) ∧ Below W.heap.size W w' from by
                  have h := rsymbol_any s p W hs hlt
                  rw [hd, htx] at h
                  exact h)
                have hA := Blk.new wr 71 #[.int .i64 3, .string ⟨#[]⟩, .int .i64 0, .int .i64 (p : Int)]
                have hBX : Below w.heap.size w (wr.alloc (.cells #[.int .i64 3, .string ⟨#[]⟩, .int .i64 0, .int .i64 (p : Int)] 71)) := hB.alloc hB.size _
                have ho1 := ho.alloc (.cells #[.int .i64 3, .string ⟨#[]⟩, .int .i64 0, .int .i64 (p : Int)] 71)
                have hfs : firstL (c :: t) = if tx = [] then (tk0, 2) else (⟨3, tx, 0, 0⟩, 0) := by rw [first_cons, if_neg (by simp [e1]), if_neg (by simp [e2]), if_neg e3, htx]
                have hzt : (ba tx).size = tx.length := ba_len tx
                by_cases hte : tx = []
                · rw [if_pos hte] at hfs
                  rw [comb_err acc p hw (by rw [hfs]; decide), hfs] at hc
                  obtain ⟨rfl, hc2⟩ := Prod.mk.inj hc
                  obtain ⟨rfl, rfl⟩ := Prod.mk.inj hc2
                  have em : (ba tx).toList.isEmpty = true := by rw [ba_toList, hte]; rfl
                  have hz0' : tx.length = 0 := by rw [hte]; rfl
                  have b7 : IntKind.i64.wrap ((p : Int) + ((ba tx).size : Int)) = (p : Int) + ((ba tx).size : Int) := by rw [IntKind.wrap_i64]; omega
                  clear hfs htx hd ht hch hdl hte e3 hzero hzt hz0'
                  go_wp2_with (first | (go_at_call 43; refine (rwhite_any _ _).mono ?_; rintro e w' ⟨rfl, rfl⟩) | (go_at_call 44; refine (rletter_any _ _).mono ?_; rintro e w' ⟨rfl, rfl⟩) | (go_at_call 46; refine (rdigit_any _ _).mono ?_; rintro e w' ⟨rfl, rfl⟩) | (go_at_call 49; refine (Sd.out _).mono ?_; rintro e w1 ⟨rfl, hB1⟩; replace hA := hA.below hB1 hA.lt; have fz := hA.frozen; have c0 := hA.cell 0; have c1 := hA.cell 1; have c2 := hA.cell 2; have c3 := hA.cell 3))
                  go_ret3
                  exact ⟨_, rfl, World.ownsRow_nil _ _ _ _, (step_low hBX hB1).setCell (p := ⟨wr.heap.size, 1, none⟩) hBw _⟩
                · rw [if_neg hte] at hfs
                  have hst := rstep hlt hd hw (by rw [hfs]) hc
                  rw [hfs] at hst
                  obtain ⟨E, hE⟩ : ∃ E, p + tx.length = E := ⟨_, rfl⟩
                  have HH := Lib.hid (show comb (acc ++ [⟨3, tx, 0, p⟩]) (lexP E (s.data.toList.drop E)) = (L, a, er) ∧ p + 1 ≤ E ∧ E ≤ s.size from by rw [← hE]; exact ⟨hst.1, by have := hst.2.1; simp [sizeT] at this; omega, hst.2.2⟩)
                  have em : (ba tx).toList.isEmpty = false := by rw [ba_toList]; cases tx with | nil => exact absurd rfl hte | cons _ _ => rfl
                  have b7 : IntKind.i64.wrap ((p : Int) + ((ba tx).size : Int)) = (E : Int) := by have := hst.2.2; rw [IntKind.wrap_i64]; simp [sizeT] at this; omega
                  clear hst hfs htx hc hd ht hch hdl hE e3 hte hzero hzt
                  go_wp2_with (first | (go_at_call 43; refine (rwhite_any _ _).mono ?_; rintro e w' ⟨rfl, rfl⟩) | (go_at_call 44; refine (rletter_any _ _).mono ?_; rintro e w' ⟨rfl, rfl⟩) | (go_at_call 46; refine (rdigit_any _ _).mono ?_; rintro e w' ⟨rfl, rfl⟩) | (go_at_call 49; refine (Sd.out _).mono ?_; rintro e w1 ⟨rfl, hB1⟩; replace hA := hA.below hB1 hA.lt; have fz := hA.frozen; have c0 := hA.cell 0; have c1 := hA.cell 1; have c2 := hA.cell 2; have c3 := hA.cell 3) | (at_builtin; go_loud (refine wpList_append_own _ rfl _ _ 50 rfl w.heap.size 71 i0 (.agg #[.int .i64 0, .string ⟨#[]⟩, .int .i64 0, .int .i64 0]) 4 40 Tryd.underlying50 hi hz0 hz1 hz2 rfl (by decide) u5 acc.length (rowT acc) rfl (((owns_below ho1 hB1).kept (grown_set w1 ⟨wr.heap.size, 1, none⟩ (.string (ba tx))) (.inr hne)).alloc _) ⟨_, 0, none⟩ 1 1 (tkL ⟨3, tx, 0, p⟩) rfl rfl (World.news_of_block (cs := #[.int .i64 ((3 : Nat) : Int), .string (ba tx), .int .i64 ((0 : Nat) : Int), .int .i64 (p : Int)]) (heap_new_at (by simp))) (by simp [tkL, Value.oneCell']) (by unfold maxLen; omega) (by omega) (by have h8 := hB.size; have h9 := hB1.size; rw [World.size_alloc] at h9; simp; omega) ?_); intro v' w2 hown hg hnil))
                  go_roundw
                  case measure => have hm := HH.out.2; simp [intOf]; omega
                  case rel => exact ⟨acc ++ [⟨3, tx, 0, p⟩], E, _, rfl, by go_num, HH.out.2.2, by rw [rowT_snoc, List.length_append]; exact hown, app_below ((step_low hBX hB1).setCell (p := ⟨wr.heap.size, 1, none⟩) hBw (.string (ba tx))) ((owns_below ho1 hB1).kept (grown_set w1 ⟨wr.heap.size, 1, none⟩ (.string (ba tx))) (.inr hne)) hg, HH.out.1, by rw [List.length_append]; have := HH.out; simp; omega⟩
      · obtain rfl : p = s.size := by omega
        rw [drop_end, comb_nil] at hc
        obtain ⟨rfl, hc2⟩ := Prod.mk.inj hc
        obtain ⟨rfl, rfl⟩ := Prod.mk.inj hc2
        go_wp2
        go_ret3
        exact ⟨_, rfl, ho, hB⟩
  · have b1 : (2000 : Int) < (s.size : Int) := by omega
    have hq2 : tokL s.data.toList = ([], 2000, 4) := by unfold tokL; rw [if_pos (by omega)]
    rw [hq] at hq2
    obtain ⟨rfl, hc2⟩ := Prod.mk.inj hq2
    obtain ⟨rfl, rfl⟩ := Prod.mk.inj hc2
    clear hsl hq hq2 hc2
    go_enter Tryd.func27, Tryd.ntmps27
    go_wp2
    go_ret3
    exact ⟨_, rfl, World.ownsRow_nil _ _ _ _, Below.refl _ _⟩
end Go.Proofs.YtpmndopcemdniaaDoor
