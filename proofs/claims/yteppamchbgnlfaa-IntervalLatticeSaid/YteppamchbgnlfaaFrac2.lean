/- Package frac: Add and Sub are what the document asks. Conditions: numbers of 64 bits. -/
import Derived.Test.YteppamchbgnlfaaFrac
import Derived.Test.YteppamchbgnlfaaFS
namespace Go.Proofs.Yteppamchbgnlfaa
open Go.RowKit

theorem FS.draw {w W : World} {an ad bn bd : Int} (h : FS w W an ad bn bd) (n : Nat) : FS w (W.drewN n) an ad bn bd := ⟨h.1, h.2.1, h.2.2.1, h.2.2.2.1, below_draw h.2.2.2.2 n⟩
theorem valid_way (an ad bn bd : Int) (h : ¬ (vP an ad ∧ vP bn bd)) : vB an ad = false ∨ (vB an ad = true ∧ vB bn bd = false) := by
  by_cases k : vP an ad
  · exact .inr ⟨decide_eq_true k, decide_eq_false (fun h' => h ⟨k, h'⟩)⟩
  · exact .inl (decide_eq_false k)
theorem product_from (w0 W : World) (hW : Below w0.heap.size w0 W) (a b : Int) (a0 : -9223372036854775808 < a) (a1 : a ≤ 9223372036854775807) (b0 : -9223372036854775808 < b) (b1 : b ≤ 9223372036854775807) : Calls Try.prog 71 #[.int .i64 a, .int .i64 b] W fun e w' => e = .returned (wideV (a * b)) ∧ Below w0.heap.size w0 w' :=
  (product_any a b W a0 a1 b0 b1).mono fun _ _ ⟨he, hB⟩ => ⟨he, below_st hW hB⟩
theorem fraction_from (w0 W : World) (hW : Below w0.heap.size w0 W) (n d : Int) (hn : n.natAbs < 340282366920938463463374607431768211456) (hd : d.natAbs < 340282366920938463463374607431768211456) : Calls Try.prog 76 #[wideV n, wideV d] W fun e w' => e = .returned (RV (if n.natAbs ≤ 4611686018427387904 ∧ d.natAbs ≤ 4611686018427387904 then (n, d, 0) else (0, 0, 5))) ∧ Below w0.heap.size w0 w' :=
  (fraction_any n d W hn hd).mono fun _ _ ⟨he, hB⟩ => ⟨he, below_st hW hB⟩

end Go.Proofs.Yteppamchbgnlfaa
