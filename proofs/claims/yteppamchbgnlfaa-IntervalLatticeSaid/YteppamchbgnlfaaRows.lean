/-
  No cell of these rows narrows 'for every input' (looked for: loops, veiled, ifaces, maps, wideKeys, modest, calm, conditions, laid).
  DERIVED. THE GIVEN ROWS OF THIS SEAT. 3 by the template 'for every input the law returns true; each argument reads behind the call as it read before'; 0 by the template 'total and deterministic' (their statements: YteppamchbgnlfaaTotals.lean).
  GIVEN WITH THE SEED: the statements are not yours to turn. If you find one false, say at which input.
  Laid BY PROGRAM, IN A SANDBOX (cutbox-rows.mjs): the forced cells as the released guide's own fill.sh prints them over the translation d9b539014a87242f… (all of the seat's roots in one cut). By AI agents, Wed Nov 11 2026. No macro, syntax, notation, axiom, sorry.
-/
import Derived.Test.YteppamchbgnlfaaChecked
import GoSem.Claim
import GoSem.ClaimJoined
import GoSem.ClaimMapViews
import Derived.JoinedTies
import Derived.KernelRfl
namespace Go.Proofs.Yteppamchbgnlfaa
/- THE CELL 'sum', in the pinned program and in every row, IS THE sha256 OF THE DUMP (.gsa) THAT YteppamchbgnlfaaProg.lean LOADS. Nothing in Lean hashes anything: it is a label: what it is worth is what the hold of that sum in a sandbox is worth. -/
noncomputable def Try.pinned : Pinned := { name := "yteppamchbgnlfaa", sum := "d9b539014a87242f08bfec90420f34647542e1f4e4781745818312595967f65f", checked := Try.checked }
namespace Rows
def none {H : Type} : Left H := { results := [], args := [] }

/-- 'intervalmonlaw04.IntervalLattice': WHATEVER THE INPUT: true; the input reads as it did. -/
def intervalLatticeSpec : ChangeSpec := { name := "intervalLattice", fn := fun _ => fun
  | [d1, d2] => { results := [.lit (.bool true)], args := [d1, d2] }
  | _ => none }
def intervalLatticeRow : OpenClaim := { program := "yteppamchbgnlfaa", sum := "d9b539014a87242f08bfec90420f34647542e1f4e4781745818312595967f65f", func := "intervalmon/intervalmonlaw04.IntervalLattice", spec := "intervalLattice", inPlace := ["math/bits.Add64", "math/bits.Sub64"], unfollowed := true, recurses := true, apart := false }
def IntervalLatticeSaid : Prop := intervalLatticeRow.holds Try.pinned (OpenSpec.ofChange intervalLatticeSpec)

/-- ITS FALSE NEIGHBOUR: 'it returns false'. Refute it at one input. -/
def intervalLatticeWrong : ChangeSpec := { name := "intervalLattice", fn := fun _ => fun
  | [d1, d2] => { results := [.lit (.bool false)], args := [d1, d2] }
  | _ => none }
def IntervalLatticeWrongFalsely : Prop := intervalLatticeRow.holds Try.pinned (OpenSpec.ofChange intervalLatticeWrong)

/-- 'intervalmonlaw04.IntervalKth': WHATEVER THE INPUT: true; the input reads as it did. -/
def intervalKthSpec : ChangeSpec := { name := "intervalKth", fn := fun _ => fun
  | [d1, d2] => { results := [.lit (.bool true)], args := [d1, d2] }
  | _ => none }
def intervalKthRow : OpenClaim := { program := "yteppamchbgnlfaa", sum := "d9b539014a87242f08bfec90420f34647542e1f4e4781745818312595967f65f", func := "intervalmon/intervalmonlaw04.IntervalKth", spec := "intervalKth", inPlace := ["math/bits.Add64", "math/bits.Sub64"], unfollowed := true, recurses := true, apart := false }
def IntervalKthSaid : Prop := intervalKthRow.holds Try.pinned (OpenSpec.ofChange intervalKthSpec)

/-- ITS FALSE NEIGHBOUR: 'it returns false'. Refute it at one input. -/
def intervalKthWrong : ChangeSpec := { name := "intervalKth", fn := fun _ => fun
  | [d1, d2] => { results := [.lit (.bool false)], args := [d1, d2] }
  | _ => none }
def IntervalKthWrongFalsely : Prop := intervalKthRow.holds Try.pinned (OpenSpec.ofChange intervalKthWrong)

/-- 'intervalmonlaw04.IntervalRanks': WHATEVER THE INPUT: true; the input reads as it did. -/
def intervalRanksSpec : ChangeSpec := { name := "intervalRanks", fn := fun _ => fun
  | [d1, d2, d3, d4] => { results := [.lit (.bool true)], args := [d1, d2, d3, d4] }
  | _ => none }
def intervalRanksRow : OpenClaim := { program := "yteppamchbgnlfaa", sum := "d9b539014a87242f08bfec90420f34647542e1f4e4781745818312595967f65f", func := "intervalmon/intervalmonlaw04.IntervalRanks", spec := "intervalRanks", inPlace := ["math/bits.Add64", "math/bits.Sub64"], unfollowed := true, recurses := true, apart := false }
def IntervalRanksSaid : Prop := intervalRanksRow.holds Try.pinned (OpenSpec.ofChange intervalRanksSpec)

/-- ITS FALSE NEIGHBOUR: 'it returns false'. Refute it at one input. -/
def intervalRanksWrong : ChangeSpec := { name := "intervalRanks", fn := fun _ => fun
  | [d1, d2, d3, d4] => { results := [.lit (.bool false)], args := [d1, d2, d3, d4] }
  | _ => none }
def IntervalRanksWrongFalsely : Prop := intervalRanksRow.holds Try.pinned (OpenSpec.ofChange intervalRanksWrong)

/- THE SECOND FORM. 'bulk': how many values and letters a reading holds, each counted each time it is reached (what is shared counts as often as it is met; a slice's spare places count too). A statement '..UptoSaid' is the law's where the arguments, and the package variables that the reading takes, are together of bulk at most 1048576: NARROWER than '..Said'. Prove '..Said' where nothing that the law and all that it calls make is longer than what came in: it says more and counts as full. Else prove '..UptoSaid'. A law counts once. -/
mutual
def uptoBulk {H : Type} : DataW H → Nat
  | .lit (.string bytes) => bytes.length + 1
  | .lit _ => 1
  | .nil => 1
  | .ptr d => uptoBulk d + 1
  | .slice elems spare => uptoBulkAll elems + uptoBulkAll spare + 1
  | .agg parts => uptoBulkAll parts + 1
  | .iface _ d => uptoBulk d + 1
  | .map entries => uptoBulkEntries entries + 1
  | .held _ => 1
def uptoBulkAll {H : Type} : List (DataW H) → Nat
  | [] => 0
  | d :: r => uptoBulk d + uptoBulkAll r
def uptoBulkEntries {H : Type} : List (Lit × DataW H) → Nat
  | [] => 0
  | x :: r => uptoBulkEntry x + uptoBulkEntries r
def uptoBulkEntry {H : Type} : Lit × DataW H → Nat
  | (.string bytes, d) => bytes.length + uptoBulk d + 1
  | (_, d) => uptoBulk d + 1
 end
def uptoSmall : (H : Type) → List (DataW H) → Bool := fun _ ds => decide (uptoBulkAll ds ≤ 1048576)
def OpenSpec.upto (s : _root_.Go.ChangeSpec) : _root_.Go.OpenSpec := { _root_.Go.OpenSpec.ofChange s with cond := some uptoSmall }

/-- 'intervalmonlaw04.IntervalLattice', WHERE WHAT IT READS IS OF BULK AT MOST 1048576: true; the input reads as it did. -/
def intervalLatticeUptoRow : OpenClaim := { program := "yteppamchbgnlfaa", sum := "d9b539014a87242f08bfec90420f34647542e1f4e4781745818312595967f65f", func := "intervalmon/intervalmonlaw04.IntervalLattice", spec := "intervalLattice", inPlace := ["math/bits.Add64", "math/bits.Sub64"], unfollowed := true, recurses := true, apart := false, narrowed := true }
def IntervalLatticeUptoSaid : Prop := intervalLatticeUptoRow.holds Try.pinned (OpenSpec.upto intervalLatticeSpec)

/-- 'intervalmonlaw04.IntervalKth', WHERE WHAT IT READS IS OF BULK AT MOST 1048576: true; the input reads as it did. -/
def intervalKthUptoRow : OpenClaim := { program := "yteppamchbgnlfaa", sum := "d9b539014a87242f08bfec90420f34647542e1f4e4781745818312595967f65f", func := "intervalmon/intervalmonlaw04.IntervalKth", spec := "intervalKth", inPlace := ["math/bits.Add64", "math/bits.Sub64"], unfollowed := true, recurses := true, apart := false, narrowed := true }
def IntervalKthUptoSaid : Prop := intervalKthUptoRow.holds Try.pinned (OpenSpec.upto intervalKthSpec)

/-- 'intervalmonlaw04.IntervalRanks', WHERE WHAT IT READS IS OF BULK AT MOST 1048576: true; the input reads as it did. -/
def intervalRanksUptoRow : OpenClaim := { program := "yteppamchbgnlfaa", sum := "d9b539014a87242f08bfec90420f34647542e1f4e4781745818312595967f65f", func := "intervalmon/intervalmonlaw04.IntervalRanks", spec := "intervalRanks", inPlace := ["math/bits.Add64", "math/bits.Sub64"], unfollowed := true, recurses := true, apart := false, narrowed := true }
def IntervalRanksUptoSaid : Prop := intervalRanksUptoRow.holds Try.pinned (OpenSpec.upto intervalRanksSpec)

end Rows
end Go.Proofs.Yteppamchbgnlfaa
