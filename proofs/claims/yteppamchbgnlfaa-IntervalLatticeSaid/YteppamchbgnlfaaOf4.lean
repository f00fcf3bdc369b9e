/- of: an interval of whole numbers. Conditions: none. -/
import Derived.Test.YteppamchbgnlfaaIv
namespace Go.Proofs.Yteppamchbgnlfaa
open Go.RowKit

set_option maxRecDepth 100000 in
set_option maxHeartbeats 4000000 in
theorem of_w {a b : Int}  (w : World) :
    Calls Try.prog 38 #[.int .i64 a, .int .i64 b] w fun e w' => e = .returned (.agg #[.int .i64 a, .int .i64 1, .int .i64 b, .int .i64 1]) ∧ Below w.heap.size w w' := by
  go_enter Try.func38, Try.ntmps38
  go_wp2
  have h := start1 w 25 #[.int .i64 a, .int .i64 1, .int .i64 b, .int .i64 1]
  exact ret_iv1 (p := 4) (by kernel_rfl) rfl h.1 ⟨rfl, h.2⟩
end Go.Proofs.Yteppamchbgnlfaa
